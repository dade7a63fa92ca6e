/-
  A deed of both groups side by side.
-/
import Derived.Test.YtacfndfkoiifhaaFD
namespace Go.Proofs.Ytacfndfkoiifhaa
open Go.RowKit
set_option linter.unusedVariables false
open Mb (S)

def dA (d : D) (e : Int) : Int := if d.now && !(d.k == 0) && decide (d.k < 3) then e else d.a
def dB (d : D) (e : Int) : Int := if d.now && (d.k == 0) then e else d.b
/-- What a deed of both leaves. -/
def DoOut (w0 w : World) (b : Nat) (va vb : Value) (aL aS : Option Addr) (s' : S) (e : Ending) (w' : World) : Prop :=
  ∃ vb' aL' cL' aS' cS', e = .returned (.tuple #[mV aL' cL' aS' cS' s', .bool true]) ∧ GS w0 w' b va vb' s' ∧ XD w' aL' cL' aS' cS' s' ∧ (∀ k, blk aL' k ∨ blk aS' k → ¬ fpm b va vb' k ∧ k < w'.heap.size ∧ ((blk aL k ∨ blk aS k) ∨ w.heap.size ≤ k)) ∧ Fr w (fpm b va vb) w' (fpm b va vb')
theorem f12_res : Try.f12.results = #[.cell 6 31, .tmp 7] := rfl
theorem do_fin {w0 w wd w6 : World} {b R : Nat} {va vb vb6 : Value} {s s' : S} {aL aS aL' aS' : Option Addr} {cL' cS' : Nat} (h : GS w0 w b va vb s) (hbd : Below w.heap.size w wd) (hx : XD wd aL' cL' aS' cS' s') (hlow : ∀ k, blk aL' k ∨ blk aS' k → (¬ fpm b va vb k) ∧ k < wd.heap.size) (hg6 : GS w0 w6 b va vb6 s') (hf6 : Fr wd (fpm b va vb) w6 (fpm b va vb6)) (hR : w.heap.size ≤ R ∧ R < wd.heap.size) (hXR : ∀ k, blk aL' k ∨ blk aS' k → k ≠ R) (hXN : ∀ k, blk aL' k ∨ blk aS' k → (blk aL k ∨ blk aS k) ∨ w.heap.size ≤ k) (v0 v1 v2 v3 v4 v5 : Value) :
    DoOut w0 w b va vb aL aS s' (.returned (.tuple #[mV aL' cL' aS' cS' s', .bool true])) (put6 w6 R v0 v1 v2 v3 v4 v5) := by
  have hRf : ¬ fpm b va vb R := fun e => by have := (h.mine R e).2; omega
  have hRf6 : ¬ fpm b va vb6 R := fun e => by
    rcases hf6.n R e with e | e
    · exact hRf e
    · omega
  have hsz : (put6 w6 R v0 v1 v2 v3 v4 v5).heap.size = w6.heap.size := by simp [put6]
  have hfw : Fr w (fpm b va vb) w6 (fpm b va vb6) := (Fr.ofBelow hbd).trans hf6
  have hbel : Below w0.heap.size w0 (put6 w6 R v0 v1 v2 v3 v4 v5) := put6_bel hg6.bel (Nat.le_trans h.bel.size hR.1) _ _ _ _ _ _
  refine ⟨vb6, aL', cL', aS', cS', rfl, hg6.keepBut hbel (fun k _ e => put6_oth (fun e' => hRf6 (by rw [← e']; exact e)) _ _ _ _ _ _), ?_, fun k hk => ?_, ?_⟩
  · refine hx.keepBut fun k hk e => ?_
    rw [put6_oth (hXR k e)]
    exact hf6.block k hk (hlow k e).1
  · refine ⟨fun e => ?_, by rw [hsz]; exact Nat.lt_of_lt_of_le (hlow k hk).2 hf6.size, hXN k hk⟩
    rcases hf6.n k e with e | e
    · exact (hlow k hk).1 e
    · have := (hlow k hk).2; omega
  · have hp6 : Below 0 w6 (put6 w6 R v0 v1 v2 v3 v4 v5) := put6_bel (Below.refl 0 w6) (Nat.zero_le _) _ _ _ _ _ _
    refine ⟨hp6.os.trans hfw.os, hp6.tape.trans hfw.tape, hp6.output.trans hfw.output, by rw [hsz]; exact hfw.size, fun k hk hF => ?_, hfw.n⟩
    rw [put6_oth (by omega)]
    exact hfw.block k hk hF
section
variable {w0 w : World} {b : Nat} {va vb : Value} {s : S} {aL aS : Option Addr} {cL cS : Nat}
theorem rfailN (h : XD w aL cL aS cS s) (hn : s.l.length ≤ 1000000) (he : 0 ≤ s.ep ∧ s.ep ≤ 1000000) (a k : Int) : Calls Try.prog 31 #[mV aL cL aS cS s, .int .i64 a, .int .i64 k] w (RDn w aL aS (Mb.fs s a k) [.int .i64 (Mb.fc s a k)]) :=
  (rfail_any h hn he a k).mono fun e w' ⟨q1, q2⟩ => ⟨aL, cL, aS, cS, q1, by
    have hk := h.keep q2
    unfold Mb.fs
    split
    · exact ⟨hk.xl, hk.xs⟩
    · exact hk, q2, fun k hk => .inl hk⟩
theorem rdoneN (h : XD w aL cL aS cS s) (g : Mb.G s) (he : s.ep ≤ 1000000) (a : Int) : Calls Try.prog 33 #[mV aL cL aS cS s, .int .i64 a] w (RDn w aL aS (Mb.ds s a) [.int .i64 (Mb.dc s a)]) :=
  (rdoneD_any g he a).mono fun e w' ⟨q1, q2⟩ => ⟨aL, cL, aS, cS, q1, by
    have hk := h.keep q2
    unfold Mb.ds
    split
    · exact ⟨hk.xl, hk.xs⟩
    · exact hk, q2, fun k hk => .inl hk⟩
set_option maxRecDepth 100000 in
set_option maxHeartbeats 8000000 in
theorem do_any (h : GS w0 w b va vb s) (hx : XD w aL cL aS cS s) (hap : ∀ k, blk aL k ∨ blk aS k → ¬ fpm b va vb k ∧ k < w.heap.size) (he : s.ep ≤ 1000000) (d : D) : Calls Try.prog 12 #[.pointer (some ⟨b, 0, none⟩), mV aL cL aS cS s, .agg #[.int .i64 d.k, .int .i64 d.a, .int .i64 d.b, .bool d.now]] w (DoOut w0 w b va vb aL aS (Mb.dd s d.k (dA d s.ep) (dB d s.ep))) := by
  obtain ⟨W1, HW1⟩ : ∃ W1, Hid (((w.alloc (.cells #[.slice aL s.l.length cL, .slice aS s.sp.length cS, .int .i64 s.ep, .int .i64 s.hole, .bool s.fl, .int .i64 s.gone] 31)).alloc (.cells #[.int .i64 d.k, .int .i64 d.a, .int .i64 d.b, .bool d.now] 36)).alloc (.cells #[.slice none 0 0, .slice none 0 0, .int .i64 0, .int .i64 0, .bool false, .int .i64 0] 31) = W1) := ⟨_, rfl⟩
  have hs2 : ((w.alloc (.cells #[.slice aL s.l.length cL, .slice aS s.sp.length cS, .int .i64 s.ep, .int .i64 s.hole, .bool s.fl, .int .i64 s.gone] 31)).alloc (.cells #[.int .i64 d.k, .int .i64 d.a, .int .i64 d.b, .bool d.now] 36)).heap.size = w.heap.size + 2 := by simp
  have HB1 : Hid (Below w.heap.size w W1) := by rw [← HW1.out]; exact bel_up (bel_up (bel1 w _) (bel1 _ _) (Nat.le_refl _)) (bel1 _ _) (Nat.le_refl _)
  have hx1 : W1.heap[w.heap.size]? = some (.cells #[.slice aL s.l.length cL, .slice aS s.sp.length cS, .int .i64 s.ep, .int .i64 s.hole, .bool s.fl, .int .i64 s.gone] 31 (0, 0)) := by rw [← HW1.out]; exact bel_row (heap_alloc2_old w _ _) (bel1 _ _)
  have hd1 : W1.heap[w.heap.size + 1]? = some (.cells #[.int .i64 d.k, .int .i64 d.a, .int .i64 d.b, .bool d.now] 36 (0, 0)) := by rw [← HW1.out]; exact bel_row (heap_alloc2_new w _ _) (bel1 _ _)
  have hr1 : W1.heap[w.heap.size + 2]? = some (.cells #[.slice none 0 0, .slice none 0 0, .int .i64 0, .int .i64 0, .bool false, .int .i64 0] 31 (0, 0)) := by rw [← HW1.out, ← hs2]; exact heap_alloc_last _ _
  have hs1 : W1.heap.size = w.heap.size + 3 := by rw [← HW1.out]; simp
  obtain ⟨⟨y0, y1, y2, y3⟩, -⟩ := row4 hd1
  have HX1 := Hid_of hx1
  have HD1 := Hid_of hd1
  have HR1 := Hid_of hr1
  have HS1 := Hid_of hs1
  have H := Hid_of h
  have HX := Hid_of hx
  have HAP := Hid_of hap
  have HBN : Hid (∀ n, Below W1.heap.size W1 (W1.drewN n)) := Hid_of fun n => below_drewN (Below.refl _ _) n
  have HEP := Hid_of (show 0 ≤ s.ep ∧ s.ep ≤ 1000000 from ⟨by have := h.g.ep; omega, he⟩)
  clear h hx hap he hs2 hx1 hd1 hr1 hs1
  go_enter Try.func12, Try.ntmps12
  go_upto_region 1 with fail
  rw [HW1.out]
  clear HW1
  go_quiet (fail)
  go_upto_region 2 with fail
  obtain ⟨W2, HW2⟩ : ∃ W2, Hid (W1.drewN nq = W2) := ⟨_, rfl⟩
  have HB2 : Hid (Below W1.heap.size W1 W2) := Hid_of (by rw [← HW2.out]; exact HBN.out _)
  rw [HW2.out]
  have hd2 := bel_row HD1.out HB2.out
  have hx2 := bel_row HX1.out HB2.out
  obtain ⟨⟨z0, z1, z2, z3⟩, -⟩ := row4 hd2
  obtain ⟨⟨x0, x1, x2, x3, x4, x5⟩, -⟩ := row6 hx2
  clear HW2 y0 y1 y2 y3 hd2 hx2 HBN
  obtain ⟨q31, hq31⟩ : ∃ q, Hid ((d.now && (d.k == 0)) = q) := ⟨_, rfl⟩
  go_cut [31] from 21 to 30 (fun u wx => u = .bool q31 ∧ wx = W2)
  case first =>
    rcases (by cases d.now <;> simp : d.now = false ∨ d.now = true) with hnow | hnow
    · rw [hnow] at z3
      replace hnow := Hid_of hnow
      go_wp2_with fail
      go_meet
      case rel => exact ⟨by rw [← hq31.out, hnow.out]; rfl, rfl⟩
    · rw [hnow] at z3
      replace hnow := Hid_of hnow
      go_wp2_with fail
      go_meet
      case rel => exact ⟨by rw [← hq31.out, hnow.out]; rfl, rfl⟩
  case rest =>
  obtain ⟨rfl, rfl⟩ := hcut
  go_upto_if 31 with fail
  go_cut [8, 9] from 21 to 42 (fun u v wx => u = .int .i64 (dA d s.ep) ∧ v = .int .i64 (dB d s.ep) ∧ wx = wc)
  case first =>
    rcases (by cases d.now <;> simp : d.now = false ∨ d.now = true) with hnow | hnow
    · rw [hnow] at z3
      have e1 : Hid (dA d s.ep = d.a) := Hid_of (by unfold dA; rw [hnow]; rfl)
      have e2 : Hid (dB d s.ep = d.b) := Hid_of (by unfold dB; rw [hnow]; rfl)
      obtain rfl : q31 = false := by rw [← hq31.out, hnow]; rfl
      clear hnow
      go_wp2_with fail
      go_meet
      case rel => exact ⟨by rw [e1.out], by rw [e2.out], rfl⟩
    · rw [hnow] at z3
      by_cases hk0 : d.k = 0
      · have dk0 : (d.k == 0) = true := by simpa using hk0
        have e1 : Hid (dA d s.ep = d.a) := Hid_of (by unfold dA; rw [hnow, dk0]; rfl)
        have e2 : Hid (dB d s.ep = s.ep) := Hid_of (by unfold dB; rw [hnow, dk0]; rfl)
        obtain rfl : q31 = true := by rw [← hq31.out, hnow, dk0]; rfl
        clear hnow hk0 dk0
        go_wp2_with fail
        go_meet
        case rel => exact ⟨by rw [e1.out], by rw [e2.out], rfl⟩
      · have dk0 : (d.k == 0) = false := by simpa using hk0
        have e2 : Hid (dB d s.ep = d.b) := Hid_of (by unfold dB; rw [hnow, dk0]; rfl)
        obtain rfl : q31 = false := by rw [← hq31.out, hnow, dk0]; rfl
        by_cases hk3 : d.k < 3
        · have dk3 : decide (d.k < 3) = true := decide_eq_true hk3
          have e1 : Hid (dA d s.ep = s.ep) := Hid_of (by unfold dA; rw [hnow, dk0, dk3]; rfl)
          clear hnow hk0 hk3 dk0
          go_wp2_with fail
          go_meet
          case rel => exact ⟨by rw [e1.out], by rw [e2.out], rfl⟩
        · have dk3 : decide (d.k < 3) = false := decide_eq_false hk3
          have e1 : Hid (dA d s.ep = d.a) := Hid_of (by unfold dA; rw [hnow, dk0, dk3]; rfl)
          clear hnow hk0 hk3 dk0
          go_wp2_with fail
          go_meet
          case rel => exact ⟨by rw [e1.out], by rw [e2.out], rfl⟩
  case rest =>
  obtain ⟨rfl, rfl, rfl⟩ := hcut
  clear z3
  obtain ⟨da, hda⟩ : ∃ da, Hid (dA d s.ep = da) := ⟨_, rfl⟩
  obtain ⟨db, hdb⟩ : ∃ db, Hid (dB d s.ep = db) := ⟨_, rfl⟩
  rw [hda.out, hdb.out]
  -- the rows, from here on
  have HBW : Hid (Below w.heap.size w wc) := Hid_of (bel_up HB1.out HB2.out (Nat.le_refl _))
  have HG2 := Hid_of (H.out.keep HBW.out)
  have HXD2 := Hid_of (HX.out.keep HBW.out)
  have hrr := bel_row HR1.out HB2.out
  have HRR := Hid_of hrr
  have HSZ : Hid (w.heap.size + 3 ≤ wc.heap.size) := Hid_of (by have := HS1.out; have := HB2.out.size; omega)
  have HNF : Hid (∀ k, w.heap.size ≤ k → ¬ fpm b va vb k) := Hid_of fun k hk e => by have := (H.out.mine k e).2; omega
  clear hrr HX1 HD1 HR1 HS1 HB1 HB2
  by_cases hk0 : d.k = 0
  · have dk0 : (d.k == 0) = true := by simpa using hk0
    have HDD : Hid (Mb.dd s d.k (dA d s.ep) (dB d s.ep) = Mb.fs s da db) := Hid_of (by rw [hk0, Mb.dd0, hda.out, hdb.out])
    clear hk0
    have hdoc := rfailN HXD2.out (by have := H.out.g.g.2.1; omega) HEP.out da db
    go_wp2_with fail
    refine hdoc.mono ?_
    rintro e w4 ⟨aL2, cL2, aS2, cS2, rfl, hx4, hb4, hl2⟩
    clear hdoc
    have HPC : Hid (∀ wq, Below w4.heap.size w4 wq → Calls Try.prog 20 #[.pointer (some ⟨b, 0, none⟩), .int .i64 da, .int .i64 db] wq (GOut w0 wq b va vb (.int .i64 (Mb.fc s da db)) (Mb.fs s da db))) := Hid_of fun wq hq => (HG2.out.keep (bel_up hb4 hq (Nat.le_refl _))).fail HEP.out.2 da db
    obtain ⟨s2, hs2⟩ : ∃ s2, Mb.fs s da db = s2 := ⟨_, rfl⟩
    rw [hs2] at hx4 HPC HDD ⊢
    generalize Mb.fc s da db = cc at HPC ⊢
    obtain ⟨n1, hn1⟩ : ∃ n1, s2.l.length = n1 := ⟨_, rfl⟩
    obtain ⟨n2, hn2⟩ : ∃ n2, s2.sp.length = n2 := ⟨_, rfl⟩
    obtain ⟨ep2, hep2⟩ : ∃ e, s2.ep = e := ⟨_, rfl⟩
    obtain ⟨hole2, hho2⟩ : ∃ e, s2.hole = e := ⟨_, rfl⟩
    obtain ⟨fl2, hfl2⟩ : ∃ e, s2.fl = e := ⟨_, rfl⟩
    obtain ⟨gone2, hgo2⟩ : ∃ e, s2.gone = e := ⟨_, rfl⟩
    have HMV : Hid (mV aL2 cL2 aS2 cS2 s2 = .agg #[.slice aL2 n1 cL2, .slice aS2 n2 cS2, .int .i64 ep2, .int .i64 hole2, .bool fl2, .int .i64 gone2]) := Hid_of (by rw [← hn1, ← hn2, ← hep2, ← hho2, ← hfl2, ← hgo2])
    rw [show mV aL2 cL2 aS2 cS2 s2 = .agg #[.slice aL2 n1 cL2, .slice aS2 n2 cS2, .int .i64 ep2, .int .i64 hole2, .bool fl2, .int .i64 gone2] from HMV.out]
    clear hn1 hn2 hep2 hho2 hfl2 hgo2 hs2
    have hy5 : (w4.alloc (.cells #[.slice aL2 n1 cL2, .slice aS2 n2 cS2, .int .i64 ep2, .int .i64 hole2, .bool fl2, .int .i64 gone2] 31)).heap[w4.heap.size]? = some (.cells #[.slice aL2 n1 cL2, .slice aS2 n2 cS2, .int .i64 ep2, .int .i64 hole2, .bool fl2, .int .i64 gone2] 31 (0, 0)) := heap_alloc_last w4 _
    have hb5 : Below w4.heap.size w4 (w4.alloc (.cells #[.slice aL2 n1 cL2, .slice aS2 n2 cS2, .int .i64 ep2, .int .i64 hole2, .bool fl2, .int .i64 gone2] 31)) := bel1 w4 _
    obtain ⟨W5, HW5⟩ : ∃ W5, Hid (w4.alloc (.cells #[.slice aL2 n1 cL2, .slice aS2 n2 cS2, .int .i64 ep2, .int .i64 hole2, .bool fl2, .int .i64 gone2] 31) = W5) := ⟨_, rfl⟩
    rw [HW5.out] at hb5 hy5
    have hbw5 := (bel_up hb4 hb5 (Nat.le_refl _))
    have HB5 := Hid_of (bel_up HBW.out hbw5 (Nat.le_refl _))
    have HX5 := Hid_of (hx4.keep hb5)
    have HY5 := Hid_of hy5
    have HR5 := Hid_of (bel_row HRR.out hbw5)
    have HPC5 : Hid (Below w4.heap.size w4 W5) := Hid_of hb5
    have HLO : Hid (∀ k, blk aL2 k ∨ blk aS2 k → ((¬ fpm b va vb k) ∧ k < W5.heap.size) ∧ k ≠ w.heap.size + 2 ∧ ((blk aL k ∨ blk aS k) ∨ w.heap.size ≤ k)) := Hid_of fun k hk => by
      have hz := hb5.size
      have hz2 := HSZ.out
      have hz3 := hb4.size
      rcases hl2 k hk with e | e
      · have := HAP.out k e
        exact ⟨⟨this.1, by omega⟩, by omega, .inl e⟩
      · exact ⟨⟨HNF.out k (by omega), by omega⟩, by omega, .inr (by omega)⟩
    have HYL : Hid (w4.heap.size < W5.heap.size ∧ w.heap.size ≤ w4.heap.size ∧ w4.heap.size ≠ w.heap.size + 2 ∧ w.heap.size + 2 < W5.heap.size) := Hid_of (by
      have hz := (Array.getElem?_eq_some_iff.1 hy5).1
      have hz2 := HSZ.out
      have hz3 := hb4.size
      have hz4 := hb5.size
      omega)
    clear hb5 hy5 hbw5 hx4 hb4 hl2
    go_upto_region 9 with fail
    rw [HW5.out]
    clear HW5
    obtain ⟨SQ, HSQ⟩ : ∃ SQ : World → Prop, Hid (SQ = fun wq => wq.heap[w4.heap.size]? = some (.cells #[.slice aL2 n1 cL2, .slice aS2 n2 cS2, .int .i64 ep2, .int .i64 hole2, .bool fl2, .int .i64 gone2] 31 (0, 0)) ∧ ∃ r0 r1 r2 r3 r4 r5, wq.heap[w.heap.size + 2]? = some (.cells #[r0, r1, r2, r3, r4, r5] 31 (0, 0))) := ⟨_, Hid_of rfl⟩
    have HT : Hid (∀ wq, SQ wq → wq.cell? ⟨w4.heap.size, 0, none⟩ = some (.slice aL2 n1 cL2) ∧ wq.cell? ⟨w4.heap.size, 1, none⟩ = some (.slice aS2 n2 cS2) ∧ wq.cell? ⟨w4.heap.size, 2, none⟩ = some (.int .i64 ep2) ∧ wq.cell? ⟨w4.heap.size, 3, none⟩ = some (.int .i64 hole2) ∧ wq.cell? ⟨w4.heap.size, 4, none⟩ = some (.bool fl2) ∧ wq.cell? ⟨w4.heap.size, 5, none⟩ = some (.int .i64 gone2)) := Hid_of fun wq hq => by rw [HSQ.out] at hq; exact (row6 hq.1).1
    refine wp_region_held_drew (S := SQ) (by kernel_rfl) (by rw [HSQ.out]; exact ⟨bel_row HY5.out (Below.drew (Below.refl _ _)), _, _, _, _, _, _, bel_row HR5.out (Below.drew (Below.refl _ _))⟩) (fun hHeld => ?_)
    obtain ⟨wdx, hwdx⟩ : ∃ wd, W5.drew = wd := ⟨_, rfl⟩
    have hBwd : Below W5.heap.size W5 wdx := by rw [← hwdx]; exact Below.drew (Below.refl _ _)
    rw [hwdx] at hHeld ⊢
    clear hwdx
    refine Tk 0 ?p0x ?v0x ?y0x hHeld ?r0x
    case y0x => intro wq hq; obtain ⟨q0, q1, q2, q3, q4, q5⟩ := HT.out wq hq; go_simp; try with_reducible rfl
    refine Tm 1 ?p1x ?v1x hHeld ?r1x
    refine Tm 2 ?p2x ?v2x hHeld ?r2x
    refine Tm 3 ?p3x ?v3x hHeld ?r3x
    refine Tm 5 ?p5x ?v5x hHeld ?r5x
    simp only [Act.put, Pa, Pb, Pc]
    refine Rd 4 ?p4x ?s4x
    intro K hK
    go_simp
    refine (HPC.out wdx (bel_up HPC5.out hBwd (Nat.le_refl _))).mono ?_
    rintro e w6 ⟨rfl, vb6, hg6, hf6⟩
    have hs6 : SQ w6 := by
      rw [HSQ.out]
      exact ⟨(hf6.block _ (Nat.lt_of_lt_of_le HYL.out.1 hBwd.size) (HNF.out _ HYL.out.2.1)).trans (bel_row HY5.out hBwd), _, _, _, _, _, _, (hf6.block (w.heap.size + 2) (Nat.lt_of_lt_of_le HYL.out.2.2.2 hBwd.size) (HNF.out _ (by omega))).trans (bel_row HR5.out hBwd)⟩
    have HG6 := Hid_of hg6
    have HF6 := Hid_of hf6
    have HBWD := Hid_of hBwd
    clear hg6 hf6
    refine hK.out _ _ hs6 (fun hHeld => ?_)
    clear hK K
    refine Tm 6 ?p6x_4 ?v6x_4 hHeld ?r6x_4
    simp only [Act.put, Pa, Pb, Pc]
    refine Rd 7 ?p7x_4 ?s7x_4
    intro K hK
    have hsq6 := hs6
    rw [HSQ.out] at hsq6
    obtain ⟨hys, r0, r1, r2, r3, r4, r5, hrs⟩ := hsq6
    obtain ⟨⟨k0, k1, k2, k3, k4, k5⟩, kf⟩ := row6 hrs
    have kf0 := kf 0
    have kf1 := kf 1
    have kf2 := kf 2
    have kf3 := kf 3
    have kf4 := kf 4
    have kf5 := kf 5
    have hro := put6_row hrs (.slice aL2 n1 cL2) (.slice aS2 n2 cS2) (.int .i64 ep2) (.int .i64 hole2) (.bool fl2) (.int .i64 gone2)
    have hdo := do_fin H.out (bel_up HB5.out HBWD.out (Nat.le_refl _)) (HX5.out.keep HBWD.out) (fun k hk => ⟨(HLO.out k hk).1.1, Nat.lt_of_lt_of_le (HLO.out k hk).1.2 (HBWD.out).size⟩) HG6.out HF6.out (R := w.heap.size + 2) ⟨by omega, Nat.lt_of_lt_of_le HYL.out.2.2.2 (HBWD.out).size⟩ (fun k hk => (HLO.out k hk).2.1) (fun k hk => (HLO.out k hk).2.2) (.slice aL2 n1 cL2) (.slice aS2 n2 cS2) (.int .i64 ep2) (.int .i64 hole2) (.bool fl2) (.int .i64 gone2)
    obtain ⟨w7, hw7⟩ : ∃ w7, ((((((w6).setCell ⟨w.heap.size + 2, 0, none⟩ (.slice aL2 n1 cL2)).setCell ⟨w.heap.size + 2, 1, none⟩ (.slice aS2 n2 cS2)).setCell ⟨w.heap.size + 2, 2, none⟩ (.int .i64 ep2)).setCell ⟨w.heap.size + 2, 3, none⟩ (.int .i64 hole2)).setCell ⟨w.heap.size + 2, 4, none⟩ (.bool fl2)).setCell ⟨w.heap.size + 2, 5, none⟩ (.int .i64 gone2) = w7 := ⟨_, rfl⟩
    have hs7 : SQ w7 := by
      rw [HSQ.out, ← hw7]
      exact ⟨(put6_oth HYL.out.2.2.1 (.slice aL2 n1 cL2) (.slice aS2 n2 cS2) (.int .i64 ep2) (.int .i64 hole2) (.bool fl2) (.int .i64 gone2)).trans hys, _, _, _, _, _, _, hro⟩
    rw [show put6 w6 (w.heap.size + 2) (.slice aL2 n1 cL2) (.slice aS2 n2 cS2) (.int .i64 ep2) (.int .i64 hole2) (.bool fl2) (.int .i64 gone2) = w7 from hw7] at hro hdo
    rw [show mV aL2 cL2 aS2 cS2 s2 = .agg #[.slice aL2 n1 cL2, .slice aS2 n2 cS2, .int .i64 ep2, .int .i64 hole2, .bool fl2, .int .i64 gone2] from HMV.out] at hdo
    rw [← HDD.out] at hdo
    have HRO := Hid_of hro
    have HDO := Hid_of hdo
    have HW7 := Hid_of hw7
    clear hys hrs kf hro hdo hw7
    go_simp
    rw [HW7.out]
    clear HW7
    refine hK.out _ _ hs7 (fun hHeld => ?_)
    clear hK K
    refine Tm 8 ?p8x_4_7 ?v8x_4_7 hHeld ?r8x_4_7
    simp only [Act.put, Pa, Pb, Pc]
    refine wpAnyH_done (by kernel_rfl) ?_ _
    clear hHeld HT HSQ
    go_wp2
    refine bodyPost_ret (v := .tuple #[.agg #[.slice aL2 n1 cL2, .slice aS2 n2 cS2, .int .i64 ep2, .int .i64 hole2, .bool fl2, .int .i64 gone2], .bool true]) ?_ rfl HDO.out
    exact res31_2 f12_res _ _ (w.heap.size + 2) _ _ _ _ _ _ rfl HRO.out
  · by_cases hk1 : d.k = 1
    · have dk0 : (d.k == 0) = false := by simpa using hk0
      have dk1 : (d.k == 1) = true := by simpa using hk1
      have HDD : Hid (Mb.dd s d.k (dA d s.ep) (dB d s.ep) = Mb.ws s da) := Hid_of (by rw [hk1, Mb.dd1, hda.out])
      clear hk0 hk1
      have hdoc := rswapQ_any s.fl rfl HXD2.out (fun k hk => Nat.lt_of_lt_of_le (HAP.out k hk).2 HBW.out.size) H.out.g HEP.out.2 da
      go_wp2_with fail
      refine hdoc.mono ?_
      rintro e w4 ⟨aL2, cL2, aS2, cS2, rfl, hx4, hb4, hl2⟩
      clear hdoc
      have HPC : Hid (∀ wq, Below w4.heap.size w4 wq → Calls Try.prog 21 #[.pointer (some ⟨b, 0, none⟩), .int .i64 da] wq (GOut w0 wq b va vb (.tuple #[.int .i64 (Mb.wv s da), .int .i64 (Mb.wc s da)]) (Mb.ws s da))) := Hid_of fun wq hq => (HG2.out.keep (bel_up hb4 hq (Nat.le_refl _))).swap HEP.out.2 da
      obtain ⟨s2, hs2⟩ : ∃ s2, Mb.ws s da = s2 := ⟨_, rfl⟩
      rw [hs2] at hx4 HPC HDD ⊢
      generalize Mb.wc s da = cc at HPC ⊢
      generalize Mb.wv s da = cv at HPC ⊢
      obtain ⟨n1, hn1⟩ : ∃ n1, s2.l.length = n1 := ⟨_, rfl⟩
      obtain ⟨n2, hn2⟩ : ∃ n2, s2.sp.length = n2 := ⟨_, rfl⟩
      obtain ⟨ep2, hep2⟩ : ∃ e, s2.ep = e := ⟨_, rfl⟩
      obtain ⟨hole2, hho2⟩ : ∃ e, s2.hole = e := ⟨_, rfl⟩
      obtain ⟨fl2, hfl2⟩ : ∃ e, s2.fl = e := ⟨_, rfl⟩
      obtain ⟨gone2, hgo2⟩ : ∃ e, s2.gone = e := ⟨_, rfl⟩
      have HMV : Hid (mV aL2 cL2 aS2 cS2 s2 = .agg #[.slice aL2 n1 cL2, .slice aS2 n2 cS2, .int .i64 ep2, .int .i64 hole2, .bool fl2, .int .i64 gone2]) := Hid_of (by rw [← hn1, ← hn2, ← hep2, ← hho2, ← hfl2, ← hgo2])
      rw [show mV aL2 cL2 aS2 cS2 s2 = .agg #[.slice aL2 n1 cL2, .slice aS2 n2 cS2, .int .i64 ep2, .int .i64 hole2, .bool fl2, .int .i64 gone2] from HMV.out]
      clear hn1 hn2 hep2 hho2 hfl2 hgo2 hs2
      have hy5 : (w4.alloc (.cells #[.slice aL2 n1 cL2, .slice aS2 n2 cS2, .int .i64 ep2, .int .i64 hole2, .bool fl2, .int .i64 gone2] 31)).heap[w4.heap.size]? = some (.cells #[.slice aL2 n1 cL2, .slice aS2 n2 cS2, .int .i64 ep2, .int .i64 hole2, .bool fl2, .int .i64 gone2] 31 (0, 0)) := heap_alloc_last w4 _
      have hb5 : Below w4.heap.size w4 (w4.alloc (.cells #[.slice aL2 n1 cL2, .slice aS2 n2 cS2, .int .i64 ep2, .int .i64 hole2, .bool fl2, .int .i64 gone2] 31)) := bel1 w4 _
      obtain ⟨W5, HW5⟩ : ∃ W5, Hid (w4.alloc (.cells #[.slice aL2 n1 cL2, .slice aS2 n2 cS2, .int .i64 ep2, .int .i64 hole2, .bool fl2, .int .i64 gone2] 31) = W5) := ⟨_, rfl⟩
      rw [HW5.out] at hb5 hy5
      have hbw5 := (bel_up hb4 hb5 (Nat.le_refl _))
      have HB5 := Hid_of (bel_up HBW.out hbw5 (Nat.le_refl _))
      have HX5 := Hid_of (hx4.keep hb5)
      have HY5 := Hid_of hy5
      have HR5 := Hid_of (bel_row HRR.out hbw5)
      have HPC5 : Hid (Below w4.heap.size w4 W5) := Hid_of hb5
      have HLO : Hid (∀ k, blk aL2 k ∨ blk aS2 k → ((¬ fpm b va vb k) ∧ k < W5.heap.size) ∧ k ≠ w.heap.size + 2 ∧ ((blk aL k ∨ blk aS k) ∨ w.heap.size ≤ k)) := Hid_of fun k hk => by
        have hz := hb5.size
        have hz2 := HSZ.out
        have hz3 := hb4.size
        rcases hl2 k hk with e | e
        · have := HAP.out k e
          exact ⟨⟨this.1, by omega⟩, by omega, .inl e⟩
        · exact ⟨⟨HNF.out k (by omega), by omega⟩, by omega, .inr (by omega)⟩
      have HYL : Hid (w4.heap.size < W5.heap.size ∧ w.heap.size ≤ w4.heap.size ∧ w4.heap.size ≠ w.heap.size + 2 ∧ w.heap.size + 2 < W5.heap.size) := Hid_of (by
        have hz := (Array.getElem?_eq_some_iff.1 hy5).1
        have hz2 := HSZ.out
        have hz3 := hb4.size
        have hz4 := hb5.size
        omega)
      clear hb5 hy5 hbw5 hx4 hb4 hl2
      go_upto_region 12 with fail
      rw [HW5.out]
      clear HW5
      go_wp2_with fail
      refine (HPC.out W5 HPC5.out).mono ?_
      rintro e w6 ⟨rfl, vb6, hg6, hf6⟩
      have HG6 := Hid_of hg6
      have HF6 := Hid_of hf6
      have hys := (hf6.block _ HYL.out.1 (HNF.out _ HYL.out.2.1)).trans HY5.out
      have hrs := (hf6.block (w.heap.size + 2) HYL.out.2.2.2 (HNF.out _ (by omega))).trans HR5.out
      obtain ⟨⟨q0, q1, q2, q3, q4, q5⟩, -⟩ := row6 hys
      obtain ⟨⟨k0, k1, k2, k3, k4, k5⟩, kf⟩ := row6 hrs
      have kf0 := kf 0
      have kf1 := kf 1
      have kf2 := kf 2
      have kf3 := kf 3
      have kf4 := kf 4
      have kf5 := kf 5
      have hro := put6_row hrs (.slice aL2 n1 cL2) (.slice aS2 n2 cS2) (.int .i64 ep2) (.int .i64 hole2) (.bool fl2) (.int .i64 gone2)
      have hdo := do_fin H.out HB5.out (HX5.out.keep (Below.refl W5.heap.size W5)) (fun k hk => ⟨(HLO.out k hk).1.1, Nat.lt_of_lt_of_le (HLO.out k hk).1.2 ((Below.refl W5.heap.size W5)).size⟩) HG6.out HF6.out (R := w.heap.size + 2) ⟨by omega, Nat.lt_of_lt_of_le HYL.out.2.2.2 ((Below.refl W5.heap.size W5)).size⟩ (fun k hk => (HLO.out k hk).2.1) (fun k hk => (HLO.out k hk).2.2) (.slice aL2 n1 cL2) (.slice aS2 n2 cS2) (.int .i64 ep2) (.int .i64 hole2) (.bool fl2) (.int .i64 gone2)
      rw [show mV aL2 cL2 aS2 cS2 s2 = .agg #[.slice aL2 n1 cL2, .slice aS2 n2 cS2, .int .i64 ep2, .int .i64 hole2, .bool fl2, .int .i64 gone2] from HMV.out] at hdo
      rw [← HDD.out] at hdo
      have HRO := Hid_of hro
      have HDO := Hid_of hdo
      clear hg6 hf6 hys hrs kf hro hdo
      go_wp2
      refine bodyPost_ret (v := .tuple #[.agg #[.slice aL2 n1 cL2, .slice aS2 n2 cS2, .int .i64 ep2, .int .i64 hole2, .bool fl2, .int .i64 gone2], .bool true]) ?_ rfl HDO.out
      exact res31_2 f12_res _ _ (w.heap.size + 2) _ _ _ _ _ _ rfl HRO.out
    · by_cases hk2 : d.k = 2
      · have dk0 : (d.k == 0) = false := by simpa using hk0
        have dk1 : (d.k == 1) = false := by simpa using hk1
        have dk2 : (d.k == 2) = true := by simpa using hk2
        have HDD : Hid (Mb.dd s d.k (dA d s.ep) (dB d s.ep) = Mb.ds s da) := Hid_of (by rw [hk2, Mb.dd2, hda.out])
        clear hk0 hk1 hk2
        have hdoc := rdoneN HXD2.out H.out.g HEP.out.2 da
        go_wp2_with fail
        refine hdoc.mono ?_
        rintro e w4 ⟨aL2, cL2, aS2, cS2, rfl, hx4, hb4, hl2⟩
        clear hdoc
        have HPC : Hid (∀ wq, Below w4.heap.size w4 wq → Calls Try.prog 22 #[.pointer (some ⟨b, 0, none⟩), .int .i64 da] wq (GOut w0 wq b va vb (.int .i64 (Mb.dc s da)) (Mb.ds s da))) := Hid_of fun wq hq => (HG2.out.keep (bel_up hb4 hq (Nat.le_refl _))).done HEP.out.2 da
        obtain ⟨s2, hs2⟩ : ∃ s2, Mb.ds s da = s2 := ⟨_, rfl⟩
        rw [hs2] at hx4 HPC HDD ⊢
        generalize Mb.dc s da = cc at HPC ⊢
        obtain ⟨n1, hn1⟩ : ∃ n1, s2.l.length = n1 := ⟨_, rfl⟩
        obtain ⟨n2, hn2⟩ : ∃ n2, s2.sp.length = n2 := ⟨_, rfl⟩
        obtain ⟨ep2, hep2⟩ : ∃ e, s2.ep = e := ⟨_, rfl⟩
        obtain ⟨hole2, hho2⟩ : ∃ e, s2.hole = e := ⟨_, rfl⟩
        obtain ⟨fl2, hfl2⟩ : ∃ e, s2.fl = e := ⟨_, rfl⟩
        obtain ⟨gone2, hgo2⟩ : ∃ e, s2.gone = e := ⟨_, rfl⟩
        have HMV : Hid (mV aL2 cL2 aS2 cS2 s2 = .agg #[.slice aL2 n1 cL2, .slice aS2 n2 cS2, .int .i64 ep2, .int .i64 hole2, .bool fl2, .int .i64 gone2]) := Hid_of (by rw [← hn1, ← hn2, ← hep2, ← hho2, ← hfl2, ← hgo2])
        rw [show mV aL2 cL2 aS2 cS2 s2 = .agg #[.slice aL2 n1 cL2, .slice aS2 n2 cS2, .int .i64 ep2, .int .i64 hole2, .bool fl2, .int .i64 gone2] from HMV.out]
        clear hn1 hn2 hep2 hho2 hfl2 hgo2 hs2
        have hy5 : (w4.alloc (.cells #[.slice aL2 n1 cL2, .slice aS2 n2 cS2, .int .i64 ep2, .int .i64 hole2, .bool fl2, .int .i64 gone2] 31)).heap[w4.heap.size]? = some (.cells #[.slice aL2 n1 cL2, .slice aS2 n2 cS2, .int .i64 ep2, .int .i64 hole2, .bool fl2, .int .i64 gone2] 31 (0, 0)) := heap_alloc_last w4 _
        have hb5 : Below w4.heap.size w4 (w4.alloc (.cells #[.slice aL2 n1 cL2, .slice aS2 n2 cS2, .int .i64 ep2, .int .i64 hole2, .bool fl2, .int .i64 gone2] 31)) := bel1 w4 _
        obtain ⟨W5, HW5⟩ : ∃ W5, Hid (w4.alloc (.cells #[.slice aL2 n1 cL2, .slice aS2 n2 cS2, .int .i64 ep2, .int .i64 hole2, .bool fl2, .int .i64 gone2] 31) = W5) := ⟨_, rfl⟩
        rw [HW5.out] at hb5 hy5
        have hbw5 := (bel_up hb4 hb5 (Nat.le_refl _))
        have HB5 := Hid_of (bel_up HBW.out hbw5 (Nat.le_refl _))
        have HX5 := Hid_of (hx4.keep hb5)
        have HY5 := Hid_of hy5
        have HR5 := Hid_of (bel_row HRR.out hbw5)
        have HPC5 : Hid (Below w4.heap.size w4 W5) := Hid_of hb5
        have HLO : Hid (∀ k, blk aL2 k ∨ blk aS2 k → ((¬ fpm b va vb k) ∧ k < W5.heap.size) ∧ k ≠ w.heap.size + 2 ∧ ((blk aL k ∨ blk aS k) ∨ w.heap.size ≤ k)) := Hid_of fun k hk => by
          have hz := hb5.size
          have hz2 := HSZ.out
          have hz3 := hb4.size
          rcases hl2 k hk with e | e
          · have := HAP.out k e
            exact ⟨⟨this.1, by omega⟩, by omega, .inl e⟩
          · exact ⟨⟨HNF.out k (by omega), by omega⟩, by omega, .inr (by omega)⟩
        have HYL : Hid (w4.heap.size < W5.heap.size ∧ w.heap.size ≤ w4.heap.size ∧ w4.heap.size ≠ w.heap.size + 2 ∧ w.heap.size + 2 < W5.heap.size) := Hid_of (by
          have hz := (Array.getElem?_eq_some_iff.1 hy5).1
          have hz2 := HSZ.out
          have hz3 := hb4.size
          have hz4 := hb5.size
          omega)
        clear hb5 hy5 hbw5 hx4 hb4 hl2
        go_upto_region 16 with fail
        rw [HW5.out]
        clear HW5
        obtain ⟨SQ, HSQ⟩ : ∃ SQ : World → Prop, Hid (SQ = fun wq => wq.heap[w4.heap.size]? = some (.cells #[.slice aL2 n1 cL2, .slice aS2 n2 cS2, .int .i64 ep2, .int .i64 hole2, .bool fl2, .int .i64 gone2] 31 (0, 0)) ∧ ∃ r0 r1 r2 r3 r4 r5, wq.heap[w.heap.size + 2]? = some (.cells #[r0, r1, r2, r3, r4, r5] 31 (0, 0))) := ⟨_, Hid_of rfl⟩
        have HT : Hid (∀ wq, SQ wq → wq.cell? ⟨w4.heap.size, 0, none⟩ = some (.slice aL2 n1 cL2) ∧ wq.cell? ⟨w4.heap.size, 1, none⟩ = some (.slice aS2 n2 cS2) ∧ wq.cell? ⟨w4.heap.size, 2, none⟩ = some (.int .i64 ep2) ∧ wq.cell? ⟨w4.heap.size, 3, none⟩ = some (.int .i64 hole2) ∧ wq.cell? ⟨w4.heap.size, 4, none⟩ = some (.bool fl2) ∧ wq.cell? ⟨w4.heap.size, 5, none⟩ = some (.int .i64 gone2)) := Hid_of fun wq hq => by rw [HSQ.out] at hq; exact (row6 hq.1).1
        refine wp_region_held_drew (S := SQ) (by kernel_rfl) (by rw [HSQ.out]; exact ⟨bel_row HY5.out (Below.drew (Below.refl _ _)), _, _, _, _, _, _, bel_row HR5.out (Below.drew (Below.refl _ _))⟩) (fun hHeld => ?_)
        obtain ⟨wdy, hwdy⟩ : ∃ wd, W5.drew = wd := ⟨_, rfl⟩
        have hBwd : Below W5.heap.size W5 wdy := by rw [← hwdy]; exact Below.drew (Below.refl _ _)
        rw [hwdy] at hHeld ⊢
        clear hwdy
        refine Tk 0 ?p0y ?v0y ?y0y hHeld ?r0y
        case y0y => intro wq hq; obtain ⟨q0, q1, q2, q3, q4, q5⟩ := HT.out wq hq; go_simp; try with_reducible rfl
        refine Tm 1 ?p1y ?v1y hHeld ?r1y
        refine Tm 2 ?p2y ?v2y hHeld ?r2y
        refine Tm 4 ?p4y ?v4y hHeld ?r4y
        simp only [Act.put, Pa, Pb, Pc]
        refine Rd 3 ?p3y ?s3y
        intro K hK
        go_simp
        refine (HPC.out wdy (bel_up HPC5.out hBwd (Nat.le_refl _))).mono ?_
        rintro e w6 ⟨rfl, vb6, hg6, hf6⟩
        have hs6 : SQ w6 := by
          rw [HSQ.out]
          exact ⟨(hf6.block _ (Nat.lt_of_lt_of_le HYL.out.1 hBwd.size) (HNF.out _ HYL.out.2.1)).trans (bel_row HY5.out hBwd), _, _, _, _, _, _, (hf6.block (w.heap.size + 2) (Nat.lt_of_lt_of_le HYL.out.2.2.2 hBwd.size) (HNF.out _ (by omega))).trans (bel_row HR5.out hBwd)⟩
        have HG6 := Hid_of hg6
        have HF6 := Hid_of hf6
        have HBWD := Hid_of hBwd
        clear hg6 hf6
        refine hK.out _ _ hs6 (fun hHeld => ?_)
        clear hK K
        refine Tm 5 ?p5y_3 ?v5y_3 hHeld ?r5y_3
        simp only [Act.put, Pa, Pb, Pc]
        refine Rd 6 ?p6y_3 ?s6y_3
        intro K hK
        have hsq6 := hs6
        rw [HSQ.out] at hsq6
        obtain ⟨hys, r0, r1, r2, r3, r4, r5, hrs⟩ := hsq6
        obtain ⟨⟨k0, k1, k2, k3, k4, k5⟩, kf⟩ := row6 hrs
        have kf0 := kf 0
        have kf1 := kf 1
        have kf2 := kf 2
        have kf3 := kf 3
        have kf4 := kf 4
        have kf5 := kf 5
        have hro := put6_row hrs (.slice aL2 n1 cL2) (.slice aS2 n2 cS2) (.int .i64 ep2) (.int .i64 hole2) (.bool fl2) (.int .i64 gone2)
        have hdo := do_fin H.out (bel_up HB5.out HBWD.out (Nat.le_refl _)) (HX5.out.keep HBWD.out) (fun k hk => ⟨(HLO.out k hk).1.1, Nat.lt_of_lt_of_le (HLO.out k hk).1.2 (HBWD.out).size⟩) HG6.out HF6.out (R := w.heap.size + 2) ⟨by omega, Nat.lt_of_lt_of_le HYL.out.2.2.2 (HBWD.out).size⟩ (fun k hk => (HLO.out k hk).2.1) (fun k hk => (HLO.out k hk).2.2) (.slice aL2 n1 cL2) (.slice aS2 n2 cS2) (.int .i64 ep2) (.int .i64 hole2) (.bool fl2) (.int .i64 gone2)
        obtain ⟨w7, hw7⟩ : ∃ w7, ((((((w6).setCell ⟨w.heap.size + 2, 0, none⟩ (.slice aL2 n1 cL2)).setCell ⟨w.heap.size + 2, 1, none⟩ (.slice aS2 n2 cS2)).setCell ⟨w.heap.size + 2, 2, none⟩ (.int .i64 ep2)).setCell ⟨w.heap.size + 2, 3, none⟩ (.int .i64 hole2)).setCell ⟨w.heap.size + 2, 4, none⟩ (.bool fl2)).setCell ⟨w.heap.size + 2, 5, none⟩ (.int .i64 gone2) = w7 := ⟨_, rfl⟩
        have hs7 : SQ w7 := by
          rw [HSQ.out, ← hw7]
          exact ⟨(put6_oth HYL.out.2.2.1 (.slice aL2 n1 cL2) (.slice aS2 n2 cS2) (.int .i64 ep2) (.int .i64 hole2) (.bool fl2) (.int .i64 gone2)).trans hys, _, _, _, _, _, _, hro⟩
        rw [show put6 w6 (w.heap.size + 2) (.slice aL2 n1 cL2) (.slice aS2 n2 cS2) (.int .i64 ep2) (.int .i64 hole2) (.bool fl2) (.int .i64 gone2) = w7 from hw7] at hro hdo
        rw [show mV aL2 cL2 aS2 cS2 s2 = .agg #[.slice aL2 n1 cL2, .slice aS2 n2 cS2, .int .i64 ep2, .int .i64 hole2, .bool fl2, .int .i64 gone2] from HMV.out] at hdo
        rw [← HDD.out] at hdo
        have HRO := Hid_of hro
        have HDO := Hid_of hdo
        have HW7 := Hid_of hw7
        clear hys hrs kf hro hdo hw7
        go_simp
        rw [HW7.out]
        clear HW7
        refine hK.out _ _ hs7 (fun hHeld => ?_)
        clear hK K
        refine Tm 7 ?p7y_3_6 ?v7y_3_6 hHeld ?r7y_3_6
        simp only [Act.put, Pa, Pb, Pc]
        refine wpAnyH_done (by kernel_rfl) ?_ _
        clear hHeld HT HSQ
        go_wp2
        refine bodyPost_ret (v := .tuple #[.agg #[.slice aL2 n1 cL2, .slice aS2 n2 cS2, .int .i64 ep2, .int .i64 hole2, .bool fl2, .int .i64 gone2], .bool true]) ?_ rfl HDO.out
        exact res31_2 f12_res _ _ (w.heap.size + 2) _ _ _ _ _ _ rfl HRO.out
      · by_cases hk3 : d.k = 3
        · have dk0 : (d.k == 0) = false := by simpa using hk0
          have dk1 : (d.k == 1) = false := by simpa using hk1
          have dk2 : (d.k == 2) = false := by simpa using hk2
          have dk3 : (d.k == 3) = true := by simpa using hk3
          have HDD : Hid (Mb.dd s d.k (dA d s.ep) (dB d s.ep) = Mb.as' s da) := Hid_of (by rw [hk3, Mb.dd3, hda.out])
          clear hk0 hk1 hk2 hk3
          have hdoc := radd_any HXD2.out (by have := H.out.g.g.2.1; omega) (by have := H.out.g.ap.right.len; omega) da
          go_wp2_with fail
          refine hdoc.mono ?_
          rintro e w4 ⟨aL2, cL2, aS2, cS2, rfl, hx4, hb4, hl2⟩
          clear hdoc
          have HPC : Hid (∀ wq, Below w4.heap.size w4 wq → Calls Try.prog 23 #[.pointer (some ⟨b, 0, none⟩), .int .i64 da] wq (GOut w0 wq b va vb (.int .i64 (Mb.ac s da)) (Mb.as' s da))) := Hid_of fun wq hq => (HG2.out.keep (bel_up hb4 hq (Nat.le_refl _))).add da
          obtain ⟨s2, hs2⟩ : ∃ s2, Mb.as' s da = s2 := ⟨_, rfl⟩
          rw [hs2] at hx4 HPC HDD ⊢
          generalize Mb.ac s da = cc at HPC ⊢
          obtain ⟨n1, hn1⟩ : ∃ n1, s2.l.length = n1 := ⟨_, rfl⟩
          obtain ⟨n2, hn2⟩ : ∃ n2, s2.sp.length = n2 := ⟨_, rfl⟩
          obtain ⟨ep2, hep2⟩ : ∃ e, s2.ep = e := ⟨_, rfl⟩
          obtain ⟨hole2, hho2⟩ : ∃ e, s2.hole = e := ⟨_, rfl⟩
          obtain ⟨fl2, hfl2⟩ : ∃ e, s2.fl = e := ⟨_, rfl⟩
          obtain ⟨gone2, hgo2⟩ : ∃ e, s2.gone = e := ⟨_, rfl⟩
          have HMV : Hid (mV aL2 cL2 aS2 cS2 s2 = .agg #[.slice aL2 n1 cL2, .slice aS2 n2 cS2, .int .i64 ep2, .int .i64 hole2, .bool fl2, .int .i64 gone2]) := Hid_of (by rw [← hn1, ← hn2, ← hep2, ← hho2, ← hfl2, ← hgo2])
          rw [show mV aL2 cL2 aS2 cS2 s2 = .agg #[.slice aL2 n1 cL2, .slice aS2 n2 cS2, .int .i64 ep2, .int .i64 hole2, .bool fl2, .int .i64 gone2] from HMV.out]
          clear hn1 hn2 hep2 hho2 hfl2 hgo2 hs2
          have hy5 : (w4.alloc (.cells #[.slice aL2 n1 cL2, .slice aS2 n2 cS2, .int .i64 ep2, .int .i64 hole2, .bool fl2, .int .i64 gone2] 31)).heap[w4.heap.size]? = some (.cells #[.slice aL2 n1 cL2, .slice aS2 n2 cS2, .int .i64 ep2, .int .i64 hole2, .bool fl2, .int .i64 gone2] 31 (0, 0)) := heap_alloc_last w4 _
          have hb5 : Below w4.heap.size w4 (w4.alloc (.cells #[.slice aL2 n1 cL2, .slice aS2 n2 cS2, .int .i64 ep2, .int .i64 hole2, .bool fl2, .int .i64 gone2] 31)) := bel1 w4 _
          obtain ⟨W5, HW5⟩ : ∃ W5, Hid (w4.alloc (.cells #[.slice aL2 n1 cL2, .slice aS2 n2 cS2, .int .i64 ep2, .int .i64 hole2, .bool fl2, .int .i64 gone2] 31) = W5) := ⟨_, rfl⟩
          rw [HW5.out] at hb5 hy5
          have hbw5 := (bel_up hb4 hb5 (Nat.le_refl _))
          have HB5 := Hid_of (bel_up HBW.out hbw5 (Nat.le_refl _))
          have HX5 := Hid_of (hx4.keep hb5)
          have HY5 := Hid_of hy5
          have HR5 := Hid_of (bel_row HRR.out hbw5)
          have HPC5 : Hid (Below w4.heap.size w4 W5) := Hid_of hb5
          have HLO : Hid (∀ k, blk aL2 k ∨ blk aS2 k → ((¬ fpm b va vb k) ∧ k < W5.heap.size) ∧ k ≠ w.heap.size + 2 ∧ ((blk aL k ∨ blk aS k) ∨ w.heap.size ≤ k)) := Hid_of fun k hk => by
            have hz := hb5.size
            have hz2 := HSZ.out
            have hz3 := hb4.size
            rcases hl2 k hk with e | e
            · have := HAP.out k e
              exact ⟨⟨this.1, by omega⟩, by omega, .inl e⟩
            · exact ⟨⟨HNF.out k (by omega), by omega⟩, by omega, .inr (by omega)⟩
          have HYL : Hid (w4.heap.size < W5.heap.size ∧ w.heap.size ≤ w4.heap.size ∧ w4.heap.size ≠ w.heap.size + 2 ∧ w.heap.size + 2 < W5.heap.size) := Hid_of (by
            have hz := (Array.getElem?_eq_some_iff.1 hy5).1
            have hz2 := HSZ.out
            have hz3 := hb4.size
            have hz4 := hb5.size
            omega)
          clear hb5 hy5 hbw5 hx4 hb4 hl2
          go_upto_region 19 with fail
          rw [HW5.out]
          clear HW5
          obtain ⟨SQ, HSQ⟩ : ∃ SQ : World → Prop, Hid (SQ = fun wq => wq.heap[w4.heap.size]? = some (.cells #[.slice aL2 n1 cL2, .slice aS2 n2 cS2, .int .i64 ep2, .int .i64 hole2, .bool fl2, .int .i64 gone2] 31 (0, 0)) ∧ ∃ r0 r1 r2 r3 r4 r5, wq.heap[w.heap.size + 2]? = some (.cells #[r0, r1, r2, r3, r4, r5] 31 (0, 0))) := ⟨_, Hid_of rfl⟩
          have HT : Hid (∀ wq, SQ wq → wq.cell? ⟨w4.heap.size, 0, none⟩ = some (.slice aL2 n1 cL2) ∧ wq.cell? ⟨w4.heap.size, 1, none⟩ = some (.slice aS2 n2 cS2) ∧ wq.cell? ⟨w4.heap.size, 2, none⟩ = some (.int .i64 ep2) ∧ wq.cell? ⟨w4.heap.size, 3, none⟩ = some (.int .i64 hole2) ∧ wq.cell? ⟨w4.heap.size, 4, none⟩ = some (.bool fl2) ∧ wq.cell? ⟨w4.heap.size, 5, none⟩ = some (.int .i64 gone2)) := Hid_of fun wq hq => by rw [HSQ.out] at hq; exact (row6 hq.1).1
          refine wp_region_held_drew (S := SQ) (by kernel_rfl) (by rw [HSQ.out]; exact ⟨bel_row HY5.out (Below.drew (Below.refl _ _)), _, _, _, _, _, _, bel_row HR5.out (Below.drew (Below.refl _ _))⟩) (fun hHeld => ?_)
          obtain ⟨wdz, hwdz⟩ : ∃ wd, W5.drew = wd := ⟨_, rfl⟩
          have hBwd : Below W5.heap.size W5 wdz := by rw [← hwdz]; exact Below.drew (Below.refl _ _)
          rw [hwdz] at hHeld ⊢
          clear hwdz
          refine Tk 0 ?p0z ?v0z ?y0z hHeld ?r0z
          case y0z => intro wq hq; obtain ⟨q0, q1, q2, q3, q4, q5⟩ := HT.out wq hq; go_simp; try with_reducible rfl
          refine Tm 1 ?p1z ?v1z hHeld ?r1z
          refine Tm 2 ?p2z ?v2z hHeld ?r2z
          refine Tm 4 ?p4z ?v4z hHeld ?r4z
          simp only [Act.put, Pa, Pb, Pc]
          refine Rd 3 ?p3z ?s3z
          intro K hK
          go_simp
          refine (HPC.out wdz (bel_up HPC5.out hBwd (Nat.le_refl _))).mono ?_
          rintro e w6 ⟨rfl, vb6, hg6, hf6⟩
          have hs6 : SQ w6 := by
            rw [HSQ.out]
            exact ⟨(hf6.block _ (Nat.lt_of_lt_of_le HYL.out.1 hBwd.size) (HNF.out _ HYL.out.2.1)).trans (bel_row HY5.out hBwd), _, _, _, _, _, _, (hf6.block (w.heap.size + 2) (Nat.lt_of_lt_of_le HYL.out.2.2.2 hBwd.size) (HNF.out _ (by omega))).trans (bel_row HR5.out hBwd)⟩
          have HG6 := Hid_of hg6
          have HF6 := Hid_of hf6
          have HBWD := Hid_of hBwd
          clear hg6 hf6
          refine hK.out _ _ hs6 (fun hHeld => ?_)
          clear hK K
          refine Tm 5 ?p5z_3 ?v5z_3 hHeld ?r5z_3
          simp only [Act.put, Pa, Pb, Pc]
          refine Rd 6 ?p6z_3 ?s6z_3
          intro K hK
          have hsq6 := hs6
          rw [HSQ.out] at hsq6
          obtain ⟨hys, r0, r1, r2, r3, r4, r5, hrs⟩ := hsq6
          obtain ⟨⟨k0, k1, k2, k3, k4, k5⟩, kf⟩ := row6 hrs
          have kf0 := kf 0
          have kf1 := kf 1
          have kf2 := kf 2
          have kf3 := kf 3
          have kf4 := kf 4
          have kf5 := kf 5
          have hro := put6_row hrs (.slice aL2 n1 cL2) (.slice aS2 n2 cS2) (.int .i64 ep2) (.int .i64 hole2) (.bool fl2) (.int .i64 gone2)
          have hdo := do_fin H.out (bel_up HB5.out HBWD.out (Nat.le_refl _)) (HX5.out.keep HBWD.out) (fun k hk => ⟨(HLO.out k hk).1.1, Nat.lt_of_lt_of_le (HLO.out k hk).1.2 (HBWD.out).size⟩) HG6.out HF6.out (R := w.heap.size + 2) ⟨by omega, Nat.lt_of_lt_of_le HYL.out.2.2.2 (HBWD.out).size⟩ (fun k hk => (HLO.out k hk).2.1) (fun k hk => (HLO.out k hk).2.2) (.slice aL2 n1 cL2) (.slice aS2 n2 cS2) (.int .i64 ep2) (.int .i64 hole2) (.bool fl2) (.int .i64 gone2)
          obtain ⟨w7, hw7⟩ : ∃ w7, ((((((w6).setCell ⟨w.heap.size + 2, 0, none⟩ (.slice aL2 n1 cL2)).setCell ⟨w.heap.size + 2, 1, none⟩ (.slice aS2 n2 cS2)).setCell ⟨w.heap.size + 2, 2, none⟩ (.int .i64 ep2)).setCell ⟨w.heap.size + 2, 3, none⟩ (.int .i64 hole2)).setCell ⟨w.heap.size + 2, 4, none⟩ (.bool fl2)).setCell ⟨w.heap.size + 2, 5, none⟩ (.int .i64 gone2) = w7 := ⟨_, rfl⟩
          have hs7 : SQ w7 := by
            rw [HSQ.out, ← hw7]
            exact ⟨(put6_oth HYL.out.2.2.1 (.slice aL2 n1 cL2) (.slice aS2 n2 cS2) (.int .i64 ep2) (.int .i64 hole2) (.bool fl2) (.int .i64 gone2)).trans hys, _, _, _, _, _, _, hro⟩
          rw [show put6 w6 (w.heap.size + 2) (.slice aL2 n1 cL2) (.slice aS2 n2 cS2) (.int .i64 ep2) (.int .i64 hole2) (.bool fl2) (.int .i64 gone2) = w7 from hw7] at hro hdo
          rw [show mV aL2 cL2 aS2 cS2 s2 = .agg #[.slice aL2 n1 cL2, .slice aS2 n2 cS2, .int .i64 ep2, .int .i64 hole2, .bool fl2, .int .i64 gone2] from HMV.out] at hdo
          rw [← HDD.out] at hdo
          have HRO := Hid_of hro
          have HDO := Hid_of hdo
          have HW7 := Hid_of hw7
          clear hys hrs kf hro hdo hw7
          go_simp
          rw [HW7.out]
          clear HW7
          refine hK.out _ _ hs7 (fun hHeld => ?_)
          clear hK K
          refine Tm 7 ?p7z_3_6 ?v7z_3_6 hHeld ?r7z_3_6
          simp only [Act.put, Pa, Pb, Pc]
          refine wpAnyH_done (by kernel_rfl) ?_ _
          clear hHeld HT HSQ
          go_wp2
          refine bodyPost_ret (v := .tuple #[.agg #[.slice aL2 n1 cL2, .slice aS2 n2 cS2, .int .i64 ep2, .int .i64 hole2, .bool fl2, .int .i64 gone2], .bool true]) ?_ rfl HDO.out
          exact res31_2 f12_res _ _ (w.heap.size + 2) _ _ _ _ _ _ rfl HRO.out
        · have dk0 : (d.k == 0) = false := by simpa using hk0
          have dk1 : (d.k == 1) = false := by simpa using hk1
          have dk2 : (d.k == 2) = false := by simpa using hk2
          have dk3 : (d.k == 3) = false := by simpa using hk3
          have HDD : Hid (Mb.dd s d.k (dA d s.ep) (dB d s.ep) = s) := Hid_of (Mb.dd_else (fun e => by rcases e with e | e | e | e <;> contradiction))
          obtain ⟨⟨k0, k1, k2, k3, k4, k5⟩, kf⟩ := row6 HRR.out
          have kf0 := kf 0
          have kf1 := kf 1
          have kf2 := kf 2
          have kf3 := kf 3
          have kf4 := kf 4
          have kf5 := kf 5
          have HRO := Hid_of (put6_row HRR.out (.slice aL s.l.length cL) (.slice aS s.sp.length cS) (.int .i64 s.ep) (.int .i64 s.hole) (.bool s.fl) (.int .i64 s.gone))
          have HDO : Hid (DoOut w0 w b va vb aL aS (Mb.dd s d.k (dA d s.ep) (dB d s.ep)) (.returned (.tuple #[mV aL cL aS cS s, .bool true])) (put6 wc (w.heap.size + 2) (.slice aL s.l.length cL) (.slice aS s.sp.length cS) (.int .i64 s.ep) (.int .i64 s.hole) (.bool s.fl) (.int .i64 s.gone))) := Hid_of (by rw [HDD.out]; exact do_fin H.out HBW.out HXD2.out (fun k hk => ⟨(HAP.out k hk).1, Nat.lt_of_lt_of_le (HAP.out k hk).2 HBW.out.size⟩) HG2.out (Fr.refl wc _) (R := w.heap.size + 2) ⟨by omega, by have := HSZ.out; omega⟩ (fun k hk => by have := (HAP.out k hk).2; omega) (fun k hk => .inl hk) (.slice aL s.l.length cL) (.slice aS s.sp.length cS) (.int .i64 s.ep) (.int .i64 s.hole) (.bool s.fl) (.int .i64 s.gone))
          clear kf hk0 hk1 hk2 hk3
          go_wp2
          refine bodyPost_ret (v := .tuple #[mV aL cL aS cS s, .bool true]) ?_ rfl HDO.out
          exact res31_2 f12_res _ _ (w.heap.size + 2) _ _ _ _ _ _ rfl HRO.out
end
end Go.Proofs.Ytacfndfkoiifhaa
