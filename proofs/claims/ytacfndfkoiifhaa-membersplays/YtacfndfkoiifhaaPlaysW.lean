/-
  The law MembersPlays, walked.
-/
import Derived.Test.YtacfndfkoiifhaaFE
import Derived.Test.YtacfndfkoiifhaaFC
import Derived.Deep.CutBlock
namespace Go.Proofs.Ytacfndfkoiifhaa
open Go.RowKit
set_option linter.unusedVariables false
open Mb (S)

/-- Both groups, side by side: the document's lies in a box. -/
structure PS (w0 w : World) (b : Nat) (va vb : Value) (X : Nat) (aL : Option Addr) (cL : Nat) (aS : Option Addr) (cS : Nat) (s : S) : Prop where
  gs : GS w0 w b va vb s
  xd : XD w aL cL aS cS s
  ap : ∀ k, blk aL k ∨ blk aS k → (¬ fpm b va vb k ∧ k < w.heap.size) ∧ k ≠ X
  bx : w.heap[X]? = some (.cells #[.slice aL s.l.length cL, .slice aS s.sp.length cS, .int .i64 s.ep, .int .i64 s.hole, .bool s.fl, .int .i64 s.gone] 31 (0, 0))
  nx : ¬ fpm b va vb X
  lx : w0.heap.size ≤ X
/-- What a deed of both leaves, and the box of what it told. -/
def PC (w0 : World) (b : Nat) (va : Value) (X : Nat) (s' : S) (u v : Value) (wx : World) : Prop :=
  ∃ y vb' aL' cL' aS' cS', u = .pointer (some ⟨y, 0, none⟩) ∧ v = .bool true ∧ GS w0 wx b va vb' s' ∧ XD wx aL' cL' aS' cS' s' ∧ (∀ k, blk aL' k ∨ blk aS' k → (¬ fpm b va vb' k ∧ k < wx.heap.size) ∧ k ≠ X) ∧ wx.heap[y]? = some (.cells #[.slice aL' s'.l.length cL', .slice aS' s'.sp.length cS', .int .i64 s'.ep, .int .i64 s'.hole, .bool s'.fl, .int .i64 s'.gone] 31 (0, 0)) ∧ (∃ r0 r1 r2 r3 r4 r5, wx.heap[X]? = some (.cells #[r0, r1, r2, r3, r4, r5] 31 (0, 0))) ∧ ¬ fpm b va vb' X ∧ w0.heap.size ≤ X
section
variable {w0 w w' wd w6 wx : World} {b X : Nat} {va vb vb6 : Value} {aL aS aL' aS' : Option Addr} {cL cS cL' cS' : Nat} {s s' : S}
theorem PS.keep (h : PS w0 w b va vb X aL cL aS cS s) (hb : Below w.heap.size w w') : PS w0 w' b va vb X aL cL aS cS s := ⟨h.gs.keep hb, h.xd.keep hb, fun k hk => ⟨⟨(h.ap k hk).1.1, Nat.lt_of_lt_of_le (h.ap k hk).1.2 hb.size⟩, (h.ap k hk).2⟩, bel_row h.bx hb, h.nx, h.lx⟩
theorem PS.lt (h : PS w0 w b va vb X aL cL aS cS s) : X < w.heap.size := (Array.getElem?_eq_some_iff.1 h.bx).1
theorem PC_of (h : PS w0 wd b va vb X aL cL aS cS s) (hg : GS w0 w6 b va vb6 s') (hx : XD w6 aL' cL' aS' cS' s') (hl : ∀ k, blk aL' k ∨ blk aS' k → ¬ fpm b va vb6 k ∧ k < w6.heap.size ∧ ((blk aL k ∨ blk aS k) ∨ wd.heap.size ≤ k)) (hf : Fr wd (fpm b va vb) w6 (fpm b va vb6)) (y : Nat) (hyX : y ≠ X) (hyF : ¬ fpm b va vb6 y) (hyL : ∀ k, blk aL' k ∨ blk aS' k → k ≠ y) (hkeep : ∀ k, k < w6.heap.size → k ≠ y → wx.heap[k]? = w6.heap[k]?) (hbel : Below w0.heap.size w0 wx) (hsz : w6.heap.size ≤ wx.heap.size) (hy : wx.heap[y]? = some (.cells #[.slice aL' s'.l.length cL', .slice aS' s'.sp.length cS', .int .i64 s'.ep, .int .i64 s'.hole, .bool s'.fl, .int .i64 s'.gone] 31 (0, 0))) : PC w0 b va X s' (.pointer (some ⟨y, 0, none⟩)) (.bool true) wx := by
  have hlt := h.lt
  refine ⟨y, vb6, aL', cL', aS', cS', rfl, rfl, hg.keepBut hbel (fun k hk e => hkeep k hk (fun e' => hyF (e' ▸ e))), hx.keepBut (fun k hk e => hkeep k hk (hyL k e)), fun k hk => ⟨⟨(hl k hk).1, Nat.lt_of_lt_of_le (hl k hk).2.1 hsz⟩, ?_⟩, hy, ⟨_, _, _, _, _, _, (hkeep X (Nat.lt_of_lt_of_le hlt hf.size) (Ne.symm hyX)).trans ((hf.block X hlt h.nx).trans h.bx)⟩, fun e => ?_, h.lx⟩
  · rcases (hl k hk).2.2 with e | e
    · exact (h.ap k e).2
    · omega
  · rcases hf.n X e with e | e
    · exact h.nx e
    · omega
theorem PC_A (h : PS w0 wd b va vb X aL cL aS cS s) (hg : GS w0 w6 b va vb6 s') (hx : XD w6 aL' cL' aS' cS' s') (hl : ∀ k, blk aL' k ∨ blk aS' k → ¬ fpm b va vb6 k ∧ k < w6.heap.size ∧ ((blk aL k ∨ blk aS k) ∨ wd.heap.size ≤ k)) (hf : Fr wd (fpm b va vb) w6 (fpm b va vb6)) : PC w0 b va X s' (.pointer (some ⟨w6.heap.size, 0, none⟩)) (.bool true) (w6.alloc (.cells #[.slice aL' s'.l.length cL', .slice aS' s'.sp.length cS', .int .i64 s'.ep, .int .i64 s'.hole, .bool s'.fl, .int .i64 s'.gone] 31)) := by
  have hlt := h.lt
  have hb := bel1 w6 (.cells #[.slice aL' s'.l.length cL', .slice aS' s'.sp.length cS', .int .i64 s'.ep, .int .i64 s'.hole, .bool s'.fl, .int .i64 s'.gone] 31)
  refine PC_of h hg hx hl hf w6.heap.size ?_ (fun e => by have := (hg.mine _ e).2; omega) (fun k hk => by have := (hl k hk).2.1; omega) (fun k hk _ => hb.block k hk) (bel_up hg.bel hb (Nat.le_refl _)) hb.size (heap_alloc_last w6 _)
  have := hf.size; omega
theorem PC_B (h : PS w0 wd b va vb X aL cL aS cS s) (hg : GS w0 w6 b va vb6 s') (hx : XD w6 aL' cL' aS' cS' s') (hl : ∀ k, blk aL' k ∨ blk aS' k → ¬ fpm b va vb6 k ∧ k < w6.heap.size ∧ ((blk aL k ∨ blk aS k) ∨ (wd.alloc (.cells #[.slice none 0 0, .slice none 0 0, .int .i64 0, .int .i64 0, .bool false, .int .i64 0] 31)).heap.size ≤ k)) (hf : Fr (wd.alloc (.cells #[.slice none 0 0, .slice none 0 0, .int .i64 0, .int .i64 0, .bool false, .int .i64 0] 31)) (fpm b va vb) w6 (fpm b va vb6)) : (w6.heap[wd.heap.size]? = some (.cells #[.slice none 0 0, .slice none 0 0, .int .i64 0, .int .i64 0, .bool false, .int .i64 0] 31 (0, 0))) ∧ PC w0 b va X s' (.pointer (some ⟨wd.heap.size, 0, none⟩)) (.bool true) (put6 w6 wd.heap.size (.slice aL' s'.l.length cL') (.slice aS' s'.sp.length cS') (.int .i64 s'.ep) (.int .i64 s'.hole) (.bool s'.fl) (.int .i64 s'.gone)) := by
  have hlt := h.lt
  have hb := bel1 wd (.cells #[.slice none 0 0, .slice none 0 0, .int .i64 0, .int .i64 0, .bool false, .int .i64 0] 31)
  have hsz : (wd.alloc (.cells #[.slice none 0 0, .slice none 0 0, .int .i64 0, .int .i64 0, .bool false, .int .i64 0] 31)).heap.size = wd.heap.size + 1 := by simp
  have hnf : ¬ fpm b va vb wd.heap.size := fun e => by have := (h.gs.mine _ e).2; omega
  have hy : w6.heap[wd.heap.size]? = some (.cells #[.slice none 0 0, .slice none 0 0, .int .i64 0, .int .i64 0, .bool false, .int .i64 0] 31 (0, 0)) := (hf.block _ (by omega) hnf).trans (heap_alloc_last wd _)
  refine ⟨hy, ?_⟩
  refine PC_of (h.keep hb) hg hx hl hf wd.heap.size (by omega) (fun e => ?_) (fun k hk => ?_) (fun k hk e => put6_oth e _ _ _ _ _ _) (put6_bel hg.bel (by have := h.gs.bel.size; omega) _ _ _ _ _ _) (by simp [put6]) (put6_row hy _ _ _ _ _ _)
  · rcases hf.n _ e with e | e
    · exact hnf e
    · omega
  · rcases (hl k hk).2.2 with e | e
    · have := (h.ap k e).1.2; omega
    · omega
theorem PS_set (hg : GS w0 wx b va vb s) (hx : XD wx aL cL aS cS s) (hl : ∀ k, blk aL k ∨ blk aS k → (¬ fpm b va vb k ∧ k < wx.heap.size) ∧ k ≠ X) {r0 r1 r2 r3 r4 r5 : Value} (hX : wx.heap[X]? = some (.cells #[r0, r1, r2, r3, r4, r5] 31 (0, 0))) (hn : ¬ fpm b va vb X) (hlo : w0.heap.size ≤ X) : PS w0 (put6 wx X (.slice aL s.l.length cL) (.slice aS s.sp.length cS) (.int .i64 s.ep) (.int .i64 s.hole) (.bool s.fl) (.int .i64 s.gone)) b va vb X aL cL aS cS s :=
  ⟨hg.keepBut (put6_bel hg.bel hlo _ _ _ _ _ _) (fun k hk e => put6_oth (fun e' => hn (by rw [← e']; exact e)) _ _ _ _ _ _), hx.keepBut (fun k hk e => put6_oth (hl k e).2 _ _ _ _ _ _), fun k hk => ⟨⟨(hl k hk).1.1, by simp [put6]; exact (hl k hk).1.2⟩, (hl k hk).2⟩, put6_row hX _ _ _ _ _ _, hn, hlo⟩
end
theorem PS.sm1 {w0 w w' : World} {b X nv : Nat} {va vb : Value} {aL aS : Option Addr} {cL cS c : Nat} {s : S} (h : PS w0 w b va vb X aL cL aS cS s) (hb : Below w.heap.size w w') (ha : AtL il w' (some ⟨nv, 0, none⟩) s.l) : Calls Try.prog 15 #[.slice (some ⟨nv, 0, none⟩) s.l.length c, .slice aL s.l.length cL] w' fun e w'' => e = .returned (.bool true) ∧ Below w'.heap.size w' w'' :=
  same_any (by have := h.gs.g.g.2.1; omega) ha (h.xd.keep hb).xl.at'
theorem PS.sm2 {w0 w w' : World} {b X nv : Nat} {va vb : Value} {aL aS : Option Addr} {cL cS c : Nat} {s : S} (h : PS w0 w b va vb X aL cL aS cS s) (hb : Below w.heap.size w w') (ha : AtL il w' (some ⟨nv, 0, none⟩) s.sp) : Calls Try.prog 15 #[.slice (some ⟨nv, 0, none⟩) s.sp.length c, .slice aS s.sp.length cS] w' fun e w'' => e = .returned (.bool true) ∧ Below w'.heap.size w' w'' :=
  same_any (by have := h.gs.g.ap.right.len; omega) ha (h.xd.keep hb).xs.at'
set_option maxRecDepth 100000 in
set_option maxHeartbeats 8000000 in
theorem plays_walk (g : Gr) (da : Option Addr) (dc : Nat) (l : List D) (w : World) (hg : GOk w g) (hlm : l.length ≤ maxLen) (hd : AtL dl w da l) : Calls Try.prog 3 #[gV g, .slice da l.length dc] w fun e w' => e = .returned (.bool true) ∧ Below w.heap.size w w' := by
  obtain ⟨W1, HW1⟩ : ∃ W1, Hid (w.alloc (.cells #[.slice g.a g.l.length g.c, .slice g.a2 g.sp.length g.c2] 24) = W1) := ⟨_, rfl⟩
  have HB1 : Hid (Below w.heap.size w W1) := by rw [← HW1.out]; exact bel1 w _
  have hr1 : W1.heap[w.heap.size]? = some (.cells #[.slice g.a g.l.length g.c, .slice g.a2 g.sp.length g.c2] 24 (0, 0)) := by rw [← HW1.out]; exact heap_alloc_last w _
  have HR1 := Hid_of hr1
  obtain ⟨c0, c1⟩ := row2c hr1
  have hfew := few_any g da l.length dc W1 hlm hg.m1 hg.m2
  have HG1 := Hid_of (hg.keep HB1.out)
  have HD := Hid_of hd
  clear hr1 hg hd
  cases hf : few g l.length with
  | false =>
    rw [show fewN g l.length = 0 by simp [fewN, hf]] at hfew
    clear hf
    go_enter Try.func3, Try.ntmps3
    go_upto_region 1 with fail
    rw [HW1.out]
    clear HW1
    go_wp2_with fail
    refine hfew.mono ?_
    rintro e w2 ⟨rfl, hb2⟩
    have HB2 := Hid_of (bel_up HB1.out hb2 (Nat.le_refl _))
    clear hfew hb2
    go_wp2_with fail
    refine (awake_any w2).mono ?_
    rintro e w3 ⟨rfl, hb3⟩
    have HB3 := Hid_of (bel_up HB2.out hb3 (Nat.le_refl _))
    clear hb3
    go_wp2
    go_ret
    exact ⟨rfl, HB3.out⟩
  | true =>
  rw [show fewN g l.length = 1 by simp [fewN, hf]] at hfew
  obtain ⟨m1, m2, hl60⟩ := few_of hf
  clear hf
  go_enter Try.func3, Try.ntmps3
  go_upto_region 1 with fail
  rw [HW1.out]
  clear HW1
  go_wp2_with fail
  refine hfew.mono ?_
  rintro e W2 ⟨rfl, hb2⟩
  have HB2 := Hid_of (bel_up HB1.out hb2 (Nat.le_refl _))
  have HR2 := Hid_of (bel_row HR1.out hb2)
  have HG2 := Hid_of (HG1.out.keep hb2)
  obtain ⟨y0, y1⟩ := row2c HR2.out
  have hnew := newG_any (w0 := W2) (Below.refl _ _) g.a g.c g.l g.a2 g.c2 g.sp (by omega) (by omega) HG2.out.at1 HG2.out.at2
  clear hfew hb2 HR1 HG1 HB1 c0 c1
  go_wp2_with fail
  refine hnew.mono ?_
  rintro e w3 ⟨hb3, hcase⟩
  clear hnew y0 y1
  have hdoc := newD_any g.a g.c g.l g.a2 g.c2 g.sp w3 (by omega) (by omega) HG2.out.le1 (HG2.out.at1.keep hb3) (HG2.out.at2.keep hb3)
  obtain ⟨y0, y1⟩ := row2c (bel_row HR2.out hb3)
  have HB3 := Hid_of hb3
  clear hb3
  rcases hcase with ⟨hnw, bm, va, vb, rfl, hm, -⟩ | ⟨hnw, rfl⟩
  case inr =>
    have HNW := Hid_of hnw
    clear hnw
    go_wp2_with fail
    refine hdoc.mono ?_
    rintro e w4 ⟨hb4, hc4⟩
    clear hdoc y0 y1
    rcases hc4 with ⟨hn4, -⟩ | ⟨-, rfl⟩
    · exact absurd hn4 HNW.out
    obtain ⟨W5, HW5⟩ : ∃ W5, Hid (w4.alloc (.cells #[.slice none 0 0, .slice none 0 0, .int .i64 0, .int .i64 (-1), .bool false, .int .i64 (-1)] 31) = W5) := ⟨_, rfl⟩
    have HB5 : Hid (Below w.heap.size w W5) := Hid_of (by rw [← HW5.out]; exact bel_up HB2.out (bel_up HB3.out (bel_up hb4 (bel1 _ _) (Nat.le_refl _)) (Nat.le_refl _)) (Nat.le_refl _))
    clear hb4 HB2 HB3 HR2 HG2 HNW HD
    go_upto_region 5 with fail
    rw [HW5.out]
    clear HW5
    go_wp2_with fail
    refine (awake_any W5).mono ?_
    rintro e w6 ⟨rfl, hb6⟩
    have HB6 := Hid_of (bel_up HB5.out hb6 (Nat.le_refl _))
    clear hb6
    go_wp2
    go_ret
    exact ⟨rfl, HB6.out⟩
  have HNW := Hid_of hnw
  have HM := Hid_of hm
  clear hnw hm
  go_wp2_with fail
  refine hdoc.mono ?_
  rintro e w4 ⟨hb4, hc4⟩
  clear hdoc y0 y1
  rcases hc4 with ⟨-, aL, cL, aS, cS, rfl, hx4, hl4⟩ | ⟨hn4, -⟩
  case inr => exact absurd HNW.out hn4
  have he0 : (Mb.s0 g.l g.sp).ep ≤ 1 := Int.le_refl _
  obtain ⟨s0, hs0⟩ : ∃ s, Mb.s0 g.l g.sp = s := ⟨_, rfl⟩
  rw [hs0] at HM hx4 he0 ⊢
  obtain ⟨X, hX⟩ : ∃ X, w4.heap.size = X := ⟨_, rfl⟩
  obtain ⟨W5, HW5⟩ : ∃ W5, Hid (w4.alloc (.cells #[.slice aL s0.l.length cL, .slice aS s0.sp.length cS, .int .i64 s0.ep, .int .i64 s0.hole, .bool s0.fl, .int .i64 s0.gone] 31) = W5) := ⟨_, rfl⟩
  have HB5 : Hid (Below W2.heap.size W2 W5) := Hid_of (by rw [← HW5.out]; exact bel_up HB3.out (bel_up hb4 (bel1 _ _) (Nat.le_refl _)) (Nat.le_refl _))
  have HPS0 : Hid (PS W2 W5 bm va vb X aL cL aS cS s0) := Hid_of (by
    have hb5 : Below w4.heap.size w4 W5 := by rw [← HW5.out]; exact bel1 _ _
    have hz3 := hb4.size
    have hz2 := HB3.out.size
    refine ⟨(HM.out.keep hb4).keep hb5, hx4.keep hb5, fun k hk => ⟨⟨fun e => ?_, ?_⟩, ?_⟩, by rw [← HW5.out, ← hX]; exact heap_alloc_last w4 _, fun e => ?_, by omega⟩
    · have := (HM.out.mine k e).2; have := (hl4 k hk).1; omega
    · have := (hl4 k hk).2; have := hb5.size; omega
    · have := (hl4 k hk).2; omega
    · have := (HM.out.mine X e).2; omega)
  have HK : Hid (∀ W, Below W2.heap.size W2 W → Below w.heap.size w W ∧ AtL dl W da l) := Hid_of fun W hW => ⟨bel_up HB2.out hW (Nat.le_refl _), HD.out.keep (bel_up HB2.out hW (Nat.le_refl _))⟩
  have HE0 := Hid_of he0
  clear hb4 hx4 hl4 hs0 HNW HM HB2 HB3 HR2 HG2 HD he0
  go_upto_region 5 with fail
  rw [HW5.out]
  clear HW5 hX
  go_wp2_with fail
  go_loopw [8] (fun i wr => ∃ (k : Nat) (vb : Value) (aL : Option Addr) (cL : Nat) (aS : Option Addr) (cS : Nat) (s : S), k ≤ l.length ∧ i = .int .i64 k ∧ Hid (PS W2 wr bm va vb X aL cL aS cS s) ∧ Hid (s.ep ≤ 1 + k)) (fun i _ => l.length - (intOf i).toNat)
  case atStart => exact ⟨0, vb, aL, cL, aS, cS, s0, by omega, rfl, HPS0, Hid_of (by have := HE0.out; omega)⟩
  case round =>
    clear HPS0 HE0 HB5
    obtain ⟨k, vb, aL, cL, aS, cS, s, hk, rfl, HPS, HEP⟩ := hrel
    by_cases hlt : k < l.length
    · have hki : (k : Int) < (l.length : Int) := by omega
      obtain ⟨-, hdl⟩ := HK.out _ HPS.out.gs.bel
      obtain ⟨bd, od, rfl, -⟩ := hdl.getD k hlt
      obtain ⟨d, HDD⟩ : ∃ d, Hid (l[k] = d) := ⟨_, Hid_of rfl⟩
      have HCL : Hid (∀ wq, Below W2.heap.size W2 wq → wq.cell? ⟨bd, od + k * 4, none⟩ = some (.int .i64 d.k) ∧ wq.cell? ⟨bd, od + k * 4 + 1, none⟩ = some (.int .i64 d.a) ∧ wq.cell? ⟨bd, od + k * 4 + 2, none⟩ = some (.int .i64 d.b) ∧ wq.cell? ⟨bd, od + k * 4 + 3, none⟩ = some (.bool d.now)) := Hid_of fun wq hq => by
        obtain ⟨b', o', e, q⟩ := (HK.out _ hq).2.getD k hlt
        cases e
        rw [HDD.out] at q
        exact q
      have hep : 0 ≤ s.ep ∧ s.ep ≤ 1000000 := by have := HEP.out; have := HPS.out.gs.g.ep; omega
      have HE10 : Hid ((Mb.dd s d.k (dA d s.ep) (dB d s.ep)).ep ≤ 1 + ((k + 1 : Nat) : Int)) := Hid_of (by have := HEP.out; have := (Mb.dd_ep s d.k (dA d s.ep) (dB d s.ep)).2; omega)
      have HDO : Hid (∀ wq, Below wr.heap.size wr wq → Calls Try.prog 12 #[.pointer (some ⟨bm, 0, none⟩), mV aL cL aS cS s, .agg #[.int .i64 d.k, .int .i64 d.a, .int .i64 d.b, .bool d.now]] wq (DoOut W2 wq bm va vb aL aS (Mb.dd s d.k (dA d s.ep) (dB d s.ep)))) := Hid_of fun wq hq => do_any (HPS.out.keep hq).gs (HPS.out.keep hq).xd (fun k hk => ((HPS.out.keep hq).ap k hk).1) hep.2 d
      clear HDD hdl hep
      go_upto_region 10 with fail
      go_cut [9, 10] from 44 to 59 (fun u v wx => PC W2 bm va X (Mb.dd s d.k (dA d s.ep) (dB d s.ep)) u v wx)
      case first =>
        clear HE10 HEP HK
        obtain ⟨SQ, HSQ⟩ : ∃ SQ : World → Prop, Hid (SQ = fun wq => Below W2.heap.size W2 wq ∧ wq.heap[X]? = some (.cells #[.slice aL s.l.length cL, .slice aS s.sp.length cS, .int .i64 s.ep, .int .i64 s.hole, .bool s.fl, .int .i64 s.gone] 31 (0, 0))) := ⟨_, Hid_of rfl⟩
        have HSD : Hid (∀ W, Below wr.heap.size wr W → SQ W) := Hid_of fun W hW => by rw [HSQ.out]; exact ⟨(HPS.out.keep hW).gs.bel, (HPS.out.keep hW).bx⟩
        have HSA : Hid (∀ wq, SQ wq → SQ (wq.alloc (.cells #[.slice none 0 0, .slice none 0 0, .int .i64 0, .int .i64 0, .bool false, .int .i64 0] 31))) := Hid_of fun wq hq => by rw [HSQ.out] at hq ⊢; exact ⟨bel_up hq.1 (bel1 _ _) (Nat.le_refl _), bel_row hq.2 (bel1 _ _)⟩
        have HSA2 : Hid (∀ wq (cs : Array Value), SQ wq → SQ (wq.alloc (.cells cs 31))) := Hid_of fun wq cs hq => by rw [HSQ.out] at hq ⊢; exact ⟨bel_up hq.1 (bel1 _ _) (Nat.le_refl _), bel_row hq.2 (bel1 _ _)⟩
        have HT : Hid (∀ wq, SQ wq → (wq.cell? ⟨X, 0, none⟩ = some (.slice aL s.l.length cL) ∧ wq.cell? ⟨X, 1, none⟩ = some (.slice aS s.sp.length cS) ∧ wq.cell? ⟨X, 2, none⟩ = some (.int .i64 s.ep) ∧ wq.cell? ⟨X, 3, none⟩ = some (.int .i64 s.hole) ∧ wq.cell? ⟨X, 4, none⟩ = some (.bool s.fl) ∧ wq.cell? ⟨X, 5, none⟩ = some (.int .i64 s.gone)) ∧ wq.cell? ⟨bd, od + k * 4, none⟩ = some (.int .i64 d.k) ∧ wq.cell? ⟨bd, od + k * 4 + 1, none⟩ = some (.int .i64 d.a) ∧ wq.cell? ⟨bd, od + k * 4 + 2, none⟩ = some (.int .i64 d.b) ∧ wq.cell? ⟨bd, od + k * 4 + 3, none⟩ = some (.bool d.now)) := Hid_of fun wq hq => by rw [HSQ.out] at hq; exact ⟨(row6 hq.2).1, HCL.out _ hq.1⟩
        refine wp_region_held_drew (S := SQ) (by kernel_rfl) (HSD.out _ (Below.drew (Below.refl _ _))) (fun hHeld => ?_)
        obtain ⟨wdx, hwdx⟩ : ∃ wd, wr.drew = wd := ⟨_, rfl⟩
        have hBwd : Below wr.heap.size wr wdx := by rw [← hwdx]; exact Below.drew (Below.refl _ _)
        rw [hwdx] at hHeld ⊢
        clear hwdx
        have HSP : Hid (∀ wq (a b c d e f : Value), SQ wq → SQ (put6 wq wdx.heap.size a b c d e f)) := Hid_of fun wq a b c d e f hq => by
          rw [HSQ.out] at hq ⊢
          have h1 := (HPS.out.keep hBwd).lt
          have h2 := (HPS.out.keep hBwd).gs.bel.size
          exact ⟨put6_bel hq.1 h2 _ _ _ _ _ _, (put6_oth (by omega) _ _ _ _ _ _).trans hq.2⟩
        have hsd : SQ wdx := HSD.out _ hBwd
        refine Tm 0 ?p0x ?v0x hHeld ?r0x
        refine Tk 1 ?p1x ?v1x ?y1x hHeld ?r1x
        case y1x => intro wq hq; obtain ⟨⟨q0, q1, q2, q3, q4, q5⟩, z0, z1, z2, z3⟩ := HT.out wq hq; go_simp; try with_reducible rfl
        refine Tm 2 ?p2x ?v2x hHeld ?r2x
        refine Tm 3 ?p3x ?v3x hHeld ?r3x
        refine Tm 4 ?p4x ?v4x hHeld ?r4x
        refine Tk 5 ?p5x ?v5x ?y5x hHeld ?r5x
        case y5x => intro wq hq; obtain ⟨⟨q0, q1, q2, q3, q4, q5⟩, z0, z1, z2, z3⟩ := HT.out wq hq; go_simp; try with_reducible rfl
        simp only [Act.put, Pa, Pb, Pc]
        refine Rn [6, 10] (Rc ?p6x ?s6x (Rc ?p10x ?s10x AllReadyH.nil))
        case s6x =>
          intro K hK
          go_simp
          refine (HDO.out wdx hBwd).mono ?_
          rintro e w6 ⟨vb6, aL6, cL6, aS6, cS6, rfl, hg6, hx6, hl6, hf6⟩
          have hs6 : SQ w6 := by
            rw [HSQ.out]
            exact ⟨hg6.bel, (hf6.block X (((HPS.out.keep hBwd)).lt) HPS.out.nx).trans ((HPS.out.keep hBwd)).bx⟩
          have HG6 := Hid_of hg6
          have HX6 := Hid_of hx6
          have HL6 := Hid_of hl6
          have HF6 := Hid_of hf6
          have HBWD := Hid_of hBwd
          clear hg6 hx6 hl6 hf6
          refine hK.out _ _ hs6 (fun hHeld => ?_)
          clear hK K
          refine Tm 7 ?p7x_6 ?v7x_6 hHeld ?r7x_6
          refine Tm 8 ?p8x_6 ?v8x_6 hHeld ?r8x_6
          refine Tm 9 ?p9x_6 ?v9x_6 hHeld ?r9x_6
          simp only [Act.put, Pa, Pb, Pc]
          refine Rd 10 ?p10x_6 ?s10x_6
          intro K hK
          go_simp
          refine hK.out _ _ (HSA.out _ hs6) (fun hHeld => ?_)
          clear hK K
          refine Rd 11 ?p11x_6_10 ?s11x_6_10
          intro K hK
          have hpc := PC_A (HPS.out.keep HBWD.out) HG6.out HX6.out HL6.out HF6.out
          have hal := heap_alloc_last w6 (.cells #[.slice none 0 0, .slice none 0 0, .int .i64 0, .int .i64 0, .bool false, .int .i64 0] 31)
          obtain ⟨⟨k0, k1, k2, k3, k4, k5⟩, kf⟩ := row6 hal
          have kf0 := kf 0
          have kf1 := kf 1
          have kf2 := kf 2
          have kf3 := kf 3
          have kf4 := kf 4
          have kf5 := kf 5
          have HPC := Hid_of hpc
          have hs7 := HSA2.out _ #[.slice aL6 (Mb.dd s d.k (dA d s.ep) (dB d s.ep)).l.length cL6, .slice aS6 (Mb.dd s d.k (dA d s.ep) (dB d s.ep)).sp.length cS6, .int .i64 (Mb.dd s d.k (dA d s.ep) (dB d s.ep)).ep, .int .i64 (Mb.dd s d.k (dA d s.ep) (dB d s.ep)).hole, .bool (Mb.dd s d.k (dA d s.ep) (dB d s.ep)).fl, .int .i64 (Mb.dd s d.k (dA d s.ep) (dB d s.ep)).gone] hs6
          clear hal kf hpc
          go_simp
          refine hK.out _ _ hs7 (fun hHeld => ?_)
          clear hK K
          refine Tm 12 ?p12x_6_10_11 ?v12x_6_10_11 hHeld ?r12x_6_10_11
          simp only [Act.put, Pa, Pb, Pc]
          refine wpAnyH_done (by kernel_rfl) ?_ _
          clear hHeld HT HSQ HSA HSA2 HDO
          go_wp2_with fail
          go_meet
          case rel => exact HPC.out
        case s10x =>
          intro K hK
          go_simp
          refine hK.out _ _ (HSA.out _ hsd) (fun hHeld => ?_)
          clear hK K
          refine Rd 6 ?p6x_10 ?s6x_10
          intro K hK
          go_simp
          refine (HDO.out (wdx.alloc (.cells #[.slice none 0 0, .slice none 0 0, .int .i64 0, .int .i64 0, .bool false, .int .i64 0] 31)) (bel_up hBwd (bel1 _ _) (Nat.le_refl _))).mono ?_
          rintro e w6 ⟨vb6, aL6, cL6, aS6, cS6, rfl, hg6, hx6, hl6, hf6⟩
          have hs6 : SQ w6 := by
            rw [HSQ.out]
            exact ⟨hg6.bel, (hf6.block X (((HPS.out.keep (bel_up hBwd (bel1 _ _) (Nat.le_refl _)))).lt) HPS.out.nx).trans ((HPS.out.keep (bel_up hBwd (bel1 _ _) (Nat.le_refl _)))).bx⟩
          have HG6 := Hid_of hg6
          have HX6 := Hid_of hx6
          have HL6 := Hid_of hl6
          have HF6 := Hid_of hf6
          have HBWD := Hid_of hBwd
          clear hg6 hx6 hl6 hf6
          refine hK.out _ _ hs6 (fun hHeld => ?_)
          clear hK K
          refine Tm 7 ?p7x_10_6 ?v7x_10_6 hHeld ?r7x_10_6
          refine Tm 8 ?p8x_10_6 ?v8x_10_6 hHeld ?r8x_10_6
          refine Tm 9 ?p9x_10_6 ?v9x_10_6 hHeld ?r9x_10_6
          simp only [Act.put, Pa, Pb, Pc]
          refine Rd 11 ?p11x_10_6 ?s11x_10_6
          intro K hK
          obtain ⟨hy, hpc⟩ := PC_B (HPS.out.keep HBWD.out) HG6.out HX6.out HL6.out HF6.out
          obtain ⟨⟨k0, k1, k2, k3, k4, k5⟩, kf⟩ := row6 hy
          have kf0 := kf 0
          have kf1 := kf 1
          have kf2 := kf 2
          have kf3 := kf 3
          have kf4 := kf 4
          have kf5 := kf 5
          have hs7 : SQ (put6 w6 wdx.heap.size (.slice aL6 (Mb.dd s d.k (dA d s.ep) (dB d s.ep)).l.length cL6) (.slice aS6 (Mb.dd s d.k (dA d s.ep) (dB d s.ep)).sp.length cS6) (.int .i64 (Mb.dd s d.k (dA d s.ep) (dB d s.ep)).ep) (.int .i64 (Mb.dd s d.k (dA d s.ep) (dB d s.ep)).hole) (.bool (Mb.dd s d.k (dA d s.ep) (dB d s.ep)).fl) (.int .i64 (Mb.dd s d.k (dA d s.ep) (dB d s.ep)).gone)) := HSP.out _ _ _ _ _ _ _ hs6
          obtain ⟨w7, hw7⟩ : ∃ w7, ((((((w6).setCell ⟨wdx.heap.size, 0, none⟩ (.slice aL6 (Mb.dd s d.k (dA d s.ep) (dB d s.ep)).l.length cL6)).setCell ⟨wdx.heap.size, 1, none⟩ (.slice aS6 (Mb.dd s d.k (dA d s.ep) (dB d s.ep)).sp.length cS6)).setCell ⟨wdx.heap.size, 2, none⟩ (.int .i64 (Mb.dd s d.k (dA d s.ep) (dB d s.ep)).ep)).setCell ⟨wdx.heap.size, 3, none⟩ (.int .i64 (Mb.dd s d.k (dA d s.ep) (dB d s.ep)).hole)).setCell ⟨wdx.heap.size, 4, none⟩ (.bool (Mb.dd s d.k (dA d s.ep) (dB d s.ep)).fl)).setCell ⟨wdx.heap.size, 5, none⟩ (.int .i64 (Mb.dd s d.k (dA d s.ep) (dB d s.ep)).gone) = w7 := ⟨_, rfl⟩
          rw [show put6 w6 wdx.heap.size (.slice aL6 (Mb.dd s d.k (dA d s.ep) (dB d s.ep)).l.length cL6) (.slice aS6 (Mb.dd s d.k (dA d s.ep) (dB d s.ep)).sp.length cS6) (.int .i64 (Mb.dd s d.k (dA d s.ep) (dB d s.ep)).ep) (.int .i64 (Mb.dd s d.k (dA d s.ep) (dB d s.ep)).hole) (.bool (Mb.dd s d.k (dA d s.ep) (dB d s.ep)).fl) (.int .i64 (Mb.dd s d.k (dA d s.ep) (dB d s.ep)).gone) = w7 from hw7] at hpc hs7
          have HPC := Hid_of hpc
          have HW7 := Hid_of hw7
          clear hy kf hpc hw7
          go_simp
          rw [HW7.out]
          clear HW7
          refine hK.out _ _ hs7 (fun hHeld => ?_)
          clear hK K
          refine Tm 12 ?p12x_10_6_11 ?v12x_10_6_11 hHeld ?r12x_10_6_11
          simp only [Act.put, Pa, Pb, Pc]
          refine wpAnyH_done (by kernel_rfl) ?_ _
          clear hHeld HT HSQ HSA HSA2 HDO
          go_wp2_with fail
          go_meet
          case rel => exact HPC.out
      case rest =>
        obtain ⟨y, vb7, aL7, cL7, aS7, cS7, rfl, rfl, hg7, hx7, hl7, hy7, ⟨r0, r1, r2, r3, r4, r5, hX7⟩, hn7, hlo7⟩ := hcut
        clear HDO HCL HPS
        obtain ⟨s7, hs7⟩ : ∃ s', (Mb.dd s d.k (dA d s.ep) (dB d s.ep)) = s' := ⟨_, rfl⟩
        rw [hs7] at hg7 hx7 hy7 HE10
        clear hs7
        have hps := PS_set hg7 hx7 hl7 hX7 hn7 hlo7
        obtain ⟨⟨q0, q1, q2, q3, q4, q5⟩, -⟩ := row6 hy7
        obtain ⟨⟨k0, k1, k2, k3, k4, k5⟩, kf⟩ := row6 hX7
        have kf0 := kf 0
        have kf1 := kf 1
        have kf2 := kf 2
        have kf3 := kf 3
        have kf4 := kf 4
        have kf5 := kf 5
        obtain ⟨W7, HW7⟩ : ∃ W7, Hid (((((((wc).setCell ⟨X, 0, none⟩ (.slice aL7 s7.l.length cL7)).setCell ⟨X, 1, none⟩ (.slice aS7 s7.sp.length cS7)).setCell ⟨X, 2, none⟩ (.int .i64 s7.ep)).setCell ⟨X, 3, none⟩ (.int .i64 s7.hole)).setCell ⟨X, 4, none⟩ (.bool s7.fl)).setCell ⟨X, 5, none⟩ (.int .i64 s7.gone) = W7) := ⟨_, rfl⟩
        rw [show put6 wc X (.slice aL7 s7.l.length cL7) (.slice aS7 s7.sp.length cS7) (.int .i64 s7.ep) (.int .i64 s7.hole) (.bool s7.fl) (.int .i64 s7.gone) = W7 from HW7.out] at hps
        have HPS7 := Hid_of hps
        clear hps hg7 hx7 hl7 hy7 hX7 hn7 hlo7 kf
        go_upto_region 12 with fail
        rw [HW7.out]
        clear HW7 q0 q1 q2 q3 q4 q5 k0 k1 k2 k3 k4 k5 kf0 kf1 kf2 kf3 kf4 kf5
        obtain ⟨ep7, hep7⟩ : ∃ e, s7.ep = e := ⟨_, rfl⟩
        obtain ⟨ho7, hho7⟩ : ∃ e, s7.hole = e := ⟨_, rfl⟩
        have HE7 := Hid_of hep7
        have HO7 := Hid_of hho7
        have u1 : (ep7 != ep7) = false := by simp
        have u2 : (ho7 != ho7) = false := by simp
        clear hep7 hho7
        have HS : Hid (∀ wq, Below W7.heap.size W7 wq → wq.cell? ⟨X, 0, none⟩ = some (.slice aL7 s7.l.length cL7) ∧ wq.cell? ⟨X, 1, none⟩ = some (.slice aS7 s7.sp.length cS7) ∧ wq.cell? ⟨X, 2, none⟩ = some (.int .i64 ep7) ∧ wq.cell? ⟨X, 3, none⟩ = some (.int .i64 ho7) ∧ wq.cell? ⟨X, 4, none⟩ = some (.bool s7.fl) ∧ wq.cell? ⟨X, 5, none⟩ = some (.int .i64 s7.gone)) := Hid_of fun wq hq => by
          have := (row6 (HPS7.out.keep hq).bx).1
          rw [HE7.out, HO7.out] at this
          exact this
        refine wp_region_held_drew (S := fun wq => Below (W7).heap.size (W7) wq) (by kernel_rfl) (Below.drew (Below.refl _ _)) (fun hHeld => ?_)
        obtain ⟨wdy, hwdy⟩ : ∃ wd, W7.drew = wd := ⟨_, rfl⟩
        have hBwd : Below W7.heap.size W7 wdy := by rw [← hwdy]; exact Below.drew (Below.refl _ _)
        rw [hwdy] at hHeld ⊢
        clear hwdy
        refine Tm 0 ?p0y ?v0y hHeld ?r0y
        simp only [Act.put, Pa, Pb, Pc]
        refine Tm 1 ?p1y ?v1y hHeld ?r1y
        simp only [Act.put, Pa, Pb, Pc]
        refine Tm 2 ?p2y ?v2y hHeld ?r2y
        simp only [Act.put, Pa, Pb, Pc]
        refine Tm 3 ?p3y ?v3y hHeld ?r3y
        simp only [Act.put, Pa, Pb, Pc]
        refine Tm 5 ?p5y ?v5y hHeld ?r5y
        simp only [Act.put, Pa, Pb, Pc]
        refine Tk 6 ?p6y ?v6y ?y6y hHeld ?r6y
        case y6y => intro wq hq; obtain ⟨q0, q1, q2, q3, q4, q5⟩ := HS.out wq hq; go_simp; try with_reducible rfl
        simp only [Act.put, Pa, Pb, Pc]
        refine Rd 4 ?p4y ?s4y
        intro K hK
        go_simp
        refine (HPS7.out.keep hBwd).gs.epoch.mono ?_
        rw [HE7.out]
        rintro e v4 ⟨rfl, hq4⟩
        obtain rfl := hq4.symm
        clear hq4
        refine hK.out _ _ hHeld (fun hHeld => ?_)
        clear hK K
        refine Tm 7 ?p7y_4 ?v7y_4 hHeld ?r7y_4
        simp only [Act.put, Pa, Pb, Pc]
        refine Tm 8 ?p8y_4 ?v8y_4 hHeld ?r8y_4
        simp only [Act.put, Pa, Pb, Pc]
        refine Tm 9 ?p9y_4 ?v9y_4 hHeld ?r9y_4
        simp only [Act.put, Pa, Pb, Pc]
        refine Tm 10 ?p10y_4 ?v10y_4 hHeld ?r10y_4
        simp only [Act.put, Pa, Pb, Pc]
        refine Tm 12 ?p12y_4 ?v12y_4 hHeld ?r12y_4
        simp only [Act.put, Pa, Pb, Pc]
        refine Tk 13 ?p13y_4 ?v13y_4 ?y13y_4 hHeld ?r13y_4
        case y13y_4 => intro wq hq; obtain ⟨q0, q1, q2, q3, q4, q5⟩ := HS.out wq hq; go_simp; try with_reducible rfl
        simp only [Act.put, Pa, Pb, Pc]
        refine Rd 11 ?p11y_4 ?s11y_4
        intro K hK
        go_simp
        refine (HPS7.out.keep hBwd).gs.hole.mono ?_
        rw [HO7.out]
        rintro e v11 ⟨rfl, hq11⟩
        obtain rfl := hq11.symm
        clear hq11
        refine hK.out _ _ hHeld (fun hHeld => ?_)
        clear hK K
        refine Tm 14 ?p14y_4_11 ?v14y_4_11 hHeld ?r14y_4_11
        simp only [Act.put, Pa, Pb, Pc]
        refine Tm 15 ?p15y_4_11 ?v15y_4_11 hHeld ?r15y_4_11
        simp only [Act.put, Pa, Pb, Pc]
        refine Tm 16 ?p16y_4_11 ?v16y_4_11 hHeld ?r16y_4_11
        simp only [Act.put, Pa, Pb, Pc]
        refine Tm 17 ?p17y_4_11 ?v17y_4_11 hHeld ?r17y_4_11
        simp only [Act.put, Pa, Pb, Pc]
        refine Tm 19 ?p19y_4_11 ?v19y_4_11 hHeld ?r19y_4_11
        simp only [Act.put, Pa, Pb, Pc]
        refine Tk 20 ?p20y_4_11 ?v20y_4_11 ?y20y_4_11 hHeld ?r20y_4_11
        case y20y_4_11 => intro wq hq; obtain ⟨q0, q1, q2, q3, q4, q5⟩ := HS.out wq hq; go_simp; try with_reducible rfl
        simp only [Act.put, Pa, Pb, Pc]
        refine Rd 18 ?p18y_4_11 ?s18y_4_11
        intro K hK
        go_simp
        refine (HPS7.out.keep hBwd).gs.servers.mono ?_
        rintro e v18 ⟨rfl, ho18, hb18⟩
        have hc18 := bel_up hBwd hb18 (Nat.le_refl _)
        have HO18 := Hid_of ho18
        clear hb18 ho18
        refine hK.out _ _ hc18 (fun hHeld => ?_)
        clear hK K
        refine Rd 21 ?p21y_4_11_18 ?s21y_4_11_18
        intro K hK
        go_simp
        obtain ⟨ao, co, hao, hxo, -⟩ := HO18.out.at
        simp only [Value.slice.injEq] at hao
        obtain ⟨rfl, -, rfl⟩ := hao
        refine (HPS7.out.sm1 hc18 hxo.at').mono ?_
        rintro e v21 ⟨rfl, hb21⟩
        have hc21 := bel_up hc18 hb21 (Nat.le_refl _)
        clear hb21 hxo HO18
        refine hK.out _ _ hc21 (fun hHeld => ?_)
        clear hK K
        refine Tm 22 ?p22y_4_11_18_21 ?v22y_4_11_18_21 hHeld ?r22y_4_11_18_21
        simp only [Act.put, Pa, Pb, Pc]
        refine Tm 23 ?p23y_4_11_18_21 ?v23y_4_11_18_21 hHeld ?r23y_4_11_18_21
        simp only [Act.put, Pa, Pb, Pc]
        refine Tm 24 ?p24y_4_11_18_21 ?v24y_4_11_18_21 hHeld ?r24y_4_11_18_21
        simp only [Act.put, Pa, Pb, Pc]
        refine Tm 25 ?p25y_4_11_18_21 ?v25y_4_11_18_21 hHeld ?r25y_4_11_18_21
        simp only [Act.put, Pa, Pb, Pc]
        refine Tm 27 ?p27y_4_11_18_21 ?v27y_4_11_18_21 hHeld ?r27y_4_11_18_21
        simp only [Act.put, Pa, Pb, Pc]
        refine Tk 28 ?p28y_4_11_18_21 ?v28y_4_11_18_21 ?y28y_4_11_18_21 hHeld ?r28y_4_11_18_21
        case y28y_4_11_18_21 => intro wq hq; obtain ⟨q0, q1, q2, q3, q4, q5⟩ := HS.out wq hq; go_simp; try with_reducible rfl
        simp only [Act.put, Pa, Pb, Pc]
        refine Rd 26 ?p26y_4_11_18_21 ?s26y_4_11_18_21
        intro K hK
        go_simp
        refine (HPS7.out.keep hc21).gs.spares.mono ?_
        rintro e v26 ⟨rfl, ho26, hb26⟩
        have hc26 := bel_up hc21 hb26 (Nat.le_refl _)
        have HO26 := Hid_of ho26
        clear hb26 ho26
        refine hK.out _ _ hc26 (fun hHeld => ?_)
        clear hK K
        refine Rd 29 ?p29y_4_11_18_21_26 ?s29y_4_11_18_21_26
        intro K hK
        go_simp
        obtain ⟨ao, co, hao, hxo, -⟩ := HO26.out.at
        simp only [Value.slice.injEq] at hao
        obtain ⟨rfl, -, rfl⟩ := hao
        refine (HPS7.out.sm2 hc26 hxo.at').mono ?_
        rintro e v29 ⟨rfl, hb29⟩
        have hc29 := bel_up hc26 hb29 (Nat.le_refl _)
        clear hb29 hxo HO26
        refine hK.out _ _ hc29 (fun hHeld => ?_)
        clear hK K
        refine Tm 30 ?p30y_4_11_18_21_26_29 ?v30y_4_11_18_21_26_29 hHeld ?r30y_4_11_18_21_26_29
        simp only [Act.put, Pa, Pb, Pc]
        refine Tm 31 ?p31y_4_11_18_21_26_29 ?v31y_4_11_18_21_26_29 hHeld ?r31y_4_11_18_21_26_29
        simp only [Act.put, Pa, Pb, Pc]
        refine wpAnyH_done (by kernel_rfl) ?_ _
        have HPS8 := Hid_of (HPS7.out.keep hc29)
        clear hc29 hHeld
        go_wp2
        go_roundw
        case rel => first | exact ⟨k + 1, vb7, aL7, cL7, aS7, cS7, s7, by omega, by go_num, HPS8, HE10⟩ | ((repeat apply Exists.intro); exact ⟨⟨by omega, by go_num, HPS8, HE10⟩, rfl⟩)
        case measure => simp [intOf]; omega
    · have hkn : k = l.length := by omega
      subst hkn
      have HB := Hid_of (HK.out _ HPS.out.gs.bel).1
      have HPS9 := HPS
      obtain ⟨tx, htx⟩ : ∃ t, ofL (Mb.txt s) = t := ⟨_, rfl⟩
      have HTX := Hid_of htx
      have HEP9 : Hid (s.ep ≤ 9223372036854775807) := Hid_of (by have := HEP.out; omega)
      have HS : Hid (∀ wq, Below wr.heap.size wr wq → wq.cell? ⟨X, 0, none⟩ = some (.slice aL s.l.length cL) ∧ wq.cell? ⟨X, 1, none⟩ = some (.slice aS s.sp.length cS) ∧ wq.cell? ⟨X, 2, none⟩ = some (.int .i64 s.ep) ∧ wq.cell? ⟨X, 3, none⟩ = some (.int .i64 s.hole) ∧ wq.cell? ⟨X, 4, none⟩ = some (.bool s.fl) ∧ wq.cell? ⟨X, 5, none⟩ = some (.int .i64 s.gone)) := Hid_of fun wq hq => (row6 (HPS9.out.keep hq).bx).1
      clear HK HPS HEP htx
      go_upto_region 14 with fail
      refine wp_region_held_drew (S := fun wq => Below (wr).heap.size (wr) wq) (by kernel_rfl) (Below.drew (Below.refl _ _)) (fun hHeld => ?_)
      obtain ⟨wdz, hwdz⟩ : ∃ wd, wr.drew = wd := ⟨_, rfl⟩
      have hBwd : Below wr.heap.size wr wdz := by rw [← hwdz]; exact Below.drew (Below.refl _ _)
      rw [hwdz] at hHeld ⊢
      clear hwdz
      refine Tm 0 ?p0z ?v0z hHeld ?r0z
      simp only [Act.put, Pa, Pb, Pc]
      refine Tk 2 ?p2z ?v2z ?y2z hHeld ?r2z
      case y2z => intro wq hq; obtain ⟨q0, q1, q2, q3, q4, q5⟩ := HS.out wq hq; go_simp; try with_reducible rfl
      simp only [Act.put, Pa, Pb, Pc]
      refine Rd 1 ?p1z ?s1z
      intro K hK
      go_simp
      refine ((HPS9.out.keep hBwd).gs.text HEP9.out).mono ?_
      rw [HTX.out]
      rintro e v1 ⟨rfl, hb1⟩
      have hc1 := bel_up hBwd hb1 (Nat.le_refl _)
      clear hb1
      refine hK.out _ _ hc1 (fun hHeld => ?_)
      clear hK K
      refine Rd 3 ?p3z_1 ?s3z_1
      intro K hK
      go_simp
      refine (rtext_any (HPS9.out.keep hc1).xd HPS9.out.gs.g HEP9.out).mono ?_
      rw [HTX.out]
      rintro e v3 ⟨rfl, hb3⟩
      have hc3 := bel_up hc1 hb3 (Nat.le_refl _)
      clear hb3
      refine hK.out _ _ hc3 (fun hHeld => ?_)
      clear hK K
      refine Tm 4 ?p4z_1_3 ?v4z_1_3 hHeld ?r4z_1_3
      simp only [Act.put, Pa, Pb, Pc]
      refine Tm 5 ?p5z_1_3 ?v5z_1_3 hHeld ?r5z_1_3
      simp only [Act.put, Pa, Pb, Pc]
      refine Rd 6 ?p6z_1_3 ?s6z_1_3
      intro K hK
      go_simp
      refine (awake_any v3).mono ?_
      rintro e v6 ⟨rfl, hb6⟩
      have hc6 := bel_up hc3 hb6 (Nat.le_refl _)
      clear hb6
      refine hK.out _ _ hc6 (fun hHeld => ?_)
      clear hK K
      refine Tm 7 ?p7z_1_3_6 ?v7z_1_3_6 hHeld ?r7z_1_3_6
      simp only [Act.put, Pa, Pb, Pc]
      refine Tm 8 ?p8z_1_3_6 ?v8z_1_3_6 hHeld ?r8z_1_3_6
      simp only [Act.put, Pa, Pb, Pc]
      refine wpAnyH_done (by kernel_rfl) ?_ _
      have HZ := Hid_of (bel_up HB.out hc6 (Nat.le_refl _))
      clear hc6 hHeld
      go_wp2
      go_ret
      exact ⟨rfl, HZ.out⟩
end Go.Proofs.Ytacfndfkoiifhaa
