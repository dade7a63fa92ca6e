/-
  A state that is written, but not flushed, and then torn by a crash.
-/
import Derived.Test.YthffglacokfkgaaLastW
namespace Go.Proofs.Ythffglacokfkgaa
open Go.RowKit
open M (ofL ofL_size ofL_of)
set_option linter.unusedVariables false

theorem read_plc {Q : List M.Pl} (k : Nat) (hk : k < 2) : M.refused 8 false ((k * 4 : Nat) : Int) 4 = 0 ∧ M.rtext 8 false Q ((k * 4 : Nat) : Int) 4 = ofL (plc Q k) := by
  have hr : M.refused 8 false ((k * 4 : Nat) : Int) 4 = 0 := by
    rcases (show k = 0 ∨ k = 1 by omega) with rfl | rfl <;> rfl
  refine ⟨hr, ?_⟩
  unfold M.rtext
  rw [hr, Int.toNat_natCast]
  rfl
/-- What stands there behind a Write that is cut; S, G: what is read. -/
structure CS (w0 w : World) (b : Nat) (F : Nat → Prop) (m : Nat) (wt : List UInt8) (body : ByteArray) (Q : List M.Pl) (G : Nat) (S : ByteArray) : Prop where
  d : DS w0 w b F 8 Q false
  r : rdP Q = (G, S.data.toList)
  g1 : 1 ≤ G
  lt : G < 4294967296
  same : G = m → S = ofL wt
  other : ¬ G = m → Sp.ok ((m + 1) % 2) (plc Q ((m + 1) % 2)) = true ∧ S = ofL (Sp.bd (plc Q ((m + 1) % 2))) ∧ G = Sp.nm (plc Q ((m + 1) % 2)) 0 ∧ (ofL (plc Q ((m + 1) % 2)) = ofL (Sp.pk body.data.toList (m + 1)) → S = body ∧ G = m + 1)
theorem CS.keep {w0 w w' : World} {b : Nat} {F : Nat → Prop} {m : Nat} {wt : List UInt8} {body : ByteArray} {Q : List M.Pl} {G : Nat} {S : ByteArray} (h : CS w0 w b F m wt body Q G S) (hb : Below w.heap.size w w') : CS w0 w' b F m wt body Q G S := ⟨h.d.keep hb, h.r, h.g1, h.lt, h.same, h.other⟩
/-- The bytes are written. -/
theorem LS.lay {w0 w : World} {b : Nat} {F : Nat → Prop} {P : List M.Pl} {m : Nat} {wt : List UInt8} (h : LS w0 w b F P m wt) (body : ByteArray) (hb : body.size ≤ 244) (h1 : 1 ≤ m) (h2 : m < 2147483647) :
    Calls Try.prog 14 #[.pointer (some ⟨b, 0, none⟩), .int .i64 ((m + 1) % 2 * 4 : Nat), .string (ofL (Sp.pk body.data.toList (m + 1)))] w fun e w' => ∃ G P', e = .returned (.int .i64 0) ∧ DS w0 w' b G 8 P' false ∧
      ∀ (keep : Nat) (tear : Int), keep < 18446744073709551616 → ∀ W, Below w'.heap.size w' W → Calls Try.prog 12 #[.pointer (some ⟨b, 0, none⟩), .int .u64 keep, .int .i64 tear] W fun e w'' => ∃ H Q g s, e = .returned (.tuple #[]) ∧ CS w0 w'' b H m wt body Q g s := by
  obtain ⟨hz, hc, he⟩ := write_code (m + 1) body P hb
  refine (h.d.write _ _ (by rw [hz]; omega)).mono ?_
  rintro e w' ⟨G, k1, k2, _⟩
  rw [hc] at k1
  rw [he] at k2
  refine ⟨G, _, k1, k2, fun keep tear hk W hW => ?_⟩
  refine ((k2.keep hW).crash keep tear hk).mono ?_
  rintro e w'' ⟨H, j1, j2, _⟩
  have hr := h.r
  have hcut := rd_cut h.d.len h.d.ok.1 h.n (by rw [hr]; exact h1) (by rw [hr]; exact h2) body.data.toList (by rw [len_data]; exact hb) keep tear _ rfl
  rw [hr] at hcut
  simp only at hcut
  generalize M.crash (M.wr P ((m + 1) % 2 * 4) (ofL (Sp.pk body.data.toList (m + 1))) 4) keep tear = Q at *
  obtain ⟨c1, c2, c3⟩ := hcut
  refine ⟨H, Q, (rdP Q).1, ofL (rdP Q).2, j1, j2, by rw [ofL_data], c1, ?_, fun e => by rw [c2 e], fun e => ?_⟩
  · rcases rd_par (both Q) with ⟨e, _⟩ | ⟨_, e, _⟩
    · show (Sp.rd (both Q)).1 < _; omega
    · show (Sp.rd (both Q)).1 < _; omega
  · obtain ⟨d1, d2, d3⟩ := c3 e
    refine ⟨d1, by rw [d2], by rw [d2], fun e' => ?_⟩
    have e'' : plc Q ((m + 1) % 2) = Sp.pk body.data.toList (m + 1) := by
      have := congrArg (fun t : ByteArray => t.data.toList) e'
      simpa [ofL_data] using this
    rw [d3 e'']
    exact ⟨ofL_of body, rfl⟩
theorem CS.sread {w0 w : World} {b : Nat} {F : Nat → Prop} {m : Nat} {wt : List UInt8} {body : ByteArray} {Q : List M.Pl} {G : Nat} {S : ByteArray} (h : CS w0 w b F m wt body Q G S) :
    Calls Try.prog 13 #[.pointer (some ⟨b, 0, none⟩)] w fun e w' => e = .returned (.tuple #[.string S, .int .i64 G, .int .i64 0]) ∧ CS w0 w' b F m wt body Q G S := by
  have := h.d.sread
  rw [h.r, rcode_s _ _ h.g1] at this
  simp only [ofL_of] at this
  exact this.mono fun e w' h' => ⟨h'.1, h.keep h'.2⟩
theorem CS.now {w0 w : World} {b : Nat} {F : Nat → Prop} {m : Nat} {wt : List UInt8} {body : ByteArray} {Q : List M.Pl} {G : Nat} {S : ByteArray} (h : CS w0 w b F m wt body Q G S) :
    Calls Try.prog 15 #[.pointer (some ⟨b, 0, none⟩), .int .i64 ((m + 1) % 2 * 4 : Nat), .int .i64 4] w fun e w' => e = .returned (.tuple #[.string (ofL (plc Q ((m + 1) % 2))), .int .i64 0]) ∧ CS w0 w' b F m wt body Q G S := by
  have := h.d.read ((m + 1) % 2 * 4 : Nat) 4 (by omega)
  rw [(read_plc (Q := Q) ((m + 1) % 2) (by omega)).1, (read_plc ((m + 1) % 2) (by omega)).2] at this
  exact this.mono fun e w' h' => ⟨h'.1, h.keep h'.2.1⟩
theorem CS.right {w0 w : World} {b : Nat} {F : Nat → Prop} {m : Nat} {wt : List UInt8} {body : ByteArray} {Q : List M.Pl} {G : Nat} {S : ByteArray} (h : CS w0 w b F m wt body Q G S) (hne : ¬ G = m) :
    Calls Try.prog 16 #[.string (ofL (plc Q ((m + 1) % 2))), .int .i64 ((m + 1) % 2 * 4 : Nat)] w fun e w' => e = .returned (.tuple #[.string S, .int .i64 G, .bool true]) ∧ Below w.heap.size w w' := by
  have hs : (ofL (plc Q ((m + 1) % 2))).size = 256 := by rw [ofL_size, plc_len h.d.len h.d.ok.1 _ (by omega)]
  have := right_any ((m + 1) % 2) (ofL (plc Q ((m + 1) % 2))) w hs
  rw [ofL_data] at this
  obtain ⟨o1, o2, o3, _⟩ := h.other hne
  rw [o1] at this
  refine this.mono ?_
  rintro e w' ⟨x, y, h1, h2, h3⟩
  obtain ⟨rfl, rfl⟩ := h2 rfl
  rw [← o2, ← o3] at h1
  exact ⟨h1, h3⟩
theorem row4d {w : World} {k : Nat} {v0 v1 v2 v3 : Value} {t : TypeId} (h : w.heap[k]? = some (.cells #[v0, v1, v2, v3] t (0, 0))) : w.cell? ⟨k, 1, none⟩ = some v1 ∧ w.cell? ⟨k, 3, none⟩ = some v3 := ⟨(row4 h).1.2.1, (row4 h).1.2.2.2⟩
set_option maxRecDepth 100000 in
set_option maxHeartbeats 800000 in
theorem cut_walk (a : Option Addr) (cap : Nat) (l : List ByteArray) (body : ByteArray) (kind tear : Int) (txt : ByteArray) (keep : Nat) (w : World) (hl : l.length ≤ maxLen) (hat : AtV w a (SC l)) (hsz : ∀ s ∈ l, s.size ≤ maxLen) (hbz : body.size ≤ maxLen) (hk : keep < 18446744073709551616) :
    Calls Try.prog 5 #[.slice a l.length cap, .string body, .agg #[.int .i64 kind, .int .i64 tear, .string txt, .int .u64 keep]] w fun e w' => e = .returned (.bool true) ∧ Below w.heap.size w w' := by
  unfold maxLen at hl
  obtain ⟨W0, hW0⟩ : ∃ W0, w.alloc (.cells #[.int .i64 kind, .int .i64 tear, .string txt, .int .u64 keep] 40) = W0 := ⟨_, rfl⟩
  have HB0 : Hid (Below w.heap.size w W0) := by rw [← hW0]; exact bel1 w _
  have hr0 : W0.heap[w.heap.size]? = some (.cells #[.int .i64 kind, .int .i64 tear, .string txt, .int .u64 keep] 40 (0, 0)) := by rw [← hW0]; exact heap_alloc_last w _
  have HD : Hid (∀ W, Below W0.heap.size W0 W → W.cell? ⟨w.heap.size, 1, none⟩ = some (.int .i64 tear) ∧ W.cell? ⟨w.heap.size, 3, none⟩ = some (.int .u64 keep)) := fun W hW => row4d (bel_row hr0 hW)
  have HAT := Hid_of (hat.keep HB0.out)
  have HW0 := Hid_of hW0
  have HSZ := Hid_of hsz
  clear hat hsz hW0 hr0
  by_cases hlen : l.length = 0 ∨ 10 < l.length
  · have HBE := HB0
    rcases hlen with h0 | h0
    · have d0 : ((l.length : Int) == 0) = true := by rw [h0]; rfl
      go_enter Try.func5, Try.ntmps5
      go_upto_region 1 with fail
      rw [HW0.out]
      go_wp2_with fail
      refine (awake_any _).mono ?_
      rintro x w9 ⟨rfl, hb9⟩
      have HB9 := Hid_of (bel_up HBE.out hb9 (Nat.le_refl _))
      clear hb9 HBE
      go_wp2
      go_ret
      exact ⟨rfl, HB9.out⟩
    · have d0 : ((l.length : Int) == 0) = false := by rw [beq_eq_false_iff_ne]; omega
      have d1 : decide ((10 : Int) < (l.length : Int)) = true := decide_eq_true (by omega)
      go_enter Try.func5, Try.ntmps5
      go_upto_region 1 with fail
      rw [HW0.out]
      go_wp2_with fail
      refine (awake_any _).mono ?_
      rintro x w9 ⟨rfl, hb9⟩
      have HB9 := Hid_of (bel_up HBE.out hb9 (Nat.le_refl _))
      clear hb9 HBE
      go_wp2
      go_ret
      exact ⟨rfl, HB9.out⟩
  · have d0 : ((l.length : Int) == 0) = false := by rw [beq_eq_false_iff_ne]; omega
    have d1 : decide ((10 : Int) < (l.length : Int)) = false := decide_eq_false (by omega)
    have hl10 : l.length ≤ 10 := by omega
    clear hlen
    go_enter Try.func5, Try.ntmps5
    go_upto_region 1 with fail
    rw [HW0.out]
    go_wp2_with fail
    refine (newL W0).mono ?_
    rintro x w1 ⟨b, F1, P1, rfl, S1⟩
    have HS1 := Hid_of S1
    clear S1
    go_wp2
    go_loopw [8, 9, 10] (fun x n i wr => ∃ (k m : Nat) (F : Nat → Prop) (P : List M.Pl) (wt : List UInt8), k ≤ l.length ∧ m ≤ k ∧ i = .int .i64 k ∧ n = .int .i64 m ∧ x = .string (ofL wt) ∧ LS W0 wr b F P m wt) (fun _ _ i _ => l.length - (intOf i).toNat)
    case atStart => exact ⟨0, 0, _, _, [], by omega, by omega, rfl, rfl, rfl, HS1.out⟩
    case round =>
      obtain ⟨k, m, F, P, wt, hkl, hmk, rfl, rfl, rfl, S⟩ := hrel
      clear HS1
      by_cases hlt : k < l.length
      · obtain ⟨bb, off, rfl, c0⟩ := (HAT.out.keep S.d.bel).str k hlt
        have HC : Hid (∀ W, Below W0.heap.size W0 W → W.cell? ⟨bb, off + k, none⟩ = some (.string l[k])) := fun W hW => by
          obtain ⟨b', o', e', q⟩ := (HAT.out.keep hW).str k hlt
          cases e'
          exact q
        have hs := HSZ.out l[k] (List.getElem_mem hlt)
        generalize l[k] = s at *
        by_cases hbig : 244 < s.size
        · have hw := S.d.swrite_no s hs hbig
          have HR := Hid_of S
          clear S
          go_wp2_with fail
          refine hw.mono ?_
          rintro x w4 ⟨rfl, rfl⟩
          clear hw
          go_wp2
          go_roundw
          case rel => exact ⟨k + 1, m, _, _, wt, by omega, by omega, by go_num, rfl, rfl, HR.out⟩
          case measure => simp [intOf]; omega
        · have hsm : s.size ≤ 244 := by omega
          have HO : Hid (ofL s.data.toList = s) := ofL_of s
          have hw := S.write (by omega) s hsm
          clear S
          go_wp2_with fail
          refine hw.mono ?_
          rintro x w4 ⟨F4, P4, rfl, S4⟩
          have c4 := HC.out w4 S4.d.bel
          have HR := Hid_of S4
          clear hw S4
          go_wp2
          go_roundw
          case rel => exact ⟨k + 1, m + 1, _, _, s.data.toList, by omega, by omega, by go_num, by go_num, by rw [HO.out], HR.out⟩
          case measure => simp [intOf]; omega
      · have cp := fun W => pack_any body ((m + 1 : Nat) : Int) W hbz
        rw [show ((m + 1 : Nat) : Int) = (m : Int) + 1 by omega] at cp
        unfold maxLen at hbz
        have hm10 : m ≤ 10 := by omega
        rcases pcode_cases body ((m : Int) + 1) with ⟨h1, e1, e2⟩ | ⟨h1, h2, e1, e2⟩ | ⟨h1, h2, e1, e2⟩
        · omega
        · rw [e1] at cp
          clear e1 e2
          generalize ptext body ((m : Int) + 1) = T at *
          have HBE := Hid_of (HB0.out.trans (S.d.bel.mono HB0.out.size))
          clear S
          go_wp2_with fail
          refine (cp _).mono ?_
          rintro x w2 ⟨rfl, hb2⟩
          have HBE := Hid_of (bel_up HBE.out hb2 (Nat.le_refl _))
          clear cp hb2
          go_wp2_with fail
          refine (awake_any _).mono ?_
          rintro x w9 ⟨rfl, hb9⟩
          have HB9 := Hid_of (bel_up HBE.out hb9 (Nat.le_refl _))
          clear hb9 HBE
          go_wp2
          go_ret
          exact ⟨rfl, HB9.out⟩
        · rw [e1, e2, show ((m : Int) + 1).toNat = m + 1 by omega] at cp
          clear e1 e2
          obtain ⟨T, hT⟩ : ∃ T, ofL (Sp.pk body.data.toList (m + 1)) = T := ⟨_, rfl⟩
          rw [hT] at cp
          have HT := Hid_of hT
          rcases Nat.eq_zero_or_pos m with hm | hm
          · have d3 : ((m : Int) == 0) = true := by rw [hm]; rfl
            have HBE := Hid_of (HB0.out.trans (S.d.bel.mono HB0.out.size))
            clear S hT hm
            go_wp2_with fail
            refine (cp _).mono ?_
            rintro x w2 ⟨rfl, hb2⟩
            have HBE := Hid_of (bel_up HBE.out hb2 (Nat.le_refl _))
            clear cp hb2
            go_wp2_with fail
            refine (awake_any _).mono ?_
            rintro x w9 ⟨rfl, hb9⟩
            have HB9 := Hid_of (bel_up HBE.out hb9 (Nat.le_refl _))
            clear hb9 HBE
            go_wp2
            go_ret
            exact ⟨rfl, HB9.out⟩
          · have d3 : ((m : Int) == 0) = false := by rw [beq_eq_false_iff_ne]; omega
            have HS := Hid_of S
            clear S
            go_wp2_with fail
            refine (cp _).mono ?_
            rintro x w2 ⟨rfl, hb2⟩
            have hlay := (HS.out.keep hb2).lay body h2 hm (by omega)
            rw [hT] at hlay
            rw [show (((m + 1) % 2 * 4 : Nat) : Int) = ((m : Int) + 1) % 2 * 4 by omega] at hlay
            have hdm : ((m : Int) + 1) % 2 < 2 ∧ 0 ≤ ((m : Int) + 1) % 2 := by omega
            clear cp hb2 HS hT
            go_wp2_with fail
            refine hlay.mono ?_
            rintro x w3 ⟨F3, P3, rfl, S3, hcr⟩
            have hcr3 := hcr keep tear hk w3 (Below.refl _ _)
            obtain ⟨t1, t3⟩ := HD.out w3 S3.bel
            clear hlay hcr S3
            go_wp2_with fail
            refine hcr3.mono ?_
            rintro x w4 ⟨F4, Q, g, s, rfl, C4⟩
            have hsr := C4.sread
            have hg1 := C4.g1
            have hglt := C4.lt
            clear hcr3 C4
            go_wp2_with fail
            refine hsr.mono ?_
            rintro x w5 ⟨rfl, C5⟩
            clear hsr
            by_cases hgm : g = m
            · subst hgm
              obtain rfl : s = ofL wt := C5.same rfl
              have HBE := Hid_of (HB0.out.trans (C5.d.bel.mono HB0.out.size))
              clear C5
              go_wp2_with fail
              refine (awake_any _).mono ?_
              rintro x w9 ⟨rfl, hb9⟩
              have HB9 := Hid_of (bel_up HBE.out hb9 (Nat.le_refl _))
              clear hb9 HBE
              go_wp2
              go_ret
              exact ⟨rfl, HB9.out⟩
            · have dgm : ((g : Int) == (m : Int)) = false := by rw [beq_eq_false_iff_ne]; omega
              have hnow := C5.now
              have hoth := (C5.other hgm).2.2.2
              rw [HT.out] at hoth
              rw [show (((m + 1) % 2 * 4 : Nat) : Int) = ((m : Int) + 1) % 2 * 4 by omega] at hnow
              clear C5
              go_wp2_with fail
              refine hnow.mono ?_
              rintro x w6 ⟨rfl, C6⟩
              have hri := C6.right hgm
              rw [show (((m + 1) % 2 * 4 : Nat) : Int) = ((m : Int) + 1) % 2 * 4 by omega] at hri
              have HB6 := Hid_of (HB0.out.trans (C6.d.bel.mono HB0.out.size))
              clear hnow C6
              generalize ofL (plc Q ((m + 1) % 2)) = X at *
              go_wp2_with fail
              refine hri.mono ?_
              rintro x w7 ⟨rfl, hb7⟩
              have HBE := Hid_of (bel_up HB6.out hb7 (Nat.le_refl _))
              clear hri hb7 HB6
              by_cases hX : X = T
              · obtain ⟨rfl, rfl⟩ := hoth hX
                subst hX
                clear hoth
                go_wp2_with fail
                refine (awake_any _).mono ?_
                rintro x w9 ⟨rfl, hb9⟩
                have HB9 := Hid_of (bel_up HBE.out hb9 (Nat.le_refl _))
                clear hb9 HBE
                go_wp2
                go_ret
                exact ⟨rfl, HB9.out⟩
              · have dX : (X.toList == T.toList) = false := text_ne hX
                clear hoth hX
                go_wp2_with fail
                refine (awake_any _).mono ?_
                rintro x w9 ⟨rfl, hb9⟩
                have HB9 := Hid_of (bel_up HBE.out hb9 (Nat.le_refl _))
                clear hb9 HBE
                go_wp2
                go_ret
                exact ⟨rfl, HB9.out⟩
end Go.Proofs.Ythffglacokfkgaa
