/-
  What is kept, new since a world; the chapter's example.
-/
import Derived.Test.YtjbcchipbdkplaaRH
import Derived.Deep.CutRange
namespace Go.Proofs.Ytjbcchipbdkplaa
open Go.RowKit Go.Maps
set_option linter.unusedVariables false
open Rp (C fup)

/-- What is kept, new since w0, at block b; F: its own. -/
structure KS (w0 w : World) (F : Nat → Prop) (b N room : Nat) (T : Int → List C) : Prop where
  ri : ∃ m n f, n ≤ N ∧ F = fpr b m f ∧ RI w w0.heap.size b m n room f T
  bel : Below w0.heap.size w0 w
  ok : Rp.Ok room T
section
variable {w0 w w' : World} {F G G' : Nat → Prop} {b N room : Nat} {T : Int → List C}
theorem KS.keep (h : KS w0 w F b N room T) (hb : Below w.heap.size w w') : KS w0 w' F b N room T := by
  obtain ⟨m, n, f, hn, hF, hX⟩ := h.ri
  exact ⟨⟨m, n, f, hn, hF, hX.keep hb⟩, bel_up h.bel hb (Nat.le_refl _), h.ok⟩
theorem KS.mono (h : KS w0 w F b N room T) {N' : Nat} (hN : N ≤ N') : KS w0 w F b N' room T := by
  obtain ⟨m, n, f, hn, hF, hX⟩ := h.ri
  exact ⟨⟨m, n, f, Nat.le_trans hn hN, hF, hX⟩, h.bel, h.ok⟩
theorem KS.mine (h : KS w0 w F b N room T) : ∀ k, F k → w0.heap.size ≤ k ∧ k < w.heap.size := by
  obtain ⟨m, n, f, hn, rfl, hX⟩ := h.ri
  exact hX.mine
/-- Something else has changed. -/
theorem KS.step (h : KS w0 w F b N room T) (hF : Fr w G w' G') (hap : ∀ k, F k → ¬ G k) (hG : ∀ k, G k → w0.heap.size ≤ k) : KS w0 w' F b N room T ∧ ∀ k, F k → ¬ G' k := by
  have hm := h.mine
  obtain ⟨m, n, f, hn, e, hX⟩ := h.ri
  refine ⟨⟨⟨m, n, f, hn, e, hX.keepBut (fun k hk hk2 => hF.block k hk (hap k (by rw [e]; exact hk2)))⟩, h.bel.trans (hF.below hG h.bel.size), h.ok⟩, fun k hk hg => ?_⟩
  rcases hF.n k hg with h' | h'
  · exact hap k hk h'
  · have := (hm k hk).2; omega
theorem newK_any (n : Int) (w0 w : World) (hb : Below w0.heap.size w0 w) : Calls Try.prog 10 #[.int .i64 n] w fun e w' => ∃ b F, e = .returned (.pointer (some ⟨b, 0, none⟩)) ∧ KS w0 w' F b 0 (rm n) Rp.non ∧ Below w.heap.size w w' ∧ ∀ k, F k → w.heap.size ≤ k :=
  (new_any n w).mono fun e w' ⟨b, m, h1, h2, h3⟩ => ⟨b, _, h1, ⟨⟨m, 0, _, Nat.le_refl _, rfl, h2.lower hb.size⟩, bel_up hb h3 (Nat.le_refl _), Rp.Ok.non (rm_bd n).1 (rm_bd n).2⟩, h3, fun k hk => (h2.mine k hk).1⟩
theorem KS.take (h : KS w0 w F b N room T) (hN : N ≤ 100000) (c k : Int) : Calls Try.prog 15 #[.pointer (some ⟨b, 0, none⟩), .int .i64 c, .int .i64 k] w fun e w' => ∃ G, e = .returned (.tuple #[.int .i64 (Rp.code room T c k), .string (ofL (Rp.told T c k))]) ∧ KS w0 w' G b (N + 1) room (Rp.take room T c k) ∧ Fr w F w' G := by
  have hm := h.mine
  obtain ⟨m, n, f, hn, rfl, hX⟩ := h.ri
  refine (tk_any hX h.ok c k h.bel.size (by unfold maxLen; omega)).mono ?_
  rintro e w' ⟨f', h1, h2, h3⟩
  exact ⟨_, h1, ⟨⟨m, n + 1, f', by omega, rfl, h2⟩, h.bel.trans (h3.below (fun k hk => (hm k hk).1) h.bel.size), Rp.take_ok h.ok c k⟩, h3⟩
theorem KS.put (h : KS w0 w F b N room T) (c k : Int) (hc : -9223372036854775808 ≤ c ∧ c ≤ 9223372036854775807) (s : List UInt8) (hs : s.length ≤ 1000000) : Calls Try.prog 13 #[.pointer (some ⟨b, 0, none⟩), .int .i64 c, .int .i64 k, .string (ofL s)] w fun e w' => e = .returned (.bool (Rp.ptb (T c) k s)) ∧ KS w0 w' F b N room (Rp.put T c k s) ∧ Fr w F w' F := by
  have hm := h.mine
  obtain ⟨m, n, f, hn, rfl, hX⟩ := h.ri
  refine (put_any hX h.ok c k hc s hs).mono ?_
  rintro e w' ⟨h1, h2, h3⟩
  exact ⟨h1, ⟨⟨m, n, f, hn, rfl, h2⟩, h.bel.trans (h3.below (fun k hk => (hm k hk).1) h.bel.size), Rp.put_ok h.ok c k s⟩, h3⟩
theorem KS.ids (h : KS w0 w F b N room T) (c : Int) (hc : -9223372036854775808 ≤ c ∧ c ≤ 9223372036854775807) : Calls Try.prog 17 #[.pointer (some ⟨b, 0, none⟩), .int .i64 c] w (IdOut w ((T c).map C.id)) := by
  obtain ⟨m, n, f, hn, rfl, hX⟩ := h.ri
  exact ids_any hX h.ok c hc
theorem KS.text (h : KS w0 w F b N room T) (hN : N ≤ 100000) : Calls Try.prog 19 #[.pointer (some ⟨b, 0, none⟩)] w fun e w' => e = .returned (.string (ofL (Rp.txt room T))) ∧ Below w.heap.size w w' := by
  obtain ⟨m, n, f, hn, rfl, hX⟩ := h.ri
  exact textR_any hX h.ok (by omega)
theorem txt_len (ok : Rp.Ok room T) : (Rp.txt room T).length ≤ 10000000 := by rw [← Rp.pre_all]; exact Rp.pre_len ok _
theorem readK_any (ok : Rp.Ok room T) (w0 w : World) (hb : Below w0.heap.size w0 w) : Calls Try.prog 21 #[.string (ofL (Rp.txt room T))] w fun e w' => ∃ br G, e = .returned (.tuple #[.pointer (some ⟨br, 0, none⟩), .int .i64 0]) ∧ KS w0 w' G br 64 room T ∧ Below w.heap.size w w' ∧ ∀ k, G k → w.heap.size ≤ k := by
  refine (read_any _ w (by have := txt_len ok; omega)).mono ?_
  rintro e w' (⟨h1, _⟩ | ⟨room', ps, br, m, n, f, h1, h2, h3, h4, h5⟩)
  · rw [Rp.rd_txt ok] at h1; cases h1
  · rw [Rp.rd_txt ok] at h1
    simp only [Option.some.injEq, Prod.mk.injEq] at h1
    obtain ⟨rfl, rfl⟩ := h1
    rw [Rp.tof_prs ok] at h3
    exact ⟨br, _, h2, ⟨⟨m, n, f, h4, rfl, h3.lower hb.size⟩, bel_up hb h5 (Nat.le_refl _), ok⟩, h5, fun k hk => (h3.mine k hk).1⟩
end
set_option maxRecDepth 100000 in
set_option maxHeartbeats 1000000 in
theorem ints_any (a : Option Addr) (ca : Nat) (b : Option Addr) (cb : Nat) (l : List Int) (w : World) (hl : l.length ≤ 1000000) (ha : AtL il w a l) (hb : AtL il w b l) :
    Calls Try.prog 16 #[.slice a l.length ca, .slice b l.length cb] w fun e w' => e = .returned (.bool true) ∧ Below w.heap.size w w' := by
  go_enter Try.func16, Try.ntmps16
  go_wp2
  go_loopw [5] (fun i wr => ∃ k : Nat, k ≤ l.length ∧ i = .int .i64 k ∧ Below w.heap.size w wr) (fun i _ => l.length - (intOf i).toNat)
  case atStart => exact ⟨0, by omega, rfl, Below.refl _ _⟩
  case round =>
    obtain ⟨k, hk, rfl, hbel⟩ := hrel
    by_cases hlt : k < l.length
    · obtain ⟨b1, o1, rfl, c1⟩ := (ha.keep hbel).getI k hlt
      obtain ⟨b2, o2, rfl, d1⟩ := (hb.keep hbel).getI k hlt
      have hki : (k : Int) < (l.length : Int) := by omega
      generalize l[k] = x1 at *
      have HB : Hid (∀ n, Below w.heap.size w (wr.drewN n)) := fun n => below_drewN hbel n
      clear ha hb hbel
      go_wp2_with fail
      go_quiet (fail)
      go_wp2
      go_roundw
      case rel => exact ⟨k + 1, by omega, by go_num, HB.out _⟩
      case measure => simp [intOf]; omega
    · have hkn : k = l.length := by omega
      subst hkn
      go_wp2
      go_ret
      exact ⟨rfl, hbel⟩
namespace Rp
/-- Calls of the client 1 alone. -/
def one (L : List C) : Int → List C := fup non 1 L
theorem one_nil : one [] = non := fup_self non 1
theorem one_at (L : List C) : one L 1 = L := fup_same _ _ _
theorem one_fup (L Q : List C) : fup (one L) 1 Q = one Q := by
  funext j
  unfold one fup
  split <;> rfl
theorem one_code (room : Nat) (L : List C) (k : Int) (h : may 1 k = true) : code room (one L) 1 k = tkc room L k ∧ told (one L) 1 k = tkr L k ∧ take room (one L) 1 k = one (tkl room L k) := by
  unfold code told take
  simp only [h, if_true, one_at, one_fup, and_self]
theorem one_put (L : List C) (k : Int) (s : List UInt8) : put (one L) 1 k s = one (ptl L k s) := by
  unfold put
  rw [one_at, one_fup]
theorem aw1 : code 2 non 1 5 = 1 ∧ told non 1 5 = [] ∧ take 2 non 1 5 = one [⟨5, true, []⟩] := by
  have := one_code 2 [] 5 rfl
  rw [one_nil] at this
  exact this
theorem aw2 : code 2 (one [⟨5, true, []⟩]) 1 5 = 3 ∧ told (one [⟨5, true, []⟩]) 1 5 = [] ∧ take 2 (one [⟨5, true, []⟩]) 1 5 = one [⟨5, true, []⟩] := one_code 2 [⟨5, true, []⟩] 5 rfl
theorem aw3 : ptb (one [⟨5, true, []⟩] 1) 5 [120] = true ∧ put (one [⟨5, true, []⟩]) 1 5 [120] = one [⟨5, false, [120]⟩] := ⟨rfl, one_put [⟨5, true, []⟩] 5 [120]⟩
theorem aw4 : ptb (one [⟨5, false, [120]⟩] 1) 5 [121] = false ∧ put (one [⟨5, false, [120]⟩]) 1 5 [121] = one [⟨5, false, [120]⟩] := ⟨rfl, one_put [⟨5, false, [120]⟩] 5 [121]⟩
theorem aw5 : code 2 (one [⟨5, false, [120]⟩]) 1 5 = 2 ∧ told (one [⟨5, false, [120]⟩]) 1 5 = [120] ∧ take 2 (one [⟨5, false, [120]⟩]) 1 5 = one [⟨5, false, [120]⟩] := one_code 2 [⟨5, false, [120]⟩] 5 rfl
theorem aw6 : code 2 (one [⟨5, false, [120]⟩]) 1 7 = 1 ∧ told (one [⟨5, false, [120]⟩]) 1 7 = [] ∧ take 2 (one [⟨5, false, [120]⟩]) 1 7 = one [⟨5, false, [120]⟩, ⟨7, true, []⟩] := one_code 2 [⟨5, false, [120]⟩] 7 rfl
theorem aw7 : code 2 (one [⟨5, false, [120]⟩, ⟨7, true, []⟩]) 1 3 = 4 ∧ told (one [⟨5, false, [120]⟩, ⟨7, true, []⟩]) 1 3 = [] ∧ take 2 (one [⟨5, false, [120]⟩, ⟨7, true, []⟩]) 1 3 = one [⟨5, false, [120]⟩, ⟨7, true, []⟩] := one_code 2 [⟨5, false, [120]⟩, ⟨7, true, []⟩] 3 rfl
theorem aw8 : code 2 (one [⟨5, false, [120]⟩, ⟨7, true, []⟩]) 64 3 = 0 ∧ told (one [⟨5, false, [120]⟩, ⟨7, true, []⟩]) 64 3 = [] ∧ take 2 (one [⟨5, false, [120]⟩, ⟨7, true, []⟩]) 64 3 = one [⟨5, false, [120]⟩, ⟨7, true, []⟩] := ⟨rfl, rfl, rfl⟩
theorem aw9 : (one [⟨5, false, [120]⟩, ⟨7, true, []⟩] 1).map C.id = [5, 7] := rfl
end Rp
theorem rm2 : rm 2 = 2 := rfl
set_option maxRecDepth 100000 in
set_option maxHeartbeats 2000000 in
theorem awake_any (w : World) : Calls Try.prog 9 #[] w fun e w' => e = .returned (.bool true) ∧ Below w.heap.size w w' := by
  have hnw := newK_any 2 w w (Below.refl _ _)
  rw [rm2] at hnw
  go_enter Try.func9, Try.ntmps9
  go_wp2_with fail
  refine hnw.mono ?_
  rintro x w1 ⟨b, F1, rfl, S1, _, _⟩
  have hc1 := S1.take (by omega) 1 5
  rw [Rp.aw1.1, Rp.aw1.2.1, Rp.aw1.2.2] at hc1
  clear S1
  go_wp2_with fail
  refine hc1.mono ?_
  rintro x w2 ⟨F2, rfl, S2, _⟩
  clear hc1
  have hc2 := S2.take (by omega) 1 5
  rw [Rp.aw2.1, Rp.aw2.2.1, Rp.aw2.2.2] at hc2
  clear S2
  go_wp2_with fail
  refine hc2.mono ?_
  rintro x w3 ⟨F3, rfl, S3, _⟩
  clear hc2
  have hc3 := S3.put 1 5 (by omega) [120] (by decide)
  rw [Rp.aw3.1, Rp.aw3.2] at hc3
  replace hc3 : Calls Try.prog 13 #[.pointer (some ⟨b, 0, none⟩), .int .i64 1, .int .i64 5, .string ⟨#[120]⟩] w3 _ := hc3
  clear S3
  go_wp2_with fail
  refine hc3.mono ?_
  rintro x w4 ⟨rfl, S4, _⟩
  clear hc3
  have hc4 := S4.put 1 5 (by omega) [121] (by decide)
  rw [Rp.aw4.1, Rp.aw4.2] at hc4
  replace hc4 : Calls Try.prog 13 #[.pointer (some ⟨b, 0, none⟩), .int .i64 1, .int .i64 5, .string ⟨#[121]⟩] w4 _ := hc4
  clear S4
  go_wp2_with fail
  refine hc4.mono ?_
  rintro x w5 ⟨rfl, S5, _⟩
  clear hc4
  have hc5 := S5.take (by omega) 1 5
  rw [Rp.aw5.1, Rp.aw5.2.1, Rp.aw5.2.2, show ofL [120] = ⟨#[120]⟩ from rfl] at hc5
  clear S5
  go_wp2_with fail
  refine hc5.mono ?_
  rintro x w6 ⟨F6, rfl, S6, _⟩
  clear hc5
  have hc6 := S6.take (by omega) 1 7
  rw [Rp.aw6.1, Rp.aw6.2.1, Rp.aw6.2.2] at hc6
  clear S6
  go_wp2_with fail
  refine hc6.mono ?_
  rintro x w7 ⟨F7, rfl, S7, _⟩
  clear hc6
  have hc7 := S7.take (by omega) 1 3
  rw [Rp.aw7.1, Rp.aw7.2.1, Rp.aw7.2.2] at hc7
  clear S7
  go_wp2_with fail
  refine hc7.mono ?_
  rintro x w8 ⟨F8, rfl, S8, _⟩
  clear hc7
  have hc8 := S8.take (by omega) 64 3
  rw [Rp.aw8.1, Rp.aw8.2.1, Rp.aw8.2.2] at hc8
  clear S8
  go_wp2_with fail
  refine hc8.mono ?_
  rintro x w9 ⟨F9, rfl, S9, _⟩
  clear hc8
  have hct := S9.text (by omega)
  have hids := Rp.aw9
  have HS9 := Hid_of S9
  have HID := Hid_of hids
  clear S9 hids
  generalize Rp.one [⟨5, false, [120]⟩, ⟨7, true, []⟩] = TT at *
  go_wp2_with fail
  refine hct.mono ?_
  rintro x w10 ⟨rfl, hb10⟩
  have S10 := HS9.out.keep hb10
  have hrd := readK_any S10.ok w w10 S10.bel
  clear hct hb10 S10
  go_wp2_with fail
  refine hrd.mono ?_
  rintro x w11 ⟨br, G, rfl, S11, hb11, _⟩
  have hci := S11.ids 1 (by omega)
  rw [HID.out] at hci
  have HB11 := Hid_of S11.bel
  clear hrd hb11 S11
  go_wp2_with fail
  refine hci.mono ?_
  rintro x w12 ⟨v, rfl, ho12, hb12⟩
  obtain ⟨a12, cap12, hv12, hx12, _⟩ := ho12.at
  have hv12' : v = .slice a12 2 cap12 := hv12
  subst hv12'
  obtain ⟨W13, HW13⟩ : ∃ W13, Hid (w12.alloc (.cells #[.int .i64 5, .int .i64 7] 3) = W13) := ⟨_, Hid_of rfl⟩
  have hb13 : Below w12.heap.size w12 W13 := by rw [← HW13.out]; exact bel1 w12 _
  have hh13 : W13.heap[w12.heap.size]? = some (.cells #[.int .i64 5, .int .i64 7] 3 (0, 0)) := by rw [← HW13.out]; exact heap_alloc_last w12 _
  have hat13 : AtL il W13 (some ⟨w12.heap.size, 0, none⟩) [5, 7] := by
    obtain ⟨⟨z0, z1⟩, _⟩ := rw2 hh13
    intro j hj
    refine ⟨w12.heap.size, 0, rfl, fun o ho => ?_⟩
    have ho' : o = 0 := by have : o < 1 := ho; omega
    subst ho'
    have hj' : j = 0 ∨ j = 1 := by simp at hj; omega
    rcases hj' with rfl | rfl
    · exact z0
    · exact z1
  have hin := ints_any a12 cap12 (some ⟨w12.heap.size, 0, none⟩) 2 [5, 7] W13 (by decide) (hx12.at'.keep hb13) hat13
  replace hin : Calls Try.prog 16 #[.slice a12 2 cap12, .slice (some ⟨w12.heap.size, 0, none⟩) 2 2] W13 _ := hin
  have HB13 : Hid (Below w.heap.size w W13) := bel_up (bel_up HB11.out hb12 (Nat.le_refl _)) hb13 (Nat.le_refl _)
  clear hci ho12 hb12 hx12 hb13 hh13 hat13 hv12
  go_wp2_with fail
  rw [HW13.out]
  refine hin.mono ?_
  rintro x w14 ⟨rfl, hb14⟩
  have HB14 : Hid (Below w.heap.size w w14) := bel_up HB13.out hb14 (Nat.le_refl _)
  clear hin hb14
  go_wp2
  go_ret
  exact ⟨rfl, HB14.out⟩
end Go.Proofs.Ytjbcchipbdkplaa
