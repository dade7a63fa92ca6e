/-
  Proved: for every text and number the law BitmapReads of the program returns true, and the arguments read as they did.
-/
import Derived.Test.YtigoadfbccpmkaaL
import Derived.Test.YtigoadfbccpmkaaR
import Derived.Test.YtigoadfbccpmkaaT
import Derived.Test.YtigoadfbccpmkaaU
import Derived.ShutString
import Derived.OpenShut
namespace Go.Proofs.Ytigoadfbccpmkaa
open Go.ChangeShapes Go.WideShapes Go.ChangeAt Go.RowKit
open Go.ChangeMaps (open_string shut_string)
set_option linter.unusedVariables false

theorem rdE_eq0 (l : List UInt8) (n : Int) (h : rdE l n = 0) : ∃ m : Nat, n = m ∧ m ≤ 4096 ∧ l.length = (m + 7) / 8 := by
  unfold rdE at h
  split at h
  · cases h
  · rename_i h1
    obtain ⟨m, rfl⟩ := Int.eq_ofNat_of_zero_le (show 0 ≤ n by omega)
    split at h
    · cases h
    · rename_i h2
      simp only [Int.toNat_natCast, ne_eq, Decidable.not_not] at h2
      exact ⟨m, rfl, by omega, h2⟩
theorem bb_fs (l : List UInt8) (i : Nat) (h : i < l.length) : bb (fs l) i = l[i] := by
  have hlt : l[i].toNat < 256 := l[i].toNat_lt
  have e : l[i].toNat = M.byt (fs l) i := M.wdN_eq (fs l) (8 * i) 8 _ hlt fun j hj => by
    unfold fs
    rw [show (8 * i + j) / 8 = i by omega, show (8 * i + j) % 8 = j by omega, List.getD_eq_getElem?_getD, List.getElem?_eq_getElem h]
    rfl
  apply UInt8.toNat_inj.1
  rw [bb_nat, e]
theorem textOf_fs (l : List UInt8) (m : Nat) (h : l.length = (m + 7) / 8) : textOf (fs l) m = l := by
  apply List.ext_getElem
  · simp [textOf, h]
  · intro i h1 h2
    simp only [textOf, List.getElem_map, List.getElem_range]
    exact bb_fs l i h2

set_option maxRecDepth 100000 in
set_option maxHeartbeats 4000000 in
theorem reads_walk (s : ByteArray) (n : Int) (w : World) :
    Calls Try.prog 4 #[.string s, .int .i64 n] w fun e w' => e = .returned (.bool true) ∧ Below w.heap.size w w' := by
  by_cases h20 : 2000 < s.size
  · go_enter Try.func4, Try.ntmps4
    go_wp2_with fail
    refine (awake_any _).mono ?_
    rintro x w1 ⟨rfl, hb⟩
    go_wp2
    go_ret
    exact ⟨rfl, hb⟩
  · have h20' : s.size ≤ 2000 := by omega
    clear h20
    go_enter Try.func4, Try.ntmps4
    go_wp2_with fail
    refine (read_any s n w).mono ?_
    rintro e w1 ⟨B1, h1⟩
    by_cases hE : rdE s.data.toList n = 0
    · rw [if_pos hE] at h1
      obtain ⟨b, rfl, hb, m1⟩ := h1
      obtain ⟨m, rfl, hm, hlen⟩ := rdE_eq0 _ _ hE
      have m1 : MIs w1 b m (fs s.data.toList) := m1
      have HT : Hid (ofL (textOf (fs s.data.toList) m) = s) := by show _ = _; rw [textOf_fs _ _ hlen, ofL_of]
      go_wp2_with fail
      refine (refRead_any s m w1 h20').mono ?_
      rintro e w2 ⟨B2', h2⟩
      rw [if_pos hE] at h2
      obtain ⟨a, cap, rfl, hat⟩ := h2
      have hat : At w2 a Value.bool (bl m (fs s.data.toList)) := hat
      have m2 := m1.below B2'
      have B2 := B1.trans (B2'.mono B1.size)
      simp only [Int.toNat_natCast]
      clear m1 B1 B2' hE hlen
      have hrl := M.runs_len (fs s.data.toList) m true
      have HRE : Hid (M.rr (fs s.data.toList) true m = M.runs (fs s.data.toList) m true) := M.rr_eq _ _ _
      generalize fs s.data.toList = f at *
      go_wp2_with fail
      refine (text_any b m f _ m2).mono ?_
      rintro e w3 ⟨rfl, hb3⟩
      rw [HT.out]
      have m3 := m2.below hb3
      have at3 := hat.keep hb3
      have B3 := B2.trans (hb3.mono B2.size)
      clear m2 hat B2 hb3 HT
      go_wp2_with fail
      refine (count_any b m f _ m3).mono ?_
      rintro e w4 ⟨rfl, rfl⟩
      go_wp2_with fail
      refine (refCount_any m f a cap _ hm at3).mono ?_
      rintro e w5 ⟨rfl, rfl⟩
      go_wp2_with fail
      refine (runs_any b m f true _ m3).mono ?_
      rintro e w6 h6
      obtain ⟨v6, rfl, own6, hb6⟩ := h6
      have at6 := at3.keep hb6
      have B6 := B3.trans (hb6.mono B3.size)
      obtain ⟨r1, c1, rfl, atr1, _⟩ := owns_atR own6
      clear m3 at3 B3 hb6 own6
      go_wp2_with fail
      refine (refRuns_any m f true a cap _ hm at6).mono ?_
      rintro e w7 h7
      obtain ⟨v7, rfl, own7, hb7⟩ := h7
      rw [HRE.out] at own7
      obtain ⟨r2, c2, rfl, atr2, _⟩ := owns_atR own7
      have atr1' := atr1.keep hb7
      have B7 := B6.trans (hb7.mono B6.size)
      clear at6 B6 hb7 own7 atr1 HRE
      generalize M.runs f m true = rs at *
      go_wp2_with fail
      refine (same_any r1 c1 r2 c2 rs _ (by omega) atr1' atr2).mono ?_
      rintro e w8 ⟨rfl, hb8⟩
      have B8 := B7.trans (hb8.mono B7.size)
      clear atr1' atr2 hb8 B7
      go_wp2_with fail
      refine (awake_any _).mono ?_
      rintro e w9 ⟨rfl, hb9⟩
      go_wp2
      go_ret
      exact ⟨rfl, B8.trans (hb9.mono B8.size)⟩
    · rw [if_neg hE] at h1
      subst h1
      go_wp2_with fail
      refine (refRead_any s n w1 h20').mono ?_
      rintro e w2 ⟨B2', h2⟩
      rw [if_neg hE] at h2
      subst h2
      have B2 := B1.trans (B2'.mono B1.size)
      clear B1 B2'
      generalize rdE s.data.toList n = x at *
      have hx0 : (x == 0) = false := by simpa using hE
      clear hE
      go_wp2_with fail
      refine (awake_any _).mono ?_
      rintro e w3 ⟨rfl, hb3⟩
      go_wp2
      go_ret
      exact ⟨rfl, B2.trans (hb3.mono B2.size)⟩
set_option maxRecDepth 100000 in
theorem reads_lifted (os : Os) (started : os.Started) (H : Type) (enc : TypeId × Value → H) :
    ReturnsInHanded {} Try.checked os 4 .any (Rows.bitmapReadsSpec.pre6 enc Try.prog Try.f4 Rows.bitmapReadsRow.domain false) (Rows.bitmapReadsSpec.post enc Try.prog Try.f4 false true false false) := by
  refine returnsInHanded_of_change (C := Try.checked) own started (by kernel_rfl) Try.func4
    (ChangeSpec.witness6 (enc := enc) (C := Try.checked) false ⟨#[], #[.string ByteArray.empty, .int .i64 0], []⟩ 8 (by kernel_rfl) (by kernel_rfl) (by kernel_rfl) (by kernel_rfl)) ?_
  intro W base args ds gs before hval0 hW hcnd _
  have hval : ∀ (j : Nat) t v, Try.f4.params[j]? = some t → args[j]? = some v → Value.okWide Try.prog W .any base t v := hval0
  have hW' := hW
  obtain ⟨p, q, hA0, hV, rfl, hfz, hnd⟩ := hW
  have hA : DataW.TrodAll enc Try.prog W 0 (fun _ => true) true Try.f4.params.toList args.toList ds p := hA0
  rw [Try.params4] at hA hval
  obtain ⟨v0, vs0, d0, ds0, p0, q0, hargs, rfl, rfl, h0, r0⟩ := trodAll_cons hA
  obtain ⟨v1, vs1, d1, ds1, p1, q1, rfl, rfl, rfl, h1, r1⟩ := trodAll_cons r0
  obtain ⟨rfl, rfl, rfl⟩ := trodAll_nil r1
  obtain rfl : args = #[v0, v1] := by cases args; simp_all
  obtain ⟨rfl, rfl⟩ := trodVars_none hV
  obtain ⟨a0, rfl, rfl, rfl, w0⟩ := open_string Try.underlying9 (hval 0 9 v0 rfl rfl) h0
  obtain ⟨a1, rfl, rfl, rfl, w1⟩ := open_int Try.underlying3 (hval 1 3 v1 rfl rfl) h1
  clear hA0 hval0
  refine (reads_walk a0 a1 W).mono fun e W' ⟨he, bel⟩ => ?_
  subst he
  exact ⟨_, rfl, _, _, _, [], [], [], hW', trodAll_mk1 (shut_bool Try.underlying4 _), (trodAll_cons_mk (shut_string Try.underlying9 w0) (trodAll_cons_mk (shut_int Try.underlying3 w1) trodAll_mk0)), rfl, bel.frame _, fun h => by cases h⟩

theorem reads_holds : Rows.BitmapReadsSaid :=
  OpenClaim.holds_of_wide 4 Try.f4 rfl rfl rfl rfl rfl rfl rfl ⟨rfl, rfl, rfl, rfl, rfl⟩ rfl rfl rfl rfl rfl (by kernel_rfl) Try.func4 (by kernel_rfl)
    (of_decide_eq_true (by kernel_rfl)) (by unfold Func.isWrapper; first | (rw [if_pos (by decide +kernel)]; kernel_rfl) | (rw [if_neg (by decide +kernel)]; exact ⟨rfl, rfl⟩))
    (fun os started H enc _ => reads_lifted os started H enc)
#print axioms reads_holds

end Go.Proofs.Ytigoadfbccpmkaa
