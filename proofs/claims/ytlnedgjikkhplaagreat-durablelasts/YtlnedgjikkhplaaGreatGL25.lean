/-
  What is left behind a reading, and what is known of what was read; what every proof of this seat lifts with.
  What was laid is read: ballots, seals.
-/
import Derived.Test.YtlnedgjikkhplaaGreatGL24
import Derived.ChangeShapes
import Derived.SizedLaws
import Derived.ChangeSlices
import Derived.SliceStrings
import Derived.ChangeOld
import Derived.OpenShut
import Derived.Test.YtlnedgjikkhplaaGreatGL22
section
namespace Go.Proofs.YtlnedgjikkhplaaGreat.Nc
open Go.RowKit
set_option linter.unusedVariables false

namespace M
theorem many_all {α : Type} (f : List UInt8 → Option (α × List UInt8)) (P : α → Prop) (hf : ∀ l x r, f l = some (x, r) → P x) :
    ∀ (n : Nat) (l : List UInt8) (xs : List α) (r : List UInt8), many f n l = some (xs, r) → ∀ x ∈ xs, P x := by
  intro n
  induction n with
  | zero => intro l xs r h; simp only [many, Option.some.injEq, Prod.mk.injEq] at h; obtain ⟨rfl, rfl⟩ := h; simp
  | succ n ih =>
    intro l xs r h
    rw [many] at h
    split at h
    · cases h
    · rename_i x r1 h1
      split at h
      · cases h
      · rename_i ys r2 h2
        simp only [Option.some.injEq, Prod.mk.injEq] at h
        obtain ⟨rfl, rfl⟩ := h
        intro y hy
        rcases List.mem_cons.1 hy with rfl | h'
        · exact hf l y r1 h1
        · exact ih r1 ys r2 h2 y h'
theorem many_le {α : Type} (f : List UInt8 → Option (α × List UInt8)) (hf : ∀ l x r, f l = some (x, r) → r.length < l.length) :
    ∀ (n : Nat) (l : List UInt8) (xs : List α) (r : List UInt8), many f n l = some (xs, r) → r.length ≤ l.length := by
  intro n
  induction n with
  | zero => intro l xs r h; simp only [many, Option.some.injEq, Prod.mk.injEq] at h; obtain ⟨rfl, rfl⟩ := h; simp
  | succ n ih =>
    intro l xs r h
    rw [many] at h
    split at h
    · cases h
    · rename_i x r1 h1
      split at h
      · cases h
      · rename_i ys r2 h2
        simp only [Option.some.injEq, Prod.mk.injEq] at h
        obtain ⟨rfl, rfl⟩ := h
        have := ih r1 ys r2 h2
        have := hf l x r1 h1
        omega
theorem ints_all (l : List UInt8) (xs : List Int) (r : List UInt8) (h : ints l = some (xs, r)) : (∀ n ∈ xs, -9223372036854775808 ≤ n ∧ n ≤ 9223372036854775807) ∧ xs.length ≤ l.length ∧ r.length ≤ l.length := by
  unfold ints at h
  split at h
  · cases h
  · rename_i n r' hc
    have hl := count_len l n r' hc
    have h1 := many_le int int_len n r' xs r h
    have h2 := many_len int n r' xs r h
    exact ⟨many_all int _ int_bd n r' xs r h, by omega, by omega⟩
theorem texts_all (l : List UInt8) (xs : List (List UInt8)) (r : List UInt8) (h : texts l = some (xs, r)) : xs.length ≤ l.length ∧ r.length ≤ l.length := by
  unfold texts at h
  split at h
  · cases h
  · rename_i n r' hc
    have hl := count_len l n r' hc
    have h1 := many_le text text_len n r' xs r h
    have h2 := many_len text n r' xs r h
    exact ⟨by omega, by omega⟩
theorem text_size (l s r : List UInt8) (h : text l = some (s, r)) : s.length ≤ l.length := by
  have := text_only l s r h
  subst this
  simp [encT]
  omega
end M

theorem nx_le {α : Type} {o : Option (α × List UInt8)} {n : Nat} (h : ∀ x r, o = some (x, r) → r.length ≤ n) : (lft (nx o)).length ≤ n := by
  cases o with
  | none => exact Nat.zero_le _
  | some p => exact h p.1 p.2 rfl
theorem int_left (l : List UInt8) : (lft (nx (M.int l))).length ≤ l.length := nx_le fun x r h => Nat.le_of_lt (M.int_len l x r h)
theorem byte_left (l : List UInt8) : (lft (nx (M.byte l))).length ≤ l.length := by
  cases l with
  | nil => exact Nat.zero_le _
  | cons c r => exact Nat.le_succ _
theorem text_left (l : List UInt8) : (lft (nx (M.text l))).length ≤ l.length := nx_le fun x r h => Nat.le_of_lt (M.text_len l x r h)
theorem ints_left (l : List UInt8) : (lft (nx (M.ints l))).length ≤ l.length := nx_le fun x r h => (M.ints_all l x r h).2.2
theorem texts_left (l : List UInt8) : (lft (nx (M.texts l))).length ≤ l.length := nx_le fun x r h => (M.texts_all l x r h).2
theorem rdone_eq (st : Option (List UInt8)) : rdone st = 0 ∧ st = some [] ∨ rdone st = 3 ∧ st ≠ some [] := by
  match st with
  | none => exact .inr ⟨rfl, by simp⟩
  | some [] => exact .inl ⟨rfl, rfl⟩
  | some (c :: r) => exact .inr ⟨rfl, by simp⟩

end Go.Proofs.YtlnedgjikkhplaaGreat.Nc
end
section
namespace Go.Proofs.YtlnedgjikkhplaaGreat.Du
open Go.RowKit
set_option linter.unusedVariables false
set_option linter.unusedSimpArgs false
open Na (Fr AS XL vl bV vV Hid_of bel1 bel2 bel_up bel_row row2 row4 blk OwnL AtL)
open Na.M (E V S S0)

open Ns.M (ofL)
open Nc (RS)
open Nc.M (enc encT)
/-! what was laid is read -/
section
variable {w w' : World} {rb k : Nat} {l : List UInt8} {o : Obj}
theorem row_gr (hr : w.heap[k]? = some o) (hg : w.grownBy w' (some rb)) (hk : k ≠ rb) : w'.heap[k]? = some o := (hg.block k (Array.getElem?_eq_some_iff.1 hr).1 (fun e => hk (by cases e; rfl))).trans hr
theorem rInt (n : Int) (h : RS w rb (some (enc n ++ l))) (hn : I64 n) (hl : l.length ≤ 1000000) : Calls Tryz.prog 172 #[ptr rb] w fun e w' => e = .returned (.int .i64 n) ∧ RS w' rb (some l) ∧ w.grownBy w' (some rb) := by
  have h10 := enc_le hn
  refine (Nc.int_rs rb _ w h (by show (enc n ++ l).length ≤ _; rw [List.length_append]; omega)).mono ?_
  rintro e w' ⟨h1, h2, h3⟩
  have e1 : Nc.M.int (Nc.lft (some (enc n ++ l))) = some (n, l) := Nc.M.int_enc n l hn
  rw [e1] at h1 h2
  exact ⟨h1, h2, h3⟩
theorem rByte (c : UInt8) (h : RS w rb (some (c :: l))) (hl : l.length ≤ 1000000) : Calls Tryz.prog 137 #[ptr rb] w fun e w' => e = .returned (.int .i64 (c.toNat : Int)) ∧ RS w' rb (some l) ∧ w.grownBy w' (some rb) := by
  refine (Nc.byte_rs rb _ w h (by show (c :: l).length ≤ _; rw [List.length_cons]; omega)).mono ?_
  rintro e w' ⟨h1, h2, h3⟩
  exact ⟨h1, h2, h3⟩
theorem rText (s : List UInt8) (h : RS w rb (some (encT s ++ l))) (hs : s.length ≤ 60000) (hl : l.length ≤ 1000000) : Calls Tryz.prog 136 #[ptr rb] w fun e w' => e = .returned (.string (ofL s)) ∧ RS w' rb (some l) ∧ w.grownBy w' (some rb) := by
  have h10 := encT_le s hs
  refine (Nc.text_any rb _ w h (by show (encT s ++ l).length ≤ _; rw [List.length_append]; omega)).mono ?_
  rintro e w' ⟨h1, h2, h3⟩
  have e1 : Nc.M.text (Nc.lft (some (encT s ++ l))) = some (s, l) := Nc.M.text_enc s l (by omega)
  rw [e1] at h1 h2
  exact ⟨h1, h2, h3⟩
end
theorem f173_res : Tryz.f173.results = #[.cell 2 36] := rfl
set_option maxRecDepth 100000 in
set_option maxHeartbeats 1000000 in
theorem readBallot_any (x : E) (rb : Nat) (l : List UInt8) (w : World) (h : RS w rb (some (encB x ++ l))) (h1 : I64 x.i) (h2 : I64 x.t) (hl : l.length ≤ 900000) :
    Calls Tryz.prog 173 #[ptr rb] w fun e w' => e = .returned (bV x) ∧ RS w' rb (some l) ∧ w.grownBy w' (some rb) := by
  have hlt := h.lt
  obtain ⟨W1, HW1⟩ : ∃ W1, Hid (w.alloc (.cells #[.int .i64 0, .int .i64 0] 36) = W1) := ⟨_, Hid_of rfl⟩
  have hb1 : Below w.heap.size w W1 := by rw [← HW1.out]; exact bel1 w _
  have hr1 : W1.heap[w.heap.size]? = some (.cells #[.int .i64 0, .int .i64 0] 36 (0, 0)) := by rw [← HW1.out]; exact heap_alloc_last w _
  have hh : RS W1 rb (some (enc x.i ++ (enc x.t ++ l))) := by
    have := Nc.RS.below h hb1
    rw [encB, List.append_assoc] at this
    exact this
  have h10 := enc_le h2
  have hc := rInt x.i hh h1 (by rw [List.length_append]; omega)
  have HR1 := Hid_of hr1
  have HG1 : Hid (w.grownBy W1 (some rb)) := Nc.grown_below hb1
  clear h hh hr1 hb1
  go_enter Tryz.func173, Tryz.ntmps173
  go_upto_region 1 with fail
  rw [HW1.out]
  clear HW1
  go_wp2_with fail
  refine hc.mono ?_
  rintro e w2 ⟨rfl, q2, g2⟩
  have hc2 := rInt x.t q2 h2 (by omega)
  have HR2 := Hid_of (row_gr HR1.out g2 (by omega))
  have HG2 := Hid_of (Nc.grown_trans HG1.out g2)
  clear hc q2 g2 HR1 HG1
  go_wp2_with fail
  refine hc2.mono ?_
  rintro e w3 ⟨rfl, q3, g3⟩
  have hr3 := row_gr HR2.out g3 (by omega)
  obtain ⟨⟨d0, d1⟩, df⟩ := row2 hr3
  have f0 := df 0
  have f1 := df 1
  have HR3 := Hid_of hr3
  have HG3 := Hid_of (Nc.grown_trans HG2.out g3)
  have HQ3 := Hid_of q3
  clear hc2 q3 g3 HR2 HG2 hr3 df
  go_wp2
  refine bodyPost_ret (v := bV x) ?_ rfl ⟨rfl, ?_, ?_⟩
  · exact results_cell_row f173_res _ _ w.heap.size 36 _ (0, 0) _ rfl (heap_setCell_same _ w.heap.size 1 _ _ _ (heap_setCell_same w3 w.heap.size 0 _ _ _ HR3.out)) Tryz.underlying36 rfl Na.Tryz.size36
  · refine Nc.RS.keep HQ3.out ?_
    rw [heap_setCell_other _ ⟨w.heap.size, 1, none⟩ rb _ (by simp; omega), heap_setCell_other _ ⟨w.heap.size, 0, none⟩ rb _ (by simp; omega)]
  · refine ⟨HG3.out.os, HG3.out.tape, HG3.out.output, ?_, fun k hk hne => ?_⟩
    · have := HG3.out.size; simp; omega
    · rw [heap_setCell_other _ ⟨w.heap.size, 1, none⟩ k _ (by simp; omega), heap_setCell_other _ ⟨w.heap.size, 0, none⟩ k _ (by simp; omega)]
      exact HG3.out.block k hk hne
theorem open_sealed (b : List UInt8) : Ns.openOut (ofL (K2.sealed b)) = (ofL b, 0) := by
  have h1 : (ofL (K2.sealed b)).size = b.length + 4 := by rw [Ns.M.ofL_size, sealed_len]
  have h2 : (ofL (K2.sealed b)).data.toList = K2.sealed b := Ns.ofL_data _
  unfold Ns.openOut
  rw [if_neg (by omega), h1, h2, Nat.add_sub_cancel]
  have h3 : (K2.sealed b).take b.length = b := by
    unfold K2.sealed
    exact List.take_left
  rw [h3, if_pos rfl]
theorem open_none : Ns.openOut (ofL []) = (ByteArray.empty, 2) := rfl
end Go.Proofs.YtlnedgjikkhplaaGreat.Du
end
