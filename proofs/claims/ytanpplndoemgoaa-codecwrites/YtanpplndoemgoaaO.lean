/-
  An item that was laid is read as it was: the second loop's rounds of the law CodecBack, kind by kind, in plain functions.
-/
import Derived.Test.YtanpplndoemgoaaN
namespace Go.Proofs.Ytanpplndoemgoaa
open Go.RowKit
set_option linter.unusedVariables false

theorem At.keepBut' {α : Type} {w w' : World} {a : Option Addr} {f : α → Value} {l : List α} (h : At w a f l) (hb : 0 < l.length → ∀ k, k < w.heap.size → blk a k → w'.heap[k]? = w.heap[k]?) : At w' a f l := by
  by_cases h0 : 0 < l.length
  · exact h.keepBut (hb h0)
  · intro j hj; omega
theorem back_byte (n : Int) (text : List UInt8) (ints : List Int) (texts : List (List UInt8)) (rest : List UInt8) (h : 0 ≤ n ∧ n ≤ 255) : M.byte (M.encItem ⟨1, n, text, ints, texts⟩ ++ rest) = some (n, rest) := by
  have e : M.encItem ⟨1, n, text, ints, texts⟩ = [UInt8.ofNat n.toNat] := rfl
  rw [e]
  show some (((UInt8.ofNat n.toNat).toNat : Int), rest) = _
  have : (UInt8.ofNat n.toNat).toNat = n.toNat := by simp; omega
  rw [this]
  congr 2
  omega
theorem back_text (n : Int) (text : List UInt8) (ints : List Int) (texts : List (List UInt8)) (rest : List UInt8) (h : text.length ≤ 70000) : M.text (M.encItem ⟨2, n, text, ints, texts⟩ ++ rest) = some (text, rest) :=
  M.text_enc text rest (by omega)
theorem back_ints (n : Int) (text : List UInt8) (ints : List Int) (texts : List (List UInt8)) (rest : List UInt8) (h : ints.length ≤ 300) (hb : ∀ n ∈ ints, -9223372036854775808 ≤ n ∧ n ≤ 9223372036854775807) : M.ints (M.encItem ⟨3, n, text, ints, texts⟩ ++ rest) = some (ints, rest) :=
  M.ints_enc ints rest (by omega) hb
theorem back_texts (n : Int) (text : List UInt8) (ints : List Int) (texts : List (List UInt8)) (rest : List UInt8) (h : texts.length ≤ 60) (hb : ∀ s ∈ texts, s.length ≤ 5000) : M.texts (M.encItem ⟨4, n, text, ints, texts⟩ ++ rest) = some (texts, rest) :=
  M.texts_enc texts rest (by omega) (fun s hs => by have := hb s hs; omega)
theorem back_int (kind n : Int) (text : List UInt8) (ints : List Int) (texts : List (List UInt8)) (rest : List UInt8) (h1 : kind ≠ 1) (h2 : kind ≠ 2) (h3 : kind ≠ 3) (h4 : kind ≠ 4) (hn : -9223372036854775808 ≤ n ∧ n ≤ 9223372036854775807) : M.int (M.encItem ⟨kind, n, text, ints, texts⟩ ++ rest) = some (n, rest) := by
  have e : M.encItem ⟨kind, n, text, ints, texts⟩ = M.enc n := by simp [M.encItem, h1, h2, h3, h4]
  rw [e]
  exact M.int_enc n rest hn
theorem few_all {l : List It} (h : fewN l ≠ 0) : l.length ≤ 30 ∧ ∀ j (hj : j < l.length), okI l[j].x = true := by
  unfold fewN few at h
  simp at h
  exact ⟨h.1, fun j hj => h.2 _ (List.getElem_mem hj)⟩
theorem few_01 (l : List It) : fewN l = 0 ∨ fewN l = 1 := by unfold fewN; split <;> simp
theorem fold_snoc (m : Nat) (l : List It) (k : Nat) (h : k < l.length) (st : Nat × List UInt8) : ((l.take (k + 1)).map (·.x)).foldl (M.layItem m) st = M.layItem m (((l.take k).map (·.x)).foldl (M.layItem m) st) l[k].x := by
  rw [M.take_snoc l k h, List.map_append, List.foldl_append]
  rfl
theorem rest_step (l : List It) (k : Nat) (h : k < l.length) : ((l.map (·.x)).drop k).flatMap M.encItem = M.encItem l[k].x ++ ((l.map (·.x)).drop (k + 1)).flatMap M.encItem := by
  rw [M.drop_cons (l.map (·.x)) k (by simpa using h), List.flatMap_cons]
  simp

/-- What is left of the items' bytes from the k-th on. -/
def restOf (l : List It) (k : Nat) : List UInt8 := ((l.map (·.x)).drop k).flatMap M.encItem
theorem restOf_0 (l : List It) : restOf l 0 = (l.map (·.x)).flatMap M.encItem := by rw [restOf, List.drop_zero]
theorem restOf_step (l : List It) (k : Nat) (h : k < l.length) : restOf l k = M.encItem l[k].x ++ restOf l (k + 1) := rest_step l k h
theorem restOf_end (l : List It) (k : Nat) (h : l.length ≤ k) : restOf l k = [] := by rw [restOf, List.drop_of_length_le (by simpa using h)]; rfl

/-- What the round of an item needs of it, once its parts are in sight. -/
structure Parts (w : World) (kind n : Int) (text : List UInt8) (ints : List Int) (texts : List (List UInt8)) (ia ta : Option Addr) : Prop where
  n : -9223372036854775808 ≤ n ∧ n ≤ 9223372036854775807
  text : text.length ≤ 70000
  intsL : ints.length ≤ 300
  textsL : texts.length ≤ 60
  textsB : ∀ s ∈ texts, s.length ≤ 5000
  intsB : ∀ n ∈ ints, -9223372036854775808 ≤ n ∧ n ≤ 9223372036854775807
  ints : At w ia (Value.int .i64) ints
  texts : At w ta strV texts
theorem parts_of {w : World} {kind n : Int} {text : List UInt8} {ints : List Int} {texts : List (List UInt8)} {ia ta : Option Addr} {icap tcap : Nat} (ok : ItOk w ⟨⟨kind, n, text, ints, texts⟩, ia, icap, ta, tcap⟩) (h : okI (⟨kind, n, text, ints, texts⟩ : M.Item) = true) : Parts w kind n text ints texts ia ta := by
  obtain ⟨q1, q2, q3, q4⟩ := okI_parts h
  exact ⟨ok.n, q1, q2, q3, q4, ok.intsB, ok.ints, ok.texts⟩

end Go.Proofs.Ytanpplndoemgoaa
