/-
  A state in two places, as plain lists: its bytes, what a place tells, what is read of both.
-/
import Derived.Test.YthffglacokfkgaaSD
namespace Go.Proofs.Ythffglacokfkgaa
open Go.RowKit
open M (ofL ofL_size ofL_of)
set_option linter.unusedVariables false
namespace Sp
/-- The number in four bytes from k on. -/
def nm (l : List UInt8) (k : Nat) : Nat := (l.getD k 0).toNat + 256 * (l.getD (k + 1) 0).toNat + 65536 * (l.getD (k + 2) 0).toNat + 16777216 * (l.getD (k + 3) 0).toNat
theorem nm_lt (l : List UInt8) (k : Nat) : nm l k < 4294967296 := by
  unfold nm
  have h0 := (l.getD k 0).toNat_lt
  have h1 := (l.getD (k + 1) 0).toNat_lt
  have h2 := (l.getD (k + 2) 0).toNat_lt
  have h3 := (l.getD (k + 3) 0).toNat_lt
  omega
theorem byte_nat (x : BitVec 32) (k : Nat) : (K2.byte x k).toNat = x.toNat / 2 ^ k % 256 := by
  have := byte_bits x k
  have e : ((x.toNat / 2 ^ k % 256 : Nat) : Int) = (x.toNat : Int) / ((2 ^ k : Nat) : Int) % 256 := by
    rw [Int.natCast_emod, Int.natCast_ediv]; rfl
  rw [← e] at this
  exact Int.ofNat.inj this
theorem nm_four (x : BitVec 32) (r : List UInt8) : nm (K2.four x ++ r) 0 = x.toNat := by
  have hx : x.toNat < 4294967296 := x.isLt
  have b0 := byte_nat x 0
  have b1 := byte_nat x 8
  have b2 := byte_nat x 16
  have b3 := byte_nat x 24
  simp only [Nat.pow_zero, Nat.reducePow] at b0 b1 b2 b3
  show (K2.byte x 0).toNat + 256 * (K2.byte x 8).toNat + 65536 * (K2.byte x 16).toNat + 16777216 * (K2.byte x 24).toNat = x.toNat
  rw [b0, b1, b2, b3]
  omega
theorem nm_four4 (x y : BitVec 32) (r : List UInt8) : nm (K2.four x ++ (K2.four y ++ r)) 4 = y.toNat := by
  rw [← nm_four y r]
  rfl
theorem nm_take (l : List UInt8) (n k : Nat) (h : k + 4 ≤ n) : nm (l.take n) k = nm l k := by
  unfold nm
  simp only [List.getD_eq_getElem?_getD, List.getElem?_take]
  rw [if_pos (by omega), if_pos (by omega), if_pos (by omega), if_pos (by omega)]
theorem nm_drop (l : List UInt8) (n k : Nat) : nm (l.drop n) k = nm l (n + k) := by
  unfold nm
  simp only [List.getD_eq_getElem?_getD, List.getElem?_drop]
  rfl
/-- A state's bytes. -/
def heads (b : List UInt8) (g : Nat) : List UInt8 := K2.four (BitVec.ofNat 32 g) ++ K2.four (BitVec.ofNat 32 b.length) ++ b
def pk (b : List UInt8) (g : Nat) : List UInt8 := K2.sealed (pad (heads b g) 252)
theorem heads_len (b : List UInt8) (g : Nat) : (heads b g).length = 8 + b.length := by
  simp only [heads, List.length_append, K2.four, List.length_cons, List.length_nil]
theorem pad_len (l : List UInt8) (n : Nat) (h : l.length ≤ n) : (pad l n).length = n := by
  simp only [pad, List.length_append, List.length_replicate]
  omega
theorem body_len (b : List UInt8) (g : Nat) (h : b.length ≤ 244) : (pad (heads b g) 252).length = 252 := pad_len _ _ (by rw [heads_len]; omega)
theorem pk_len (b : List UInt8) (g : Nat) (h : b.length ≤ 244) : (pk b g).length = 256 := by
  unfold pk K2.sealed
  rw [List.length_append, body_len b g h]
  rfl
theorem pk_take (b : List UInt8) (g : Nat) (h : b.length ≤ 244) : (pk b g).take 252 = pad (heads b g) 252 := by
  unfold pk K2.sealed
  exact List.take_left' (body_len b g h)
theorem pk_form (b : List UInt8) (g : Nat) : ∃ r, pk b g = K2.four (BitVec.ofNat 32 g) ++ (K2.four (BitVec.ofNat 32 b.length) ++ (b ++ r)) := by
  refine ⟨List.replicate (252 - (heads b g).length) 0 ++ K2.four (K2.sum (pad (heads b g) 252)), ?_⟩
  simp only [pk, K2.sealed, pad, heads, List.append_assoc]
theorem pk_gen (b : List UInt8) (g : Nat) (hg : g < 4294967296) : nm (pk b g) 0 = g := by
  obtain ⟨r, e⟩ := pk_form b g
  rw [e, nm_four, BitVec.toNat_ofNat, Nat.mod_eq_of_lt hg]
theorem pk_length (b : List UInt8) (g : Nat) (hb : b.length ≤ 244) : nm (pk b g) 4 = b.length := by
  obtain ⟨r, e⟩ := pk_form b g
  rw [e, nm_four4, BitVec.toNat_ofNat, Nat.mod_eq_of_lt (by omega)]
theorem pk_body (b : List UInt8) (g : Nat) : ((pk b g).drop 8).take b.length = b := by
  obtain ⟨r, e⟩ := pk_form b g
  rw [e, ← List.append_assoc, List.drop_left' (by rfl), List.take_left' rfl]
/-- The body that a place tells. -/
def bd (s : List UInt8) : List UInt8 := (s.drop 8).take (nm s 4)
/-- Does a place count? -/
def ok (pl : Nat) (s : List UInt8) : Bool := decide (K2.sealed (s.take 252) = s) && (decide (nm s 4 ≤ 244) && (decide (1 ≤ nm s 0) && decide (nm s 0 < 2147483648) && (decide (pk (bd s) (nm s 0) = s) && decide (nm s 0 % 2 = pl))))
/-- What a place tells: the generation (0: it does not count), the body. -/
def sa (pl : Nat) (s : List UInt8) : Nat × List UInt8 := bif ok pl s then (nm s 0, bd s) else (0, [])
theorem ok_iff (pl : Nat) (s : List UInt8) : ok pl s = true ↔ K2.sealed (s.take 252) = s ∧ nm s 4 ≤ 244 ∧ 1 ≤ nm s 0 ∧ nm s 0 < 2147483648 ∧ pk (bd s) (nm s 0) = s ∧ nm s 0 % 2 = pl := by
  simp only [ok, Bool.and_eq_true, decide_eq_true_eq, and_assoc]
theorem bd_len (s : List UInt8) : (bd s).length ≤ nm s 4 := by
  unfold bd
  rw [List.length_take]
  exact Nat.min_le_left _ _
theorem sa_yes {pl : Nat} {s : List UInt8} (h : ok pl s = true) : sa pl s = (nm s 0, bd s) := by unfold sa; rw [h]; rfl
theorem sa_no {pl : Nat} {s : List UInt8} (h : ok pl s = false) : sa pl s = (0, []) := by unfold sa; rw [h]; rfl
theorem sa_zero (pl : Nat) (s : List UInt8) (h : nm s 0 = 0) : sa pl s = (0, []) := by
  apply sa_no
  cases ho : ok pl s with
  | false => rfl
  | true => have := ((ok_iff pl s).1 ho).2.2.1; omega
theorem sa_par (pl : Nat) (s : List UInt8) : (sa pl s).1 = 0 ∧ (sa pl s).2 = [] ∨ 1 ≤ (sa pl s).1 ∧ (sa pl s).1 % 2 = pl ∧ (sa pl s).1 < 2147483648 ∧ (sa pl s).2.length ≤ 244 ∧ ok pl s = true := by
  cases h : ok pl s with
  | false => left; rw [sa_no h]; exact ⟨rfl, rfl⟩
  | true =>
    right
    rw [sa_yes h]
    obtain ⟨_, h2, h3, h4, _, h6⟩ := (ok_iff pl s).1 h
    exact ⟨h3, h6, h4, Nat.le_trans (bd_len s) h2, rfl⟩
theorem ok_pk (b : List UInt8) (g : Nat) (hb : b.length ≤ 244) (h1 : 1 ≤ g) (h2 : g < 2147483648) : ok (g % 2) (pk b g) = true ∧ sa (g % 2) (pk b g) = (g, b) := by
  have eg := pk_gen b g (by omega)
  have el := pk_length b g hb
  have eb : bd (pk b g) = b := by
    unfold bd
    rw [el, pk_body]
  have h : ok (g % 2) (pk b g) = true := by
    rw [ok_iff]
    refine ⟨?_, by omega, by omega, by omega, ?_, by rw [eg]⟩
    · rw [pk_take b g hb]; rfl
    · rw [eb, eg]
  refine ⟨h, ?_⟩
  rw [sa_yes h, eg, eb]
/-- What is read of both places. -/
def rd (s : List UInt8) : Nat × List UInt8 := bif decide ((sa 0 (s.take 256)).1 < (sa 1 (s.drop 256)).1) then sa 1 (s.drop 256) else sa 0 (s.take 256)
end Sp
end Go.Proofs.Ythffglacokfkgaa
