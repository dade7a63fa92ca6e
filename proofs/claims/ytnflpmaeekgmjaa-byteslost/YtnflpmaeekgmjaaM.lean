/-
  Plain facts on lists of bytes: how many bytes two lists have alike from the front, whether all are 0, the xor of two and of many, a list laid over another one. No Go text is read here.
-/
import Derived.Below
namespace Go.Proofs.Ytnflpmaeekgmjaa
namespace M

def same : List UInt8 → List UInt8 → Nat
  | a :: as, b :: bs => if a = b then same as bs + 1 else 0
  | _, _ => 0

theorem same_stop : ∀ (k : Nat) (a b : List UInt8), k ≤ a.length → k ≤ b.length → a.take k = b.take k →
    (k = a.length ∨ k = b.length ∨ a[k]? ≠ b[k]?) → same a b = k
  | 0, [], b, _, _, _, _ => by simp [same]
  | 0, a :: as, [], _, _, _, _ => by simp [same]
  | 0, a :: as, b :: bs, _, _, _, h => by
    have : a ≠ b := by simpa using h
    simp [same, this]
  | k + 1, [], b, h, _, _, _ => by simp at h
  | k + 1, a :: as, [], _, h, _, _ => by simp at h
  | k + 1, a :: as, b :: bs, ha, hb, he, h => by
    simp at he
    have := same_stop k as bs (by simpa using ha) (by simpa using hb) he.2 (by simpa using h)
    simp [same, he.1, this]

theorem same_le : ∀ (a b : List UInt8), same a b ≤ a.length ∧ same a b ≤ b.length
  | [], b => by simp [same]
  | a :: as, [] => by simp [same]
  | a :: as, b :: bs => by
    have := same_le as bs
    simp only [same, List.length_cons]
    split <;> omega

def zero (l : List UInt8) : Bool := l.all (· == 0)

theorem take_snoc {α : Type} (l : List α) (k : Nat) (h : k < l.length) : l.take (k + 1) = l.take k ++ [l[k]] := by
  rw [List.take_succ_eq_append_getElem h]

theorem take_eq_snoc (a b : List UInt8) (k : Nat) (ha : k < a.length) (hb : k < b.length) (h : a.take k = b.take k) (e : a[k] = b[k]) : a.take (k + 1) = b.take (k + 1) := by
  rw [take_snoc a k ha, take_snoc b k hb, h, e]

theorem zero_hit (l : List UInt8) (k : Nat) (h : k < l.length) (e : l[k] ≠ 0) : zero l = false := by
  unfold zero
  rw [Bool.eq_false_iff]
  intro h'
  rw [List.all_eq_true] at h'
  have := h' _ (List.getElem_mem h)
  simp at this
  exact e this

theorem zero_snoc (l : List UInt8) (k : Nat) (h : k < l.length) (e : l[k] = 0) (hz : zero (l.take k) = true) : zero (l.take (k + 1)) = true := by
  rw [take_snoc l k h]
  unfold zero at *
  simp [List.all_append, hz, e]

/-- A list laid over another one, from a place on, as far as k bytes. -/
def over (l : List UInt8) (off : Nat) (s : List UInt8) : List UInt8 := l.take off ++ s ++ l.drop (off + s.length)

theorem over_length (l : List UInt8) (off : Nat) (s : List UInt8) (h : off + s.length ≤ l.length) : (over l off s).length = l.length := by
  simp [over]; omega

theorem over_nil (l : List UInt8) (off : Nat) : over l off [] = l := by simp [over]

theorem over_step (l : List UInt8) (off : Nat) (s : List UInt8) (k : Nat) (hk : k < s.length) (h : off + s.length ≤ l.length) :
    (over l off (s.take k)).set (off + k) s[k] = over l off (s.take (k + 1)) := by
  have e1 : (s.take k).length = k := by simp; omega
  have e2 : (s.take (k + 1)).length = k + 1 := by simp; omega
  unfold over
  rw [e1, e2, take_snoc s k hk]
  have e3 : (l.take off ++ s.take k).length = off + k := by simp; omega
  rw [List.set_append_right _ _ (by omega), e3, Nat.sub_self]
  have e4 : l.drop (off + k) = l[off + k] :: l.drop (off + k + 1) := by rw [List.drop_eq_getElem_cons (by omega)]
  rw [e4]
  simp only [List.append_assoc, List.cons_append, List.nil_append, List.set_cons_zero, Nat.add_assoc]

/-- A list xored into the front of another one. -/
def mix (l s : List UInt8) : List UInt8 := (List.range l.length).map fun i => l.getD i 0 ^^^ s.getD i 0

theorem mix_length (l s : List UInt8) : (mix l s).length = l.length := by simp [mix]
theorem mix_get (l s : List UInt8) (i : Nat) (h : i < l.length) : (mix l s)[i]'(by rw [mix_length]; exact h) = l.getD i 0 ^^^ s.getD i 0 := by simp [mix]
theorem mix_getD (l s : List UInt8) (i : Nat) (h : i < l.length) : (mix l s).getD i 0 = l.getD i 0 ^^^ s.getD i 0 := by
  rw [← mix_get l s i h]; simp [mix, h]

theorem mix_nil (l : List UInt8) : mix l [] = l := by
  apply List.ext_getElem (mix_length _ _)
  intro i h1 h2
  rw [mix_get l [] i h2]
  simp [h2]

theorem mix_step (l s : List UInt8) (k : Nat) (hk : k < s.length) (hl : s.length ≤ l.length) :
    (mix l (s.take k)).set k ((mix l (s.take k))[k]'(by rw [mix_length]; omega) ^^^ s[k]) = mix l (s.take (k + 1)) := by
  apply List.ext_getElem (by simp [mix_length])
  intro i h1 h2
  have hi : i < l.length := by simpa [mix_length] using h2
  rw [mix_get l _ i hi, List.getElem_set]
  by_cases e : k = i
  · subst e
    rw [if_pos rfl, mix_get l _ k hi]
    have e1 : (s.take k).getD k 0 = 0 := by rw [List.getD_eq_getElem?_getD, List.getElem?_take, if_neg (by omega)]; rfl
    have e2 : (s.take (k + 1)).getD k 0 = s[k] := by rw [List.getD_eq_getElem?_getD, List.getElem?_take, if_pos (by omega), List.getElem?_eq_getElem hk]; rfl
    rw [e1, e2, UInt8.xor_zero]
  · rw [if_neg e, mix_get l _ i hi]
    congr 1
    simp only [List.getD_eq_getElem?_getD, List.getElem?_take]
    by_cases h : i < k
    · rw [if_pos h, if_pos (by omega)]
    · rw [if_neg h, if_neg (by omega)]

end M
end Go.Proofs.Ytnflpmaeekgmjaa
