/-
  Ballots as plain pairs: their order, which may be, the next one, the greatest of some, quorums.
-/
namespace Go.Proofs.Ytfjlanhekheecaa.M
set_option linter.unusedVariables false

/-- A ballot: its number, and its node. -/
structure E where
  i : Int
  t : Int
/-- A vote: a slot, a ballot, a value. -/
structure V where
  s : Int
  b : E
  v : ByteArray
/-- The sign of the order. -/
def cmp (a b : Int) : Int := if a < b then -1 else if b < a then 1 else 0
def cmpE (a b : E) : Int := if cmp a.i b.i = 0 then cmp a.t b.t else cmp a.i b.i
theorem cmp_lt {a b : Int} (h : a < b) : cmp a b = -1 := by unfold cmp; rw [if_pos h]
theorem cmp_gt {a b : Int} (h : b < a) : cmp a b = 1 := by unfold cmp; rw [if_neg (by omega), if_pos h]
theorem cmp_eq (a : Int) : cmp a a = 0 := by unfold cmp; rw [if_neg (by omega), if_neg (by omega)]
theorem cmp_three (a b : Int) : (a < b ∧ cmp a b = -1) ∨ (a = b ∧ cmp a b = 0) ∨ (b < a ∧ cmp a b = 1) := by
  rcases Int.lt_trichotomy a b with h | h | h
  · exact .inl ⟨h, cmp_lt h⟩
  · subst h; exact .inr (.inl ⟨rfl, cmp_eq a⟩)
  · exact .inr (.inr ⟨h, cmp_gt h⟩)
/-- Of any two one is less, or they are the same. -/
theorem cmpE_three (a b : E) : ((a.i < b.i ∨ (a.i = b.i ∧ a.t < b.t)) ∧ cmpE a b = -1) ∨ ((a.i = b.i ∧ a.t = b.t) ∧ cmpE a b = 0) ∨ ((b.i < a.i ∨ (a.i = b.i ∧ b.t < a.t)) ∧ cmpE a b = 1) := by
  unfold cmpE
  rcases cmp_three a.i b.i with ⟨h, e⟩ | ⟨h, e⟩ | ⟨h, e⟩ <;> rw [e]
  · exact .inl ⟨.inl h, by simp⟩
  · rcases cmp_three a.t b.t with ⟨h', e'⟩ | ⟨h', e'⟩ | ⟨h', e'⟩ <;> rw [e']
    · exact .inl ⟨.inr ⟨h, h'⟩, by simp⟩
    · exact .inr (.inl ⟨⟨h, h'⟩, by simp⟩)
    · exact .inr (.inr ⟨.inr ⟨h, h'⟩, by simp⟩)
  · exact .inr (.inr ⟨.inl h, by simp⟩)
/-- The order is one. -/
theorem order (a b c : E) : cmpE b a = - cmpE a b ∧ (cmpE a b = 0 ↔ a.i = b.i ∧ a.t = b.t) ∧ (cmpE a b = 0 → cmpE b c = 0 → cmpE a c = 0) ∧ (cmpE a b ≤ 0 → cmpE b c ≤ 0 → cmpE a c ≤ 0) ∧ (0 ≤ cmpE a b → 0 ≤ cmpE b c → 0 ≤ cmpE a c) := by
  rcases cmpE_three a b with ⟨h, e⟩ | ⟨h, e⟩ | ⟨h, e⟩ <;> rcases cmpE_three b a with ⟨h1, e1⟩ | ⟨h1, e1⟩ | ⟨h1, e1⟩ <;> rcases cmpE_three b c with ⟨h2, e2⟩ | ⟨h2, e2⟩ | ⟨h2, e2⟩ <;> rcases cmpE_three a c with ⟨h3, e3⟩ | ⟨h3, e3⟩ | ⟨h3, e3⟩ <;> rw [e, e1, e2, e3] <;> omega
/-- May a ballot be? -/
def vld (b : E) : Bool := decide (0 ≤ b.i) && decide (b.i ≤ 2147483647) && decide (0 ≤ b.t) && decide (b.t ≤ 6)
/-- A node, within what may be. -/
def nod (n : Int) : Int := min (max n 0) 6
/-- The next ballot of a node. -/
def nxt (b : E) (n : Int) : E := if b.i < 0 ∨ 2147483647 ≤ b.i then ⟨0, 0⟩ else ⟨b.i + 1, nod n⟩
/-- How many are a quorum. -/
def quo (n : Int) : Int := if n < 1 ∨ 7 < n then 0 else n / 2 + 1
/-- Where the greatest of the first so many stands: the first one of several. -/
def bst (l : List E) : Nat → Nat
  | 0 => 0
  | 1 => 0
  | k + 2 => if 0 < cmpE (l.getD (k + 1) ⟨0, 0⟩) (l.getD (bst l (k + 1)) ⟨0, 0⟩) then k + 1 else bst l (k + 1)
theorem bst_lt (l : List E) : ∀ k, 0 < k → bst l k < k
  | 0, h => by omega
  | 1, _ => by simp [bst]
  | k + 2, _ => by
    have := bst_lt l (k + 1) (by omega)
    rw [bst]
    split <;> omega
theorem bst_step (l : List E) (k : Nat) (h0 : 0 < k) (hk : k < l.length) : bst l (k + 1) = if 0 < cmpE l[k] (l[bst l k]'(Nat.lt_trans (bst_lt l k h0) hk)) then k else bst l k := by
  have hb := Nat.lt_trans (bst_lt l k h0) hk
  obtain ⟨j, rfl⟩ : ∃ j, k = j + 1 := ⟨k - 1, by omega⟩
  rw [bst]
  simp only [List.getD_eq_getElem?_getD, List.getElem?_eq_getElem hk, List.getElem?_eq_getElem hb, Option.getD_some]
/-- Where it stands, as the program tells it: -1 of none. -/
def bi (l : List E) (k : Nat) : Int := if k = 0 then -1 else (bst l k : Int)
theorem bi_zero (l : List E) : bi l 0 = -1 := rfl
theorem bi_pos (l : List E) {k : Nat} (h : 0 < k) : bi l k = (bst l k : Int) := by unfold bi; rw [if_neg (by omega)]
theorem bi_one (l : List E) : bi l 1 = 0 := rfl
/-- The greatest of the first so many: the zero one of none. -/
def bx (l : List E) (k : Nat) : E := if k = 0 then ⟨0, 0⟩ else l.getD (bst l k) ⟨0, 0⟩
theorem bx_zero (l : List E) : bx l 0 = ⟨0, 0⟩ := rfl
theorem bx_pos (l : List E) {k : Nat} (h0 : 0 < k) (hk : k ≤ l.length) : bx l k = l[bst l k]'(Nat.lt_of_lt_of_le (bst_lt l k h0) hk) := by
  have hb := Nat.lt_of_lt_of_le (bst_lt l k h0) hk
  unfold bx
  rw [if_neg (by omega)]
  simp only [List.getD_eq_getElem?_getD, List.getElem?_eq_getElem hb, Option.getD_some]
theorem bx_step (l : List E) (k : Nat) (hk : k < l.length) : (k = 0 ∨ 0 < cmpE l[k] (bx l k) → bx l (k + 1) = l[k]) ∧ (0 < k → ¬ 0 < cmpE l[k] (bx l k) → bx l (k + 1) = bx l k) := by
  rcases Nat.eq_zero_or_pos k with rfl | h0
  · exact ⟨fun _ => bx_pos l (by omega) hk, fun h => by omega⟩
  · have e := bst_step l k h0 hk
    rw [bx_pos l h0 (by omega)]
    rw [bx_pos l (show 0 < k + 1 by omega) hk]
    constructor
    · rintro (h | h)
      · omega
      · rw [if_pos h] at e
        simp only [e]
    · intro _ h
      rw [if_neg h] at e
      simp only [e]
/-- The vote of the greatest ballot of the first so many. -/
def vx (l : List V) (k : Nat) : V := if k = 0 then ⟨0, ⟨0, 0⟩, ⟨#[]⟩⟩ else l.getD (bst (l.map V.b) k) ⟨0, ⟨0, 0⟩, ⟨#[]⟩⟩
theorem vx_zero (l : List V) : vx l 0 = ⟨0, ⟨0, 0⟩, ⟨#[]⟩⟩ := rfl
theorem vx_pos (l : List V) {k : Nat} (h0 : 0 < k) (hk : k ≤ l.length) : vx l k = l[bst (l.map V.b) k]'(Nat.lt_of_lt_of_le (bst_lt _ k h0) hk) := by
  have hb := Nat.lt_of_lt_of_le (bst_lt (l.map V.b) k h0) hk
  unfold vx
  rw [if_neg (by omega)]
  simp only [List.getD_eq_getElem?_getD, List.getElem?_eq_getElem hb, Option.getD_some]
theorem vx_step (l : List V) (k : Nat) (hk : k < l.length) : (k = 0 ∨ 0 < cmpE l[k].b (vx l k).b → vx l (k + 1) = l[k]) ∧ (0 < k → ¬ 0 < cmpE l[k].b (vx l k).b → vx l (k + 1) = vx l k) := by
  rcases Nat.eq_zero_or_pos k with rfl | h0
  · exact ⟨fun _ => vx_pos l (by omega) hk, fun h => by omega⟩
  · have e := bst_step (l.map V.b) k h0 (by simpa using hk)
    simp only [List.getElem_map] at e
    rw [vx_pos l h0 (by omega)]
    rw [vx_pos l (show 0 < k + 1 by omega) hk]
    constructor
    · rintro (h | h)
      · omega
      · rw [if_pos h] at e
        simp only [e]
    · intro _ h
      rw [if_neg h] at e
      simp only [e]
end Go.Proofs.Ytfjlanhekheecaa.M
