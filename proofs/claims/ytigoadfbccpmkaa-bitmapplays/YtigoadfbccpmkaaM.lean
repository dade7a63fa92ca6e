/-
  Plain functions: a map of bits as a function from places to bits, its words, its text, its rows.
-/
namespace Go.Proofs.Ytigoadfbccpmkaa.M
set_option linter.unusedVariables false

/-- The m bits from b on, as a number, the lowest first. -/
def wdN (f : Nat → Bool) (b : Nat) : Nat → Nat
  | 0 => 0
  | m + 1 => 2 ^ m * (if f (b + m) then 1 else 0) + wdN f b m
theorem wdN_lt (f : Nat → Bool) (b : Nat) : ∀ m, wdN f b m < 2 ^ m
  | 0 => by simp [wdN]
  | m + 1 => by
    have := wdN_lt f b m
    rw [wdN, Nat.pow_succ]
    split <;> omega
theorem wdN_bit (f : Nat → Bool) (b : Nat) : ∀ m j, (wdN f b m).testBit j = (decide (j < m) && f (b + j))
  | 0, j => by simp [wdN]
  | m + 1, j => by
    rw [wdN, Nat.testBit_two_pow_mul_add _ (wdN_lt f b m)]
    by_cases h : j < m
    · simp [h, wdN_bit f b m j, show j < m + 1 by omega]
    · by_cases h2 : j = m
      · subst h2
        cases hb : f (b + j) <;> simp
      · obtain ⟨d, hd⟩ : ∃ d, j - m = d + 1 := ⟨j - m - 1, by omega⟩
        have h3 : ¬ j < m + 1 := by omega
        simp only [h, if_false, h3, decide_false, Bool.false_and, hd]
        split
        · simp [Nat.testBit_succ]
        · simp
theorem wdN_eq (f : Nat → Bool) (b m x : Nat) (hx : x < 2 ^ m) (h : ∀ j, j < m → x.testBit j = f (b + j)) : x = wdN f b m := by
  apply Nat.eq_of_testBit_eq
  intro j
  rw [wdN_bit]
  by_cases hj : j < m
  · simp [hj, h j hj]
  · rw [Nat.testBit_lt_two_pow (Nat.lt_of_lt_of_le hx (Nat.pow_le_pow_right (by decide) (by omega)))]
    simp [hj]
theorem wdN_congr (f g : Nat → Bool) (b c m : Nat) (h : ∀ j, j < m → f (b + j) = g (c + j)) : wdN f b m = wdN g c m := by
  induction m with
  | zero => rfl
  | succ m ih => rw [wdN, wdN, ih (fun j hj => h j (by omega)), h m (by omega)]

/-- The k-th word of 64 bits. -/
def wd (f : Nat → Bool) (k : Nat) : Nat := wdN f (64 * k) 64
theorem wd_lt (f : Nat → Bool) (k : Nat) : wd f k < 18446744073709551616 := wdN_lt f (64 * k) 64
theorem wd_bit (f : Nat → Bool) (k j : Nat) (h : j < 64) : (wd f k).testBit j = f (64 * k + j) := by rw [wd, wdN_bit]; simp [h]
theorem wd_bit_hi (f : Nat → Bool) (k j : Nat) (h : ¬ j < 64) : (wd f k).testBit j = false := by rw [wd, wdN_bit]; simp [h]
theorem wd_eq (f : Nat → Bool) (k x : Nat) (hx : x < 18446744073709551616) (h : ∀ j, j < 64 → x.testBit j = f (64 * k + j)) : x = wd f k := wdN_eq f (64 * k) 64 x hx h
theorem wd_congr (f g : Nat → Bool) (k : Nat) (h : ∀ j, j < 64 → f (64 * k + j) = g (64 * k + j)) : wd f k = wd g k := wdN_congr f g _ _ 64 h
theorem wd_inj (f g : Nat → Bool) (k : Nat) (h : wd f k = wd g k) (j : Nat) (hj : j < 64) : f (64 * k + j) = g (64 * k + j) := by
  rw [← wd_bit f k j hj, h, wd_bit g k j hj]

def orf (f g : Nat → Bool) : Nat → Bool := fun i => f i || g i
def andf (f g : Nat → Bool) : Nat → Bool := fun i => f i && g i
def notf (f g : Nat → Bool) : Nat → Bool := fun i => f i && !g i
/-- n bits from at on. -/
def rowf (at' n : Nat) : Nat → Bool := fun i => decide (at' ≤ i) && decide (i < at' + n)
def nof : Nat → Bool := fun _ => false

theorem wd_or (f g : Nat → Bool) (k : Nat) : wd f k ||| wd g k = wd (orf f g) k :=
  wd_eq _ _ _ (Nat.or_lt_two_pow (n := 64) (wd_lt f k) (wd_lt g k)) fun j hj => by rw [Nat.testBit_or, wd_bit _ _ _ hj, wd_bit _ _ _ hj]; rfl
theorem wd_and (f g : Nat → Bool) (k : Nat) : wd f k &&& wd g k = wd (andf f g) k :=
  wd_eq _ _ _ (Nat.and_lt_two_pow (n := 64) _ (wd_lt g k)) fun j hj => by rw [Nat.testBit_and, wd_bit _ _ _ hj, wd_bit _ _ _ hj]; rfl
theorem wd_not (f g : Nat → Bool) (k : Nat) : wd f k &&& (18446744073709551615 - wd g k) = wd (notf f g) k := by
  have hg := wd_lt g k
  refine wd_eq _ _ _ (Nat.and_lt_two_pow (n := 64) _ (by omega)) fun j hj => ?_
  rw [Nat.testBit_and, show 18446744073709551615 - wd g k = 2 ^ 64 - (wd g k + 1) by omega, Nat.testBit_two_pow_sub_succ hg, wd_bit _ _ _ hj, wd_bit _ _ _ hj]
  simp [hj, notf]
/-- The first k words are done. -/
def mixf (h f : Nat → Bool) (k : Nat) : Nat → Bool := fun i => if i < 64 * k then h i else f i
theorem mixf_zero (h f : Nat → Bool) : mixf h f 0 = f := by funext i; simp [mixf]
theorem wd_mixf (h f : Nat → Bool) (k : Nat) : wd (mixf h f k) k = wd f k := wd_congr _ _ _ fun j hj => by simp [mixf]; omega
theorem wd_mixf_done (h f : Nat → Bool) (k : Nat) : wd (mixf h f (k + 1)) k = wd h k := wd_congr _ _ _ fun j hj => by simp [mixf]; omega
theorem wd_mixf_oth (h f : Nat → Bool) (k j : Nat) (hj : j ≠ k) : wd (mixf h f k) j = wd (mixf h f (k + 1)) j := wd_congr _ _ _ fun i hi => by
  simp only [mixf]
  split <;> split <;> first | rfl | omega
theorem wd_mixf_all (h f : Nat → Bool) (j : Nat) (hj : j < 64) : wd (mixf h f 64) j = wd h j := wd_congr _ _ _ fun i hi => by simp [mixf]; omega
theorem wd_nof (k : Nat) : wd nof k = 0 := (wd_eq nof k 0 (by decide) (fun j _ => by simp [nof])).symm
theorem wd_rowstep (a m : Nat) : wd (rowf a m) ((a + m) / 64) ||| 2 ^ ((a + m) % 64) = wd (rowf a (m + 1)) ((a + m) / 64) := by
  refine wd_eq _ _ _ (Nat.or_lt_two_pow (n := 64) (wd_lt _ _) (Nat.pow_lt_pow_right (by decide) (Nat.mod_lt _ (by decide)))) fun j hj => ?_
  rw [Nat.testBit_or, wd_bit _ _ _ hj, Nat.testBit_two_pow]
  simp only [rowf]
  rw [Bool.eq_iff_iff]
  simp
  omega
theorem wd_rowoth (a m k : Nat) (h : k ≠ (a + m) / 64) : wd (rowf a m) k = wd (rowf a (m + 1)) k := by
  refine wd_congr _ _ _ fun j hj => ?_
  simp only [rowf]
  rw [Bool.eq_iff_iff]
  simp
  omega
theorem wd_get (f : Nat → Bool) (i : Nat) : (wd f (i / 64) / 2 ^ (i % 64) % 2 == 1) = f i := by
  have h := wd_bit f (i / 64) (i % 64) (Nat.mod_lt _ (by decide))
  rw [Nat.testBit_eq_decide_div_mod_eq, show 64 * (i / 64) + i % 64 = i by omega] at h
  rw [← h]
  rfl
/-- The i-th byte. -/
def byt (f : Nat → Bool) (i : Nat) : Nat := wdN f (8 * i) 8
theorem byt_lt (f : Nat → Bool) (i : Nat) : byt f i < 256 := wdN_lt f (8 * i) 8
theorem wd_byt (f : Nat → Bool) (i : Nat) : wd f (i * 8 / 64) / 2 ^ (i * 8 % 64) % 256 = byt f i := by
  refine wdN_eq f (8 * i) 8 _ (Nat.mod_lt _ (by decide)) fun j hj => ?_
  rw [show (256 : Nat) = 2 ^ 8 from rfl, Nat.testBit_mod_two_pow, Nat.testBit_div_two_pow]
  simp only [hj, decide_true, Bool.true_and]
  rw [wd_bit _ _ _ (by omega)]
  congr 1
  omega
theorem byt_bit (f : Nat → Bool) (i j : Nat) (h : j < 8) : (byt f i).testBit j = f (8 * i + j) := by rw [byt, wdN_bit]; simp [h]

/-- How many of the m bits from b on are set. -/
def cnt (f : Nat → Bool) (b : Nat) : Nat → Nat
  | 0 => 0
  | m + 1 => cnt f b m + (if f (b + m) then 1 else 0)
theorem cnt_le (f : Nat → Bool) (b : Nat) : ∀ m, cnt f b m ≤ m
  | 0 => Nat.le_refl _
  | m + 1 => by have := cnt_le f b m; rw [cnt]; split <;> omega
theorem cnt_add (f : Nat → Bool) (b m : Nat) : ∀ k, cnt f b (m + k) = cnt f b m + cnt f (b + m) k
  | 0 => by simp [cnt]
  | k + 1 => by rw [← Nat.add_assoc, cnt, cnt_add f b m k, cnt, Nat.add_assoc b m k, Nat.add_assoc]
theorem cnt_congr (f g : Nat → Bool) (b c : Nat) : ∀ m, (∀ j, j < m → f (b + j) = g (c + j)) → cnt f b m = cnt g c m
  | 0, _ => rfl
  | m + 1, h => by rw [cnt, cnt, cnt_congr f g b c m (fun j hj => h j (by omega)), h m (by omega)]
theorem cnt_none (f : Nat → Bool) (b : Nat) : ∀ m, (∀ j, j < m → f (b + j) = false) → cnt f b m = 0
  | 0, _ => rfl
  | m + 1, h => by rw [cnt, cnt_none f b m (fun j hj => h j (by omega)), h m (by omega)]; rfl
theorem cnt_all (f : Nat → Bool) (b : Nat) : ∀ m, (∀ j, j < m → f (b + j) = true) → cnt f b m = m
  | 0, _ => rfl
  | m + 1, h => by rw [cnt, cnt_all f b m (fun j hj => h j (by omega)), h m (by omega)]; rfl
theorem cnt_to (f : Nat → Bool) (n m : Nat) (hnm : n ≤ m) (h : ∀ i, n ≤ i → f i = false) : cnt f 0 m = cnt f 0 n := by
  obtain ⟨k, rfl⟩ : ∃ k, m = n + k := ⟨m - n, by omega⟩
  rw [cnt_add, cnt_none f (0 + n) k (fun j _ => h _ (by omega))]
  rfl
theorem cnt_rowf (f : Nat → Bool) (a k n : Nat) (hn : a + k ≤ n) (h : ∀ j, j < k → f (a + j) = false) : cnt (orf f (rowf a k)) 0 n = cnt f 0 n + k := by
  obtain ⟨d, rfl⟩ : ∃ d, n = a + k + d := ⟨n - (a + k), by omega⟩
  rw [cnt_add, cnt_add, cnt_add, cnt_add]
  have e1 : cnt (orf f (rowf a k)) 0 a = cnt f 0 a := cnt_congr _ _ _ _ _ fun j hj => by simp [orf, rowf]; omega
  have e2 : cnt (orf f (rowf a k)) (0 + a) k = k := cnt_all _ _ _ fun j hj => by simp [orf, rowf]; omega
  have e3 : cnt f (0 + a) k = 0 := cnt_none _ _ _ fun j hj => by rw [Nat.zero_add]; exact h j hj
  have e4 : cnt (orf f (rowf a k)) (0 + (a + k)) d = cnt f (0 + (a + k)) d := cnt_congr _ _ _ _ _ fun j hj => by simp [orf, rowf]; omega
  rw [e1, e2, e3, e4]
  omega

/-! the places from at on whose bit is so -/
def nxtF (f : Nat → Bool) (on : Bool) : Nat → Nat → Nat
  | 0, a => a
  | k + 1, a => if f a = on then a else nxtF f on k (a + 1)
def nxt (f : Nat → Bool) (n : Nat) (on : Bool) (a : Nat) : Nat := nxtF f on (n - a) a
theorem nxt_end (f : Nat → Bool) (n : Nat) (on : Bool) (a : Nat) (h : n ≤ a) : nxt f n on a = a := by rw [nxt, show n - a = 0 by omega]; rfl
theorem nxt_at (f : Nat → Bool) (n : Nat) (on : Bool) (a : Nat) (h : f a = on) : nxt f n on a = a := by
  rw [nxt]
  cases n - a with
  | zero => rfl
  | succ k => simp [nxtF, h]
theorem nxt_step (f : Nat → Bool) (n : Nat) (on : Bool) (a : Nat) (h : a < n) (h2 : f a ≠ on) : nxt f n on a = nxt f n on (a + 1) := by
  rw [nxt, nxt, show n - a = (n - (a + 1)) + 1 by omega, nxtF, if_neg h2]
theorem nxt_spec (f : Nat → Bool) (n : Nat) (on : Bool) : ∀ (d a : Nat), n - a = d → a ≤ nxt f n on a ∧ (a ≤ n → nxt f n on a ≤ n) ∧ (nxt f n on a < n → f (nxt f n on a) = on) ∧ ∀ j, a ≤ j → j < nxt f n on a → f j ≠ on
  | 0, a, hd => by rw [nxt_end f n on a (by omega)]; exact ⟨Nat.le_refl _, id, fun h => by omega, fun j h1 h2 => by omega⟩
  | d + 1, a, hd => by
    by_cases h : f a = on
    · rw [nxt_at f n on a h]; exact ⟨Nat.le_refl _, fun _ => by omega, fun _ => h, fun j h1 h2 => by omega⟩
    · rw [nxt_step f n on a (by omega) h]
      obtain ⟨h1, h2, h3, h4⟩ := nxt_spec f n on d (a + 1) (by omega)
      refine ⟨by omega, fun _ => h2 (by omega), h3, fun j hj1 hj2 => ?_⟩
      by_cases hja : j = a
      · subst hja; exact h
      · exact h4 j (by omega) hj2
theorem nxt_ge (f : Nat → Bool) (n : Nat) (on : Bool) (a : Nat) : a ≤ nxt f n on a := (nxt_spec f n on _ a rfl).1
theorem nxt_le (f : Nat → Bool) (n : Nat) (on : Bool) (a : Nat) (h : a ≤ n) : nxt f n on a ≤ n := (nxt_spec f n on _ a rfl).2.1 h
theorem nxt_is (f : Nat → Bool) (n : Nat) (on : Bool) (a : Nat) (h : nxt f n on a < n) : f (nxt f n on a) = on := (nxt_spec f n on _ a rfl).2.2.1 h
theorem nxt_not (f : Nat → Bool) (n : Nat) (on : Bool) (a j : Nat) (h : a ≤ j) (h2 : j < nxt f n on a) : f j ≠ on := (nxt_spec f n on _ a rfl).2.2.2 j h h2

/-! the rows that are so, from a place on that is so (or the end) -/
def runsF (f : Nat → Bool) (n : Nat) (on : Bool) : Nat → Nat → List (Nat × Nat)
  | 0, _ => []
  | k + 1, a => if a < n then (a, nxt f n (!on) a - a) :: runsF f n on k (nxt f n on (nxt f n (!on) a)) else []
/-- The rows from a on; a is so, or the end. -/
def runsA (f : Nat → Bool) (n : Nat) (on : Bool) (a : Nat) : List (Nat × Nat) := runsF f n on (n - a) a
def runs (f : Nat → Bool) (n : Nat) (on : Bool) : List (Nat × Nat) := runsA f n on (nxt f n on 0)
theorem nxt_gt (f : Nat → Bool) (n : Nat) (on : Bool) (a : Nat) (h : a < n) (ha : f a = on) : a < nxt f n (!on) a := by
  rw [nxt_step f n (!on) a h (by rw [ha]; cases on <;> simp)]
  exact nxt_ge f n (!on) (a + 1)
theorem runsF_fuel (f : Nat → Bool) (n : Nat) (on : Bool) : ∀ (k a : Nat), n - a ≤ k → (a < n → f a = on) → runsF f n on k a = runsF f n on (n - a) a := by
  intro k
  induction k using Nat.strongRecOn with
  | _ k ih =>
    intro a hk ha
    by_cases h : a < n
    · obtain ⟨k', rfl⟩ : ∃ k', k = k' + 1 := ⟨k - 1, by omega⟩
      obtain ⟨d, hd⟩ : ∃ d, n - a = d + 1 := ⟨n - a - 1, by omega⟩
      rw [hd, runsF, runsF, if_pos h, if_pos h]
      congr 1
      have h1 := nxt_gt f n on a h (ha h)
      have h2 := nxt_ge f n on (nxt f n (!on) a)
      have h3 := fun hh => nxt_is f n on (nxt f n (!on) a) hh
      rw [ih k' (by omega) _ (by omega) h3]
      by_cases hd' : d < k' + 1
      · rw [ih d (by omega) _ (by omega) h3]
      · omega
    · cases k with
      | zero => simp [show n - a = 0 by omega]
      | succ k => simp [runsF, h, show n - a = 0 by omega]
theorem runsA_end (f : Nat → Bool) (n : Nat) (on : Bool) (a : Nat) (h : n ≤ a) : runsA f n on a = [] := by
  rw [runsA, show n - a = 0 by omega]; rfl
theorem runsA_step (f : Nat → Bool) (n : Nat) (on : Bool) (a : Nat) (h : a < n) (ha : f a = on) :
    runsA f n on a = (a, nxt f n (!on) a - a) :: runsA f n on (nxt f n on (nxt f n (!on) a)) := by
  have h1 := nxt_gt f n on a h ha
  have h2 := nxt_ge f n on (nxt f n (!on) a)
  rw [runsA, show n - a = (n - a - 1) + 1 by omega, runsF, if_pos h, runsF_fuel f n on (n - a - 1) _ (by omega) (fun hh => nxt_is f n on _ hh)]
  rfl
/-- Each row is within the map, not empty, and so. -/
theorem runsA_mem (f : Nat → Bool) (n : Nat) (on : Bool) : ∀ (d a : Nat), n - a = d → (a < n → f a = on) → ∀ p ∈ runsA f n on a, 1 ≤ p.2 ∧ p.1 + p.2 ≤ n ∧ ∀ j, j < p.2 → f (p.1 + j) = on := by
  intro d
  induction d using Nat.strongRecOn with
  | _ d ih =>
    intro a hd ha p hp
    by_cases h : a < n
    · rw [runsA_step f n on a h (ha h)] at hp
      have h1 := nxt_gt f n on a h (ha h)
      have h2 := nxt_ge f n on (nxt f n (!on) a)
      have h4 := nxt_le f n (!on) a (by omega)
      rcases List.mem_cons.1 hp with rfl | hp
      · refine ⟨by simp; omega, by simp; omega, fun j hj => ?_⟩
        have := nxt_not f n (!on) a (a + j) (by omega) (by simp at hj; omega)
        revert this
        cases f (a + j) <;> cases on <;> simp
      · exact ih _ (by omega) _ rfl (fun hh => nxt_is f n on _ hh) p hp
    · rw [runsA_end f n on a (by omega)] at hp
      cases hp
theorem runs_mem (f : Nat → Bool) (n : Nat) (on : Bool) (p : Nat × Nat) (hp : p ∈ runs f n on) : 1 ≤ p.2 ∧ p.1 + p.2 ≤ n ∧ ∀ j, j < p.2 → f (p.1 + j) = on :=
  runsA_mem f n on _ _ rfl (fun hh => nxt_is f n on _ hh) p hp
theorem runsA_len (f : Nat → Bool) (n : Nat) (on : Bool) : ∀ (d a : Nat), n - a = d → (a < n → f a = on) → (runsA f n on a).length ≤ n - a := by
  intro d
  induction d using Nat.strongRecOn with
  | _ d ih =>
    intro a hd ha
    by_cases h : a < n
    · rw [runsA_step f n on a h (ha h)]
      have h1 := nxt_gt f n on a h (ha h)
      have h2 := nxt_ge f n on (nxt f n (!on) a)
      have := ih _ (by omega) (nxt f n on (nxt f n (!on) a)) rfl (fun hh => nxt_is f n on _ hh)
      simp only [List.length_cons]
      omega
    · rw [runsA_end f n on a (by omega)]; simp
theorem runs_len (f : Nat → Bool) (n : Nat) (on : Bool) : (runs f n on).length ≤ n :=
  Nat.le_trans (runsA_len f n on _ _ rfl (fun hh => nxt_is f n on _ hh)) (Nat.sub_le _ _)

/-! the document's rows, a bit at a time -/
def rstep (l : List (Nat × Nat)) (i : Nat) : List (Nat × Nat) :=
  match l.getLast? with
  | some p => if p.1 + p.2 = i then l.dropLast ++ [(p.1, p.2 + 1)] else l ++ [(i, 1)]
  | none => l ++ [(i, 1)]
def rr (f : Nat → Bool) (on : Bool) : Nat → List (Nat × Nat)
  | 0 => []
  | i + 1 => if f i = on then rstep (rr f on i) i else rr f on i
theorem rr_skip (f : Nat → Bool) (on : Bool) (i : Nat) : ∀ k, (∀ j, i ≤ j → j < i + k → f j ≠ on) → rr f on (i + k) = rr f on i
  | 0, _ => rfl
  | k + 1, h => by
    rw [← Nat.add_assoc, rr, if_neg (h (i + k) (by omega) (by omega)), rr_skip f on i k (fun j h1 h2 => h j h1 (by omega))]
theorem rr_row (f : Nat → Bool) (on : Bool) (a : Nat) (hl : ∀ p, (rr f on a).getLast? = some p → p.1 + p.2 ≠ a) : ∀ k, (∀ j, a ≤ j → j < a + (k + 1) → f j = on) → rr f on (a + (k + 1)) = rr f on a ++ [(a, k + 1)]
  | 0, h => by
    rw [Nat.zero_add, rr, if_pos (h a (by omega) (by omega)), rstep]
    cases hg : (rr f on a).getLast? with
    | none => rfl
    | some p => simp [hl p hg]
  | k + 1, h => by
    rw [← Nat.add_assoc a (k + 1) 1, rr, if_pos (h (a + (k + 1)) (by omega) (by omega)), rr_row f on a hl k (fun j h1 h2 => h j h1 (by omega)), rstep]
    simp
theorem rr_runs (f : Nat → Bool) (n : Nat) (on : Bool) : ∀ (d a : Nat), n - a = d → a ≤ n → (a < n → f a = on) → (a < n → ∀ p, (rr f on a).getLast? = some p → p.1 + p.2 ≠ a) → rr f on n = rr f on a ++ runsA f n on a := by
  intro d
  induction d using Nat.strongRecOn with
  | _ d ih =>
    intro a hd han ha hl
    by_cases h : a < n
    · rw [runsA_step f n on a h (ha h)]
      have h1 := nxt_gt f n on a h (ha h)
      have h2 := nxt_ge f n on (nxt f n (!on) a)
      have h4 := nxt_le f n (!on) a (by omega)
      have h5 := nxt_le f n on (nxt f n (!on) a) h4
      have hrow : rr f on (nxt f n (!on) a) = rr f on a ++ [(a, nxt f n (!on) a - a)] := by
        have := rr_row f on a (hl h) (nxt f n (!on) a - a - 1) (fun j hj1 hj2 => by
          have := nxt_not f n (!on) a j hj1 (by omega)
          revert this
          cases f j <;> cases on <;> simp)
        rw [show nxt f n (!on) a - a - 1 + 1 = nxt f n (!on) a - a by omega, show a + (nxt f n (!on) a - a) = nxt f n (!on) a by omega] at this
        exact this
      have hskip : rr f on (nxt f n on (nxt f n (!on) a)) = rr f on (nxt f n (!on) a) := by
        have := rr_skip f on (nxt f n (!on) a) (nxt f n on (nxt f n (!on) a) - nxt f n (!on) a) (fun j hj1 hj2 => nxt_not f n on (nxt f n (!on) a) j hj1 (by omega))
        rw [show nxt f n (!on) a + (nxt f n on (nxt f n (!on) a) - nxt f n (!on) a) = nxt f n on (nxt f n (!on) a) by omega] at this
        exact this
      rw [ih _ (by omega) _ rfl h5 (fun hh => nxt_is f n on _ hh) ?_, hskip, hrow, List.append_assoc]
      · rfl
      · intro hh p hp
        rw [hskip, hrow] at hp
        simp at hp
        subst hp
        simp only
        have hne : f (nxt f n (!on) a) ≠ on := by
          have := nxt_is f n (!on) a (by omega)
          rw [this]; cases on <;> simp
        have hlt : nxt f n (!on) a < nxt f n on (nxt f n (!on) a) := by
          rcases Nat.lt_or_ge (nxt f n (!on) a) (nxt f n on (nxt f n (!on) a)) with h | h
          · exact h
          · exact absurd (by rw [show nxt f n (!on) a = nxt f n on (nxt f n (!on) a) by omega]; exact nxt_is f n on _ hh) hne
        omega
    · rw [runsA_end f n on a (by omega), show a = n by omega]; simp
theorem rr_eq (f : Nat → Bool) (n : Nat) (on : Bool) : rr f on n = runs f n on := by
  have h0 : rr f on (nxt f n on 0) = [] := by
    have := rr_skip f on 0 (nxt f n on 0) (fun j hj1 hj2 => nxt_not f n on 0 j hj1 (by omega))
    rw [Nat.zero_add] at this
    exact this
  rw [rr_runs f n on _ (nxt f n on 0) rfl (nxt_le f n on 0 (by omega)) (fun hh => nxt_is f n on _ hh) (fun _ p hp => by rw [h0] at hp; cases hp), h0]
  rfl
theorem rr_len (f : Nat → Bool) (on : Bool) : ∀ i, (rr f on i).length ≤ i
  | 0 => by simp [rr]
  | i + 1 => by
    have := rr_len f on i
    rw [rr]
    split
    · rw [rstep]
      split
      · rename_i p hp
        have : rr f on i ≠ [] := by rintro h; rw [h] at hp; cases hp
        split <;> simp <;> omega
      · simp; omega
    · omega
theorem rr_bd (f : Nat → Bool) (on : Bool) (i : Nat) (p : Nat × Nat) (hp : p ∈ rr f on i) : p.1 + p.2 ≤ i := by
  rw [rr_eq] at hp
  exact (runs_mem f i on p hp).2.1

/-- The first row that is long enough. -/
def fnd (k : Int) : List (Nat × Nat) → Int
  | [] => -1
  | p :: r => if k ≤ (p.2 : Int) then p.1 else fnd k r
/-- Find's answer. -/
def find (f : Nat → Bool) (n : Nat) (k : Int) : Int := if k < 1 then -1 else fnd k (runs f n false)
theorem fnd_cases (k : Int) : ∀ l, fnd k l = -1 ∨ ∃ p ∈ l, k ≤ (p.2 : Int) ∧ fnd k l = p.1
  | [] => .inl rfl
  | p :: r => by
    rw [fnd]
    split
    · exact .inr ⟨p, by simp, by assumption, rfl⟩
    · rcases fnd_cases k r with h | ⟨q, hq, h1, h2⟩
      · exact .inl h
      · exact .inr ⟨q, by simp [hq], h1, h2⟩
theorem find_cases (f : Nat → Bool) (n : Nat) (k : Int) : find f n k = -1 ∨ ∃ a m : Nat, k = m ∧ 1 ≤ m ∧ find f n k = a ∧ a + m ≤ n ∧ ∀ j, j < m → f (a + j) = false := by
  rw [find]
  split
  · exact .inl rfl
  · rcases fnd_cases k (runs f n false) with h | ⟨p, hp, h1, h2⟩
    · exact .inl h
    · obtain ⟨h3, h4, h5⟩ := runs_mem f n false p hp
      obtain ⟨m, rfl⟩ := Int.eq_ofNat_of_zero_le (show 0 ≤ k by omega)
      exact .inr ⟨p.1, m, rfl, by omega, h2, by omega, fun j hj => h5 j (by omega)⟩

theorem notf_orf (f : Nat → Bool) (a m : Nat) (h : ∀ j, j < m → f (a + j) = false) : notf (orf f (rowf a m)) (rowf a m) = f := by
  funext i
  simp only [notf, orf, rowf]
  by_cases hi : a ≤ i ∧ i < a + m
  · have := h (i - a) (by omega)
    rw [show a + (i - a) = i by omega] at this
    simp [this, hi.1, hi.2]
  · have : (decide (a ≤ i) && decide (i < a + m)) = false := by simp; omega
    simp [this]
end Go.Proofs.Ytigoadfbccpmkaa.M
