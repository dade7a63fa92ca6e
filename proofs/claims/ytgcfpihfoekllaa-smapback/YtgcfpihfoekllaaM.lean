/-
  Plain functions on lists of bytes: how numbers and texts are laid, how they are read, and that each is the other's way back.
-/
namespace Go.Proofs.Ytgcfpihfoekllaa
namespace M

/-- The number of 64 bits that an int goes as, and back. -/
def zz (n : Int) : Nat := if n < 0 then (-2 * n - 1).toNat else (2 * n).toNat
def sg (u : Nat) : Int := if u % 2 = 1 then -((u / 2 : Nat) : Int) - 1 else ((u / 2 : Nat) : Int)
theorem sg_zz (n : Int) : sg (zz n) = n := by unfold sg zz; split <;> split <;> omega
theorem zz_sg (u : Nat) : zz (sg u) = u := by unfold sg zz; split <;> split <;> omega
theorem zz_lt (n : Int) (h : -9223372036854775808 ≤ n ∧ n ≤ 9223372036854775807) : zz n < 18446744073709551616 := by unfold zz; split <;> omega
theorem sg_bd (u : Nat) (h : u < 18446744073709551616) : -9223372036854775808 ≤ sg u ∧ sg u ≤ 9223372036854775807 := by unfold sg; split <;> omega

/-- The groups of a number. -/
def grpF : Nat → Nat → List UInt8
  | 0, u => [UInt8.ofNat u]
  | f + 1, u => if u < 128 then [UInt8.ofNat u] else UInt8.ofNat (u % 128 + 128) :: grpF f (u / 128)
theorem grpF_small (f u : Nat) (h : u < 128) : grpF f u = [UInt8.ofNat u] := by
  cases f with
  | zero => rfl
  | succ f => rw [grpF, if_pos h]
theorem grpF_eq : ∀ (f g u : Nat), u ≤ f → u ≤ g → grpF f u = grpF g u := by
  intro f
  induction f with
  | zero => intro g u h _; rw [grpF_small 0 u (by omega), grpF_small g u (by omega)]
  | succ f ih =>
    intro g u h h'
    by_cases h1 : u < 128
    · rw [grpF_small _ u h1, grpF_small _ u h1]
    · cases g with
      | zero => omega
      | succ g => rw [grpF, if_neg h1, grpF, if_neg h1, ih g (u / 128) (by omega) (by omega)]
def grp (u : Nat) : List UInt8 := grpF u u
theorem grp_small (u : Nat) (h : u < 128) : grp u = [UInt8.ofNat u] := grpF_small u u h
theorem grp_great (u : Nat) (h : ¬ u < 128) : grp u = UInt8.ofNat (u % 128 + 128) :: grp (u / 128) := by
  unfold grp
  cases u with
  | zero => omega
  | succ u => rw [grpF, if_neg h, grpF_eq u ((u + 1) / 128) _ (by omega) (by omega)]
theorem grp_pos (u : Nat) : 1 ≤ (grp u).length := by
  by_cases h : u < 128
  · rw [grp_small u h]; simp
  · rw [grp_great u h]; simp
theorem grp_len : ∀ (k u : Nat), u < 128 ^ (k + 1) → (grp u).length ≤ k + 1 := by
  intro k
  induction k with
  | zero => intro u h; rw [grp_small u (by simpa using h)]; simp
  | succ k ih =>
    intro u h
    by_cases h1 : u < 128
    · rw [grp_small u h1]; simp
    · rw [grp_great u h1, List.length_cons]
      have := ih (u / 128) (by rw [Nat.div_lt_iff_lt_mul (by decide)]; rw [Nat.pow_succ] at h; exact h)
      omega
theorem grp_ten (u : Nat) (h : u < 18446744073709551616) : (grp u).length ≤ 10 := grp_len 9 u (Nat.lt_trans h (by decide))

def enc (n : Int) : List UInt8 := grp (zz n)
def encT (s : List UInt8) : List UInt8 := enc s.length ++ s
def encIs (l : List Int) : List UInt8 := enc l.length ++ l.flatMap enc
def encTs (l : List (List UInt8)) : List UInt8 := enc l.length ++ l.flatMap encT

/-- One group more. -/
def acc (u i b : Nat) : Nat := u ||| (b % 128 * 2 ^ (7 * i) % 18446744073709551616)

/-- A number's groups, from the i-th on: at most f. -/
def rd : Nat → Nat → Nat → List UInt8 → Option (Nat × List UInt8)
  | 0, _, _, _ => none
  | _ + 1, _, _, [] => none
  | f + 1, i, u, b :: l =>
    if 128 ≤ b.toNat then rd f (i + 1) (acc u i b.toNat) l
    else if (0 < i ∧ b.toNat = 0) ∨ (i = 9 ∧ 1 < b.toNat) then none
    else some (acc u i b.toNat, l)

theorem acc_eq (u i b : Nat) (hu : u < 2 ^ (7 * i)) (hb : b % 128 * 2 ^ (7 * i) < 18446744073709551616) : acc u i b = u + b % 128 * 2 ^ (7 * i) := by
  unfold acc
  rw [Nat.mod_eq_of_lt hb, Nat.or_comm, Nat.mul_comm, ← Nat.two_pow_add_eq_or_of_lt hu, Nat.add_comm]

theorem acc_lt (u i b : Nat) (hu : u < 18446744073709551616) : acc u i b < 18446744073709551616 := by
  unfold acc
  exact Nat.or_lt_two_pow (n := 64) hu (Nat.mod_lt _ (by decide))

theorem pow_step (i : Nat) : 2 ^ (7 * (i + 1)) = 128 * 2 ^ (7 * i) := by
  rw [Nat.mul_add, Nat.pow_add, Nat.mul_comm]

/-- What was laid is read. -/
theorem rd_grp : ∀ (f i u v : Nat) (r : List UInt8), f + i = 10 → 0 < f → u < 2 ^ (7 * i) → v * 2 ^ (7 * i) < 18446744073709551616 → (0 < i → 0 < v) →
    rd f i u (grp v ++ r) = some (u + v * 2 ^ (7 * i), r) := by
  intro f
  induction f with
  | zero => intro i u v r _ h; omega
  | succ f ih =>
    intro i u v r hf _ hu hv hp
    by_cases h : v < 128
    · rw [grp_small v h]
      have hb : (UInt8.ofNat v).toNat = v := by simp; omega
      have hm : v % 128 = v := Nat.mod_eq_of_lt h
      simp only [List.cons_append, List.nil_append, rd, hb]
      rw [if_neg (by omega), if_neg, acc_eq u i v hu (by rw [hm]; exact hv), hm]
      rintro (⟨h1, h2⟩ | ⟨h1, h2⟩)
      · have := hp h1; omega
      · subst h1
        have : 2 * 2 ^ (7 * 9) ≤ v * 2 ^ (7 * 9) := Nat.mul_le_mul_right _ h2
        have e : 2 * 2 ^ (7 * 9) = 18446744073709551616 := by decide
        omega
    · rw [grp_great v h]
      have hb : (UInt8.ofNat (v % 128 + 128)).toNat = v % 128 + 128 := by simp; omega
      have hm : (v % 128 + 128) % 128 = v % 128 := by omega
      have hd : v = v / 128 * 128 + v % 128 := by omega
      have hle : v % 128 * 2 ^ (7 * i) ≤ v * 2 ^ (7 * i) := Nat.mul_le_mul_right _ (Nat.mod_le _ _)
      have hsp : v * 2 ^ (7 * i) = v / 128 * 2 ^ (7 * (i + 1)) + v % 128 * 2 ^ (7 * i) := by
        rw [pow_step, ← Nat.mul_assoc, ← Nat.add_mul, ← hd]
      simp only [List.cons_append, rd, hb]
      rw [if_pos (by omega), acc_eq u i _ hu (by rw [hm]; omega), hm]
      have hf0 : 0 < f := by
        rcases Nat.eq_zero_or_pos f with rfl | h'
        · have : i = 9 := by omega
          subst this
          have : 128 * 2 ^ (7 * 9) ≤ v * 2 ^ (7 * 9) := Nat.mul_le_mul_right _ (by omega)
          have e : 128 * 2 ^ (7 * 9) = 1180591620717411303424 := by decide
          omega
        · exact h'
      rw [ih (i + 1) _ (v / 128) r (by omega) hf0 ?_ (by omega) (fun _ => by omega)]
      · rw [hsp]
        simp only [Option.some.injEq, Prod.mk.injEq, and_true]
        omega
      · rw [pow_step]
        have : v % 128 * 2 ^ (7 * i) ≤ 127 * 2 ^ (7 * i) := Nat.mul_le_mul_right _ (by omega)
        omega

/-- What is read was laid. -/
theorem rd_only : ∀ (f i u : Nat) (l : List UInt8) (x : Nat) (r : List UInt8), f + i = 10 → u < 2 ^ (7 * i) → rd f i u l = some (x, r) →
    ∃ v, l = grp v ++ r ∧ x = u + v * 2 ^ (7 * i) ∧ x < 18446744073709551616 ∧ (0 < i → 0 < v) := by
  intro f
  induction f with
  | zero => intro i u l x r _ _ h; simp [rd] at h
  | succ f ih =>
    intro i u l x r hf hu h
    cases l with
    | nil => simp [rd] at h
    | cons b l =>
      have hb256 := b.toNat_lt
      simp only [rd] at h
      by_cases h1 : 128 ≤ b.toNat
      · rw [if_pos h1] at h
        have hi : i ≤ 8 := by
          rcases Nat.lt_or_ge i 9 with h' | h'
          · omega
          · have : f = 0 := by omega
            subst this
            simp [rd] at h
        have hpl : b.toNat % 128 * 2 ^ (7 * i) < 18446744073709551616 := by
          have p : 2 ^ (7 * i) ≤ 2 ^ (7 * 8) := Nat.pow_le_pow_right (by decide) (by omega)
          have q : b.toNat % 128 * 2 ^ (7 * i) ≤ 127 * 2 ^ (7 * 8) := Nat.mul_le_mul (by omega) p
          have e : 127 * 2 ^ (7 * 8) = 9151314442816847872 := by decide
          omega
        rw [acc_eq u i _ hu hpl] at h
        obtain ⟨v, rfl, rfl, hx, hv⟩ := ih (i + 1) _ l x r (by omega) (by
          rw [pow_step]
          have : b.toNat % 128 * 2 ^ (7 * i) ≤ 127 * 2 ^ (7 * i) := Nat.mul_le_mul_right _ (by omega)
          omega) h
        have hv := hv (by omega)
        refine ⟨v * 128 + b.toNat % 128, ?_, ?_, hx, fun _ => by omega⟩
        · rw [grp_great (v * 128 + b.toNat % 128) (by omega)]
          rw [show (v * 128 + b.toNat % 128) % 128 + 128 = b.toNat by omega, show (v * 128 + b.toNat % 128) / 128 = v by omega]
          simp
        · rw [pow_step, Nat.add_mul, Nat.mul_assoc]
          omega
      · rw [if_neg h1] at h
        by_cases h2 : (0 < i ∧ b.toNat = 0) ∨ (i = 9 ∧ 1 < b.toNat)
        · rw [if_pos h2] at h; cases h
        · rw [if_neg h2] at h
          have hm : b.toNat % 128 = b.toNat := Nat.mod_eq_of_lt (by omega)
          have hpl : u + b.toNat * 2 ^ (7 * i) < 18446744073709551616 := by
            rcases Nat.lt_or_ge i 9 with h' | h'
            · have p : 2 ^ (7 * i) ≤ 2 ^ (7 * 8) := Nat.pow_le_pow_right (by decide) (by omega)
              have q : b.toNat * 2 ^ (7 * i) ≤ 127 * 2 ^ (7 * 8) := Nat.mul_le_mul (by omega) p
              have e : 127 * 2 ^ (7 * 8) = 9151314442816847872 := by decide
              have e2 : 2 ^ (7 * 8) = 72057594037927936 := by decide
              omega
            · have : i = 9 := by omega
              subst this
              have hb1 : b.toNat ≤ 1 := by
                rcases Nat.lt_or_ge 1 b.toNat with h3 | h3
                · exact absurd (.inr ⟨rfl, h3⟩) h2
                · exact h3
              have q : b.toNat * 2 ^ (7 * 9) ≤ 1 * 2 ^ (7 * 9) := Nat.mul_le_mul_right _ hb1
              have e : 2 ^ (7 * 9) = 9223372036854775808 := by decide
              omega
          rw [acc_eq u i _ hu (by rw [hm]; omega), hm] at h
          simp only [Option.some.injEq, Prod.mk.injEq] at h
          obtain ⟨rfl, rfl⟩ := h
          refine ⟨b.toNat, ?_, rfl, hpl, fun h' => ?_⟩
          · rw [grp_small b.toNat (by omega)]; simp
          · rcases Nat.eq_zero_or_pos b.toNat with h3 | h3
            · exact absurd (.inl ⟨h', h3⟩) h2
            · exact h3

def int (l : List UInt8) : Option (Int × List UInt8) := (rd 10 0 0 l).map fun x => (sg x.1, x.2)
def byte : List UInt8 → Option (Int × List UInt8)
  | [] => none
  | b :: r => some ((b.toNat : Int), r)
def count (l : List UInt8) : Option (Nat × List UInt8) :=
  match int l with
  | none => none
  | some (n, r) => if n < 0 ∨ (r.length : Int) < n then none else some (n.toNat, r)
def text (l : List UInt8) : Option (List UInt8 × List UInt8) :=
  match count l with
  | none => none
  | some (n, r) => some (r.take n, r.drop n)
def many {α : Type} (f : List UInt8 → Option (α × List UInt8)) : Nat → List UInt8 → Option (List α × List UInt8)
  | 0, l => some ([], l)
  | n + 1, l =>
    match f l with
    | none => none
    | some (x, r) =>
      match many f n r with
      | none => none
      | some (xs, r') => some (x :: xs, r')
def ints (l : List UInt8) : Option (List Int × List UInt8) :=
  match count l with
  | none => none
  | some (n, r) => many int n r
def texts (l : List UInt8) : Option (List (List UInt8) × List UInt8) :=
  match count l with
  | none => none
  | some (n, r) => many text n r

theorem int_nil : int [] = none := rfl
theorem int_enc (n : Int) (r : List UInt8) (h : -9223372036854775808 ≤ n ∧ n ≤ 9223372036854775807) : int (enc n ++ r) = some (n, r) := by
  have := zz_lt n h
  rw [int, enc, rd_grp 10 0 0 (zz n) r rfl (by decide) (by decide) (by simpa using this) (fun h => by omega)]
  simp [sg_zz]
theorem int_only (l : List UInt8) (n : Int) (r : List UInt8) (h : int l = some (n, r)) : l = enc n ++ r ∧ -9223372036854775808 ≤ n ∧ n ≤ 9223372036854775807 := by
  unfold int at h
  rw [Option.map_eq_some_iff] at h
  obtain ⟨⟨x, r'⟩, h, he⟩ := h
  simp only [Prod.mk.injEq] at he
  obtain ⟨rfl, rfl⟩ := he
  obtain ⟨v, rfl, rfl, hx, _⟩ := rd_only 10 0 0 l x r' rfl (by decide) h
  simp only [Nat.mul_zero, Nat.pow_zero, Nat.mul_one, Nat.zero_add] at hx ⊢
  rw [enc, zz_sg]
  exact ⟨rfl, sg_bd v hx⟩
theorem int_bd (l : List UInt8) (n : Int) (r : List UInt8) (h : int l = some (n, r)) : -9223372036854775808 ≤ n ∧ n ≤ 9223372036854775807 := (int_only l n r h).2

theorem enc_pos (n : Int) : 1 ≤ (enc n).length := grp_pos _
theorem enc_ten (n : Int) (h : -9223372036854775808 ≤ n ∧ n ≤ 9223372036854775807) : (enc n).length ≤ 10 := grp_ten _ (zz_lt n h)
theorem int_len (l : List UInt8) (n : Int) (r : List UInt8) (h : int l = some (n, r)) : r.length < l.length := by
  have := (int_only l n r h).1
  subst this
  have := enc_pos n
  rw [List.length_append]
  omega

theorem count_enc (n : Nat) (r : List UInt8) (h : n ≤ 9223372036854775807) (h2 : n ≤ r.length) : count (enc n ++ r) = some (n, r) := by
  rw [count, int_enc n r (by omega)]
  simp only
  rw [if_neg (by omega), Int.toNat_natCast]
theorem count_some (l : List UInt8) (n : Nat) (r : List UInt8) (h : count l = some (n, r)) : int l = some ((n : Int), r) ∧ n ≤ r.length := by
  unfold count at h
  split at h
  · cases h
  · rename_i m r' hi
    split at h
    · cases h
    · rename_i hc
      simp only [Option.some.injEq, Prod.mk.injEq] at h
      obtain ⟨rfl, rfl⟩ := h
      have e : ((m.toNat : Nat) : Int) = m := by omega
      rw [e]
      exact ⟨hi, by omega⟩
theorem count_only (l : List UInt8) (n : Nat) (r : List UInt8) (h : count l = some (n, r)) : l = enc n ++ r ∧ n ≤ r.length := by
  obtain ⟨h1, h2⟩ := count_some l n r h
  exact ⟨(int_only _ _ _ h1).1, h2⟩
theorem count_len (l : List UInt8) (n : Nat) (r : List UInt8) (h : count l = some (n, r)) : n ≤ r.length ∧ r.length < l.length := by
  obtain ⟨h1, h2⟩ := count_some l n r h
  exact ⟨h2, int_len _ _ _ h1⟩
theorem count_none (l : List UInt8) (h : int l = none) : count l = none := by rw [count, h]
theorem count_low (l : List UInt8) (n : Int) (r : List UInt8) (h : int l = some (n, r)) (hn : n < 0 ∨ (r.length : Int) < n) : count l = none := by
  rw [count, h]; simp only; rw [if_pos hn]
theorem count_fits (l : List UInt8) (n : Nat) (r : List UInt8) (h : int l = some ((n : Int), r)) (hn : n ≤ r.length) : count l = some (n, r) := by
  rw [count, h]; simp only; rw [if_neg (by omega), Int.toNat_natCast]

theorem text_enc (s r : List UInt8) (h : s.length ≤ 9223372036854775807) : text (encT s ++ r) = some (s, r) := by
  rw [text, encT, List.append_assoc, count_enc s.length (s ++ r) h (by simp)]
  simp
theorem text_len (l s r : List UInt8) (h : text l = some (s, r)) : r.length < l.length := by
  unfold text at h
  split at h
  · cases h
  · rename_i n r' hc
    simp only [Option.some.injEq, Prod.mk.injEq] at h
    obtain ⟨rfl, rfl⟩ := h
    have := (count_len l n r' hc).2
    rw [List.length_drop]
    omega
theorem text_only (l s r : List UInt8) (h : text l = some (s, r)) : l = encT s ++ r := by
  unfold text at h
  split at h
  · cases h
  · rename_i n r' hc
    simp only [Option.some.injEq, Prod.mk.injEq] at h
    obtain ⟨rfl, rfl⟩ := h
    obtain ⟨rfl, hn⟩ := count_only l n r' hc
    rw [encT, List.length_take, Nat.min_eq_left hn, List.append_assoc, List.take_append_drop]

theorem many_enc {α : Type} (f : List UInt8 → Option (α × List UInt8)) (e : α → List UInt8) (r : List UInt8) : ∀ (l : List α), (∀ x ∈ l, ∀ r, f (e x ++ r) = some (x, r)) → many f l.length (l.flatMap e ++ r) = some (l, r) := by
  intro l
  induction l with
  | nil => intro _; rfl
  | cons x l ih =>
    intro h
    rw [List.length_cons, List.flatMap_cons, List.append_assoc, many, h x (by simp)]
    simp only
    rw [ih (fun y hy => h y (by simp [hy]))]
theorem many_only {α : Type} (f : List UInt8 → Option (α × List UInt8)) (e : α → List UInt8) (hf : ∀ l x r, f l = some (x, r) → l = e x ++ r) :
    ∀ (n : Nat) (l : List UInt8) (xs : List α) (r : List UInt8), many f n l = some (xs, r) → l = xs.flatMap e ++ r ∧ xs.length = n := by
  intro n
  induction n with
  | zero => intro l xs r h; simp only [many, Option.some.injEq, Prod.mk.injEq] at h; obtain ⟨rfl, rfl⟩ := h; simp
  | succ n ih =>
    intro l xs r h
    rw [many] at h
    split at h
    · cases h
    · rename_i x r1 h1
      split at h
      · cases h
      · rename_i ys r2 h2
        simp only [Option.some.injEq, Prod.mk.injEq] at h
        obtain ⟨rfl, rfl⟩ := h
        obtain ⟨e1, e2⟩ := ih r1 ys r2 h2
        rw [hf l x r1 h1, e1]
        simp [e2]
theorem many_snoc {α : Type} (f : List UInt8 → Option (α × List UInt8)) : ∀ (k : Nat) (l : List UInt8),
    many f (k + 1) l = (many f k l).bind fun p => (f p.2).map fun q => (p.1 ++ [q.1], q.2) := by
  intro k
  induction k with
  | zero =>
    intro l
    rw [many, many]
    cases h : f l with
    | none => simp [h]
    | some q => simp [many, h]
  | succ k ih =>
    intro l
    rw [many]
    cases h : f l with
    | none => simp [many, h]
    | some q =>
      simp only
      rw [ih q.2]
      rw [many, h]
      simp only
      cases h2 : many f k q.2 with
      | none => simp
      | some p =>
        simp only [Option.bind_some]
        cases h3 : f p.2 with
        | none => simp
        | some t => simp
theorem many_step {α : Type} (f : List UInt8 → Option (α × List UInt8)) (k : Nat) (l : List UInt8) (xs : List α) (r : List UInt8) (x : α) (r' : List UInt8) (h : many f k l = some (xs, r)) (h2 : f r = some (x, r')) :
    many f (k + 1) l = some (xs ++ [x], r') := by rw [many_snoc, h]; simp [h2]
theorem many_stop {α : Type} (f : List UInt8 → Option (α × List UInt8)) (k : Nat) (l : List UInt8) (xs : List α) (r : List UInt8) (h : many f k l = some (xs, r)) (h2 : f r = none) : ∀ j, many f (k + 1 + j) l = none := by
  intro j
  induction j with
  | zero => rw [Nat.add_zero, many_snoc, h]; simp [h2]
  | succ j ih => rw [← Nat.add_assoc, many_snoc, ih]; rfl
theorem many_len {α : Type} (f : List UInt8 → Option (α × List UInt8)) (n : Nat) (l : List UInt8) (xs : List α) (r : List UInt8) (h : many f n l = some (xs, r)) : xs.length = n := by
  induction n generalizing l xs with
  | zero => simp only [many, Option.some.injEq, Prod.mk.injEq] at h; obtain ⟨rfl, rfl⟩ := h; rfl
  | succ n ih =>
    rw [many] at h
    split at h
    · cases h
    · split at h
      · cases h
      · rename_i ys r2 h2
        simp only [Option.some.injEq, Prod.mk.injEq] at h
        obtain ⟨rfl, rfl⟩ := h
        rw [List.length_cons, ih _ _ h2]

theorem flat_len {α : Type} (e : α → List UInt8) (he : ∀ x, 1 ≤ (e x).length) (l : List α) : l.length ≤ (l.flatMap e).length := by
  induction l with
  | nil => simp
  | cons x l ih => rw [List.flatMap_cons, List.length_append, List.length_cons]; have := he x; omega
theorem encT_pos (s : List UInt8) : 1 ≤ (encT s).length := by rw [encT, List.length_append]; have := enc_pos s.length; omega

theorem ints_enc (l : List Int) (r : List UInt8) (hl : l.length ≤ 9223372036854775807) (h : ∀ n ∈ l, -9223372036854775808 ≤ n ∧ n ≤ 9223372036854775807) : ints (encIs l ++ r) = some (l, r) := by
  rw [ints, encIs, List.append_assoc, count_enc l.length _ hl (by rw [List.length_append]; have := flat_len enc enc_pos l; omega)]
  exact many_enc int enc r l (fun x hx r => int_enc x r (h x hx))
theorem texts_enc (l : List (List UInt8)) (r : List UInt8) (hl : l.length ≤ 9223372036854775807) (h : ∀ s ∈ l, s.length ≤ 9223372036854775807) : texts (encTs l ++ r) = some (l, r) := by
  rw [texts, encTs, List.append_assoc, count_enc l.length _ hl (by rw [List.length_append]; have := flat_len encT encT_pos l; omega)]
  exact many_enc text encT r l (fun x hx r => text_enc x r (h x hx))
theorem ints_only (l : List UInt8) (xs : List Int) (r : List UInt8) (h : ints l = some (xs, r)) : l = encIs xs ++ r := by
  unfold ints at h
  split at h
  · cases h
  · rename_i n r' hc
    obtain ⟨rfl, hn⟩ := count_only l n r' hc
    obtain ⟨rfl, rfl⟩ := many_only int enc (fun l x r h => (int_only l x r h).1) n r' xs r h
    rw [encIs, List.append_assoc]

/-- A writer: its error's number, its bytes. -/
def lay (m : Nat) (st : Nat × List UInt8) (s : List UInt8) : Nat × List UInt8 :=
  if st.1 ≠ 0 then st else if m < st.2.length + s.length then (2, []) else (0, st.2 ++ s)
def byteW (m : Nat) (st : Nat × List UInt8) (n : Int) : Nat × List UInt8 :=
  if st.1 ≠ 0 then st else if n < 0 ∨ 255 < n then (1, []) else lay m st [UInt8.ofNat n.toNat]
theorem lay_lay (m : Nat) (st : Nat × List UInt8) (a b : List UInt8) : lay m (lay m st a) b = lay m st (a ++ b) := by
  obtain ⟨e, l⟩ := st
  unfold lay
  by_cases h : e = 0
  · subst h
    by_cases h1 : m < l.length + a.length
    · simp [h1]; omega
    · by_cases h2 : m < l.length + (a.length + b.length)
      · simp [h1, h2, Nat.add_assoc]
      · simp [h1, h2, Nat.add_assoc]
  · simp [h]
theorem lay_bad (m : Nat) (st : Nat × List UInt8) (s : List UInt8) (h : st.1 ≠ 0) : lay m st s = st := by rw [lay, if_pos h]
theorem lay_over (m : Nat) (l s : List UInt8) (h : m < l.length + s.length) : lay m (0, l) s = (2, []) := by simp [lay, h]
theorem lay_fits (m : Nat) (l s : List UInt8) (h : ¬ m < l.length + s.length) : lay m (0, l) s = (0, l ++ s) := by simp [lay, h]
/-- Its error is none of the others, its bytes are within m; behind an error there are none. -/
def Fit (m : Nat) (st : Nat × List UInt8) : Prop := st.1 ≤ 2 ∧ st.2.length ≤ m ∧ (st.1 ≠ 0 → st.2 = [])
theorem lay_fit (m : Nat) (st : Nat × List UInt8) (s : List UInt8) (h : Fit m st) : Fit m (lay m st s) := by
  obtain ⟨e, l⟩ := st
  unfold lay
  by_cases h0 : e = 0
  · subst h0
    by_cases h1 : m < l.length + s.length
    · simp [h1, Fit]
    · simp [h1, Fit]; omega
  · simpa [h0] using h
theorem byteW_fit (m : Nat) (st : Nat × List UInt8) (n : Int) (h : Fit m st) : Fit m (byteW m st n) := by
  unfold byteW
  split
  · exact h
  · split
    · simp [Fit]
    · exact lay_fit m st _ h

/-- What is laid. -/
structure Item where
  kind : Int
  n : Int
  text : List UInt8
  ints : List Int
  texts : List (List UInt8)
def layItem (m : Nat) (st : Nat × List UInt8) (x : Item) : Nat × List UInt8 :=
  if x.kind = 1 then byteW m st x.n else if x.kind = 2 then lay m st (encT x.text) else if x.kind = 3 then lay m st (encIs x.ints) else if x.kind = 4 then lay m st (encTs x.texts) else lay m st (enc x.n)
def encItem (x : Item) : List UInt8 :=
  if x.kind = 1 then [UInt8.ofNat x.n.toNat] else if x.kind = 2 then encT x.text else if x.kind = 3 then encIs x.ints else if x.kind = 4 then encTs x.texts else enc x.n
theorem layItem_fit (m : Nat) (st : Nat × List UInt8) (x : Item) (h : Fit m st) : Fit m (layItem m st x) := by
  unfold layItem
  repeat' split
  all_goals first | exact byteW_fit m st _ h | exact lay_fit m st _ h
theorem layItem_bad (m : Nat) (st : Nat × List UInt8) (x : Item) (h : st.1 ≠ 0) : layItem m st x = st := by
  unfold layItem byteW
  repeat' split
  all_goals first | rfl | exact lay_bad m st _ h | contradiction
theorem lay_ok (m : Nat) (l s : List UInt8) (h : (lay m (0, l) s).1 = 0) : lay m (0, l) s = (0, l ++ s) := by
  by_cases h1 : m < l.length + s.length
  · rw [lay_over m l s h1] at h; simp at h
  · exact lay_fits m l s h1
theorem layItem_ok (m : Nat) (l : List UInt8) (x : Item) (h : (layItem m (0, l) x).1 = 0) : layItem m (0, l) x = (0, l ++ encItem x) ∧ (x.kind = 1 → 0 ≤ x.n ∧ x.n ≤ 255) := by
  unfold layItem at h ⊢
  unfold encItem
  by_cases h1 : x.kind = 1
  · simp only [h1, if_true] at h ⊢
    unfold byteW at h ⊢
    by_cases h2 : x.n < 0 ∨ 255 < x.n
    · simp [h2] at h
    · simp only [ne_eq, not_true, if_false, h2] at h ⊢
      exact ⟨lay_ok m l _ h, fun _ => by omega⟩
  · by_cases h2 : x.kind = 2
    · simp only [h2] at h ⊢
      exact ⟨lay_ok m l _ (by simpa using h), fun h => by omega⟩
    · by_cases h3 : x.kind = 3
      · simp only [h3] at h ⊢
        exact ⟨lay_ok m l _ (by simpa using h), fun h => by omega⟩
      · by_cases h4 : x.kind = 4
        · simp only [h4] at h ⊢
          exact ⟨lay_ok m l _ (by simpa using h), fun h => by omega⟩
        · simp only [h1, h2, h3, h4, if_false] at h ⊢
          exact ⟨lay_ok m l _ h, fun h => h.elim⟩
theorem fold_bad (m : Nat) (xs : List Item) : ∀ st : Nat × List UInt8, st.1 ≠ 0 → xs.foldl (layItem m) st = st := by
  induction xs with
  | nil => intro st _; rfl
  | cons x xs ih => intro st h; rw [List.foldl_cons, layItem_bad m st x h, ih st h]
theorem fold_ok (m : Nat) (xs : List Item) : ∀ l : List UInt8, (xs.foldl (layItem m) (0, l)).1 = 0 → xs.foldl (layItem m) (0, l) = (0, l ++ xs.flatMap encItem) ∧ ∀ x ∈ xs, x.kind = 1 → 0 ≤ x.n ∧ x.n ≤ 255 := by
  induction xs with
  | nil => intro l _; simp
  | cons x xs ih =>
    intro l h
    rw [List.foldl_cons] at h ⊢
    by_cases h1 : (layItem m (0, l) x).1 = 0
    · obtain ⟨e, hb⟩ := layItem_ok m l x h1
      rw [e] at h ⊢
      obtain ⟨e2, hb2⟩ := ih _ h
      rw [e2]
      refine ⟨by simp, fun y hy => ?_⟩
      rcases List.mem_cons.1 hy with rfl | h'
      · exact hb
      · exact hb2 y h'
    · rw [fold_bad m xs _ h1] at h
      exact absurd h h1
theorem fold_fit (m : Nat) (xs : List Item) : ∀ st : Nat × List UInt8, Fit m st → Fit m (xs.foldl (layItem m) st) := by
  induction xs with
  | nil => intro st h; exact h
  | cons x xs ih => intro st h; exact ih _ (layItem_fit m st x h)

theorem take_snoc {α : Type} (l : List α) (k : Nat) (h : k < l.length) : l.take (k + 1) = l.take k ++ [l[k]] := List.take_succ_eq_append_getElem h
theorem drop_cons {α : Type} (l : List α) (k : Nat) (h : k < l.length) : l.drop k = l[k] :: l.drop (k + 1) := List.drop_eq_getElem_cons h

end M
end Go.Proofs.Ytgcfpihfoekllaa
