/-
  Plain mathematics of the sum: the shift of 32 bits is linear and loses nothing; products of sums shift; a burst of 32 bits turns the sum.
-/
namespace Go.Proofs.Ytjbodjjeenjbeaa.K2
set_option linter.unusedVariables false

def poly : BitVec 32 := 0xEDB88320#32
def sh (c : BitVec 32) : BitVec 32 := (c >>> 1) ^^^ (poly * (c &&& 1#32))
def shn : Nat → BitVec 32 → BitVec 32
  | 0, c => c
  | n + 1, c => shn n (sh c)
def wide (b : UInt8) : BitVec 32 := b.toBitVec.setWidth 32
def step (c : BitVec 32) (b : UInt8) : BitVec 32 := shn 8 (c ^^^ wide b)
def run : BitVec 32 → List UInt8 → BitVec 32
  | c, [] => c
  | c, b :: l => run (step c b) l
def more (s : BitVec 32) (l : List UInt8) : BitVec 32 := ~~~ (run (~~~ s) l)
def sum (l : List UInt8) : BitVec 32 := more 0#32 l
def byte (x : BitVec 32) (k : Nat) : UInt8 := UInt8.ofBitVec ((x >>> k).setWidth 8)
def four (x : BitVec 32) : List UInt8 := [byte x 0, byte x 8, byte x 16, byte x 24]
def sealed (l : List UInt8) : List UInt8 := l ++ four (sum l)
def zipx : List UInt8 → List UInt8 → List UInt8
  | a :: l, b :: m => (a ^^^ b) :: zipx l m
  | _, _ => []

/-! the shift -/
theorem and_one (c : BitVec 32) : c &&& 1#32 = if c.getLsbD 0 then 1#32 else 0#32 := by
  apply BitVec.eq_of_getLsbD_eq
  intro i hi
  cases i with
  | zero =>
    rw [BitVec.getLsbD_and]
    cases c.getLsbD 0 <;> rfl
  | succ i => cases h : c.getLsbD 0 <;> simp [BitVec.getLsbD_one]
theorem sh_if (c : BitVec 32) : sh c = (c >>> 1) ^^^ (if c.getLsbD 0 then poly else 0#32) := by
  unfold sh
  rw [and_one]
  cases c.getLsbD 0 <;> simp
theorem xor4 (a b c d : BitVec 32) : (a ^^^ b) ^^^ (c ^^^ d) = (a ^^^ c) ^^^ (b ^^^ d) := by
  rw [BitVec.xor_assoc, ← BitVec.xor_assoc b c d, BitVec.xor_comm b c, BitVec.xor_assoc c b d, ← BitVec.xor_assoc]
theorem sh_xor (a b : BitVec 32) : sh (a ^^^ b) = sh a ^^^ sh b := by
  simp only [sh_if]
  rw [xor4, BitVec.ushiftRight_xor_distrib, BitVec.getLsbD_xor]
  cases a.getLsbD 0 <;> cases b.getLsbD 0 <;> simp
theorem shn_xor (n : Nat) (a b : BitVec 32) : shn n (a ^^^ b) = shn n a ^^^ shn n b := by
  induction n generalizing a b with
  | zero => rfl
  | succ n ih => rw [shn, sh_xor, ih]; rfl
theorem shn_add (m n : Nat) (c : BitVec 32) : shn (m + n) c = shn n (shn m c) := by
  induction m generalizing c with
  | zero => rw [Nat.zero_add]; rfl
  | succ m ih => rw [Nat.succ_add_eq_add_succ, Nat.add_succ, shn, ih]; rfl
theorem shn_succ (n : Nat) (c : BitVec 32) : shn (n + 1) c = sh (shn n c) := by
  rw [shn_add n 1]; rfl
theorem sh_zero : sh 0#32 = 0#32 := by decide
theorem shn_zero (n : Nat) : shn n 0#32 = 0#32 := by
  induction n with
  | zero => rfl
  | succ n ih => rw [shn, sh_zero, ih]
theorem sh_null (c : BitVec 32) (h : sh c = 0#32) : c = 0#32 := by
  rw [sh_if] at h
  cases h0 : c.getLsbD 0 with
  | true =>
    exfalso
    rw [h0] at h
    have h31 : ((c >>> 1) ^^^ poly).getLsbD 31 = false := by
      have := congrArg (fun x : BitVec 32 => x.getLsbD 31) h
      simpa using this
    rw [BitVec.getLsbD_xor, BitVec.getLsbD_ushiftRight, BitVec.getLsbD_of_ge c (1 + 31) (by omega)] at h31
    revert h31
    decide
  | false =>
    rw [h0] at h
    apply BitVec.eq_of_getLsbD_eq
    intro i hi
    cases i with
    | zero => rw [h0]; simp
    | succ i =>
      have := congrArg (fun x : BitVec 32 => x.getLsbD i) h
      simp only [Bool.false_eq_true, if_false, BitVec.xor_zero, BitVec.getLsbD_ushiftRight] at this
      rw [Nat.add_comm i 1, this]
      simp
theorem shn_null (n : Nat) (c : BitVec 32) (h : shn n c = 0#32) : c = 0#32 := by
  induction n generalizing c with
  | zero => exact h
  | succ n ih => exact sh_null c (ih _ h)

/-! linear maps that are alike on single bits are alike -/
theorem lin_ext (f g : BitVec 32 → BitVec 32) (hf : ∀ a b, f (a ^^^ b) = f a ^^^ f b) (hg : ∀ a b, g (a ^^^ b) = g a ^^^ g b)
    (h : ∀ i : Fin 32, f (1#32 <<< i.val) = g (1#32 <<< i.val)) (c : BitVec 32) : f c = g c := by
  have f0 : f 0#32 = 0#32 := by
    have h1 := hf 0#32 0#32
    rw [BitVec.xor_self, BitVec.xor_self] at h1
    exact h1
  have g0 : g 0#32 = 0#32 := by
    have h1 := hg 0#32 0#32
    rw [BitVec.xor_self, BitVec.xor_self] at h1
    exact h1
  have key : ∀ k, k ≤ 32 → ∀ c : BitVec 32, (∀ i, k ≤ i → c.getLsbD i = false) → f c = g c := by
    intro k
    induction k with
    | zero =>
      intro _ c hc
      have : c = 0#32 := by
        apply BitVec.eq_of_getLsbD_eq
        intro i _
        rw [hc i (Nat.zero_le _)]
        simp
      rw [this, f0, g0]
    | succ k ih =>
      intro hk c hc
      cases hb : c.getLsbD k with
      | false =>
        refine ih (by omega) c fun i hi => ?_
        rcases Nat.lt_or_ge k i with h1 | h1
        · exact hc i h1
        · rw [show i = k by omega]; exact hb
      | true =>
        have e : c = (c ^^^ (1#32 <<< k)) ^^^ (1#32 <<< k) := by
          rw [BitVec.xor_assoc, BitVec.xor_self, BitVec.xor_zero]
        have h1 := ih (by omega) (c ^^^ (1#32 <<< k)) fun i hi => by
          rw [BitVec.getLsbD_xor, BitVec.getLsbD_shiftLeft, BitVec.getLsbD_one]
          rcases Nat.lt_or_ge k i with h1 | h1
          · rw [hc i h1]
            simp
            omega
          · rw [show i = k by omega, hb]
            simp
            omega
        rw [e, hf, hg, h1]
        have h2 := h ⟨k, by omega⟩
        simp only at h2
        rw [h2]
  exact key 32 (Nat.le_refl _) c fun i hi => BitVec.getLsbD_of_ge c i hi

/-! products -/
def still : BitVec 32 := 0x80000000#32
def mul : Nat → BitVec 32 → BitVec 32 → BitVec 32
  | 0, _, _ => 0#32
  | n + 1, a, b => (if b.getLsbD 31 then a else 0#32) ^^^ mul n (sh a) (b <<< 1)
theorem mul_xor_right (n : Nat) (a b c : BitVec 32) : mul n a (b ^^^ c) = mul n a b ^^^ mul n a c := by
  induction n generalizing a b c with
  | zero => exact (BitVec.xor_self (x := 0#32)).symm
  | succ n ih =>
    simp only [mul]
    rw [BitVec.shiftLeft_xor_distrib, ih, xor4, BitVec.getLsbD_xor]
    cases b.getLsbD 31 <;> cases c.getLsbD 31 <;> simp
theorem mul_xor_left (n : Nat) (a b c : BitVec 32) : mul n (a ^^^ b) c = mul n a c ^^^ mul n b c := by
  induction n generalizing a b c with
  | zero => exact (BitVec.xor_self (x := 0#32)).symm
  | succ n ih =>
    simp only [mul]
    rw [sh_xor, ih, xor4]
    cases c.getLsbD 31 <;> simp
theorem mul_sh (n : Nat) (a b : BitVec 32) : mul n (sh a) b = sh (mul n a b) := by
  induction n generalizing a b with
  | zero => exact sh_zero.symm
  | succ n ih =>
    simp only [mul]
    rw [sh_xor, ih]
    cases b.getLsbD 31
    · simp [sh_zero]
    · simp
theorem mul_shn (n k : Nat) (a b : BitVec 32) : mul n (shn k a) b = shn k (mul n a b) := by
  induction k generalizing a with
  | zero => rfl
  | succ k ih => rw [shn, ih, mul_sh]; rfl
theorem mul_zero (n : Nat) (a : BitVec 32) : mul n a 0#32 = 0#32 := by
  have h := mul_xor_right n a 0#32 0#32
  rw [BitVec.xor_self, BitVec.xor_self] at h
  exact h
set_option maxRecDepth 100000 in
theorem mul_still (b : BitVec 32) : mul 32 still b = b :=
  lin_ext (fun b => mul 32 still b) (fun b => b) (mul_xor_right 32 still) (fun _ _ => rfl) (by decide) b
set_option maxRecDepth 100000 in
theorem bit_still : ∀ i : Fin 32, 1#32 <<< i.val = shn (31 - i.val) still := by decide
theorem mul_shift (m : Nat) (a : BitVec 32) : mul 32 a (shn m still) = shn m a := by
  refine lin_ext (fun a => mul 32 a (shn m still)) (fun a => shn m a) (fun a b => mul_xor_left 32 a b _) (shn_xor m) (fun i => ?_) a
  show mul 32 (1#32 <<< i.val) (shn m still) = shn m (1#32 <<< i.val)
  rw [bit_still i, mul_shn, mul_still, ← shn_add, ← shn_add, Nat.add_comm]
theorem mul_powers (e f : Nat) : mul 32 (shn e still) (shn f still) = shn (e + f) still := by
  rw [mul_shift, shn_add]

/-! how many shifts to the left are left -/
def leadN : Nat → BitVec 32 → Nat
  | 0, _ => 0
  | n + 1, b => if b = 0#32 then 0 else 1 + leadN n (b <<< 1)
theorem leadN_more (n : Nat) (b : BitVec 32) (h : b <<< n = 0#32) : leadN (n + 1) b = leadN n b := by
  induction n generalizing b with
  | zero =>
    rw [BitVec.shiftLeft_zero] at h
    rw [h]
    rfl
  | succ n ih =>
    show (if b = 0#32 then 0 else 1 + leadN (n + 1) (b <<< 1)) = (if b = 0#32 then 0 else 1 + leadN n (b <<< 1))
    by_cases h0 : b = 0#32
    · rw [if_pos h0, if_pos h0]
    · rw [if_neg h0, if_neg h0, ih (b <<< 1) (by rw [← BitVec.shiftLeft_add, Nat.add_comm]; exact h)]
theorem lead_less (b : BitVec 32) (h : b ≠ 0#32) : leadN 32 (b <<< 1) < leadN 32 b := by
  have h1 : leadN 32 b = 1 + leadN 31 (b <<< 1) := by rw [leadN, if_neg h]
  have h2 : leadN 32 (b <<< 1) = leadN 31 (b <<< 1) := by
    refine leadN_more 31 (b <<< 1) ?_
    rw [← BitVec.shiftLeft_add]
    apply BitVec.eq_of_getLsbD_eq
    intro i hi
    rw [BitVec.getLsbD_shiftLeft]
    simp
  omega

/-! texts -/
theorem run_append (c : BitVec 32) (l m : List UInt8) : run c (l ++ m) = run (run c l) m := by
  induction l generalizing c with
  | nil => rfl
  | cons b l ih => exact ih (step c b)
theorem run_snoc (c : BitVec 32) (l : List UInt8) (b : UInt8) : run c (l ++ [b]) = step (run c l) b := run_append c l [b]
theorem step_xor (c d : BitVec 32) (b : UInt8) : step (c ^^^ d) b = step c b ^^^ shn 8 d := by
  unfold step
  rw [BitVec.xor_assoc, BitVec.xor_comm d, ← BitVec.xor_assoc, shn_xor]
theorem run_xor (c d : BitVec 32) (l : List UInt8) : run (c ^^^ d) l = run c l ^^^ shn (8 * l.length) d := by
  induction l generalizing c d with
  | nil => rfl
  | cons b l ih =>
    rw [run, step_xor, ih, ← shn_add]
    rw [show 8 + 8 * l.length = 8 * (b :: l).length by rw [List.length_cons]; omega]
    rfl
theorem not_xor (a : BitVec 32) : ~~~ a = (~~~ 0#32) ^^^ a := by
  apply BitVec.eq_of_getLsbD_eq
  intro i hi
  rw [BitVec.getLsbD_xor, BitVec.getLsbD_not, BitVec.getLsbD_not, BitVec.getLsbD_zero]
  cases a.getLsbD i <;> simp [hi]
theorem more_app (l m : List UInt8) : more (sum l) m = sum (l ++ m) := by
  unfold more sum more
  rw [BitVec.not_not, run_append]
theorem join_app (l m : List UInt8) : shn (8 * m.length) (sum l) ^^^ sum m = sum (l ++ m) := by
  rw [← more_app]
  unfold more
  rw [not_xor (sum l), run_xor, not_xor (run _ _ ^^^ _)]
  show _ ^^^ (~~~ (run (~~~ 0#32) m)) = _
  rw [not_xor (run _ m), BitVec.xor_comm, BitVec.xor_assoc]
theorem more_zero (l : List UInt8) : more 0#32 l = sum l := rfl

/-! four bytes -/
theorem wide_xor (a b : UInt8) : wide (a ^^^ b) = wide a ^^^ wide b := by
  unfold wide
  apply BitVec.eq_of_getLsbD_eq
  intro i hi
  simp [hi]
theorem step_zipx (c d : BitVec 32) (a b : UInt8) : step (c ^^^ d) (a ^^^ b) = step c a ^^^ step d b := by
  unfold step
  rw [wide_xor, xor4, shn_xor]
theorem run_zipx (l m : List UInt8) (h : l.length = m.length) (c d : BitVec 32) : run (c ^^^ d) (zipx l m) = run c l ^^^ run d m := by
  induction l generalizing m c d with
  | nil =>
    cases m with
    | nil => rfl
    | cons b m => simp at h
  | cons a l ih =>
    cases m with
    | nil => simp at h
    | cons b m =>
      show run (step (c ^^^ d) (a ^^^ b)) (zipx l m) = run (step c a) l ^^^ run (step d b) m
      rw [step_zipx, ih m (by simpa using h)]
theorem byte_xor (x y : BitVec 32) (k : Nat) : byte (x ^^^ y) k = byte x k ^^^ byte y k := by
  apply UInt8.toBitVec_inj.1
  rw [UInt8.toBitVec_xor]
  unfold byte
  apply BitVec.eq_of_getLsbD_eq
  intro i hi
  simp [hi]
theorem four_xor (x y : BitVec 32) : four (x ^^^ y) = zipx (four x) (four y) := by
  unfold four zipx
  simp only [byte_xor, zipx]
set_option maxRecDepth 100000 in
theorem run_four_zero (x : BitVec 32) : run 0#32 (four x) = shn 32 x := by
  refine lin_ext (fun x => run 0#32 (four x)) (shn 32) (fun a b => ?_) (shn_xor 32) (by decide) x
  show run 0#32 (four (a ^^^ b)) = _
  rw [four_xor]
  exact run_zipx (four a) (four b) rfl 0#32 0#32
theorem run_four (c x : BitVec 32) : run c (four x) = shn 32 (c ^^^ x) := by
  have h := run_xor 0#32 c (four x)
  rw [BitVec.zero_xor] at h
  rw [h, run_four_zero, show 8 * (four x).length = 32 from rfl, ← shn_xor, BitVec.xor_comm]
theorem run_seal (l : List UInt8) : run (~~~ 0#32) (sealed l) = shn 32 (~~~ 0#32) := by
  unfold sealed
  rw [run_append, run_four]
  unfold sum more
  rw [not_xor (run _ _), BitVec.xor_comm (~~~ 0#32), ← BitVec.xor_assoc, BitVec.xor_self, BitVec.zero_xor]
theorem four_len (x : BitVec 32) : (four x).length = 4 := rfl
theorem seal_len (l : List UInt8) : (sealed l).length = l.length + 4 := by simp [sealed, four_len]
/-- A sealed text in which four bytes side by side are others is no sealed text. -/
theorem burst (p m q : List UInt8) (y : BitVec 32) (hm : m.length = 4) (hy : y ≠ 0#32) (l t : List UInt8) (hl : p ++ m ++ q = sealed l) : p ++ zipx m (four y) ++ q ≠ sealed t := by
  intro he
  have h1 := run_seal l
  have h2 := run_seal t
  rw [← hl, run_append, run_append] at h1
  rw [← he, run_append, run_append] at h2
  have h3 := run_zipx m (four y) hm (run (~~~ 0#32) p) 0#32
  rw [BitVec.xor_zero, run_four_zero] at h3
  rw [h3, run_xor, h1] at h2
  have h4 : shn (8 * q.length) (shn 32 y) = 0#32 := by
    have h5 := congrArg (fun x => shn 32 (~~~ 0#32) ^^^ x) h2
    simp only [← BitVec.xor_assoc, BitVec.xor_self, BitVec.zero_xor] at h5
    exact h5
  exact hy (shn_null _ _ (shn_null _ _ h4))
end Go.Proofs.Ytjbodjjeenjbeaa.K2
