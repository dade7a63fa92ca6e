/-
  Plain mathematics of the sum: the shift of 32 bits is linear and loses nothing; products of sums shift; a burst of 32 bits turns the sum.
  What stands on a device, as plain lists: records, what they make, as few as tell all.
-/
import Derived.Test.YtlnedgjikkhplaaGreatGN01
import Derived.Test.YtlnedgjikkhplaaGreatGN02
section
namespace Go.Proofs.YtlnedgjikkhplaaGreat.K2
set_option linter.unusedVariables false

def poly : BitVec 32 := 0xEDB88320#32
def sh (c : BitVec 32) : BitVec 32 := (c >>> 1) ^^^ (poly * (c &&& 1#32))
def shn : Nat → BitVec 32 → BitVec 32
  | 0, c => c
  | n + 1, c => shn n (sh c)
def wide (b : UInt8) : BitVec 32 := b.toBitVec.setWidth 32
def step (c : BitVec 32) (b : UInt8) : BitVec 32 := shn 8 (c ^^^ wide b)
def run : BitVec 32 → List UInt8 → BitVec 32
  | c, [] => c
  | c, b :: l => run (step c b) l
def more (s : BitVec 32) (l : List UInt8) : BitVec 32 := ~~~ (run (~~~ s) l)
def sum (l : List UInt8) : BitVec 32 := more 0#32 l
def byte (x : BitVec 32) (k : Nat) : UInt8 := UInt8.ofBitVec ((x >>> k).setWidth 8)
def four (x : BitVec 32) : List UInt8 := [byte x 0, byte x 8, byte x 16, byte x 24]
def sealed (l : List UInt8) : List UInt8 := l ++ four (sum l)
def zipx : List UInt8 → List UInt8 → List UInt8
  | a :: l, b :: m => (a ^^^ b) :: zipx l m
  | _, _ => []

/-! the shift -/
theorem and_one (c : BitVec 32) : c &&& 1#32 = if c.getLsbD 0 then 1#32 else 0#32 := by
  apply BitVec.eq_of_getLsbD_eq
  intro i hi
  cases i with
  | zero =>
    rw [BitVec.getLsbD_and]
    cases c.getLsbD 0 <;> rfl
  | succ i => cases h : c.getLsbD 0 <;> simp [BitVec.getLsbD_one]
theorem sh_if (c : BitVec 32) : sh c = (c >>> 1) ^^^ (if c.getLsbD 0 then poly else 0#32) := by
  unfold sh
  rw [and_one]
  cases c.getLsbD 0 <;> simp
theorem xor4 (a b c d : BitVec 32) : (a ^^^ b) ^^^ (c ^^^ d) = (a ^^^ c) ^^^ (b ^^^ d) := by
  rw [BitVec.xor_assoc, ← BitVec.xor_assoc b c d, BitVec.xor_comm b c, BitVec.xor_assoc c b d, ← BitVec.xor_assoc]
theorem sh_xor (a b : BitVec 32) : sh (a ^^^ b) = sh a ^^^ sh b := by
  simp only [sh_if]
  rw [xor4, BitVec.ushiftRight_xor_distrib, BitVec.getLsbD_xor]
  cases a.getLsbD 0 <;> cases b.getLsbD 0 <;> simp
theorem shn_xor (n : Nat) (a b : BitVec 32) : shn n (a ^^^ b) = shn n a ^^^ shn n b := by
  induction n generalizing a b with
  | zero => rfl
  | succ n ih => rw [shn, sh_xor, ih]; rfl
theorem shn_add (m n : Nat) (c : BitVec 32) : shn (m + n) c = shn n (shn m c) := by
  induction m generalizing c with
  | zero => rw [Nat.zero_add]; rfl
  | succ m ih => rw [Nat.succ_add_eq_add_succ, Nat.add_succ, shn, ih]; rfl
theorem shn_succ (n : Nat) (c : BitVec 32) : shn (n + 1) c = sh (shn n c) := by
  rw [shn_add n 1]; rfl
theorem sh_zero : sh 0#32 = 0#32 := by decide
theorem shn_zero (n : Nat) : shn n 0#32 = 0#32 := by
  induction n with
  | zero => rfl
  | succ n ih => rw [shn, sh_zero, ih]
theorem sh_null (c : BitVec 32) (h : sh c = 0#32) : c = 0#32 := by
  rw [sh_if] at h
  cases h0 : c.getLsbD 0 with
  | true =>
    exfalso
    rw [h0] at h
    have h31 : ((c >>> 1) ^^^ poly).getLsbD 31 = false := by
      have := congrArg (fun x : BitVec 32 => x.getLsbD 31) h
      simpa using this
    rw [BitVec.getLsbD_xor, BitVec.getLsbD_ushiftRight, BitVec.getLsbD_of_ge c (1 + 31) (by omega)] at h31
    revert h31
    decide
  | false =>
    rw [h0] at h
    apply BitVec.eq_of_getLsbD_eq
    intro i hi
    cases i with
    | zero => rw [h0]; simp
    | succ i =>
      have := congrArg (fun x : BitVec 32 => x.getLsbD i) h
      simp only [Bool.false_eq_true, if_false, BitVec.xor_zero, BitVec.getLsbD_ushiftRight] at this
      rw [Nat.add_comm i 1, this]
      simp
theorem shn_null (n : Nat) (c : BitVec 32) (h : shn n c = 0#32) : c = 0#32 := by
  induction n generalizing c with
  | zero => exact h
  | succ n ih => exact sh_null c (ih _ h)

/-! linear maps that are alike on single bits are alike -/
theorem lin_ext (f g : BitVec 32 → BitVec 32) (hf : ∀ a b, f (a ^^^ b) = f a ^^^ f b) (hg : ∀ a b, g (a ^^^ b) = g a ^^^ g b)
    (h : ∀ i : Fin 32, f (1#32 <<< i.val) = g (1#32 <<< i.val)) (c : BitVec 32) : f c = g c := by
  have f0 : f 0#32 = 0#32 := by
    have h1 := hf 0#32 0#32
    rw [BitVec.xor_self, BitVec.xor_self] at h1
    exact h1
  have g0 : g 0#32 = 0#32 := by
    have h1 := hg 0#32 0#32
    rw [BitVec.xor_self, BitVec.xor_self] at h1
    exact h1
  have key : ∀ k, k ≤ 32 → ∀ c : BitVec 32, (∀ i, k ≤ i → c.getLsbD i = false) → f c = g c := by
    intro k
    induction k with
    | zero =>
      intro _ c hc
      have : c = 0#32 := by
        apply BitVec.eq_of_getLsbD_eq
        intro i _
        rw [hc i (Nat.zero_le _)]
        simp
      rw [this, f0, g0]
    | succ k ih =>
      intro hk c hc
      cases hb : c.getLsbD k with
      | false =>
        refine ih (by omega) c fun i hi => ?_
        rcases Nat.lt_or_ge k i with h1 | h1
        · exact hc i h1
        · rw [show i = k by omega]; exact hb
      | true =>
        have e : c = (c ^^^ (1#32 <<< k)) ^^^ (1#32 <<< k) := by
          rw [BitVec.xor_assoc, BitVec.xor_self, BitVec.xor_zero]
        have h1 := ih (by omega) (c ^^^ (1#32 <<< k)) fun i hi => by
          rw [BitVec.getLsbD_xor, BitVec.getLsbD_shiftLeft, BitVec.getLsbD_one]
          rcases Nat.lt_or_ge k i with h1 | h1
          · rw [hc i h1]
            simp
            omega
          · rw [show i = k by omega, hb]
            simp
            omega
        rw [e, hf, hg, h1]
        have h2 := h ⟨k, by omega⟩
        simp only at h2
        rw [h2]
  exact key 32 (Nat.le_refl _) c fun i hi => BitVec.getLsbD_of_ge c i hi

/-! products -/
def still : BitVec 32 := 0x80000000#32
def mul : Nat → BitVec 32 → BitVec 32 → BitVec 32
  | 0, _, _ => 0#32
  | n + 1, a, b => (if b.getLsbD 31 then a else 0#32) ^^^ mul n (sh a) (b <<< 1)
theorem mul_xor_right (n : Nat) (a b c : BitVec 32) : mul n a (b ^^^ c) = mul n a b ^^^ mul n a c := by
  induction n generalizing a b c with
  | zero => exact (BitVec.xor_self (x := 0#32)).symm
  | succ n ih =>
    simp only [mul]
    rw [BitVec.shiftLeft_xor_distrib, ih, xor4, BitVec.getLsbD_xor]
    cases b.getLsbD 31 <;> cases c.getLsbD 31 <;> simp
theorem mul_xor_left (n : Nat) (a b c : BitVec 32) : mul n (a ^^^ b) c = mul n a c ^^^ mul n b c := by
  induction n generalizing a b c with
  | zero => exact (BitVec.xor_self (x := 0#32)).symm
  | succ n ih =>
    simp only [mul]
    rw [sh_xor, ih, xor4]
    cases c.getLsbD 31 <;> simp
theorem mul_sh (n : Nat) (a b : BitVec 32) : mul n (sh a) b = sh (mul n a b) := by
  induction n generalizing a b with
  | zero => exact sh_zero.symm
  | succ n ih =>
    simp only [mul]
    rw [sh_xor, ih]
    cases b.getLsbD 31
    · simp [sh_zero]
    · simp
theorem mul_shn (n k : Nat) (a b : BitVec 32) : mul n (shn k a) b = shn k (mul n a b) := by
  induction k generalizing a with
  | zero => rfl
  | succ k ih => rw [shn, ih, mul_sh]; rfl
theorem mul_zero (n : Nat) (a : BitVec 32) : mul n a 0#32 = 0#32 := by
  have h := mul_xor_right n a 0#32 0#32
  rw [BitVec.xor_self, BitVec.xor_self] at h
  exact h
set_option maxRecDepth 100000 in
theorem mul_still (b : BitVec 32) : mul 32 still b = b :=
  lin_ext (fun b => mul 32 still b) (fun b => b) (mul_xor_right 32 still) (fun _ _ => rfl) (by decide) b
set_option maxRecDepth 100000 in
theorem bit_still : ∀ i : Fin 32, 1#32 <<< i.val = shn (31 - i.val) still := by decide
theorem mul_shift (m : Nat) (a : BitVec 32) : mul 32 a (shn m still) = shn m a := by
  refine lin_ext (fun a => mul 32 a (shn m still)) (fun a => shn m a) (fun a b => mul_xor_left 32 a b _) (shn_xor m) (fun i => ?_) a
  show mul 32 (1#32 <<< i.val) (shn m still) = shn m (1#32 <<< i.val)
  rw [bit_still i, mul_shn, mul_still, ← shn_add, ← shn_add, Nat.add_comm]
theorem mul_powers (e f : Nat) : mul 32 (shn e still) (shn f still) = shn (e + f) still := by
  rw [mul_shift, shn_add]

/-! how many shifts to the left are left -/
def leadN : Nat → BitVec 32 → Nat
  | 0, _ => 0
  | n + 1, b => if b = 0#32 then 0 else 1 + leadN n (b <<< 1)
theorem leadN_more (n : Nat) (b : BitVec 32) (h : b <<< n = 0#32) : leadN (n + 1) b = leadN n b := by
  induction n generalizing b with
  | zero =>
    rw [BitVec.shiftLeft_zero] at h
    rw [h]
    rfl
  | succ n ih =>
    show (if b = 0#32 then 0 else 1 + leadN (n + 1) (b <<< 1)) = (if b = 0#32 then 0 else 1 + leadN n (b <<< 1))
    by_cases h0 : b = 0#32
    · rw [if_pos h0, if_pos h0]
    · rw [if_neg h0, if_neg h0, ih (b <<< 1) (by rw [← BitVec.shiftLeft_add, Nat.add_comm]; exact h)]
theorem lead_less (b : BitVec 32) (h : b ≠ 0#32) : leadN 32 (b <<< 1) < leadN 32 b := by
  have h1 : leadN 32 b = 1 + leadN 31 (b <<< 1) := by rw [leadN, if_neg h]
  have h2 : leadN 32 (b <<< 1) = leadN 31 (b <<< 1) := by
    refine leadN_more 31 (b <<< 1) ?_
    rw [← BitVec.shiftLeft_add]
    apply BitVec.eq_of_getLsbD_eq
    intro i hi
    rw [BitVec.getLsbD_shiftLeft]
    simp
  omega

/-! texts -/
theorem run_append (c : BitVec 32) (l m : List UInt8) : run c (l ++ m) = run (run c l) m := by
  induction l generalizing c with
  | nil => rfl
  | cons b l ih => exact ih (step c b)
theorem run_snoc (c : BitVec 32) (l : List UInt8) (b : UInt8) : run c (l ++ [b]) = step (run c l) b := run_append c l [b]
theorem step_xor (c d : BitVec 32) (b : UInt8) : step (c ^^^ d) b = step c b ^^^ shn 8 d := by
  unfold step
  rw [BitVec.xor_assoc, BitVec.xor_comm d, ← BitVec.xor_assoc, shn_xor]
theorem run_xor (c d : BitVec 32) (l : List UInt8) : run (c ^^^ d) l = run c l ^^^ shn (8 * l.length) d := by
  induction l generalizing c d with
  | nil => rfl
  | cons b l ih =>
    rw [run, step_xor, ih, ← shn_add]
    rw [show 8 + 8 * l.length = 8 * (b :: l).length by rw [List.length_cons]; omega]
    rfl
theorem not_xor (a : BitVec 32) : ~~~ a = (~~~ 0#32) ^^^ a := by
  apply BitVec.eq_of_getLsbD_eq
  intro i hi
  rw [BitVec.getLsbD_xor, BitVec.getLsbD_not, BitVec.getLsbD_not, BitVec.getLsbD_zero]
  cases a.getLsbD i <;> simp [hi]
theorem more_app (l m : List UInt8) : more (sum l) m = sum (l ++ m) := by
  unfold more sum more
  rw [BitVec.not_not, run_append]
theorem join_app (l m : List UInt8) : shn (8 * m.length) (sum l) ^^^ sum m = sum (l ++ m) := by
  rw [← more_app]
  unfold more
  rw [not_xor (sum l), run_xor, not_xor (run _ _ ^^^ _)]
  show _ ^^^ (~~~ (run (~~~ 0#32) m)) = _
  rw [not_xor (run _ m), BitVec.xor_comm, BitVec.xor_assoc]
theorem more_zero (l : List UInt8) : more 0#32 l = sum l := rfl

/-! four bytes -/
theorem wide_xor (a b : UInt8) : wide (a ^^^ b) = wide a ^^^ wide b := by
  unfold wide
  apply BitVec.eq_of_getLsbD_eq
  intro i hi
  simp [hi]
theorem step_zipx (c d : BitVec 32) (a b : UInt8) : step (c ^^^ d) (a ^^^ b) = step c a ^^^ step d b := by
  unfold step
  rw [wide_xor, xor4, shn_xor]
theorem run_zipx (l m : List UInt8) (h : l.length = m.length) (c d : BitVec 32) : run (c ^^^ d) (zipx l m) = run c l ^^^ run d m := by
  induction l generalizing m c d with
  | nil =>
    cases m with
    | nil => rfl
    | cons b m => simp at h
  | cons a l ih =>
    cases m with
    | nil => simp at h
    | cons b m =>
      show run (step (c ^^^ d) (a ^^^ b)) (zipx l m) = run (step c a) l ^^^ run (step d b) m
      rw [step_zipx, ih m (by simpa using h)]
theorem byte_xor (x y : BitVec 32) (k : Nat) : byte (x ^^^ y) k = byte x k ^^^ byte y k := by
  apply UInt8.toBitVec_inj.1
  rw [UInt8.toBitVec_xor]
  unfold byte
  apply BitVec.eq_of_getLsbD_eq
  intro i hi
  simp [hi]
theorem four_xor (x y : BitVec 32) : four (x ^^^ y) = zipx (four x) (four y) := by
  unfold four zipx
  simp only [byte_xor, zipx]
set_option maxRecDepth 100000 in
theorem run_four_zero (x : BitVec 32) : run 0#32 (four x) = shn 32 x := by
  refine lin_ext (fun x => run 0#32 (four x)) (shn 32) (fun a b => ?_) (shn_xor 32) (by decide) x
  show run 0#32 (four (a ^^^ b)) = _
  rw [four_xor]
  exact run_zipx (four a) (four b) rfl 0#32 0#32
theorem run_four (c x : BitVec 32) : run c (four x) = shn 32 (c ^^^ x) := by
  have h := run_xor 0#32 c (four x)
  rw [BitVec.zero_xor] at h
  rw [h, run_four_zero, show 8 * (four x).length = 32 from rfl, ← shn_xor, BitVec.xor_comm]
theorem run_seal (l : List UInt8) : run (~~~ 0#32) (sealed l) = shn 32 (~~~ 0#32) := by
  unfold sealed
  rw [run_append, run_four]
  unfold sum more
  rw [not_xor (run _ _), BitVec.xor_comm (~~~ 0#32), ← BitVec.xor_assoc, BitVec.xor_self, BitVec.zero_xor]
theorem four_len (x : BitVec 32) : (four x).length = 4 := rfl
theorem seal_len (l : List UInt8) : (sealed l).length = l.length + 4 := by simp [sealed, four_len]
/-- A sealed text in which four bytes side by side are others is no sealed text. -/
theorem burst (p m q : List UInt8) (y : BitVec 32) (hm : m.length = 4) (hy : y ≠ 0#32) (l t : List UInt8) (hl : p ++ m ++ q = sealed l) : p ++ zipx m (four y) ++ q ≠ sealed t := by
  intro he
  have h1 := run_seal l
  have h2 := run_seal t
  rw [← hl, run_append, run_append] at h1
  rw [← he, run_append, run_append] at h2
  have h3 := run_zipx m (four y) hm (run (~~~ 0#32) p) 0#32
  rw [BitVec.xor_zero, run_four_zero] at h3
  rw [h3, run_xor, h1] at h2
  have h4 : shn (8 * q.length) (shn 32 y) = 0#32 := by
    have h5 := congrArg (fun x => shn 32 (~~~ 0#32) ^^^ x) h2
    simp only [← BitVec.xor_assoc, BitVec.xor_self, BitVec.zero_xor] at h5
    exact h5
  exact hy (shn_null _ _ (shn_null _ _ h4))
end Go.Proofs.YtlnedgjikkhplaaGreat.K2
end
section
namespace Go.Proofs.YtlnedgjikkhplaaGreat.Du
set_option linter.unusedVariables false
open Na.M (E V S S0 cmpE vld prs acs trs prb acb may put Up vts)
open Nc.M (enc encT)

/-- A change of an acceptor: a promise, a vote, a trim. -/
abbrev R := E ⊕ (V ⊕ Int)
abbrev R.pr (b : E) : R := Sum.inl b
abbrev R.vo (v : V) : R := Sum.inr (Sum.inl v)
abbrev R.tr (u : Int) : R := Sum.inr (Sum.inr u)
theorem R.split {motive : R → Prop} (r : R) (pr : ∀ b, motive (R.pr b)) (vo : ∀ v, motive (R.vo v)) (tr : ∀ u, motive (R.tr u)) : motive r :=
  match r with
  | .inl b => pr b
  | .inr (.inl v) => vo v
  | .inr (.inr u) => tr u
def I64 (n : Int) : Prop := -9223372036854775808 ≤ n ∧ n ≤ 9223372036854775807
def Wf : R → Prop
  | .inl b => I64 b.i ∧ I64 b.t
  | .inr (.inl v) => I64 v.s ∧ I64 v.b.i ∧ I64 v.b.t ∧ v.v.size ≤ 4096
  | .inr (.inr u) => I64 u
def encB (b : E) : List UInt8 := enc b.i ++ enc b.t
def kb : R → List UInt8
  | .inl b => 1 :: encB b
  | .inr (.inl v) => 2 :: (enc v.s ++ (encB v.b ++ encT v.v.data.toList))
  | .inr (.inr u) => 3 :: enc u
def body (e k : Nat) (r : R) : List UInt8 := enc e ++ (enc k ++ kb r)
def raw (e k : Nat) (r : R) : List UInt8 := encT (K2.sealed (body e k r))
/-- Zeros up to whole sectors. -/
def fil (n : Nat) : Nat := (n + 63) / 64 * 64 - n
def rec (e k : Nat) (r : R) : List UInt8 := raw e k r ++ List.replicate (fil (raw e k r).length) 0
def sec (e k : Nat) (r : R) : Nat := ((raw e k r).length + 63) / 64
theorem rec_len (e k : Nat) (r : R) : (rec e k r).length = sec e k r * 64 := by
  unfold rec sec fil
  rw [List.length_append, List.length_replicate]
  omega
theorem raw_pos (e k : Nat) (r : R) : 1 ≤ (raw e k r).length := Nc.M.encT_pos _
theorem sec_pos (e k : Nat) (r : R) : 1 ≤ sec e k r := by
  have := raw_pos e k r
  unfold sec
  omega
def recs (e : Nat) : Nat → List R → List UInt8
  | _, [] => []
  | k, r :: l => rec e k r ++ recs e (k + 1) l
def secs (e : Nat) : Nat → List R → Nat
  | _, [] => 0
  | k, r :: l => sec e k r + secs e (k + 1) l
theorem recs_len (e : Nat) : ∀ (l : List R) (k : Nat), (recs e k l).length = secs e k l * 64
  | [], _ => rfl
  | r :: l, k => by
    rw [recs, secs, List.length_append, rec_len, recs_len e l (k + 1)]
    omega
theorem recs_app (e : Nat) : ∀ (l q : List R) (k : Nat), recs e k (l ++ q) = recs e k l ++ recs e (k + l.length) q
  | [], q, k => rfl
  | r :: l, q, k => by
    rw [List.cons_append, recs, recs, recs_app e l q (k + 1), List.append_assoc, List.length_cons, show k + 1 + l.length = k + (l.length + 1) by omega]
theorem secs_app (e : Nat) : ∀ (l q : List R) (k : Nat), secs e k (l ++ q) = secs e k l + secs e (k + l.length) q
  | [], q, k => by simp [secs]
  | r :: l, q, k => by
    rw [List.cons_append, secs, secs, secs_app e l q (k + 1), List.length_cons, show k + 1 + l.length = k + (l.length + 1) by omega, Nat.add_assoc]
theorem secs_ge (e : Nat) : ∀ (l : List R) (k : Nat), l.length ≤ secs e k l
  | [], _ => Nat.zero_le _
  | r :: l, k => by
    have := secs_ge e l (k + 1)
    have := sec_pos e k r
    rw [secs, List.length_cons]
    omega
/-- What they make. -/
def redo (a : S) : R → S
  | .inl b => prs a b a.base
  | .inr (.inl v) => acs a v
  | .inr (.inr u) => trs a u
def mk (l : List R) : S := l.foldl redo S0
theorem mk_snoc (l : List R) (r : R) : mk (l ++ [r]) = redo (mk l) r := by
  unfold mk
  rw [List.foldl_append]
  rfl
theorem redo_ok {a : S} (h : Na.M.Ok a) (r : R) : Na.M.Ok (redo a r) := by
  cases r using R.split with
  | pr b => exact Na.M.prs_ok h b _
  | vo v => exact Na.M.acs_ok h v
  | tr u => exact Na.M.trs_ok h u
theorem fold_ok : ∀ (l : List R) {a : S}, Na.M.Ok a → Na.M.Ok (l.foldl redo a)
  | [], a, h => h
  | r :: l, a, h => fold_ok l (redo_ok h r)
theorem mk_ok (l : List R) : Na.M.Ok (mk l) := fold_ok l Na.M.Ok.zero
/-- All ballots are valid ones. -/
structure Vd (a : S) : Prop where
  p : vld a.p = true
  l : ∀ x ∈ a.l, vld x.b = true
theorem Vd.zero : Vd S0 := ⟨by decide, by simp [S0]⟩
theorem may_vld {a : S} {b : E} (h : may a b = true) : vld b = true := by
  unfold may at h
  simp at h
  exact h.1
theorem Vd.prs {a : S} (h : Vd a) (b : E) (k : Int) : Vd (prs a b k) := by
  cases hb : prb a b k with
  | false => rw [Na.M.prs_no hb]; exact h
  | true => rw [Na.M.prs_yes hb]; exact ⟨may_vld (Na.M.prb_may hb), h.l⟩
theorem Vd.acs {a : S} (h : Vd a) (v : V) : Vd (acs a v) := by
  cases hb : acb a v with
  | false => rw [Na.M.acs_no hb]; exact h
  | true =>
    rw [Na.M.acs_yes hb]
    have h1 := may_vld (Na.M.acb_yes hb).1
    refine ⟨h1, fun x hx => ?_⟩
    rcases Na.M.mem_put hx with rfl | ⟨hx', _⟩
    · exact h1
    · exact h.l x hx'
theorem Vd.trs {a : S} (h : Vd a) (u : Int) : Vd (trs a u) := ⟨h.p, fun x hx => h.l x (Na.M.mem_vts.1 hx).1⟩
theorem Vd.redo {a : S} (h : Vd a) (r : R) : Vd (redo a r) := by
  cases r using R.split with
  | pr b => exact h.prs b _
  | vo v => exact h.acs v
  | tr u => exact h.trs u
theorem Vd.fold : ∀ (l : List R) {a : S}, Vd a → Vd (l.foldl Du.redo a)
  | [], a, h => h
  | r :: l, a, h => Vd.fold l (h.redo r)
theorem mk_vd (l : List R) : Vd (mk l) := Vd.fold l Vd.zero
/-! ballots: their order -/
theorem E_ext {a b : E} (h1 : a.i = b.i) (h2 : a.t = b.t) : a = b := by
  cases a; cases b; simp_all
def lt (a b : V) : Prop := cmpE a.b b.b < 0 ∨ (cmpE a.b b.b = 0 ∧ a.s < b.s)
theorem cmpE_flip (a b : E) : cmpE b a = - cmpE a b := (Na.M.order a b a).1
theorem cmpE_zero {a b : E} : cmpE a b = 0 ↔ a = b := by
  constructor
  · intro h
    have := (Na.M.order a b a).2.1.1 h
    exact E_ext this.1 this.2
  · rintro rfl
    exact Na.M.cmp_self a
theorem cmpE_le {a b c : E} (h1 : cmpE a b ≤ 0) (h2 : cmpE b c ≤ 0) : cmpE a c ≤ 0 := (Na.M.order a b c).2.2.2.1 h1 h2
theorem lt_trans' {a b c : V} (h1 : lt a b) (h2 : lt b c) : lt a c := by
  have e1 := cmpE_le (a := a.b) (b := b.b) (c := c.b)
  unfold lt at *
  have hz := @cmpE_zero a.b b.b
  have hz2 := @cmpE_zero b.b c.b
  have hz3 := @cmpE_zero a.b c.b
  rcases h1 with h1 | ⟨h1, h3⟩ <;> rcases h2 with h2 | ⟨h2, h4⟩
  · left
    have := e1 (by omega) (by omega)
    rcases Int.lt_or_eq_of_le this with h | h
    · exact h
    · have e := hz3.1 h
      rw [e, cmpE_flip] at h1
      omega
  · rw [hz2.1 h2] at h1; exact .inl h1
  · rw [← hz.1 h1] at h2; exact .inl h2
  · right
    rw [← hz2.1 h2]
    exact ⟨h1, by omega⟩
theorem lt_irrefl' (a : V) : ¬ lt a a := by
  unfold lt
  rw [Na.M.cmp_self]
  omega
theorem lt_tri (a b : V) : lt a b ∨ (a.b = b.b ∧ a.s = b.s) ∨ lt b a := by
  unfold lt
  rw [cmpE_flip a.b b.b]
  rcases Int.lt_trichotomy (cmpE a.b b.b) 0 with h | h | h
  · exact .inl (.inl h)
  · rcases Int.lt_trichotomy a.s b.s with h2 | h2 | h2
    · exact .inl (.inr ⟨h, h2⟩)
    · exact .inr (.inl ⟨cmpE_zero.1 h, h2⟩)
    · exact .inr (.inr (.inr ⟨by omega, h2⟩))
  · exact .inr (.inr (.inl (by omega)))
/-- Votes by their ballots, then slots: one more, behind all whose ballots are no greater. -/
def ins (v : V) : List V → List V
  | [] => [v]
  | x :: l => if cmpE x.b v.b ≤ 0 then x :: ins v l else v :: x :: l
def byB (l : List V) : List V := l.foldl (fun a v => ins v a) []
theorem ins_perm (v : V) : ∀ l : List V, (ins v l).Perm (v :: l)
  | [] => List.Perm.refl _
  | x :: l => by
    rw [ins]
    split
    · exact ((ins_perm v l).cons x).trans (List.Perm.swap v x l)
    · exact List.Perm.refl _
theorem foldl_perm : ∀ (l a : List V), (l.foldl (fun a v => ins v a) a).Perm (l ++ a)
  | [], a => List.Perm.refl _
  | v :: l, a => by
    rw [List.foldl_cons]
    refine (foldl_perm l (ins v a)).trans ?_
    refine (List.Perm.append_left l (ins_perm v a)).trans ?_
    exact List.perm_middle
theorem byB_perm (l : List V) : (byB l).Perm l := by
  have := foldl_perm l []
  rw [List.append_nil] at this
  exact this
theorem mem_ins {v x : V} {l : List V} : x ∈ ins v l ↔ x = v ∨ x ∈ l := by
  rw [(ins_perm v l).mem_iff, List.mem_cons]
theorem ins_sorted (v : V) : ∀ l : List V, l.Pairwise lt → (∀ x ∈ l, x.s < v.s) → (ins v l).Pairwise lt
  | [], _, _ => by simp [ins]
  | x :: l, h, hs => by
    have hc := List.pairwise_cons.1 h
    have hx : x.s < v.s := hs x (by simp)
    rw [ins]
    split
    · rename_i hle
      refine List.pairwise_cons.2 ⟨fun y hy => ?_, ins_sorted v l hc.2 fun y hy => hs y (by simp [hy])⟩
      rcases mem_ins.1 hy with rfl | hy'
      · unfold lt; omega
      · exact hc.1 y hy'
    · rename_i hle
      have hv : lt v x := by unfold lt; rw [cmpE_flip x.b v.b]; omega
      refine List.pairwise_cons.2 ⟨fun y hy => ?_, h⟩
      rcases List.mem_cons.1 hy with rfl | hy'
      · exact hv
      · exact lt_trans' hv (hc.1 y hy')
theorem foldl_sorted : ∀ (l a : List V), Up l → a.Pairwise lt → (∀ x ∈ a, ∀ y ∈ l, x.s < y.s) → (l.foldl (fun a v => ins v a) a).Pairwise lt
  | [], a, _, h, _ => h
  | v :: l, a, hu, h, hs => by
    have hc := List.pairwise_cons.1 hu
    rw [List.foldl_cons]
    refine foldl_sorted l (ins v a) hc.2 (ins_sorted v a h fun x hx => hs x hx v (by simp)) fun x hx y hy => ?_
    rcases mem_ins.1 hx with rfl | hx'
    · exact hc.1 y hy
    · exact hs x hx' y (by simp [hy])
theorem byB_sorted {l : List V} (hu : Up l) : (byB l).Pairwise lt := foldl_sorted l [] hu List.Pairwise.nil (by simp)
/-- There is one such order. -/
theorem sorted_uniq : ∀ (l q : List V), l.Perm q → l.Pairwise lt → q.Pairwise lt → l = q
  | [], q, h, _, _ => (List.nil_perm.1 h).symm
  | x :: l, [], h, _, _ => absurd (List.perm_nil.1 h) (by simp)
  | x :: l, y :: q, h, hl, hq => by
    have hcl := List.pairwise_cons.1 hl
    have hcq := List.pairwise_cons.1 hq
    have e : x = y := by
      have h1 : x ∈ y :: q := h.mem_iff.1 (by simp)
      have h2 : y ∈ x :: l := h.mem_iff.2 (by simp)
      rcases List.mem_cons.1 h1 with e | h1'
      · exact e
      · rcases List.mem_cons.1 h2 with e | h2'
        · exact e.symm
        · exact absurd (lt_trans' (hcl.1 y h2') (hcq.1 x h1')) (lt_irrefl' x)
    subst e
    rw [sorted_uniq l q (List.perm_cons x |>.1 h) hcl.2 hcq.2]
/-- As few records as tell all. -/
def few (a : S) : List R := (if a.base = 0 then [] else [R.tr a.base]) ++ ((byB a.l).map R.vo ++ (if a.p.i = 0 ∧ a.p.t = 0 then [] else [R.pr a.p]))
theorem up_uniq : ∀ (l q : List V), Up l → Up q → (∀ x, x ∈ l ↔ x ∈ q) → l = q
  | [], [], _, _, _ => rfl
  | [], y :: q, _, _, h => absurd ((h y).2 (by simp)) (by simp)
  | x :: l, [], _, _, h => absurd ((h x).1 (by simp)) (by simp)
  | x :: l, y :: q, hl, hq, h => by
    have hcl := List.pairwise_cons.1 hl
    have hcq := List.pairwise_cons.1 hq
    have e : x = y := by
      rcases List.mem_cons.1 ((h x).1 (by simp)) with e | h1
      · exact e
      · rcases List.mem_cons.1 ((h y).2 (by simp)) with e | h2
        · exact e.symm
        · have := hcl.1 y h2
          have := hcq.1 x h1
          omega
    subst e
    rw [up_uniq l q hcl.2 hcq.2 fun z => ?_]
    constructor
    · intro hz
      rcases List.mem_cons.1 ((h z).1 (by simp [hz])) with e | h1
      · subst e; have := hcl.1 z hz; omega
      · exact h1
    · intro hz
      rcases List.mem_cons.1 ((h z).2 (by simp [hz])) with e | h1
      · subst e; have := hcq.1 z hz; omega
      · exact h1
/-- Votes done by their ballots. -/
theorem redo_votes : ∀ (q : List V) (a : S), Up a.l → q.Pairwise lt → (∀ x ∈ q, vld x.b = true ∧ a.base ≤ x.s ∧ x.s < 1024 ∧ x.v.size ≤ 4096 ∧ cmpE a.p x.b ≤ 0) → (q.Pairwise fun x y => x.s ≠ y.s) → (∀ x ∈ q, ∀ y ∈ a.l, x.s ≠ y.s) →
    ∃ p l, (q.map R.vo).foldl redo a = ⟨p, a.base, l⟩ ∧ Up l ∧ (∀ x, x ∈ l ↔ x ∈ q ∨ x ∈ a.l) ∧ (p = a.p ∨ ∃ x ∈ q, p = x.b)
  | [], a, hu, _, _, _, _ => ⟨a.p, a.l, rfl, hu, by simp, .inl rfl⟩
  | v :: q, a, hu, hq, hv, hd, ha => by
    obtain ⟨h1, h2, h3, h4, h5⟩ := hv v (by simp)
    have hb : acb a v = true := by
      unfold acb may
      rw [h1, cmpE_flip a.p v.b]
      simp
      omega
    have hcq := List.pairwise_cons.1 hq
    have hcd := List.pairwise_cons.1 hd
    have e : acs a v = ⟨v.b, a.base, put a.l v⟩ := Na.M.acs_yes hb
    obtain ⟨p, l, e2, u2, m2, p2⟩ := redo_votes q ⟨v.b, a.base, put a.l v⟩ (Na.M.up_put hu v) hcq.2 (fun x hx => by
      obtain ⟨k1, k2, k3, k4, _⟩ := hv x (by simp [hx])
      refine ⟨k1, k2, k3, k4, ?_⟩
      have := hcq.1 x hx
      unfold lt at this
      show cmpE v.b x.b ≤ 0
      omega) hcd.2 (fun x hx y hy => by
      rcases Na.M.mem_put hy with rfl | ⟨hy', _⟩
      · exact fun e => hcd.1 x hx e.symm
      · exact ha x (by simp [hx]) y hy')
    refine ⟨p, l, ?_, u2, fun x => ?_, ?_⟩
    · rw [List.map_cons, List.foldl_cons]
      show List.foldl redo (acs a v) _ = _
      rw [e, e2]
    · rw [m2]
      constructor
      · rintro (h | h)
        · exact .inl (by simp [h])
        · rcases Na.M.mem_put h with rfl | ⟨h', _⟩
          · exact .inl (by simp)
          · exact .inr h'
      · rintro (h | h)
        · rcases List.mem_cons.1 h with rfl | h'
          · exact .inr (Na.M.put_mem (.inl rfl))
          · exact .inl h'
        · exact .inr (Na.M.put_mem (.inr ⟨h, fun e => ha v (by simp) x h e.symm⟩))
    · rcases p2 with rfl | ⟨x, hx, rfl⟩
      · exact .inr ⟨v, by simp, rfl⟩
      · exact .inr ⟨x, by simp [hx], rfl⟩
theorem vld_ge {b : E} (h : vld b = true) : cmpE ⟨0, 0⟩ b ≤ 0 := by
  unfold vld at h
  simp at h
  rcases Na.M.cmpE_three ⟨0, 0⟩ b with ⟨_, e⟩ | ⟨_, e⟩ | ⟨h2, e⟩
  · omega
  · omega
  · simp only at h2; omega
/-- They tell all. -/
theorem mk_few {a : S} (h : Na.M.Ok a) (hv : Vd a) : mk (few a) = a := by
  have hb0 := h.b0
  have hb1 := h.b1
  have e0 : (if a.base = 0 then [] else [R.tr a.base]).foldl redo S0 = ⟨⟨0, 0⟩, a.base, []⟩ := by
    by_cases hb : a.base = 0
    · rw [if_pos hb, hb]; rfl
    · rw [if_neg hb]
      show trs S0 a.base = _
      unfold trs S0
      rw [show max (0 : Int) (min a.base 1024) = a.base by omega]
      rfl
  have hm := byB_perm a.l
  obtain ⟨p, l, e1, u1, m1, p1⟩ := redo_votes (byB a.l) ⟨⟨0, 0⟩, a.base, []⟩ List.Pairwise.nil (byB_sorted h.up) (fun x hx => by
    have hx' := hm.mem_iff.1 hx
    exact ⟨hv.l x hx', h.lo x hx', by have := h.hi x hx'; omega, h.vs x hx', vld_ge (hv.l x hx')⟩) (by
    have : (a.l.Pairwise fun x y => x.s ≠ y.s) := h.up.imp fun h => by omega
    exact this.perm hm.symm fun h e => h e.symm) (by simp)
  have el : l = a.l := up_uniq l a.l u1 h.up fun x => by rw [m1, hm.mem_iff]; simp
  subst el
  have hp : cmpE p a.p ≤ 0 := by
    rcases p1 with rfl | ⟨x, hx, rfl⟩
    · exact vld_ge hv.p
    · rw [cmpE_flip a.p]
      have := h.pr x (hm.mem_iff.1 hx)
      omega
  unfold mk few
  rw [List.foldl_append, e0, List.foldl_append, e1]
  by_cases hz' : a.p.i = 0 ∧ a.p.t = 0
  · rw [if_pos hz']
    have hz : a.p = ⟨0, 0⟩ := E_ext hz'.1 hz'.2
    show (⟨p, a.base, a.l⟩ : S) = a
    have : p = a.p := by
      rcases p1 with rfl | ⟨x, hx, rfl⟩
      · exact hz.symm
      · have h1 := vld_ge (hv.l x (hm.mem_iff.1 hx))
        rw [← hz, cmpE_flip] at h1
        exact cmpE_zero.1 (by omega)
    rw [this]
  · rw [if_neg hz']
    show prs ⟨p, a.base, a.l⟩ a.p a.base = a
    have hb : prb ⟨p, a.base, a.l⟩ a.p a.base = true := by
      unfold prb may
      rw [hv.p, cmpE_flip p a.p]
      simp
      omega
    rw [Na.M.prs_yes hb]
end Go.Proofs.YtlnedgjikkhplaaGreat.Du
end
