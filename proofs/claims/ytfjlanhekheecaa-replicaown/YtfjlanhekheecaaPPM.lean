/-
  A proposer as plain data: what each call tells, and what becomes of it.
-/
import Derived.Test.YtfjlanhekheecaaM
namespace Go.Proofs.Ytfjlanhekheecaa.Np.M
open Go.Proofs.Ytfjlanhekheecaa.M
set_option linter.unusedVariables false

/-- A proposer: its state by number (0 rests, 1 asks, 2 is to fill, 3 has filled), who has promised, the vote of each slot; c: how many votes were counted. -/
structure S where
  n : Int
  me : Int
  st : Int
  b : E
  ask : Int
  who : Nat → Bool
  f : Int → Option V
  fin : Int
  nx : Int
  c : Nat
def S0 (n me : Int) : S := ⟨n, me, 0, ⟨0, 0⟩, 0, fun _ => false, fun _ => none, 0, 0, 0⟩
/-- Is there such a node? -/
def nde (n me : Int) : Bool := decide (1 ≤ n) && decide (n ≤ 7) && decide (0 ≤ me) && decide (me < n)
def slot (k : Int) : Bool := decide (0 ≤ k) && decide (k < 1024)
def fup (f : Int → Option V) (k : Int) (x : Option V) : Int → Option V := fun j => if j = k then x else f j
def enter (s : S) (st : Int) (b : E) : S := { s with st := st, b := b, who := fun _ => false, f := fun _ => none }
/-- The greater one of two ballots: the first one, if they are the same. -/
def grt (a b : E) : E := if 0 < cmpE b a then b else a
theorem bx_two (a b : E) : bx [a, b] 2 = grt a b := by
  unfold bx grt
  rw [if_neg (by omega)]
  simp only [bst, List.getD_eq_getElem?_getD]
  simp only [Nat.zero_add, List.getElem?_cons_succ, List.getElem?_cons_zero, Option.getD_some]
  split <;> simp
theorem vx_two (u v : V) : vx [u, v] 2 = if 0 < cmpE v.b u.b then v else u := by
  unfold vx
  rw [if_neg (by omega)]
  simp only [List.map_cons, List.map_nil, bst, List.getD_eq_getElem?_getD]
  simp only [Nat.zero_add, List.getElem?_cons_succ, List.getElem?_cons_zero, Option.getD_some]
  split <;> simp
theorem vx_one (u : V) : vx [u] 1 = u := rfl
/-- Lead: the error's number, the ballot, what becomes of it. -/
def ldc (s : S) (a : E) (k : Int) : Int := if vld a && slot k then (if 2147483647 ≤ (grt a s.b).i then 5 else 0) else 1
def lde (s : S) (a : E) (k : Int) : E := if ldc s a k = 0 then nxt (grt a s.b) s.me else ⟨0, 0⟩
def lds (s : S) (a : E) (k : Int) : S := if ldc s a k = 0 then { enter s 1 (nxt (grt a s.b) s.me) with ask := k, fin := k, nx := k } else s
/-- One vote counts, if it may. -/
def pick2 (o : Option V) (v : V) : V := match o with
  | none => v
  | some u => if 0 < cmpE v.b u.b then v else u
def may (k : Int) (v : V) : Bool := decide (k ≤ v.s) && slot v.s && vld v.b && decide (v.v.size ≤ 4096)
def cnt1 (s : S) (v : V) : S := if may s.ask v then { s with f := fup s.f v.s (some (pick2 (s.f v.s) v)), fin := max s.fin (v.s + 1), nx := max s.fin (v.s + 1), c := s.c + 1 } else s
def wset (f : Nat → Bool) (k : Nat) : Nat → Bool := fun j => if j = k then true else f j
def wcnt (f : Nat → Bool) : Nat → Nat
  | 0 => 0
  | k + 1 => wcnt f k + (if f k then 1 else 0)
/-- Does a promise count? -/
def prm (s : S) (k : Int) (b : E) : Bool := decide (s.st = 1) && (decide (b.i = s.b.i) && decide (b.t = s.b.t)) && decide (0 ≤ k) && decide (k < s.n) && !s.who k.toNat
def enough (s : S) (k : Int) : Bool := decide (quo s.n ≤ (wcnt (wset s.who k.toNat) 7 : Int))
def cntL (s : S) (l : List V) : S := l.foldl cnt1 s
def prb (s : S) (k : Int) (b : E) : Bool := prm s k b && enough s k
def prs (s : S) (k : Int) (b : E) (l : List V) : S := if prm s k b then (if enough s k then { cntL { s with who := wset s.who k.toNat } l with st := 2 } else cntL { s with who := wset s.who k.toNat } l) else s
/-- Fill. -/
def val (o : Option V) : ByteArray := match o with
  | none => ⟨#[]⟩
  | some v => v.v
def fl1 (s : S) (j : Nat) : V := ⟨s.ask + j, s.b, val (s.f (s.ask + j))⟩
def fl (s : S) (m : Nat) : List V := (List.range m).map (fl1 s)
def flo (s : S) : List V := if s.st = 2 then fl s (s.fin - s.ask).toNat else []
def fls (s : S) : S := if s.st = 2 then { s with st := 3, f := fun _ => none } else s
/-- Propose. -/
def ppc (s : S) (v : ByteArray) : Int := if 4096 < v.size then 2 else if 1024 ≤ s.nx then 5 else if s.st < 2 then 16 else 0
def ppv (s : S) (v : ByteArray) : V := if ppc s v = 0 then ⟨s.nx, s.b, v⟩ else ⟨0, ⟨0, 0⟩, ⟨#[]⟩⟩
def pps (s : S) (v : ByteArray) : S := if ppc s v = 0 then { s with nx := s.nx + 1 } else s
/-- Step. -/
def stb (s : S) (b : E) : Bool := vld b && decide (0 < cmpE b s.b)
def sts (s : S) (b : E) : S := if stb s b then enter s 0 b else s
/-- What always holds. -/
structure Ok (s : S) : Prop where
  n1 : 1 ≤ s.n
  n7 : s.n ≤ 7
  m0 : 0 ≤ s.me
  m1 : s.me < s.n
  t0 : 0 ≤ s.st
  t3 : s.st ≤ 3
  a0 : 0 ≤ s.ask
  af : s.ask ≤ s.fin
  fx : s.fin ≤ s.nx
  x1 : s.nx ≤ 1024
  sz : ∀ k v, s.f k = some v → v.v.size ≤ 4096
theorem Ok.zero {n me : Int} (h : nde n me = true) : Ok (S0 n me) := by
  unfold nde at h
  simp only [Bool.and_eq_true, decide_eq_true_eq] at h
  obtain ⟨⟨⟨h1, h2⟩, h3⟩, h4⟩ := h
  exact ⟨h1, h2, h3, h4, by simp [S0], by simp [S0], by simp [S0], by simp [S0], by simp [S0], by simp [S0], fun k v e => by simp [S0] at e⟩
theorem Ok.enter {s : S} (h : Ok s) (t : Int) (b : E) (h0 : 0 ≤ t) (h3 : t ≤ 3) : Ok (enter s t b) :=
  ⟨h.n1, h.n7, h.m0, h.m1, h0, h3, h.a0, h.af, h.fx, h.x1, fun k v e => by simp [M.enter] at e⟩
theorem slot_iff {k : Int} (h : slot k = true) : 0 ≤ k ∧ k < 1024 := by
  unfold slot at h
  simpa [Bool.and_eq_true, decide_eq_true_eq] using h
theorem may_iff {k : Int} {v : V} (h : may k v = true) : k ≤ v.s ∧ 0 ≤ v.s ∧ v.s < 1024 ∧ vld v.b = true ∧ v.v.size ≤ 4096 := by
  unfold may at h
  simp only [Bool.and_eq_true, decide_eq_true_eq] at h
  obtain ⟨⟨⟨h1, h2⟩, h3⟩, h4⟩ := h
  obtain ⟨h5, h6⟩ := slot_iff h2
  exact ⟨h1, h5, h6, h3, h4⟩
theorem Ok.lds {s : S} (h : Ok s) (a : E) (k : Int) : Ok (lds s a k) := by
  unfold M.lds
  split
  · next e =>
    have hk : slot k = true := by
      unfold ldc at e
      split at e
      · next e' => simp only [Bool.and_eq_true] at e'; exact e'.2
      · omega
    obtain ⟨k0, k1⟩ := slot_iff hk
    exact ⟨h.n1, h.n7, h.m0, h.m1, by simp [M.enter], by simp [M.enter], k0, Int.le_refl _, Int.le_refl _, Int.le_of_lt k1, fun k v e => by simp [M.enter] at e⟩
  · exact h
theorem pick2_size {o : Option V} {v : V} (ho : ∀ u, o = some u → u.v.size ≤ 4096) (hv : v.v.size ≤ 4096) : (pick2 o v).v.size ≤ 4096 := by
  unfold pick2
  split
  · exact hv
  · split
    · exact hv
    · exact ho _ rfl
theorem Ok.cnt1 {s : S} (h : Ok s) (v : V) : Ok (cnt1 s v) := by
  unfold M.cnt1
  split
  · next e =>
    obtain ⟨h1, h2, h3, h4, h5⟩ := may_iff e
    have := h.af; have := h.fx; have := h.x1
    refine ⟨h.n1, h.n7, h.m0, h.m1, h.t0, h.t3, h.a0, ?_, Int.le_refl _, ?_, fun k u e => ?_⟩
    · show s.ask ≤ max s.fin (v.s + 1); omega
    · show max s.fin (v.s + 1) ≤ 1024; omega
    · simp only [fup] at e
      split at e
      · cases e
        exact pick2_size (fun u hu => h.sz _ _ hu) h5
      · exact h.sz _ _ e
  · exact h
theorem Ok.cntL {s : S} (h : Ok s) (l : List V) : Ok (cntL s l) := by
  unfold M.cntL
  induction l generalizing s with
  | nil => exact h
  | cons v r ih => exact ih (h.cnt1 v)
theorem Ok.who {s : S} (h : Ok s) (g : Nat → Bool) : Ok { s with who := g } := ⟨h.n1, h.n7, h.m0, h.m1, h.t0, h.t3, h.a0, h.af, h.fx, h.x1, h.sz⟩
theorem Ok.st {s : S} (h : Ok s) (t : Int) (h0 : 0 ≤ t) (h3 : t ≤ 3) : Ok { s with st := t } := ⟨h.n1, h.n7, h.m0, h.m1, h0, h3, h.a0, h.af, h.fx, h.x1, h.sz⟩
theorem Ok.prs {s : S} (h : Ok s) (k : Int) (b : E) (l : List V) : Ok (prs s k b l) := by
  unfold M.prs
  have h1 := (h.who (wset s.who k.toNat)).cntL l
  split
  · split
    · exact h1.st 2 (by omega) (by omega)
    · exact h1
  · exact h
theorem Ok.fls {s : S} (h : Ok s) : Ok (fls s) := by
  unfold M.fls
  split
  · exact ⟨h.n1, h.n7, h.m0, h.m1, by simp, by simp, h.a0, h.af, h.fx, h.x1, fun k v e => by simp at e⟩
  · exact h
theorem Ok.pps {s : S} (h : Ok s) (v : ByteArray) : Ok (pps s v) := by
  unfold M.pps
  split
  · next e =>
    have hx : s.nx < 1024 := by
      unfold ppc at e
      split at e
      · omega
      · split at e
        · omega
        · omega
    have := h.fx
    exact ⟨h.n1, h.n7, h.m0, h.m1, h.t0, h.t3, h.a0, h.af, by show s.fin ≤ s.nx + 1; omega, by show s.nx + 1 ≤ 1024; omega, h.sz⟩
  · exact h
theorem Ok.sts {s : S} (h : Ok s) (b : E) : Ok (sts s b) := by
  unfold M.sts
  split
  · exact h.enter 0 b (by omega) (by omega)
  · exact h
/-- What counting leaves as it was. -/
theorem cnt1_keep (s : S) (v : V) : (cnt1 s v).n = s.n ∧ (cnt1 s v).me = s.me ∧ (cnt1 s v).st = s.st ∧ (cnt1 s v).b = s.b ∧ (cnt1 s v).ask = s.ask ∧ (cnt1 s v).who = s.who ∧ (cnt1 s v).c ≤ s.c + 1 := by
  unfold cnt1
  split
  · exact ⟨rfl, rfl, rfl, rfl, rfl, rfl, Nat.le_refl _⟩
  · exact ⟨rfl, rfl, rfl, rfl, rfl, rfl, Nat.le_succ _⟩
theorem cntL_keep (l : List V) : ∀ s : S, (cntL s l).n = s.n ∧ (cntL s l).me = s.me ∧ (cntL s l).st = s.st ∧ (cntL s l).b = s.b ∧ (cntL s l).ask = s.ask ∧ (cntL s l).who = s.who ∧ (cntL s l).c ≤ s.c + l.length := by
  induction l with
  | nil => exact fun s => ⟨rfl, rfl, rfl, rfl, rfl, rfl, Nat.le_refl _⟩
  | cons v r ih =>
    intro s
    obtain ⟨h1, h2, h3, h4, h5, h6, h7⟩ := ih (cnt1 s v)
    obtain ⟨k1, k2, k3, k4, k5, k6, k7⟩ := cnt1_keep s v
    refine ⟨h1.trans k1, h2.trans k2, h3.trans k3, h4.trans k4, h5.trans k5, h6.trans k6, ?_⟩
    show (cntL (cnt1 s v) r).c ≤ _
    rw [List.length_cons]
    omega
theorem cntL_take (s : S) (l : List V) (k : Nat) (h : k < l.length) : cntL s (l.take (k + 1)) = cnt1 (cntL s (l.take k)) l[k] := by
  unfold cntL
  rw [List.take_add_one, List.getElem?_eq_getElem h, Option.toList_some, List.foldl_append]
  rfl
theorem fl_len (s : S) (m : Nat) : (fl s m).length = m := by unfold fl; simp
theorem fl_succ (s : S) (m : Nat) : fl s (m + 1) = fl s m ++ [fl1 s m] := by unfold fl; rw [List.range_succ, List.map_append]; rfl
end Go.Proofs.Ytfjlanhekheecaa.Np.M
