import Derived.Test.YtgodnpngdbelhaaGreatGP01
set_option maxRecDepth 100000
set_option maxHeartbeats 8000000
set_option linter.unusedVariables false
set_option linter.unusedSimpArgs false
namespace Go.Proofs.YtgodnpngdbelhaaGreat.Np.M
open Go.Proofs.YtgodnpngdbelhaaGreat.M
structure S where
 n : Int
 me : Int
 st : Int
 b : E
 ask : Int
 who : Nat → Bool
 f : Int → Option V
 fin : Int
 nx : Int
 c : Nat
def S0 (n me : Int) : S := ⟨n, me, 0, ⟨0, 0⟩, 0, fun _ => false, fun _ => none, 0, 0, 0⟩
def nde (n me : Int) : Bool := decide (1 ≤ n) && decide (n ≤ 7) && decide (0 ≤ me) && decide (me < n)
def slot (k : Int) : Bool := decide (0 ≤ k) && decide (k < 1024)
def fup (f : Int → Option V) (k : Int) (x : Option V) : Int → Option V := fun j => if j = k then x else f j
def enter (s : S) (st : Int) (b : E) : S := { s with st := st, b := b, who := fun _ => false, f := fun _ => none }
def grt (a b : E) : E := if 0 < cmpE b a then b else a
theorem bx_two (a b : E) : bx [a, b] 2 = grt a b := by
 unfold bx grt; rw [if_neg (by omega)]; simp only [bst, List.getD_eq_getElem?_getD]; simp only [Nat.zero_add, List.getElem?_cons_succ, List.getElem?_cons_zero, Option.getD_some]
 split <;> simp
theorem vx_two (u v : V) : vx [u, v] 2 = if 0 < cmpE v.b u.b then v else u := by
 unfold vx; rw [if_neg (by omega)]; simp only [List.map_cons, List.map_nil, bst, List.getD_eq_getElem?_getD]; simp only [Nat.zero_add, List.getElem?_cons_succ, List.getElem?_cons_zero, Option.getD_some]
 split <;> simp
def ldc (s : S) (a : E) (k : Int) : Int := if vld a && slot k then (if 2147483647 ≤ (grt a s.b).i then 5 else 0) else 1
def lde (s : S) (a : E) (k : Int) : E := if ldc s a k = 0 then nxt (grt a s.b) s.me else ⟨0, 0⟩
def lds (s : S) (a : E) (k : Int) : S := if ldc s a k = 0 then { enter s 1 (nxt (grt a s.b) s.me) with ask := k, fin := k, nx := k } else s
def pick2 (o : Option V) (v : V) : V := match o with
 | none => v
 | some u => if 0 < cmpE v.b u.b then v else u
def may (k : Int) (v : V) : Bool := decide (k ≤ v.s) && slot v.s && vld v.b && decide (v.v.size ≤ 4096)
def cnt1 (s : S) (v : V) : S := if may s.ask v then { s with f := fup s.f v.s (some (pick2 (s.f v.s) v)), fin := max s.fin (v.s + 1), nx := max s.fin (v.s + 1), c := s.c + 1 } else s
def wset (f : Nat → Bool) (k : Nat) : Nat → Bool := fun j => if j = k then true else f j
def wcnt (f : Nat → Bool) : Nat → Nat
 | 0 => 0
 | k + 1 => wcnt f k + (if f k then 1 else 0)
def prm (s : S) (k : Int) (b : E) : Bool := decide (s.st = 1) && (decide (b.i = s.b.i) && decide (b.t = s.b.t)) && decide (0 ≤ k) && decide (k < s.n) && !s.who k.toNat
def enough (s : S) (k : Int) : Bool := decide (quo s.n ≤ (wcnt (wset s.who k.toNat) 7 : Int))
def cntL (s : S) (l : List V) : S := l.foldl cnt1 s
def prb (s : S) (k : Int) (b : E) : Bool := prm s k b && enough s k
def prs (s : S) (k : Int) (b : E) (l : List V) : S := if prm s k b then (if enough s k then { cntL { s with who := wset s.who k.toNat } l with st := 2 } else cntL { s with who := wset s.who k.toNat } l) else s
def val (o : Option V) : ByteArray := match o with
 | none => ⟨#[]⟩
 | some v => v.v
def fl1 (s : S) (j : Nat) : V := ⟨s.ask + j, s.b, val (s.f (s.ask + j))⟩
def fl (s : S) (m : Nat) : List V := (List.range m).map (fl1 s)
def flo (s : S) : List V := if s.st = 2 then fl s (s.fin - s.ask).toNat else []
def fls (s : S) : S := if s.st = 2 then { s with st := 3, f := fun _ => none } else s
def ppc (s : S) (v : ByteArray) : Int := if 4096 < v.size then 2 else if 1024 ≤ s.nx then 5 else if s.st < 2 then 16 else 0
def ppv (s : S) (v : ByteArray) : V := if ppc s v = 0 then ⟨s.nx, s.b, v⟩ else ⟨0, ⟨0, 0⟩, ⟨#[]⟩⟩
def pps (s : S) (v : ByteArray) : S := if ppc s v = 0 then { s with nx := s.nx + 1 } else s
def stb (s : S) (b : E) : Bool := vld b && decide (0 < cmpE b s.b)
def sts (s : S) (b : E) : S := if stb s b then enter s 0 b else s
structure Ok (s : S) : Prop where
 n1 : 1 ≤ s.n
 n7 : s.n ≤ 7
 m0 : 0 ≤ s.me
 m1 : s.me < s.n
 t0 : 0 ≤ s.st
 t3 : s.st ≤ 3
 a0 : 0 ≤ s.ask
 af : s.ask ≤ s.fin
 fx : s.fin ≤ s.nx
 x1 : s.nx ≤ 1024
 sz : ∀ k v, s.f k = some v → v.v.size ≤ 4096
theorem Ok.zero {n me : Int} (h : nde n me = true) : Ok (S0 n me) := by
 unfold nde at h; simp only [Bool.and_eq_true, decide_eq_true_eq] at h; obtain ⟨⟨⟨h1, h2⟩, h3⟩, h4⟩ := h; exact ⟨h1, h2, h3, h4, by simp [S0], by simp [S0], by simp [S0], by simp [S0], by simp [S0], by simp [S0], fun k v e => by simp [S0] at e⟩
theorem Ok.enter {s : S} (h : Ok s) (t : Int) (b : E) (h0 : 0 ≤ t) (h3 : t ≤ 3) : Ok (enter s t b) :=
 ⟨h.n1, h.n7, h.m0, h.m1, h0, h3, h.a0, h.af, h.fx, h.x1, fun k v e => by simp [M.enter] at e⟩
theorem slot_iff {k : Int} (h : slot k = true) : 0 ≤ k ∧ k < 1024 := by
 unfold slot at h; simpa [Bool.and_eq_true, decide_eq_true_eq] using h
theorem may_iff {k : Int} {v : V} (h : may k v = true) : k ≤ v.s ∧ 0 ≤ v.s ∧ v.s < 1024 ∧ vld v.b = true ∧ v.v.size ≤ 4096 := by
 unfold may at h; simp only [Bool.and_eq_true, decide_eq_true_eq] at h; obtain ⟨⟨⟨h1, h2⟩, h3⟩, h4⟩ := h; obtain ⟨h5, h6⟩ := slot_iff h2; exact ⟨h1, h5, h6, h3, h4⟩
theorem Ok.lds {s : S} (h : Ok s) (a : E) (k : Int) : Ok (lds s a k) := by
 unfold M.lds; split
 ·next e =>
  have hk : slot k = true := by
   unfold ldc at e
   split at e
   ·next e' => simp only [Bool.and_eq_true] at e'; exact e'.2
   ·omega
  obtain ⟨k0, k1⟩ := slot_iff hk; exact ⟨h.n1, h.n7, h.m0, h.m1, by simp [M.enter], by simp [M.enter], k0, Int.le_refl _, Int.le_refl _, Int.le_of_lt k1, fun k v e => by simp [M.enter] at e⟩
 ·exact h
theorem pick2_size {o : Option V} {v : V} (ho : ∀ u, o = some u → u.v.size ≤ 4096) (hv : v.v.size ≤ 4096) : (pick2 o v).v.size ≤ 4096 := by
 unfold pick2; split
 ·exact hv
 ·split
  ·exact hv
  ·exact ho _ rfl
theorem Ok.cnt1 {s : S} (h : Ok s) (v : V) : Ok (cnt1 s v) := by
 unfold M.cnt1; split
 ·next e =>
  obtain ⟨h1, h2, h3, h4, h5⟩ := may_iff e; have := h.af; have := h.fx; have := h.x1; refine ⟨h.n1, h.n7, h.m0, h.m1, h.t0, h.t3, h.a0, ?_, Int.le_refl _, ?_, fun k u e => ?_⟩
  ·show s.ask ≤ max s.fin (v.s + 1); omega
  ·show max s.fin (v.s + 1) ≤ 1024; omega
  ·simp only [fup] at e
   split at e
   ·cases e; exact pick2_size (fun u hu => h.sz _ _ hu) h5
   ·exact h.sz _ _ e
 ·exact h
theorem Ok.cntL {s : S} (h : Ok s) (l : List V) : Ok (cntL s l) := by
 unfold M.cntL
 induction l generalizing s with
 | nil => exact h
 | cons v r ih => exact ih (h.cnt1 v)
theorem Ok.who {s : S} (h : Ok s) (g : Nat → Bool) : Ok { s with who := g } := ⟨h.n1, h.n7, h.m0, h.m1, h.t0, h.t3, h.a0, h.af, h.fx, h.x1, h.sz⟩
theorem Ok.st {s : S} (h : Ok s) (t : Int) (h0 : 0 ≤ t) (h3 : t ≤ 3) : Ok { s with st := t } := ⟨h.n1, h.n7, h.m0, h.m1, h0, h3, h.a0, h.af, h.fx, h.x1, h.sz⟩
theorem Ok.prs {s : S} (h : Ok s) (k : Int) (b : E) (l : List V) : Ok (prs s k b l) := by
 unfold M.prs; have h1 := (h.who (wset s.who k.toNat)).cntL l; split
 ·split
  ·exact h1.st 2 (by omega) (by omega)
  ·exact h1
 ·exact h
theorem Ok.fls {s : S} (h : Ok s) : Ok (fls s) := by
 unfold M.fls; split
 ·exact ⟨h.n1, h.n7, h.m0, h.m1, by simp, by simp, h.a0, h.af, h.fx, h.x1, fun k v e => by simp at e⟩
 ·exact h
theorem Ok.pps {s : S} (h : Ok s) (v : ByteArray) : Ok (pps s v) := by
 unfold M.pps; split
 ·next e =>
  have hx : s.nx < 1024 := by
   unfold ppc at e
   split at e
   ·omega
   ·split at e
    ·omega
    ·omega
  have := h.fx; exact ⟨h.n1, h.n7, h.m0, h.m1, h.t0, h.t3, h.a0, h.af, by show s.fin ≤ s.nx + 1; omega, by show s.nx + 1 ≤ 1024; omega, h.sz⟩
 ·exact h
theorem Ok.sts {s : S} (h : Ok s) (b : E) : Ok (sts s b) := by
 unfold M.sts; split
 ·exact h.enter 0 b (by omega) (by omega)
 ·exact h
theorem cnt1_keep (s : S) (v : V) : (cnt1 s v).n = s.n ∧ (cnt1 s v).me = s.me ∧ (cnt1 s v).st = s.st ∧ (cnt1 s v).b = s.b ∧ (cnt1 s v).ask = s.ask ∧ (cnt1 s v).who = s.who ∧ (cnt1 s v).c ≤ s.c + 1 := by
 unfold cnt1; split
 ·exact ⟨rfl, rfl, rfl, rfl, rfl, rfl, Nat.le_refl _⟩
 ·exact ⟨rfl, rfl, rfl, rfl, rfl, rfl, Nat.le_succ _⟩
theorem cntL_keep (l : List V) : ∀ s : S, (cntL s l).n = s.n ∧ (cntL s l).me = s.me ∧ (cntL s l).st = s.st ∧ (cntL s l).b = s.b ∧ (cntL s l).ask = s.ask ∧ (cntL s l).who = s.who ∧ (cntL s l).c ≤ s.c + l.length := by
 induction l with
 | nil => exact fun s => ⟨rfl, rfl, rfl, rfl, rfl, rfl, Nat.le_refl _⟩
 | cons v r ih =>
  intro s; obtain ⟨h1, h2, h3, h4, h5, h6, h7⟩ := ih (cnt1 s v); obtain ⟨k1, k2, k3, k4, k5, k6, k7⟩ := cnt1_keep s v; refine ⟨h1.trans k1, h2.trans k2, h3.trans k3, h4.trans k4, h5.trans k5, h6.trans k6, ?_⟩; show (cntL (cnt1 s v) r).c ≤ _; rw [List.length_cons]; omega
theorem cntL_take (s : S) (l : List V) (k : Nat) (h : k < l.length) : cntL s (l.take (k + 1)) = cnt1 (cntL s (l.take k)) l[k] := by
 unfold cntL; rw [List.take_add_one, List.getElem?_eq_getElem h, Option.toList_some, List.foldl_append]; rfl
theorem fl_len (s : S) (m : Nat) : (fl s m).length = m := by unfold fl; simp
theorem fl_succ (s : S) (m : Nat) : fl s (m + 1) = fl s m ++ [fl1 s m] := by unfold fl; rw [List.range_succ, List.map_append]; rfl
theorem cmp_le {a b : E} : cmpE a b ≤ 0 ↔ (a.i < b.i ∨ (a.i = b.i ∧ a.t ≤ b.t)) := by
 rcases cmpE_three a b with ⟨h, e⟩ | ⟨h, e⟩ | ⟨h, e⟩ <;> rw [e] <;> omega
theorem cmp_lt' {a b : E} : 0 < cmpE a b ↔ (b.i < a.i ∨ (a.i = b.i ∧ b.t < a.t)) := by
 rcases cmpE_three a b with ⟨h, e⟩ | ⟨h, e⟩ | ⟨h, e⟩ <;> rw [e] <;> omega
theorem prs_b (s : S) (k : Int) (b : E) (l : List V) : (prs s k b l).b = s.b := by
 unfold prs; have h1 := (cntL_keep l { s with who := wset s.who k.toNat }).2.2.2.1
 split
 ·split
  ·exact h1
  ·exact h1
 ·rfl
theorem flo_len (s : S) (ok : Ok s) : (flo s).length ≤ 1024 := by
 unfold flo; split
 ·rw [fl_len]; have := ok.a0; have := ok.af; have := ok.fx; have := ok.x1; omega
 ·simp
theorem prs_c (s : S) (k : Int) (b : E) (l : List V) : (prs s k b l).c ≤ s.c + l.length := by
 unfold prs; have h1 : (cntL { s with who := wset s.who k.toNat } l).c ≤ s.c + l.length := (cntL_keep l { s with who := wset s.who k.toNat }).2.2.2.2.2.2
 split
 ·split
  ·exact h1
  ·exact h1
 ·exact Nat.le_add_right _ _
theorem sts_c (s : S) (b : E) : (sts s b).c = s.c := by unfold sts; split <;> rfl
theorem fls_c (s : S) : (fls s).c = s.c := by unfold fls; split <;> rfl
structure R where
 n : Int
 me : Int
 fr : Int
 nx : Int
 b : E
 ak : Bool
 ld : Bool
 fd : Bool
 who : Nat → Bool
 l : List V
def r0 (n me : Int) : R := ⟨n, me, 0, 0, ⟨0, 0⟩, false, false, false, fun _ => false, []⟩
def rlc (x : R) (a : E) (k : Int) : Int := if vld a && slot k then (if 2147483647 ≤ (grt a x.b).i then 5 else 0) else 1
def rle (x : R) (a : E) (k : Int) : E := if rlc x a k = 0 then nxt (grt a x.b) x.me else ⟨0, 0⟩
def rls (x : R) (a : E) (k : Int) : R := if rlc x a k = 0 then ⟨x.n, x.me, k, k, nxt (grt a x.b) x.me, true, false, false, fun _ => false, []⟩ else x
def rmay (k : Int) (v : V) : Bool := decide (k ≤ v.s) && decide (v.s < 1024) && vld v.b && decide (v.v.size ≤ 4096)
def rnx (k : Int) (l : List V) : Int := l.foldl (fun a v => max a (v.s + 1)) k
def rpm (x : R) (k : Int) (b : E) : Bool := decide (0 ≤ k) && decide (k < x.n) && x.ak && (decide (b.i = x.b.i) && decide (b.t = x.b.t)) && !x.who k.toNat
def ren (x : R) (k : Int) : Bool := decide (quo x.n ≤ (wcnt (wset x.who k.toNat) x.n.toNat : Int))
def rpl (x : R) (k : Int) (vs : List V) : R := { x with who := wset x.who k.toNat, l := x.l ++ vs.filter (rmay x.fr), nx := rnx x.nx (vs.filter (rmay x.fr)) }
def rpb (x : R) (k : Int) (b : E) : Bool := rpm x k b && ren x k
def rps (x : R) (k : Int) (b : E) (vs : List V) : R := if rpm x k b then (if ren x k then { rpl x k vs with ak := false, ld := true } else rpl x k vs) else x
def rlast (k : Int) (l : List V) : Int := l.foldl (fun a v => max a v.s) k
def of (l : List V) (k : Int) : List V := l.filter (fun v => decide (v.s = k))
def rf1 (x : R) (j : Nat) : V := ⟨x.fr + j, x.b, (vx (of x.l (x.fr + j)) (of x.l (x.fr + j)).length).v⟩
def rfl' (x : R) (m : Nat) : List V := (List.range m).map (rf1 x)
def rfb (x : R) : Bool := x.ld && !x.fd
def rfo (x : R) : List V := if rfb x then rfl' x (rlast (x.fr - 1) x.l + 1 - x.fr).toNat else []
def rfs (x : R) : R := if rfb x then { x with fd := true } else x
def rpc (x : R) (v : ByteArray) : Int := if 4096 < v.size then 2 else if 1024 ≤ x.nx then 5 else if x.ld then 0 else 16
def rpv (x : R) (v : ByteArray) : V := if rpc x v = 0 then ⟨x.nx, x.b, v⟩ else ⟨0, ⟨0, 0⟩, ⟨#[]⟩⟩
def rpp (x : R) (v : ByteArray) : R := if rpc x v = 0 then { x with nx := x.nx + 1 } else x
def rsb (x : R) (b : E) : Bool := vld b && decide (0 < cmpE b x.b)
def rss (x : R) (b : E) : R := if rsb x b then { x with b := b, ak := false, ld := false } else x
theorem rfl_succ (x : R) (m : Nat) : rfl' x (m + 1) = rfl' x m ++ [rf1 x m] := by unfold rfl'; rw [List.range_succ, List.map_append]; rfl
theorem rfl_len (x : R) (m : Nat) : (rfl' x m).length = m := by unfold rfl'; simp
def pk (l : List V) (k : Int) : Option V := if (of l k).length = 0 then none else some (vx (of l k) (of l k).length)
theorem bst_app (l q : List E) : ∀ k, k ≤ l.length → bst (l ++ q) k = bst l k
 | 0, _ => rfl
 | 1, _ => rfl
 | k + 2, h => by
  have ih := bst_app l q (k + 1) (by omega); have hb := bst_lt l (k + 1) (by omega); rw [bst, bst, ih]; simp only [List.getD_eq_getElem?_getD]; rw [List.getElem?_append_left (by omega), List.getElem?_append_left (by omega)]
theorem vx_app (l q : List V) (k : Nat) (h : k ≤ l.length) : vx (l ++ q) k = vx l k := by
 unfold vx; by_cases h0 : k = 0
 ·rw [if_pos h0, if_pos h0]
 ·rw [if_neg h0, if_neg h0, List.map_append, bst_app _ _ _ (by simpa using h)]; have hb := bst_lt (l.map V.b) k (by omega); simp only [List.getD_eq_getElem?_getD]; rw [List.getElem?_append_left (by omega)]
theorem vx_snoc (l : List V) (v : V) : vx (l ++ [v]) (l.length + 1) = if l.length = 0 ∨ 0 < cmpE v.b (vx l l.length).b then v else vx l l.length := by
 have h := vx_step (l ++ [v]) l.length (by simp); have e : (l ++ [v])[l.length]'(by simp) = v := by simp
 rw [e, vx_app l [v] l.length Lr] at h; split
 ·next hc => exact h.1 hc
 ·next hc => exact h.2 (by omega) (by omega)
theorem of_snoc (l : List V) (v : V) (k : Int) : of (l ++ [v]) k = of l k ++ if v.s = k then [v] else [] := by
 unfold of; rw [List.filter_append]; congr 1; by_cases h : v.s = k
 ·rw [if_pos h]; simp [h]
 ·rw [if_neg h]; simp [h]
theorem pk_snoc (l : List V) (v : V) (k : Int) : pk (l ++ [v]) k = if k = v.s then some (pick2 (pk l k) v) else pk l k := by
 unfold pk; rw [of_snoc]; by_cases h : k = v.s
 ·subst h; rw [if_pos rfl, if_pos rfl, List.length_append, List.length_singleton, if_neg (by omega), vx_snoc]; by_cases h0 : (of l v.s).length = 0
  ·rw [if_pos (.inl h0), if_pos h0]; rfl
  ·rw [if_neg h0]; simp only [pick2]; by_cases hc : 0 < cmpE v.b (vx (of l v.s) (of l v.s).length).b
   ·rw [if_pos (.inr hc), if_pos hc]
   ·rw [if_neg (by rintro (h | h); exact h0 h; exact hc h), if_neg hc]
 ·rw [if_neg (show ¬ v.s = k from fun e => h e.symm), List.append_nil, if_neg h]
theorem rnx_app (k : Int) (l q : List V) : rnx k (l ++ q) = rnx (rnx k l) q := by unfold rnx; rw [List.foldl_append]
theorem rlast_rnx (l : List V) : ∀ a, rlast a l + 1 = rnx (a + 1) l := by
 induction l with
 | nil => intro a; rfl
 | cons v r ih =>
  intro a; have h := ih (max a v.s); unfold rlast rnx at h ⊢; rw [List.foldl_cons, List.foldl_cons, h]; have e : max a v.s + 1 = max (a + 1) (v.s + 1) := by omega
  rw [e]
theorem rmay_may {k : Int} (h : 0 ≤ k) (v : V) : rmay k v = may k v := by
 unfold rmay may slot; by_cases h1 : k ≤ v.s
 ·rw [decide_eq_true (show (0 : Int) ≤ v.s by omega), Bool.true_and]
 ·rw [decide_eq_false h1]; simp
theorem cnt_rel (vs : List V) : ∀ (s : S) (l : List V), 0 ≤ s.ask → s.fin = s.nx → s.fin = rnx s.ask l → (∀ k, s.f k = pk l k) → (cntL s vs).fin = (cntL s vs).nx ∧ (cntL s vs).fin = rnx s.ask (l ++ vs.filter (rmay s.ask)) ∧ (cntL s vs).nx = rnx s.nx (vs.filter (rmay s.ask)) ∧ ∀ k, (cntL s vs).f k = pk (l ++ vs.filter (rmay s.ask)) k := by
 induction vs with
 | nil => intro s l h0 h1 h2 h3; simpa [cntL, rnx] using ⟨h1, h2, h3⟩
 | cons v r ih =>
  intro s l h0 h1 h2 h3; show (cntL (cnt1 s v) r).fin = _ ∧ _; have hask := (cnt1_keep s v).2.2.2.2.1; cases hm : may s.ask v with
  | false =>
   have e : cnt1 s v = s := by unfold cnt1; rw [hm]; rfl
   have e2 : (v :: r).filter (rmay s.ask) = r.filter (rmay s.ask) := by rw [List.filter_cons, rmay_may h0, hm]; rfl
   have e3 : cntL s (v :: r) = cntL s r := by show cntL (cnt1 s v) r = _; rw [e]
   rw [e, e2, e3]; exact ih s l h0 h1 h2 h3
  | true =>
   have e : cnt1 s v = { s with f := fup s.f v.s (some (pick2 (s.f v.s) v)), fin := max s.fin (v.s + 1), nx := max s.fin (v.s + 1), c := s.c + 1 } := by unfold cnt1; rw [hm]; rfl
   have e2 : (v :: r).filter (rmay s.ask) = v :: r.filter (rmay s.ask) := by rw [List.filter_cons, rmay_may h0, hm]; rfl
   have e3 : cntL s (v :: r) = cntL (cnt1 s v) r := rfl; have h := ih (cnt1 s v) (l ++ [v]) (by rw [hask]; exact h0) (by rw [e]) (by
    rw [hask, rnx_app, ← h2, e]
    rfl) (fun k => by
    rw [e, pk_snoc]; simp only [fup]; split
    ·next hk => rw [h3, hk]
    ·exact h3 k)
   rw [hask] at h; rw [e2, e3]; have e4 : l ++ v :: r.filter (rmay s.ask) = l ++ [v] ++ r.filter (rmay s.ask) := by simp
   have e5 : rnx s.nx (v :: r.filter (rmay s.ask)) = rnx (cnt1 s v).nx (r.filter (rmay s.ask)) := by
    rw [e]; show rnx (max s.nx (v.s + 1)) _ = rnx (max s.fin (v.s + 1)) _; rw [h1]
   rw [e4, e5]; exact h
theorem wcnt_stop (f : Nat → Bool) (m : Nat) (h : ∀ j, m ≤ j → f j = false) : ∀ M, m ≤ M → wcnt f M = wcnt f m
 | 0, hM => by
  obtain rfl : m = 0 := by omega
  rfl
 | M + 1, hM => by
  by_cases he : m = M + 1
  ·rw [he]
  ·rw [wcnt, h M (by omega), wcnt_stop f m h M (by omega)]; simp
structure Rel (s : S) (x : R) : Prop where
 n : x.n = s.n
 me : x.me = s.me
 b : x.b = s.b
 nx : x.nx = s.nx
 ak : x.ak = decide (s.st = 1)
 ld : x.ld = decide (2 ≤ s.st)
 w1 : s.st = 1 → s.who = x.who ∧ s.fin = s.nx ∧ ∀ j : Nat, x.n ≤ j → x.who j = false
 f1 : s.st = 1 ∨ s.st = 2 → x.fr = s.ask ∧ s.fin = rnx s.ask x.l ∧ ∀ k, s.f k = pk x.l k
 f2 : s.st = 1 ∨ s.st = 2 → x.fd = false
 f3 : s.st = 3 → x.fd = true
theorem Rel.zero (n me : Int) : Rel (S0 n me) (r0 n me) := ⟨rfl, rfl, rfl, rfl, rfl, rfl, fun h => by simp [S0] at h, fun h => by simp [S0] at h, fun h => by simp [S0] at h, fun h => by simp [S0] at h⟩
section
variable {s : S} {x : R}
theorem Rel.lead (h : Rel s x) (a : E) (k : Int) : rlc x a k = ldc s a k ∧ rle x a k = lde s a k ∧ Rel (lds s a k) (rls x a k) := by
 have e1 : rlc x a k = ldc s a k := by unfold rlc ldc; rw [h.b]
 refine ⟨e1, by unfold rle lde; rw [e1, h.b, h.me], ?_⟩; unfold rls lds; rw [e1]; split
 ·refine ⟨h.n, h.me, by rw [h.b, h.me]; rfl, rfl, rfl, rfl, fun _ => ⟨rfl, rfl, fun _ _ => rfl⟩, fun _ => ⟨rfl, rfl, fun k => ?_⟩, fun _ => rfl, fun h => by simp [M.enter] at h⟩; rfl
 ·exact h
theorem Rel.prm (h : Rel s x) (k : Int) (b : E) : rpm x k b = prm s k b := by
 unfold rpm M.prm; rw [h.n, h.b, h.ak]; by_cases h1 : s.st = 1
 ·rw [(h.w1 h1).1, decide_eq_true h1]; simp only [Bool.true_and, Bool.and_true]; cases decide (0 ≤ k) <;> cases decide (k < s.n) <;> cases (decide (b.i = s.b.i) && decide (b.t = s.b.t)) <;> cases x.who k.toNat <;> rfl
 ·rw [decide_eq_false h1]; simp
theorem Rel.promise (h : Rel s x) (ok : Ok s) (k : Int) (b : E) (vs : List V) : rpb x k b = prb s k b ∧ Rel (prs s k b vs) (rps x k b vs) := by
 have hp := h.prm k b; cases hq : M.prm s k b with
 | false =>
  rw [hq] at hp; refine ⟨by unfold rpb prb; rw [hp, hq]; rfl, ?_⟩; have e1 : rps x k b vs = x := by unfold rps; rw [hp]; rfl
  have e2 : M.prs s k b vs = s := by unfold M.prs; rw [hq]; rfl
  rw [e1, e2]; exact h
 | true =>
  rw [hq] at hp; have hq' := hq; unfold M.prm at hq'; simp only [Bool.and_eq_true, decide_eq_true_eq] at hq'; obtain ⟨⟨⟨⟨h1, -⟩, hk0⟩, hkn⟩, -⟩ := hq'; obtain ⟨w1, w2, w3⟩ := h.w1 h1; obtain ⟨f1, f2, f3⟩ := h.f1 (.inl h1); have hz : ∀ j : Nat, x.n ≤ j → wset x.who k.toNat j = false := fun j hj => by
   unfold wset; rw [if_neg (by have := h.n; omega)]; exact w3 j hj
  have he : ren x k = enough s k := by
   unfold ren enough; have h7 := ok.n7; have hn1 := ok.n1; rw [h.n, w1, wcnt_stop (wset x.who k.toNat) s.n.toNat (fun j hj => hz j (by rw [h.n]; omega)) 7 (by omega)]
  obtain ⟨c1, c2, c3, c4⟩ := cnt_rel vs { s with who := wset s.who k.toNat } x.l ok.a0 w2 f2 f3
  obtain ⟨k1, k2, k3, k4, k5, k6, k7⟩ := cntL_keep vs { s with who := wset s.who k.toNat }
  have key : Rel (cntL { s with who := wset s.who k.toNat } vs) (rpl x k vs) := by
   refine ⟨by rw [k1]; exact h.n, by rw [k2]; exact h.me, by rw [k4]; exact h.b, ?_, by rw [k3]; exact h.ak, by rw [k3]; exact h.ld, fun _ => ⟨by rw [k6, w1]; rfl, c1, fun j hj => hz j hj⟩, fun _ => ⟨by rw [k5]; exact f1, ?_, ?_⟩, fun h2 => ?_, fun h2 => ?_⟩
   ·rw [c3]; show rnx x.nx (vs.filter (rmay x.fr)) = _; rw [f1, h.nx]
   ·rw [c2, k5]; show _ = rnx s.ask (x.l ++ vs.filter (rmay x.fr)); rw [f1]
   ·intro j; rw [c4]; show _ = pk (x.l ++ vs.filter (rmay x.fr)) j; rw [f1]
   ·exact h.f2 (.inl h1)
   ·rw [k3] at h2; have h2 : s.st = 3 := h2; omega
  refine ⟨by unfold rpb prb; rw [hp, hq, he], ?_⟩; unfold rps M.prs; rw [hp, hq, if_pos rfl, if_pos rfl, he]; split
  ·obtain ⟨g1, g2, g3⟩ := key.f1 (.inl (by rw [k3]; exact h1)); exact ⟨key.n, key.me, key.b, key.nx, rfl, rfl, fun h => by simp at h, fun _ => ⟨g1, g2, g3⟩, fun _ => h.f2 (.inl h1), fun h => by simp at h⟩
  ·exact key
theorem val_pk (l : List V) (k : Int) : val (pk l k) = (vx (of l k) (of l k).length).v := by
 unfold pk; split
 ·next h => rw [h]; rfl
 ·rfl
theorem Rel.fill (h : Rel s x) (ok : Ok s) : rfo x = flo s ∧ Rel (fls s) (rfs x) := by
 have h3 := ok.t3; by_cases h2 : s.st = 2
 ·have hb : rfb x = true := by unfold rfb; rw [h.ld, h.f2 (.inr h2), decide_eq_true (by omega)]; rfl
  obtain ⟨f1, f2, f3⟩ := h.f1 (.inr h2); have e := rlast_rnx x.l (x.fr - 1); have e' : x.fr - 1 + 1 = s.ask := by omega
  rw [e', ← f2] at e; constructor
  ·unfold rfo flo; rw [hb, if_pos rfl, if_pos h2, e, f1]; unfold rfl' fl; apply List.map_congr_left; intro j _; unfold rf1 fl1; rw [f1, f3, val_pk, h.b]
  ·unfold rfs fls; rw [hb, if_pos rfl, if_pos h2]; refine ⟨h.n, h.me, h.b, h.nx, ?_, ?_, fun h => by simp at h, fun h => by simp at h, fun h => by simp at h, fun _ => rfl⟩
   ·show x.ak = _; rw [h.ak, h2]; rfl
   ·show x.ld = _; rw [h.ld, h2]; rfl
 ·have hb : rfb x = false := by
   unfold rfb; rw [h.ld]; by_cases h4 : 2 ≤ s.st
   ·rw [h.f3 (by omega)]; simp
   ·rw [decide_eq_false h4]; rfl
  unfold rfo flo rfs fls; rw [hb, if_neg h2, if_neg h2]; exact ⟨rfl, h⟩
theorem Rel.propose (h : Rel s x) (v : ByteArray) : rpc x v = ppc s v ∧ rpv x v = ppv s v ∧ Rel (pps s v) (rpp x v) := by
 have e1 : rpc x v = ppc s v := by
  unfold rpc ppc; rw [h.nx, h.ld]; by_cases h1 : s.st < 2
  ·rw [if_pos h1, decide_eq_false (show ¬ 2 ≤ s.st by omega)]; rfl
  ·rw [if_neg h1, decide_eq_true (show 2 ≤ s.st by omega)]; rfl
 refine ⟨e1, by unfold rpv ppv; rw [e1, h.nx, h.b], ?_⟩; by_cases h0 : ppc s v = 0
 ·have h2 : 2 ≤ s.st := by
   unfold ppc at h0
   split at h0
   ·omega
   ·split at h0
    ·omega
    ·split at h0
     ·omega
     ·omega
  unfold pps rpp; rw [e1, if_pos h0, if_pos h0]; refine ⟨h.n, h.me, h.b, ?_, h.ak, h.ld, fun h1 => ?_, h.f1, h.f2, h.f3⟩
  ·show x.nx + 1 = s.nx + 1; rw [h.nx]
  ·have h1 : s.st = 1 := h1; omega
 ·unfold pps rpp; rw [e1, if_neg h0, if_neg h0]; exact h
theorem Rel.step (h : Rel s x) (b : E) : rsb x b = stb s b ∧ Rel (sts s b) (rss x b) := by
 have e1 : rsb x b = stb s b := by unfold rsb stb; rw [h.b]
 refine ⟨e1, ?_⟩; unfold rss sts; rw [e1]; split
 ·exact ⟨h.n, h.me, rfl, h.nx, rfl, rfl, fun h => by simp [M.enter] at h, fun h => by simp [M.enter] at h, fun h => by simp [M.enter] at h, fun h => by simp [M.enter] at h⟩
 ·exact h
end
def Bnd (x : R) : Prop := 0 ≤ x.fr ∧ x.fr ≤ 1024 ∧ rlast (x.fr - 1) x.l + 1 ≤ 1024
theorem Bnd.lead {x : R} (h : Bnd x) (a : E) (k : Int) : Bnd (rls x a k) := by
 unfold rls; split
 ·next e =>
  have hk : slot k = true := by
   unfold rlc at e
   split at e
   ·next e' => simp only [Bool.and_eq_true] at e'; exact e'.2
   ·omega
  obtain ⟨k0, k1⟩ := slot_iff hk; exact ⟨k0, by show k ≤ 1024; omega, by show k - 1 + 1 ≤ 1024; omega⟩
 ·exact h
theorem rlast_app (k : Int) (l q : List V) : rlast k (l ++ q) = rlast (rlast k l) q := by unfold rlast; rw [List.foldl_append]
theorem rlast_le (q : List V) : ∀ a : Int, a ≤ 1023 → (∀ v ∈ q, v.s < 1024) → rlast a q ≤ 1023 := by
 induction q with
 | nil => intro a h _; exact h
 | cons v r ih =>
  intro a h hv; have h1 := hv v (by simp); exact ih (max a v.s) (by omega) (fun y hy => hv y (by simp [hy]))
theorem Bnd.promise {x : R} (h : Bnd x) (k : Int) (b : E) (vs : List V) : Bnd (rps x k b vs) := by
 have key : Bnd (rpl x k vs) := by
  refine ⟨h.1, h.2.1, ?_⟩; show rlast (x.fr - 1) (x.l ++ vs.filter (rmay x.fr)) + 1 ≤ 1024; rw [rlast_app]; have h3 := h.2.2; have := rlast_le (vs.filter (rmay x.fr)) (rlast (x.fr - 1) x.l) (by omega) (fun v hv => by
   have := (List.mem_filter.1 hv).2; unfold rmay at this; simp only [Bool.and_eq_true, decide_eq_true_eq] at this; exact this.1.1.2)
  omega
 unfold rps; split
 ·split
  ·exact key
  ·exact key
 ·exact h
theorem Bnd.of {x y : R} (h : Bnd x) (e1 : y.fr = x.fr) (e2 : y.l = x.l) : Bnd y := by unfold Bnd; rw [e1, e2]; exact h
theorem rps_len (x : R) (k : Int) (b : E) (vs : List V) : (rps x k b vs).l.length ≤ x.l.length + vs.length := by
 have key : (rpl x k vs).l.length ≤ x.l.length + vs.length := by
  show (x.l ++ vs.filter (rmay x.fr)).length ≤ _; rw [List.length_append]; have := List.length_filter_le (rmay x.fr) vs; omega
 unfold rps; split
 ·split
  ·exact key
  ·exact key
 ·omega
theorem rss_fr (x : R) (b : E) : (rss x b).fr = x.fr ∧ (rss x b).l = x.l := by unfold rss; split <;> exact ⟨rfl, rfl⟩
theorem rfs_fr (x : R) : (rfs x).fr = x.fr ∧ (rfs x).l = x.l := by unfold rfs; split <;> exact ⟨rfl, rfl⟩
theorem rpp_fr (x : R) (v : ByteArray) : (rpp x v).fr = x.fr ∧ (rpp x v).l = x.l := by unfold rpp; split <;> exact ⟨rfl, rfl⟩
end Go.Proofs.YtgodnpngdbelhaaGreat.Np.M
namespace Go.Proofs.YtgodnpngdbelhaaGreat.Na.M
open Go.Proofs.YtgodnpngdbelhaaGreat.M
def Up (l : List V) : Prop := l.Pairwise fun a b => a.s < b.s
structure Sr (l : List V) (k : Int) (r : Nat) (b : Bool) : Prop where
 le : r ≤ l.length
 lo : ∀ j (h : j < l.length), j < r → l[j].s < k
 hi : ∀ j (h : j < l.length), r ≤ j → k ≤ l[j].s
 yes : b = true → ∃ h : r < l.length, l[r].s = k
 no : b = false → ∀ x ∈ l, x.s ≠ k
theorem sr_of {l : List V} {k : Int} {r : Nat} (hle : r ≤ l.length) (hlo : ∀ j (h : j < l.length), j < r → l[j].s < k) (hhi : ∀ j (h : j < l.length), r ≤ j → k ≤ l[j].s) (hu : Up l) (b : Bool) (hb : b = true ↔ ∃ h : r < l.length, l[r].s = k) : Sr l k r b := by
 refine ⟨hle, hlo, hhi, hb.1, fun h x hx e => ?_⟩; obtain ⟨j, hj, rfl⟩ := List.getElem_of_mem hx; rcases Nat.lt_or_ge j r with h1 | h1
 ·have := hlo j hj h1; omega
 ·have hr : r < l.length := by omega
  have h2 := hhi r hr Lr; have : l[r].s = k := by
   rcases Nat.eq_or_lt_of_le h1 with h3 | h3
   ·subst h3; exact e
   ·have := List.pairwise_iff_getElem.1 hu r j hr hj h3; omega
  rw [hb.2 ⟨hr, this⟩] at h; cases h
def vts (l : List V) (k : Int) : List V := l.filter fun x => decide (k ≤ x.s)
theorem Sr.mtake {l : List V} {k : Int} {r : Nat} {b : Bool} (h : Sr l k r b) : ∀ x ∈ l.take r, x.s < k := by
 intro x hx; obtain ⟨j, hj, rfl⟩ := List.getElem_of_mem hx; rw [List.getElem_take]; simp only [List.length_take] at hj; exact h.lo j (by omega) (by omega)
theorem Sr.mdrop {l : List V} {k : Int} {r : Nat} {b : Bool} (h : Sr l k r b) : ∀ x ∈ l.drop r, k ≤ x.s := by
 intro x hx; obtain ⟨j, hj, rfl⟩ := List.getElem_of_mem hx; rw [List.getElem_drop]; simp only [List.length_drop] at hj; exact h.hi (r + j) (by omega) (by omega)
theorem fl_all {p : V → Bool} {l : List V} (h : ∀ x ∈ l, p x = true) : l.filter p = l := List.filter_eq_self.2 h
theorem fl_none {p : V → Bool} {l : List V} (h : ∀ x ∈ l, p x = false) : l.filter p = [] := by
 rw [List.filter_eq_nil_iff]; intro x hx; rw [h x hx]; simp
theorem Sr.drop {l : List V} {k : Int} {r : Nat} {b : Bool} (h : Sr l k r b) : l.drop r = vts l k := by
 have e : vts l k = (l.take r ++ l.drop r).filter fun x => decide (k ≤ x.s) := by rw [List.take_append_drop]; rfl
 rw [e, List.filter_append, fl_none (l := l.take r) (fun x hx => decide_eq_false (by have := h.mtake x hx; omega)), fl_all (fun x hx => decide_eq_true (h.mdrop x hx)), List.nil_append]
def put (l : List V) (v : V) : List V := (l.filter fun x => decide (x.s < v.s)) ++ (v :: l.filter fun x => decide (v.s < x.s))
theorem Sr.lows {l : List V} {k : Int} {r : Nat} {b : Bool} (h : Sr l k r b) : (l.filter fun x => decide (x.s < k)) = l.take r := by
 have e : (l.filter fun x => decide (x.s < k)) = (l.take r ++ l.drop r).filter fun x => decide (x.s < k) := by rw [List.take_append_drop]
 rw [e, List.filter_append, fl_all (l := l.take r) (fun x hx => decide_eq_true (h.mtake x hx)), fl_none (fun x hx => decide_eq_false (by have := h.mdrop x hx; omega)), List.append_nil]
theorem Sr.put_no {l : List V} {v : V} {r : Nat} (h : Sr l v.s r false) : l.take r ++ [v] ++ l.drop r = put l v := by
 unfold put; rw [h.lows, h.drop]; have e : vts l v.s = l.filter fun x => decide (v.s < x.s) := by
  unfold vts; apply List.filter_congr; intro x hx; have := h.no rfl x hx; by_cases h1 : v.s ≤ x.s
  ·rw [decide_eq_true h1, decide_eq_true (by omega)]
  ·rw [decide_eq_false h1, decide_eq_false (by omega)]
 rw [e]; simp
theorem Sr.put_yes {l : List V} {v : V} {r : Nat} (h : Sr l v.s r true) (hu : Up l) : l.set r v = put l v := by
 obtain ⟨hr, e⟩ := h.yes rfl; have hd := h.drop; rw [List.drop_eq_getElem_cons hr] at hd; have hup := (List.pairwise_cons.1 (by rw [← List.drop_eq_getElem_cons hr]; exact List.Pairwise.sublist (List.drop_sublist r l) hu : Up (l[r] :: l.drop (r + 1)))).1; have e2 : (l.filter fun x => decide (v.s < x.s)) = (vts l v.s).filter fun x => decide (v.s < x.s) := by
  unfold vts; rw [List.filter_filter]; apply List.filter_congr; intro x hx; by_cases h1 : v.s < x.s
  ·rw [decide_eq_true h1, decide_eq_true (show v.s ≤ x.s by omega)]; rfl
  ·rw [decide_eq_false h1]; rfl
 unfold put; rw [h.lows, e2, ← hd, List.filter_cons, if_neg (by simp; omega), fl_all (fun x hx => decide_eq_true (by have := hup x hx; omega))]; rw [List.set_eq_take_append_cons_drop, if_pos hr]
theorem up_put {l : List V} (hu : Up l) (v : V) : Up (put l v) := by
 unfold put Up; rw [List.pairwise_append]; refine ⟨List.Pairwise.sublist List.filter_sublist hu, ?_, ?_⟩
 ·rw [List.pairwise_cons]; exact ⟨fun x hx => by simpa using (List.mem_filter.1 hx).2, List.Pairwise.sublist List.filter_sublist hu⟩
 ·intro x hx y hy; have h1 : x.s < v.s := by simpa using (List.mem_filter.1 hx).2
  rcases List.mem_cons.1 hy with rfl | hy
  ·exact h1
  ·have h2 : v.s < y.s := by simpa using (List.mem_filter.1 hy).2
   omega
theorem mem_put {l : List V} {v x : V} (h : x ∈ put l v) : x = v ∨ (x ∈ l ∧ x.s ≠ v.s) := by
 unfold put at h; rcases List.mem_append.1 h with h | h
 ·have h1 : x.s < v.s := by simpa using (List.mem_filter.1 h).2
  exact .inr ⟨(List.mem_filter.1 h).1, by omega⟩
 ·rcases List.mem_cons.1 h with h | h
  ·exact .inl h
  ·have h1 : v.s < x.s := by simpa using (List.mem_filter.1 h).2
   exact .inr ⟨(List.mem_filter.1 h).1, by omega⟩
theorem put_mem {l : List V} {v x : V} (h : x = v ∨ (x ∈ l ∧ x.s ≠ v.s)) : x ∈ put l v := by
 unfold put; rcases h with rfl | ⟨h, h1⟩
 ·simp
 ·rcases Int.lt_or_gt_of_ne h1 with h2 | h2
  ·exact List.mem_append.2 (.inl (List.mem_filter.2 ⟨h, by simpa using h2⟩))
  ·exact List.mem_append.2 (.inr (List.mem_cons.2 (.inr (List.mem_filter.2 ⟨h, by simpa using h2⟩))))
theorem mem_vts {l : List V} {k : Int} {x : V} : x ∈ vts l k ↔ x ∈ l ∧ k ≤ x.s := by
 unfold vts; rw [List.mem_filter]; simp
theorem vts_le (l : List V) (k : Int) : (vts l k).length ≤ l.length := List.length_filter_le _ _
theorem vts_snoc (l : List V) (k : Int) (j : Nat) (hj : j < l.length) : vts (l.take (j + 1)) k = if k ≤ l[j].s then vts (l.take j) k ++ [l[j]] else vts (l.take j) k := by
 rw [List.take_succ_eq_append_getElem hj]; unfold vts; rw [List.filter_append]; by_cases h : k ≤ l[j].s
 ·rw [if_pos h, List.filter_cons, if_pos (by simpa using h)]; rfl
 ·rw [if_neg h, List.filter_cons, if_neg (by simpa using h)]; simp
def ra (v : V) : Bool → List V → List V
 | p, [] => if p then [] else [v]
 | p, x :: r => (if p = false ∧ v.s ≤ x.s then [v] else []) ++ ((if x.s ≠ v.s then [x] else []) ++ ra v (p || decide (v.s ≤ x.s)) r)
theorem ra_true (v : V) : ∀ l : List V, ra v true l = l.filter fun x => decide (x.s ≠ v.s)
 | [] => rfl
 | x :: r => by
  rw [ra, Bool.true_or, ra_true v r, if_neg (by simp), List.nil_append, List.filter_cons]; by_cases h : x.s ≠ v.s
  ·rw [if_pos h, if_pos (by simpa using h)]; rfl
  ·rw [if_neg h, if_neg (by simpa using h)]; rfl
theorem ra_put (v : V) : ∀ l : List V, Up l → ra v false l = put l v
 | [], _ => rfl
 | x :: r, hu => by
  have hc := List.pairwise_cons.1 hu; unfold put; rw [ra, List.filter_cons, List.filter_cons]; by_cases h : v.s ≤ x.s
  ·have e1 : (r.filter fun y => decide (y.s < v.s)) = [] := fl_none fun y hy => decide_eq_false (by have := hc.1 y hy; omega); have e2 : (r.filter fun y => decide (y.s ≠ v.s)) = r := fl_all fun y hy => decide_eq_true (by have := hc.1 y hy; omega); have e3 : (r.filter fun y => decide (v.s < y.s)) = r := fl_all fun y hy => decide_eq_true (by have := hc.1 y hy; omega); have n1 : decide (x.s < v.s) = false := decide_eq_false (by omega); rw [if_pos ⟨rfl, h⟩, decide_eq_true h, Bool.or_true, ra_true, e1, e2, e3, n1]; by_cases h1 : x.s = v.s
   ·have n2 : decide (v.s < x.s) = false := decide_eq_false (by omega); rw [if_neg (by omega : ¬ x.s ≠ v.s), n2]; simp
   ·have n2 : decide (v.s < x.s) = true := decide_eq_true (by omega); rw [if_pos (h1 : x.s ≠ v.s), n2]; simp
  ·have n1 : decide (x.s < v.s) = true := decide_eq_true (by omega); have n2 : decide (v.s < x.s) = false := decide_eq_false (by omega); have h1 : x.s ≠ v.s := by omega
   rw [if_neg (by simp; omega), decide_eq_false h, Bool.or_false, ra_put v r hc.2, if_pos h1, n1, n2]; simp [put]
theorem ra_drop (v : V) (p : Bool) (l : List V) (j : Nat) (hj : j < l.length) : ra v p (l.drop j) = (if p = false ∧ v.s ≤ l[j].s then [v] else []) ++ ((if l[j].s ≠ v.s then [l[j]] else []) ++ ra v (p || decide (v.s ≤ l[j].s)) (l.drop (j + 1))) := by
 rw [List.drop_eq_getElem_cons hj, ra]
structure S where
 p : E
 base : Int
 l : List V
theorem up_len : ∀ (l : List V) (lo : Int), Up l → (∀ x ∈ l, lo ≤ x.s ∧ x.s ≤ 1023) → l = [] ∨ lo + (l.length : Int) ≤ 1024
 | [], _, _, _ => .inl rfl
 | x :: r, lo, hu, h => by
  have hc := List.pairwise_cons.1 hu; have hx := h x (by simp); rcases up_len r (lo + 1) hc.2 (fun y hy => ⟨by have := hc.1 y hy; omega, (h y (by simp [hy])).2⟩) with e | e
  ·subst e; exact .inr (by simp; omega)
  ·exact .inr (by rw [List.length_cons]; omega)
structure Ok (a : S) : Prop where
 up : Up a.l
 lo : ∀ x ∈ a.l, a.base ≤ x.s
 hi : ∀ x ∈ a.l, x.s ≤ 1023
 b0 : 0 ≤ a.base
 b1 : a.base ≤ 1024
 vs : ∀ x ∈ a.l, x.v.size ≤ 4096
 pr : ∀ x ∈ a.l, 0 ≤ cmpE a.p x.b
theorem Ok.len {a : S} (h : Ok a) : a.l.length ≤ 1024 := by
 rcases up_len a.l a.base h.up (fun x hx => ⟨h.lo x hx, h.hi x hx⟩) with e | e
 ·rw [e]; simp
 ·have := h.b0; omega
def S0 : S := ⟨⟨0, 0⟩, 0, []⟩
theorem Ok.zero : Ok S0 := ⟨List.Pairwise.nil, by simp [S0], by simp [S0], by simp [S0], by simp [S0], by simp [S0], by simp [S0]⟩
def may (a : S) (b : E) : Bool := vld b && decide (0 ≤ cmpE b a.p)
def prb (a : S) (b : E) (k : Int) : Bool := may a b && decide (a.base ≤ k)
def prs (a : S) (b : E) (k : Int) : S := if prb a b k = true then ⟨b, a.base, a.l⟩ else a
def prl (a : S) (b : E) (k : Int) : List V := if prb a b k = true then vts a.l k else []
def acb (a : S) (v : V) : Bool := may a v.b && decide (a.base ≤ v.s) && decide (v.s < 1024) && decide (v.v.size ≤ 4096)
def acs (a : S) (v : V) : S := if acb a v = true then ⟨v.b, a.base, put a.l v⟩ else a
theorem may_yes {a : S} {b : E} (h : may a b = true) : 0 ≤ cmpE b a.p := by
 unfold may at h; simp at h; exact h.2
theorem prb_may {a : S} {b : E} {k : Int} (h : prb a b k = true) : may a b = true := by
 unfold prb at h; simp at h; exact h.1
theorem acb_yes {a : S} {v : V} (h : acb a v = true) : may a v.b = true ∧ a.base ≤ v.s ∧ v.s < 1024 ∧ v.v.size ≤ 4096 := by
 unfold acb at h; simp at h; obtain ⟨⟨⟨h1, h2⟩, h3⟩, h4⟩ := h; exact ⟨h1, h2, h3, h4⟩
theorem prs_yes {a : S} {b : E} {k : Int} (h : prb a b k = true) : prs a b k = ⟨b, a.base, a.l⟩ := if_pos h
theorem prs_no {a : S} {b : E} {k : Int} (h : prb a b k = false) : prs a b k = a := if_neg (by simp [h])
theorem acs_yes {a : S} {v : V} (h : acb a v = true) : acs a v = ⟨v.b, a.base, put a.l v⟩ := if_pos h
theorem acs_no {a : S} {v : V} (h : acb a v = false) : acs a v = a := if_neg (by simp [h])
theorem cmp_self (a : E) : cmpE a a = 0 := by
 rcases cmpE_three a a with ⟨h, e⟩ | ⟨h, e⟩ | ⟨h, e⟩ <;> first | omega | exact e
theorem prs_ok {a : S} (h : Ok a) (b : E) (k : Int) : Ok (prs a b k) := by
 cases hb : prb a b k with
 | false => rw [prs_no hb]; exact h
 | true => rw [prs_yes hb]; exact ⟨h.up, h.lo, h.hi, h.b0, h.b1, h.vs, fun x hx => (order b a.p x.b).2.2.2.2 (may_yes (prb_may hb)) (h.pr x hx)⟩
theorem acs_ok {a : S} (h : Ok a) (v : V) : Ok (acs a v) := by
 cases hb : acb a v with
 | false => rw [acs_no hb]; exact h
 | true =>
  obtain ⟨h1, h2, h3, h4⟩ := acb_yes hb; rw [acs_yes hb]; refine ⟨up_put h.up v, fun x hx => ?_, fun x hx => ?_, h.b0, h.b1, fun x hx => ?_, fun x hx => ?_⟩
  all_goals rcases mem_put hx with rfl | ⟨hx', _⟩
  ·exact h2
  ·exact h.lo x hx'
  ·exact Int.le_of_lt_add_one h3
  ·exact h.hi x hx'
  ·exact h4
  ·exact h.vs x hx'
  ·exact Int.le_of_eq (cmp_self _).symm
  ·exact (order v.b a.p x.b).2.2.2.2 (may_yes h1) (h.pr x hx')
end Go.Proofs.YtgodnpngdbelhaaGreat.Na.M
