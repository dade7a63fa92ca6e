/-
  The document's proposer as plain data; both go together.
-/
import Derived.Test.YtpolmfgklgggcaaOM
namespace Go.Proofs.Ytpolmfgklgggcaa.M
set_option linter.unusedVariables false

structure R where
  n : Int
  me : Int
  fr : Int
  nx : Int
  b : E
  ak : Bool
  ld : Bool
  fd : Bool
  who : Nat → Bool
  l : List V
def r0 (n me : Int) : R := ⟨n, me, 0, 0, ⟨0, 0⟩, false, false, false, fun _ => false, []⟩
def rlc (x : R) (a : E) (k : Int) : Int := if vld a && slot k then (if 2147483647 ≤ (grt a x.b).i then 5 else 0) else 1
def rle (x : R) (a : E) (k : Int) : E := if rlc x a k = 0 then nxt (grt a x.b) x.me else ⟨0, 0⟩
def rls (x : R) (a : E) (k : Int) : R := if rlc x a k = 0 then ⟨x.n, x.me, k, k, nxt (grt a x.b) x.me, true, false, false, fun _ => false, []⟩ else x
def rmay (k : Int) (v : V) : Bool := decide (k ≤ v.s) && decide (v.s < 1024) && vld v.b && decide (v.v.size ≤ 4096)
def rnx (k : Int) (l : List V) : Int := l.foldl (fun a v => max a (v.s + 1)) k
def rpm (x : R) (k : Int) (b : E) : Bool := decide (0 ≤ k) && decide (k < x.n) && x.ak && (decide (b.i = x.b.i) && decide (b.t = x.b.t)) && !x.who k.toNat
def ren (x : R) (k : Int) : Bool := decide (quo x.n ≤ (wcnt (wset x.who k.toNat) x.n.toNat : Int))
def rpl (x : R) (k : Int) (vs : List V) : R := { x with who := wset x.who k.toNat, l := x.l ++ vs.filter (rmay x.fr), nx := rnx x.nx (vs.filter (rmay x.fr)) }
def rpb (x : R) (k : Int) (b : E) : Bool := rpm x k b && ren x k
def rps (x : R) (k : Int) (b : E) (vs : List V) : R := if rpm x k b then (if ren x k then { rpl x k vs with ak := false, ld := true } else rpl x k vs) else x
def rlast (k : Int) (l : List V) : Int := l.foldl (fun a v => max a v.s) k
def of (l : List V) (k : Int) : List V := l.filter (fun v => decide (v.s = k))
def rf1 (x : R) (j : Nat) : V := ⟨x.fr + j, x.b, (vx (of x.l (x.fr + j)) (of x.l (x.fr + j)).length).v⟩
def rfl' (x : R) (m : Nat) : List V := (List.range m).map (rf1 x)
def rfb (x : R) : Bool := x.ld && !x.fd
def rfo (x : R) : List V := if rfb x then rfl' x (rlast (x.fr - 1) x.l + 1 - x.fr).toNat else []
def rfs (x : R) : R := if rfb x then { x with fd := true } else x
def rpc (x : R) (v : ByteArray) : Int := if 4096 < v.size then 2 else if 1024 ≤ x.nx then 5 else if x.ld then 0 else 16
def rpv (x : R) (v : ByteArray) : V := if rpc x v = 0 then ⟨x.nx, x.b, v⟩ else ⟨0, ⟨0, 0⟩, ⟨#[]⟩⟩
def rpp (x : R) (v : ByteArray) : R := if rpc x v = 0 then { x with nx := x.nx + 1 } else x
def rsb (x : R) (b : E) : Bool := vld b && decide (0 < cmpE b x.b)
def rss (x : R) (b : E) : R := if rsb x b then { x with b := b, ak := false, ld := false } else x
theorem rfl_succ (x : R) (m : Nat) : rfl' x (m + 1) = rfl' x m ++ [rf1 x m] := by unfold rfl'; rw [List.range_succ, List.map_append]; rfl
theorem rfl_len (x : R) (m : Nat) : (rfl' x m).length = m := by unfold rfl'; simp
/-- The vote that is picked of a slot. -/
def pk (l : List V) (k : Int) : Option V := if (of l k).length = 0 then none else some (vx (of l k) (of l k).length)
theorem bst_app (l q : List E) : ∀ k, k ≤ l.length → bst (l ++ q) k = bst l k
  | 0, _ => rfl
  | 1, _ => rfl
  | k + 2, h => by
    have ih := bst_app l q (k + 1) (by omega)
    have hb := bst_lt l (k + 1) (by omega)
    rw [bst, bst, ih]
    simp only [List.getD_eq_getElem?_getD]
    rw [List.getElem?_append_left (by omega), List.getElem?_append_left (by omega)]
theorem vx_app (l q : List V) (k : Nat) (h : k ≤ l.length) : vx (l ++ q) k = vx l k := by
  unfold vx
  by_cases h0 : k = 0
  · rw [if_pos h0, if_pos h0]
  · rw [if_neg h0, if_neg h0, List.map_append, bst_app _ _ _ (by simpa using h)]
    have hb := bst_lt (l.map V.b) k (by omega)
    simp only [List.getD_eq_getElem?_getD]
    rw [List.getElem?_append_left (by omega)]
theorem vx_snoc (l : List V) (v : V) : vx (l ++ [v]) (l.length + 1) = if l.length = 0 ∨ 0 < cmpE v.b (vx l l.length).b then v else vx l l.length := by
  have h := vx_step (l ++ [v]) l.length (by simp)
  have e : (l ++ [v])[l.length]'(by simp) = v := by simp
  rw [e, vx_app l [v] l.length (Nat.le_refl _)] at h
  split
  · next hc => exact h.1 hc
  · next hc => exact h.2 (by omega) (by omega)
theorem of_snoc (l : List V) (v : V) (k : Int) : of (l ++ [v]) k = of l k ++ if v.s = k then [v] else [] := by
  unfold of
  rw [List.filter_append]
  congr 1
  by_cases h : v.s = k
  · rw [if_pos h]; simp [h]
  · rw [if_neg h]; simp [h]
theorem pk_snoc (l : List V) (v : V) (k : Int) : pk (l ++ [v]) k = if k = v.s then some (pick2 (pk l k) v) else pk l k := by
  unfold pk
  rw [of_snoc]
  by_cases h : k = v.s
  · subst h
    rw [if_pos rfl, if_pos rfl, List.length_append, List.length_singleton, if_neg (by omega), vx_snoc]
    by_cases h0 : (of l v.s).length = 0
    · rw [if_pos (.inl h0), if_pos h0]; rfl
    · rw [if_neg h0]
      simp only [pick2]
      by_cases hc : 0 < cmpE v.b (vx (of l v.s) (of l v.s).length).b
      · rw [if_pos (.inr hc), if_pos hc]
      · rw [if_neg (by rintro (h | h); exact h0 h; exact hc h), if_neg hc]
  · rw [if_neg (show ¬ v.s = k from fun e => h e.symm), List.append_nil, if_neg h]
theorem rnx_app (k : Int) (l q : List V) : rnx k (l ++ q) = rnx (rnx k l) q := by unfold rnx; rw [List.foldl_append]
theorem rlast_rnx (l : List V) : ∀ a, rlast a l + 1 = rnx (a + 1) l := by
  induction l with
  | nil => intro a; rfl
  | cons v r ih =>
    intro a
    have h := ih (max a v.s)
    unfold rlast rnx at h ⊢
    rw [List.foldl_cons, List.foldl_cons, h]
    have e : max a v.s + 1 = max (a + 1) (v.s + 1) := by omega
    rw [e]
theorem rnx_ge (l : List V) : ∀ a, a ≤ rnx a l := by
  induction l with
  | nil => intro a; exact Int.le_refl _
  | cons v r ih =>
    intro a
    have h := ih (max a (v.s + 1))
    unfold rnx at h ⊢
    rw [List.foldl_cons]
    omega
theorem rmay_may {k : Int} (h : 0 ≤ k) (v : V) : rmay k v = may k v := by
  unfold rmay may slot
  by_cases h1 : k ≤ v.s
  · rw [decide_eq_true (show (0 : Int) ≤ v.s by omega), Bool.true_and]
  · rw [decide_eq_false h1]; simp
/-- Both count alike. -/
theorem cnt_rel (vs : List V) : ∀ (s : S) (l : List V), 0 ≤ s.ask → s.fin = s.nx → s.fin = rnx s.ask l → (∀ k, s.f k = pk l k) → (cntL s vs).fin = (cntL s vs).nx ∧ (cntL s vs).fin = rnx s.ask (l ++ vs.filter (rmay s.ask)) ∧ (cntL s vs).nx = rnx s.nx (vs.filter (rmay s.ask)) ∧ ∀ k, (cntL s vs).f k = pk (l ++ vs.filter (rmay s.ask)) k := by
  induction vs with
  | nil => intro s l h0 h1 h2 h3; simpa [cntL, rnx] using ⟨h1, h2, h3⟩
  | cons v r ih =>
    intro s l h0 h1 h2 h3
    show (cntL (cnt1 s v) r).fin = _ ∧ _
    have hask := (cnt1_keep s v).2.2.2.2.1
    cases hm : may s.ask v with
    | false =>
      have e : cnt1 s v = s := by unfold cnt1; rw [hm]; rfl
      have e2 : (v :: r).filter (rmay s.ask) = r.filter (rmay s.ask) := by rw [List.filter_cons, rmay_may h0, hm]; rfl
      have e3 : cntL s (v :: r) = cntL s r := by show cntL (cnt1 s v) r = _; rw [e]
      rw [e, e2, e3]
      exact ih s l h0 h1 h2 h3
    | true =>
      have e : cnt1 s v = { s with f := fup s.f v.s (some (pick2 (s.f v.s) v)), fin := max s.fin (v.s + 1), nx := max s.fin (v.s + 1), c := s.c + 1 } := by unfold cnt1; rw [hm]; rfl
      have e2 : (v :: r).filter (rmay s.ask) = v :: r.filter (rmay s.ask) := by rw [List.filter_cons, rmay_may h0, hm]; rfl
      have e3 : cntL s (v :: r) = cntL (cnt1 s v) r := rfl
      have h := ih (cnt1 s v) (l ++ [v]) (by rw [hask]; exact h0) (by rw [e]) (by
        rw [hask, rnx_app, ← h2, e]
        rfl) (fun k => by
        rw [e, pk_snoc]
        simp only [fup]
        split
        · next hk => rw [h3, hk]
        · exact h3 k)
      rw [hask] at h
      rw [e2, e3]
      have e4 : l ++ v :: r.filter (rmay s.ask) = l ++ [v] ++ r.filter (rmay s.ask) := by simp
      have e5 : rnx s.nx (v :: r.filter (rmay s.ask)) = rnx (cnt1 s v).nx (r.filter (rmay s.ask)) := by
        rw [e]
        show rnx (max s.nx (v.s + 1)) _ = rnx (max s.fin (v.s + 1)) _
        rw [h1]
      rw [e4, e5]
      exact h
theorem wcnt_stop (f : Nat → Bool) (m : Nat) (h : ∀ j, m ≤ j → f j = false) : ∀ M, m ≤ M → wcnt f M = wcnt f m
  | 0, hM => by
    obtain rfl : m = 0 := by omega
    rfl
  | M + 1, hM => by
    by_cases he : m = M + 1
    · rw [he]
    · rw [wcnt, h M (by omega), wcnt_stop f m h M (by omega)]
      simp
/-- Both go together. -/
structure Rel (s : S) (x : R) : Prop where
  n : x.n = s.n
  me : x.me = s.me
  b : x.b = s.b
  nx : x.nx = s.nx
  ak : x.ak = decide (s.st = 1)
  ld : x.ld = decide (2 ≤ s.st)
  w1 : s.st = 1 → s.who = x.who ∧ s.fin = s.nx ∧ ∀ j : Nat, x.n ≤ j → x.who j = false
  f1 : s.st = 1 ∨ s.st = 2 → x.fr = s.ask ∧ s.fin = rnx s.ask x.l ∧ ∀ k, s.f k = pk x.l k
  f2 : s.st = 1 ∨ s.st = 2 → x.fd = false
  f3 : s.st = 3 → x.fd = true
theorem Rel.zero (n me : Int) : Rel (S0 n me) (r0 n me) := ⟨rfl, rfl, rfl, rfl, rfl, rfl, fun h => by simp [S0] at h, fun h => by simp [S0] at h, fun h => by simp [S0] at h, fun h => by simp [S0] at h⟩
section
variable {s : S} {x : R}
theorem Rel.lead (h : Rel s x) (a : E) (k : Int) : rlc x a k = ldc s a k ∧ rle x a k = lde s a k ∧ Rel (lds s a k) (rls x a k) := by
  have e1 : rlc x a k = ldc s a k := by unfold rlc ldc; rw [h.b]
  refine ⟨e1, by unfold rle lde; rw [e1, h.b, h.me], ?_⟩
  unfold rls lds
  rw [e1]
  split
  · refine ⟨h.n, h.me, by rw [h.b, h.me]; rfl, rfl, rfl, rfl, fun _ => ⟨rfl, rfl, fun _ _ => rfl⟩, fun _ => ⟨rfl, rfl, fun k => ?_⟩, fun _ => rfl, fun h => by simp [M.enter] at h⟩
    rfl
  · exact h
theorem Rel.prm (h : Rel s x) (k : Int) (b : E) : rpm x k b = prm s k b := by
  unfold rpm M.prm
  rw [h.n, h.b, h.ak]
  by_cases h1 : s.st = 1
  · rw [(h.w1 h1).1, decide_eq_true h1]
    simp only [Bool.true_and, Bool.and_true]
    cases decide (0 ≤ k) <;> cases decide (k < s.n) <;> cases (decide (b.i = s.b.i) && decide (b.t = s.b.t)) <;> cases x.who k.toNat <;> rfl
  · rw [decide_eq_false h1]
    simp
theorem Rel.promise (h : Rel s x) (ok : Ok s) (k : Int) (b : E) (vs : List V) : rpb x k b = prb s k b ∧ Rel (prs s k b vs) (rps x k b vs) := by
  have hp := h.prm k b
  cases hq : M.prm s k b with
  | false =>
    rw [hq] at hp
    refine ⟨by unfold rpb prb; rw [hp, hq]; rfl, ?_⟩
    have e1 : rps x k b vs = x := by unfold rps; rw [hp]; rfl
    have e2 : M.prs s k b vs = s := by unfold M.prs; rw [hq]; rfl
    rw [e1, e2]; exact h
  | true =>
    rw [hq] at hp
    have hq' := hq
    unfold M.prm at hq'
    simp only [Bool.and_eq_true, decide_eq_true_eq] at hq'
    obtain ⟨⟨⟨⟨h1, -⟩, hk0⟩, hkn⟩, -⟩ := hq'
    obtain ⟨w1, w2, w3⟩ := h.w1 h1
    obtain ⟨f1, f2, f3⟩ := h.f1 (.inl h1)
    have hz : ∀ j : Nat, x.n ≤ j → wset x.who k.toNat j = false := fun j hj => by
      unfold wset
      rw [if_neg (by have := h.n; omega)]
      exact w3 j hj
    have he : ren x k = enough s k := by
      unfold ren enough
      have h7 := ok.n7
      have hn1 := ok.n1
      rw [h.n, w1, wcnt_stop (wset x.who k.toNat) s.n.toNat (fun j hj => hz j (by rw [h.n]; omega)) 7 (by omega)]
    obtain ⟨c1, c2, c3, c4⟩ := cnt_rel vs { s with who := wset s.who k.toNat } x.l ok.a0 w2 f2 f3
    obtain ⟨k1, k2, k3, k4, k5, k6, k7⟩ := cntL_keep vs { s with who := wset s.who k.toNat }
    have key : Rel (cntL { s with who := wset s.who k.toNat } vs) (rpl x k vs) := by
      refine ⟨by rw [k1]; exact h.n, by rw [k2]; exact h.me, by rw [k4]; exact h.b, ?_, by rw [k3]; exact h.ak, by rw [k3]; exact h.ld, fun _ => ⟨by rw [k6, w1]; rfl, c1, fun j hj => hz j hj⟩, fun _ => ⟨by rw [k5]; exact f1, ?_, ?_⟩, fun h2 => ?_, fun h2 => ?_⟩
      · rw [c3]
        show rnx x.nx (vs.filter (rmay x.fr)) = _
        rw [f1, h.nx]
      · rw [c2, k5]
        show _ = rnx s.ask (x.l ++ vs.filter (rmay x.fr))
        rw [f1]
      · intro j
        rw [c4]
        show _ = pk (x.l ++ vs.filter (rmay x.fr)) j
        rw [f1]
      · exact h.f2 (.inl h1)
      · rw [k3] at h2
        have h2 : s.st = 3 := h2
        omega
    refine ⟨by unfold rpb prb; rw [hp, hq, he], ?_⟩
    unfold rps M.prs
    rw [hp, hq, if_pos rfl, if_pos rfl, he]
    split
    · obtain ⟨g1, g2, g3⟩ := key.f1 (.inl (by rw [k3]; exact h1))
      exact ⟨key.n, key.me, key.b, key.nx, rfl, rfl, fun h => by simp at h, fun _ => ⟨g1, g2, g3⟩, fun _ => h.f2 (.inl h1), fun h => by simp at h⟩
    · exact key
theorem val_pk (l : List V) (k : Int) : val (pk l k) = (vx (of l k) (of l k).length).v := by
  unfold pk
  split
  · next h => rw [h]; rfl
  · rfl
theorem Rel.fill (h : Rel s x) (ok : Ok s) : rfo x = flo s ∧ Rel (fls s) (rfs x) := by
  have h3 := ok.t3
  by_cases h2 : s.st = 2
  · have hb : rfb x = true := by unfold rfb; rw [h.ld, h.f2 (.inr h2), decide_eq_true (by omega)]; rfl
    obtain ⟨f1, f2, f3⟩ := h.f1 (.inr h2)
    have e := rlast_rnx x.l (x.fr - 1)
    have e' : x.fr - 1 + 1 = s.ask := by omega
    rw [e', ← f2] at e
    constructor
    · unfold rfo flo
      rw [hb, if_pos rfl, if_pos h2, e, f1]
      unfold rfl' fl
      apply List.map_congr_left
      intro j _
      unfold rf1 fl1
      rw [f1, f3, val_pk, h.b]
    · unfold rfs fls
      rw [hb, if_pos rfl, if_pos h2]
      refine ⟨h.n, h.me, h.b, h.nx, ?_, ?_, fun h => by simp at h, fun h => by simp at h, fun h => by simp at h, fun _ => rfl⟩
      · show x.ak = _
        rw [h.ak, h2]; rfl
      · show x.ld = _
        rw [h.ld, h2]; rfl
  · have hb : rfb x = false := by
      unfold rfb
      rw [h.ld]
      by_cases h4 : 2 ≤ s.st
      · rw [h.f3 (by omega)]; simp
      · rw [decide_eq_false h4]; rfl
    unfold rfo flo rfs fls
    rw [hb, if_neg h2, if_neg h2]
    exact ⟨rfl, h⟩
theorem Rel.propose (h : Rel s x) (v : ByteArray) : rpc x v = ppc s v ∧ rpv x v = ppv s v ∧ Rel (pps s v) (rpp x v) := by
  have e1 : rpc x v = ppc s v := by
    unfold rpc ppc
    rw [h.nx, h.ld]
    by_cases h1 : s.st < 2
    · rw [if_pos h1, decide_eq_false (show ¬ 2 ≤ s.st by omega)]; rfl
    · rw [if_neg h1, decide_eq_true (show 2 ≤ s.st by omega)]; rfl
  refine ⟨e1, by unfold rpv ppv; rw [e1, h.nx, h.b], ?_⟩
  by_cases h0 : ppc s v = 0
  · have h2 : 2 ≤ s.st := by
      unfold ppc at h0
      split at h0
      · omega
      · split at h0
        · omega
        · split at h0
          · omega
          · omega
    unfold pps rpp
    rw [e1, if_pos h0, if_pos h0]
    refine ⟨h.n, h.me, h.b, ?_, h.ak, h.ld, fun h1 => ?_, h.f1, h.f2, h.f3⟩
    · show x.nx + 1 = s.nx + 1
      rw [h.nx]
    · have h1 : s.st = 1 := h1
      omega
  · unfold pps rpp
    rw [e1, if_neg h0, if_neg h0]
    exact h
theorem Rel.step (h : Rel s x) (b : E) : rsb x b = stb s b ∧ Rel (sts s b) (rss x b) := by
  have e1 : rsb x b = stb s b := by unfold rsb stb; rw [h.b]
  refine ⟨e1, ?_⟩
  unfold rss sts
  rw [e1]
  split
  · exact ⟨h.n, h.me, rfl, h.nx, rfl, rfl, fun h => by simp [M.enter] at h, fun h => by simp [M.enter] at h, fun h => by simp [M.enter] at h, fun h => by simp [M.enter] at h⟩
  · exact h
end
/-- Its slots are slots. -/
def Bnd (x : R) : Prop := 0 ≤ x.fr ∧ x.fr ≤ 1024 ∧ rlast (x.fr - 1) x.l + 1 ≤ 1024
theorem Bnd.lead {x : R} (h : Bnd x) (a : E) (k : Int) : Bnd (rls x a k) := by
  unfold rls
  split
  · next e =>
    have hk : slot k = true := by
      unfold rlc at e
      split at e
      · next e' => simp only [Bool.and_eq_true] at e'; exact e'.2
      · omega
    obtain ⟨k0, k1⟩ := slot_iff hk
    exact ⟨k0, by show k ≤ 1024; omega, by show k - 1 + 1 ≤ 1024; omega⟩
  · exact h
theorem rlast_app (k : Int) (l q : List V) : rlast k (l ++ q) = rlast (rlast k l) q := by unfold rlast; rw [List.foldl_append]
theorem rlast_le (q : List V) : ∀ a : Int, a ≤ 1023 → (∀ v ∈ q, v.s < 1024) → rlast a q ≤ 1023 := by
  induction q with
  | nil => intro a h _; exact h
  | cons v r ih =>
    intro a h hv
    have h1 := hv v (by simp)
    exact ih (max a v.s) (by omega) (fun y hy => hv y (by simp [hy]))
theorem Bnd.promise {x : R} (h : Bnd x) (k : Int) (b : E) (vs : List V) : Bnd (rps x k b vs) := by
  have key : Bnd (rpl x k vs) := by
    refine ⟨h.1, h.2.1, ?_⟩
    show rlast (x.fr - 1) (x.l ++ vs.filter (rmay x.fr)) + 1 ≤ 1024
    rw [rlast_app]
    have h3 := h.2.2
    have := rlast_le (vs.filter (rmay x.fr)) (rlast (x.fr - 1) x.l) (by omega) (fun v hv => by
      have := (List.mem_filter.1 hv).2
      unfold rmay at this
      simp only [Bool.and_eq_true, decide_eq_true_eq] at this
      exact this.1.1.2)
    omega
  unfold rps
  split
  · split
    · exact key
    · exact key
  · exact h
theorem Bnd.of {x y : R} (h : Bnd x) (e1 : y.fr = x.fr) (e2 : y.l = x.l) : Bnd y := by unfold Bnd; rw [e1, e2]; exact h
theorem rps_len (x : R) (k : Int) (b : E) (vs : List V) : (rps x k b vs).l.length ≤ x.l.length + vs.length := by
  have key : (rpl x k vs).l.length ≤ x.l.length + vs.length := by
    show (x.l ++ vs.filter (rmay x.fr)).length ≤ _
    rw [List.length_append]
    have := List.length_filter_le (rmay x.fr) vs
    omega
  unfold rps
  split
  · split
    · exact key
    · exact key
  · omega
theorem rss_fr (x : R) (b : E) : (rss x b).fr = x.fr ∧ (rss x b).l = x.l := by unfold rss; split <;> exact ⟨rfl, rfl⟩
theorem rfs_fr (x : R) : (rfs x).fr = x.fr ∧ (rfs x).l = x.l := by unfold rfs; split <;> exact ⟨rfl, rfl⟩
theorem rpp_fr (x : R) (v : ByteArray) : (rpp x v).fr = x.fr ∧ (rpp x v).l = x.l := by unfold rpp; split <;> exact ⟨rfl, rfl⟩
end Go.Proofs.Ytpolmfgklgggcaa.M
