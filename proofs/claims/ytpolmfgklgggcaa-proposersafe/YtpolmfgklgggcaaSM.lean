/-
  A proposer that is promised by a quorum: what it fills.
-/
import Derived.Test.YtpolmfgklgggcaaOM
namespace Go.Proofs.Ytpolmfgklgggcaa.M
set_option linter.unusedVariables false

/-- The votes of a slot, and all that counted. -/
structure Cov (f : Int → Option V) (fin : Int) (l : List V) : Prop where
  pos : ∀ v ∈ l, 0 ≤ v.s ∧ v.s < fin
  has : ∀ v ∈ l, ∃ u, f v.s = some u
  is : ∀ k u, f k = some u → u ∈ l ∧ u.s = k ∧ ∀ y ∈ l, y.s = k → cmpE y.b u.b ≤ 0
  z : 0 ≤ fin
theorem Cov.nil : Cov (fun _ => none) 0 [] := ⟨by simp, by simp, by simp, Int.le_refl _⟩
theorem Cov.one {f : Int → Option V} {fin : Int} {l : List V} (h : Cov f fin l) (v : V) (hv : 0 ≤ v.s) : Cov (fup f v.s (some (pick2 (f v.s) v))) (max fin (v.s + 1)) (l ++ [v]) := by
  have hz := h.z
  refine ⟨fun x hx => ?_, fun x hx => ?_, fun k u hu => ?_, by omega⟩
  · rcases List.mem_append.1 hx with hx | hx
    · have := h.pos x hx; omega
    · rw [List.mem_singleton] at hx; subst hx; omega
  · unfold fup
    split
    · exact ⟨_, rfl⟩
    · next hne =>
      rcases List.mem_append.1 hx with hx | hx
      · exact h.has x hx
      · rw [List.mem_singleton] at hx; subst hx; exact absurd rfl hne
  · unfold fup at hu
    split at hu
    · next hk =>
      subst hk
      cases hu
      cases hf : f v.s with
      | none =>
        refine ⟨by simp [pick2], rfl, fun y hy hys => ?_⟩
        rcases List.mem_append.1 hy with hy | hy
        · obtain ⟨u, hu⟩ := h.has y hy
          rw [hys, hf] at hu
          cases hu
        · rw [List.mem_singleton] at hy
          subst hy
          show cmpE y.b y.b ≤ 0
          rw [cmp_le]; omega
      | some u =>
        obtain ⟨h1, h2, h3⟩ := h.is v.s u hf
        by_cases hc : 0 < cmpE v.b u.b
        · have e : pick2 (some u) v = v := by simp only [pick2]; rw [if_pos hc]
          rw [e]
          refine ⟨by simp, rfl, fun y hy hys => ?_⟩
          rcases List.mem_append.1 hy with hy | hy
          · have := h3 y hy hys
            rw [cmp_le] at this ⊢
            rw [cmp_lt'] at hc
            omega
          · rw [List.mem_singleton] at hy
            subst hy
            rw [cmp_le]; omega
        · have e : pick2 (some u) v = u := by simp only [pick2]; rw [if_neg hc]
          rw [e]
          refine ⟨List.mem_append.2 (.inl h1), h2, fun y hy hys => ?_⟩
          rcases List.mem_append.1 hy with hy | hy
          · exact h3 y hy hys
          · rw [List.mem_singleton] at hy
            subst hy
            omega
    · next hk =>
      obtain ⟨h1, h2, h3⟩ := h.is k u hu
      refine ⟨List.mem_append.2 (.inl h1), h2, fun y hy hys => ?_⟩
      rcases List.mem_append.1 hy with hy | hy
      · exact h3 y hy hys
      · rw [List.mem_singleton] at hy
        subst hy
        exact absurd hys.symm hk
theorem Cov.cnt {s : S} {l : List V} (h : Cov s.f s.fin l) (h0 : s.ask = 0) (v : V) : Cov (cnt1 s v).f (cnt1 s v).fin (l ++ if may 0 v then [v] else []) := by
  unfold cnt1
  rw [h0]
  split
  · next e => exact h.one v (may_iff e).2.1
  · next e => rw [List.append_nil]; exact h
theorem Cov.cntL (vs : List V) : ∀ {s : S} {l : List V}, Cov s.f s.fin l → s.ask = 0 → Cov (cntL s vs).f (cntL s vs).fin (l ++ vs.filter (may 0)) := by
  induction vs with
  | nil => intro s l h _; simpa [M.cntL] using h
  | cons v r ih =>
    intro s l h h0
    have h1 := ih (h.cnt h0 v) (by rw [(cnt1_keep s v).2.2.2.2.1]; exact h0)
    have e : l ++ (v :: r).filter (may 0) = (l ++ if may 0 v then [v] else []) ++ r.filter (may 0) := by
      rw [List.filter_cons, List.append_assoc]
      split <;> rfl
    rw [e]
    exact h1
/-- So many nodes have promised. -/
structure Saf (n me : Int) (Q k : Nat) (s : S) (l : List V) : Prop where
  n : s.n = n
  b : s.b.i = 10 ∧ s.b.t = me
  ask : s.ask = 0
  who : ∀ j, s.who j = decide (j < k)
  st : s.st = if k < Q then 1 else 2
  cov : Cov s.f s.fin l
  c : s.c ≤ 20 * k
theorem safe_lead (n me : Int) (h : nde n me = true) : ldc (S0 n me) ⟨9, 0⟩ 0 = 0 ∧ lde (S0 n me) ⟨9, 0⟩ 0 = ⟨10, me⟩ := by
  have h1 : ldc (S0 n me) ⟨9, 0⟩ 0 = 0 := rfl
  have h2 := (lde_is (Ok.zero h) h1).2.1
  refine ⟨h1, ?_⟩
  have h3 : (lde (S0 n me) ⟨9, 0⟩ 0).i = 10 := rfl
  rcases he : lde (S0 n me) ⟨9, 0⟩ 0 with ⟨i, t⟩
  rw [he] at h2 h3
  simp only at h2 h3
  rw [h3, h2]
  rfl
theorem Saf.zero (n me : Int) (h : nde n me = true) {Q : Nat} (hQ : 0 < Q) : Saf n me Q 0 (lds (S0 n me) ⟨9, 0⟩ 0) [] := by
  obtain ⟨h1, h2⟩ := safe_lead n me h
  have h3 := (lde_is (Ok.zero h) h1).2.2
  rw [h2] at h3
  refine ⟨rfl, by rw [h3]; exact ⟨rfl, rfl⟩, rfl, fun j => by simp; rfl, by rw [if_pos hQ]; rfl, Cov.nil, Nat.le_refl _⟩
theorem wcnt_lt (k : Nat) : ∀ m, wcnt (fun j => decide (j < k)) m = min k m
  | 0 => by simp [wcnt]
  | m + 1 => by
    rw [wcnt, wcnt_lt k m]
    by_cases h : m < k
    · rw [if_pos (by simpa using h)]; omega
    · rw [if_neg (by simpa using h)]; omega
theorem Saf.promise {n me : Int} {Q k : Nat} {s : S} {l : List V} (h : Saf n me Q k s l) (ok : Ok s) (hQ : quo n = Q) (hk : k < Q) (b : E) (hb : b.i = 10 ∧ b.t = me) (vs : List V) (hv : vs.length ≤ 20) : Saf n me Q (k + 1) (prs s k b vs) (l ++ vs.filter (may 0)) := by
  have hn1 := ok.n1
  have hn7 := ok.n7
  rw [h.n] at hn1 hn7
  have hQ' : quo n = n / 2 + 1 := by unfold quo; rw [if_neg (by omega)]
  have hkn : (k : Int) < n := by omega
  have hp : prm s k b = true := by
    unfold prm
    rw [h.st, if_pos hk, h.n, Int.toNat_natCast, h.who, h.b.1, h.b.2, hb.1, hb.2, decide_eq_true hkn]
    simp
  have hws : wset s.who k = fun j => decide (j < k + 1) := by
    funext j
    unfold wset
    by_cases hj : j = k
    · rw [if_pos hj]; subst hj; simp
    · rw [if_neg hj, h.who]
      by_cases hj2 : j < k
      · rw [decide_eq_true hj2, decide_eq_true (by omega)]
      · rw [decide_eq_false hj2, decide_eq_false (by omega)]
  have he : enough s k = decide (Q ≤ k + 1) := by
    unfold enough
    rw [Int.toNat_natCast, hws, wcnt_lt, h.n, hQ, Nat.min_eq_left (by omega)]
    by_cases hx : Q ≤ k + 1
    · rw [decide_eq_true hx, decide_eq_true (by omega)]
    · rw [decide_eq_false hx, decide_eq_false (by omega)]
  have hcv := Cov.cntL vs (s := { s with who := wset s.who k }) (l := l) h.cov h.ask
  obtain ⟨k1, k2, k3, k4, k5, k6, k7⟩ := cntL_keep vs { s with who := wset s.who k }
  have hst0 : s.st = 1 := by rw [h.st, if_pos hk]
  have hc := h.c
  have hc7 : (cntL { s with who := wset s.who k } vs).c ≤ 20 * (k + 1) := by
    have : (cntL { s with who := wset s.who k } vs).c ≤ s.c + vs.length := k7
    omega
  unfold prs
  rw [hp, if_pos rfl, Int.toNat_natCast, he]
  by_cases hx : Q ≤ k + 1
  · rw [decide_eq_true hx, if_pos rfl]
    refine ⟨k1.trans h.n, ⟨by show (cntL _ vs).b.i = 10; rw [k4]; exact h.b.1, by show (cntL _ vs).b.t = me; rw [k4]; exact h.b.2⟩, k5.trans h.ask, fun j => ?_, by rw [if_neg (by omega)], hcv, hc7⟩
    show (cntL _ vs).who j = _
    rw [k6, hws]
  · rw [decide_eq_false hx, if_neg (by simp)]
    refine ⟨k1.trans h.n, ⟨by rw [k4]; exact h.b.1, by rw [k4]; exact h.b.2⟩, k5.trans h.ask, fun j => by rw [k6, hws], by rw [k3, if_pos (by omega)]; exact hst0, hcv, hc7⟩
/-- What is filled. -/
theorem Saf.fill {n me : Int} {Q : Nat} {s : S} {l : List V} (h : Saf n me Q Q s l) : flo s = fl s s.fin.toNat ∧ 2 ≤ s.st := by
  have h2 : s.st = 2 := by rw [h.st, if_neg (by omega)]
  refine ⟨?_, by omega⟩
  unfold flo
  rw [if_pos h2, h.ask, Int.sub_zero]
theorem Saf.out {n me : Int} {Q : Nat} {s : S} {l : List V} (h : Saf n me Q Q s l) (j : Nat) (hj : j < (flo s).length) : ((flo s)[j]).s = j ∧ ((flo s)[j]).b.i = 10 ∧ ((flo s)[j]).b.t = me ∧ ((flo s)[j]).v = val (s.f j) := by
  obtain ⟨e, _⟩ := h.fill
  have hj' : j < (fl s s.fin.toNat).length := by rw [← e]; exact hj
  have e2 : (flo s)[j] = (fl s s.fin.toNat)[j] := by simp only [e]
  have e3 : (fl s s.fin.toNat)[j] = fl1 s j := by simp [fl]
  rw [e2, e3]
  simp only [fl1]
  rw [h.ask, Int.zero_add]
  exact ⟨rfl, h.b.1, h.b.2, rfl⟩
/-- Of each slot that was voted for: it is filled, with the value of one of its greatest ballots. -/
theorem Saf.best {n me : Int} {Q : Nat} {s : S} {l : List V} (h : Saf n me Q Q s l) (v : V) (hv : v ∈ l) : 0 ≤ v.s ∧ v.s < ((flo s).length : Int) ∧ ∃ k, ∃ hk : k < l.length, l[k].s = v.s ∧ val (s.f v.s) = l[k].v ∧ ∀ y ∈ l, y.s = v.s → cmpE y.b l[k].b ≤ 0 := by
  obtain ⟨p1, p2⟩ := h.cov.pos v hv
  obtain ⟨u, hu⟩ := h.cov.has v hv
  obtain ⟨u1, u2, u3⟩ := h.cov.is v.s u hu
  obtain ⟨k, hk, rfl⟩ := List.getElem_of_mem u1
  refine ⟨p1, ?_, k, hk, u2, by rw [hu]; rfl, u3⟩
  rw [h.fill.1, fl_len]
  omega
theorem filter_take (l : List V) (k : Nat) (h : k < l.length) : (l.take (k + 1)).filter (may 0) = (l.take k).filter (may 0) ++ if may 0 l[k] then [l[k]] else [] := by
  rw [List.take_add_one, List.getElem?_eq_getElem h, Option.toList_some, List.filter_append]
  congr 1
  rw [List.filter_cons]
  split <;> rfl
theorem quo_le {n : Int} {Q : Nat} (hQ : quo n = Q) (h0 : Q ≠ 0) : 1 ≤ n ∧ n ≤ 7 ∧ Q ≤ 4 ∧ (Q : Int) ≤ n := by
  unfold quo at hQ
  split at hQ <;> omega
end Go.Proofs.Ytpolmfgklgggcaa.M
