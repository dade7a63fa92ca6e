/-
  What a node has asked for: by one ballot each slot once, behind crashes too; the law ReplicaOwn, walked.
-/
import Derived.Test.YtfjlanhekheecaaDD
import Derived.Deep.CutBlock
namespace Go.Proofs.Ytfjlanhekheecaa.Rm
set_option linter.unusedVariables false
open Go.Proofs.Ytfjlanhekheecaa.M (E V cmpE cmpE_three)

theorem cmp_le {a b : E} : cmpE a b ≤ 0 ↔ (a.i < b.i ∨ (a.i = b.i ∧ a.t ≤ b.t)) := by
  rcases cmpE_three a b with ⟨h, e⟩ | ⟨h, e⟩ | ⟨h, e⟩ <;> rw [e] <;> omega
theorem cmp_lt' {a b : E} : 0 < cmpE a b ↔ (b.i < a.i ∨ (a.i = b.i ∧ b.t < a.t)) := by
  rcases cmpE_three a b with ⟨h, e⟩ | ⟨h, e⟩ | ⟨h, e⟩ <;> rw [e] <;> omega
theorem cmp_ge {a b : E} : 0 ≤ cmpE a b ↔ (b.i < a.i ∨ (a.i = b.i ∧ b.t ≤ a.t)) := by
  rcases cmpE_three a b with ⟨h, e⟩ | ⟨h, e⟩ | ⟨h, e⟩ <;> rw [e] <;> omega
/-- Two votes are not for one slot by one ballot. -/
def Dif (x y : V) : Prop := ¬ (x.s = y.s ∧ x.b.i = y.b.i ∧ x.b.t = y.b.t)
/-- What holds of a node, and all that it asked for. -/
structure Onc (p : Np.M.S) (ap : E) (l : List V) : Prop where
  dif : l.Pairwise Dif
  top : ∀ v ∈ l, cmpE v.b ap ≤ 0
  st1 : 1 ≤ p.st → cmpE p.b ap ≤ 0
  cur : 1 ≤ p.st → ∀ v ∈ l, v.b.i = p.b.i → v.b.t = p.b.t → 2 ≤ p.st ∧ p.ask ≤ v.s ∧ v.s < p.nx ∧ (p.st = 2 → p.fin ≤ v.s)
theorem le_tr {a b c : E} (h : cmpE a b ≤ 0) (k : cmpE b c ≤ 0) : cmpE a c ≤ 0 := by rw [cmp_le] at h k ⊢; omega
section
variable {p p' : Np.M.S} {ap ap' : E} {l : List V}
theorem Onc.up (h : Onc p ap l) (ha : cmpE ap ap' ≤ 0) : Onc p ap' l := ⟨h.dif, fun v hv => le_tr (h.top v hv) ha, fun e => le_tr (h.st1 e) ha, h.cur⟩
theorem Onc.rest (h : Onc p ap l) (hs : p'.st < 1) : Onc p' ap l := ⟨h.dif, h.top, fun e => by omega, fun e => by omega⟩
theorem Onc.step (h : Onc p ap l) (b : E) : Onc (Np.M.sts p b) ap l := by
  unfold Np.M.sts
  split
  · exact h.rest (by show (0 : Int) < 1; decide)
  · exact h
theorem grt_ge (a b : E) : cmpE b (Np.M.grt a b) ≤ 0 ∧ cmpE a (Np.M.grt a b) ≤ 0 := by
  unfold Np.M.grt
  split
  · next h => rw [cmp_lt'] at h; constructor <;> (rw [cmp_le]; omega)
  · next h => rw [cmp_lt'] at h; constructor <;> (rw [cmp_le]; omega)
theorem lde_is (ok : Np.M.Ok p) {a : E} {k : Int} (h : Np.M.ldc p a k = 0) : 0 < cmpE (Np.M.lde p a k) a ∧ M.vld (Np.M.lde p a k) = true ∧ (Np.M.lds p a k).b = Np.M.lde p a k ∧ (Np.M.lds p a k).st = 1 := by
  have hv : M.vld a = true ∧ ¬ 2147483647 ≤ (Np.M.grt a p.b).i := by
    unfold Np.M.ldc at h
    split at h
    · next h1 =>
      simp only [Bool.and_eq_true] at h1
      refine ⟨h1.1, fun h2 => ?_⟩
      rw [if_pos h2] at h
      omega
    · omega
  obtain ⟨hv, hg⟩ := hv
  unfold M.vld at hv
  simp only [Bool.and_eq_true, decide_eq_true_eq] at hv
  obtain ⟨g1, g2⟩ := grt_ge a p.b
  have hm0 := ok.m0
  have hm1 := ok.m1
  have hn := ok.n7
  have e1 : Np.M.lde p a k = M.nxt (Np.M.grt a p.b) p.me := by unfold Np.M.lde; rw [if_pos h]
  have e2 : Np.M.lds p a k = { Np.M.enter p 1 (M.nxt (Np.M.grt a p.b) p.me) with ask := k, fin := k, nx := k } := by unfold Np.M.lds; rw [if_pos h]
  rw [cmp_le] at g1 g2
  have e3 : M.nxt (Np.M.grt a p.b) p.me = ⟨(Np.M.grt a p.b).i + 1, M.nod p.me⟩ := by unfold M.nxt; rw [if_neg (by omega)]
  have e4 : M.nod p.me = p.me := by unfold M.nod; omega
  rw [e1, e2, e3, e4]
  refine ⟨?_, ?_, rfl, rfl⟩
  · rw [cmp_lt']
    simp only
    omega
  · unfold M.vld
    simp only [Bool.and_eq_true, decide_eq_true_eq]
    omega
theorem Onc.lead (h : Onc p ap l) (ok : Np.M.Ok p) {k : Int} (hc : Np.M.ldc p ap k = 0) : Onc (Np.M.lds p ap k) (Np.M.lde p ap k) l := by
  obtain ⟨h1, _, h3, h4⟩ := lde_is ok hc
  rw [cmp_lt'] at h1
  refine ⟨h.dif, fun v hv => ?_, fun _ => ?_, fun _ v hv e1 e2 => ?_⟩
  · have := h.top v hv; rw [cmp_le] at this ⊢; omega
  · rw [h3, cmp_le]; omega
  · have := h.top v hv
    rw [h3] at e1 e2
    rw [cmp_le] at this
    omega
theorem prs_bst (p : Np.M.S) (k : Int) (b : E) (l : List V) (hp : Np.M.prm p k b = true) : (Np.M.prs p k b l).b = p.b ∧ ((Np.M.prs p k b l).st = 1 ∨ (Np.M.prs p k b l).st = 2) ∧ p.st = 1 := by
  have h1 : p.st = 1 := by
    unfold Np.M.prm at hp
    simp only [Bool.and_eq_true, decide_eq_true_eq] at hp
    exact hp.1.1.1.1
  have hk := Np.M.cntL_keep l { p with who := Np.M.wset p.who k.toNat }
  unfold Np.M.prs
  rw [if_pos hp]
  split
  · exact ⟨hk.2.2.2.1, .inr rfl, h1⟩
  · exact ⟨hk.2.2.2.1, .inl (by rw [hk.2.2.1]; exact h1), h1⟩
theorem Onc.promise (h : Onc p ap l) (k : Int) (b : E) (vs : List V) : Onc (Np.M.prs p k b vs) ap l := by
  cases hp : Np.M.prm p k b with
  | false =>
    have e : Np.M.prs p k b vs = p := by unfold Np.M.prs; rw [hp]; rfl
    rw [e]; exact h
  | true =>
    obtain ⟨e1, e2, e3⟩ := prs_bst p k b vs hp
    refine ⟨h.dif, h.top, fun _ => by rw [e1]; exact h.st1 (by omega), fun _ v hv h2 h3 => ?_⟩
    rw [e1] at h2 h3
    have := (h.cur (by omega) v hv h2 h3).1
    omega
theorem Onc.fill (h : Onc p ap l) (ok : Np.M.Ok p) (hs : p.st = 2) : Onc (Np.M.fls p) ap (l ++ Np.M.flo p) := by
  unfold Np.M.fls Np.M.flo
  rw [if_pos hs, if_pos hs]
  have hmem : ∀ v ∈ Np.M.fl p (p.fin - p.ask).toNat, v.b = p.b ∧ p.ask ≤ v.s ∧ v.s < p.fin := by
    intro v hv
    unfold Np.M.fl at hv
    obtain ⟨j, hj, rfl⟩ := List.mem_map.1 hv
    rw [List.mem_range] at hj
    refine ⟨rfl, ?_, ?_⟩ <;> (simp only [Np.M.fl1]; omega)
  have := ok.fx
  have hpb := h.st1 (by omega)
  refine ⟨?_, ?_, fun _ => hpb, ?_⟩
  · rw [List.pairwise_append]
    refine ⟨h.dif, ?_, fun x hx y hy hxy => ?_⟩
    · unfold Np.M.fl
      rw [List.pairwise_map]
      refine List.Pairwise.imp ?_ List.pairwise_lt_range
      intro i j hij hd
      simp only [Np.M.fl1] at hd
      omega
    · obtain ⟨hy1, hy2, hy3⟩ := hmem y hy
      rw [hy1] at hxy
      have := (h.cur (by omega) x hx hxy.2.1 hxy.2.2).2.2.2 hs
      omega
  · intro v hv
    rcases List.mem_append.1 hv with hv | hv
    · exact h.top v hv
    · rw [(hmem v hv).1]; exact hpb
  · intro _ v hv h1 h2
    rcases List.mem_append.1 hv with hv | hv
    · have := h.cur (by omega) v hv h1 h2
      exact ⟨by simp, this.2.1, this.2.2.1, by simp⟩
    · obtain ⟨_, h3, h4⟩ := hmem v hv
      exact ⟨by simp, h3, by show v.s < p.nx; omega, by simp⟩
theorem Onc.propose (h : Onc p ap l) (ok : Np.M.Ok p) {v : ByteArray} (hc : Np.M.ppc p v = 0) : Onc (Np.M.pps p v) ap (l ++ [Np.M.ppv p v]) := by
  have e1 : Np.M.ppv p v = ⟨p.nx, p.b, v⟩ := by unfold Np.M.ppv; rw [if_pos hc]
  have e2 : Np.M.pps p v = { p with nx := p.nx + 1 } := by unfold Np.M.pps; rw [if_pos hc]
  have h2 : 2 ≤ p.st := by
    unfold Np.M.ppc at hc
    split at hc
    · omega
    · split at hc
      · omega
      · split at hc
        · omega
        · omega
  have := ok.fx
  have := ok.af
  have hpb := h.st1 (by omega)
  rw [e1, e2]
  refine ⟨?_, ?_, fun _ => hpb, ?_⟩
  · rw [List.pairwise_append]
    refine ⟨h.dif, List.pairwise_singleton _ _, fun x hx y hy hxy => ?_⟩
    rw [List.mem_singleton] at hy
    subst hy
    simp only at hxy
    have := (h.cur (by omega) x hx hxy.2.1 hxy.2.2).2.2.1
    omega
  · intro x hx
    rcases List.mem_append.1 hx with hx | hx
    · exact h.top x hx
    · rw [List.mem_singleton] at hx
      subst hx
      exact hpb
  · intro _ x hx h3 h4
    rcases List.mem_append.1 hx with hx | hx
    · have := h.cur (by omega) x hx h3 h4
      exact ⟨h2, this.2.1, by show x.s < p.nx + 1; omega, this.2.2.2⟩
    · rw [List.mem_singleton] at hx
      subst hx
      exact ⟨h2, by show p.ask ≤ p.nx; omega, by show p.nx < p.nx + 1; omega, fun _ => by show p.fin ≤ p.nx; omega⟩
end
/-- The votes asked for, of notes: those that go to node 0. -/
def ask1 (x : NT) : List V := if x.k = 3 ∧ x.t = 0 then x.v else []
def acc (l : List NT) : List V := l.flatMap ask1
/-- What holds of a note that goes out. -/
def Good (n me : Int) (x : NT) : Prop := x.f = me ∧ 0 ≤ x.t ∧ x.t < n ∧ 1 ≤ x.k ∧ x.k ≤ 6 ∧ (x.k = 3 → x.v.length = 1)
theorem acc_append (l q : List NT) : acc (l ++ q) = acc l ++ acc q := List.flatMap_append
theorem acc_none {l : List NT} (h : ∀ x ∈ l, x.k ≠ 3) : acc l = [] := by
  unfold acc
  rw [List.flatMap_eq_nil_iff]
  intro x hx
  unfold ask1
  rw [if_neg (fun e => h x hx e.1)]
theorem toF_mem {r : R} {k s : Int} {b : E} {v : List V} {j : Nat} {x : NT} (h : x ∈ toF r k s b v j) : x.k = k ∧ x.f = r.me ∧ 0 ≤ x.t ∧ x.t < j ∧ x.v = v := by
  unfold toF at h
  obtain ⟨i, hi, rfl⟩ := List.mem_map.1 h
  rw [List.mem_range] at hi
  exact ⟨rfl, rfl, by show (0 : Int) ≤ i; omega, by show (i : Int) < j; omega, rfl⟩
theorem toF_good {r : R} {k s : Int} {b : E} {v : List V} (hk : 1 ≤ k ∧ k ≤ 6) (hv : k = 3 → v.length = 1) (hn : 0 ≤ r.n) : ∀ x ∈ toF r k s b v r.n.toNat, Good r.n r.me x := by
  intro x hx
  obtain ⟨h1, h2, h3, h4, h5⟩ := toF_mem hx
  exact ⟨h2, h3, by omega, by omega, by omega, fun e => by rw [h5]; exact hv (by omega)⟩
theorem acc_toE (r : R) (x : V) (hn : 1 ≤ r.n) : acc (toE r 3 x) = [x] := by
  unfold toE toF acc
  obtain ⟨m, hm⟩ : ∃ m, r.n.toNat = m + 1 := ⟨r.n.toNat - 1, by omega⟩
  rw [hm, List.range_succ_eq_map, List.map_cons, List.flatMap_cons, List.map_map]
  have : ask1 ⟨3, r.me, ((0 : Nat) : Int), 0, e0, [x]⟩ = [x] := by unfold ask1; rw [if_pos ⟨rfl, rfl⟩]
  rw [this]
  have h2 : List.flatMap ask1 (List.map ((fun (i : Nat) => (⟨3, r.me, (i : Int), 0, e0, [x]⟩ : NT)) ∘ Nat.succ) (List.range m)) = [] := by
    rw [List.flatMap_eq_nil_iff]
    intro y hy
    obtain ⟨i, -, rfl⟩ := List.mem_map.1 hy
    unfold ask1
    rw [if_neg (fun e => by have : ((i + 1 : Nat) : Int) = 0 := e.2; omega)]
  rw [h2]
  rfl
theorem acc_q2F (r : R) (hn : 1 ≤ r.n) : ∀ l, acc (q2F r l) = l
  | [] => rfl
  | x :: l => by
    have := acc_q2F r hn l
    unfold q2F at this ⊢
    rw [List.flatMap_cons, acc_append, acc_toE r x hn, this]
    rfl
theorem q2F_good (r : R) (hn : 1 ≤ r.n) (l : List V) : ∀ x ∈ q2F r l, Good r.n r.me x := by
  intro x hx
  unfold q2F at hx
  obtain ⟨v, -, hv⟩ := List.mem_flatMap.1 hx
  exact toF_good (by decide) (fun _ => rfl) (by omega) x hv
/-- What holds behind all deeds. -/
structure Inv (n me : Int) (r : R) (l : List V) : Prop where
  n : r.n = n
  me : r.me = me
  base : r.a.base = r.l.base
  onc : Onc r.p r.a.p l
/-- What a deed leaves. -/
structure Did (n me : Int) (r : R) (l : List V) (r' : R) (out : List NT) : Prop where
  inv : Inv n me r' (l ++ acc out)
  good : ∀ x ∈ out, Good n me x
  len : (acc out).length ≤ 1024
section
variable {n me : Int} {r : R} {l : List V}
theorem Inv.zero (n me : Int) : Inv n me (r0 n me) [] := ⟨rfl, rfl, rfl, ⟨List.Pairwise.nil, by simp, fun e => by exact absurd e (by show ¬ (1 : Int) ≤ 0; decide), fun e => by simp⟩⟩
theorem Did.still (h : Inv n me r l) : Did n me r l r [] := ⟨by show Inv n me r (l ++ []); rw [List.append_nil]; exact h, by simp, by simp [acc]⟩
theorem did_none {r' : R} {out : List NT} (h : Inv n me r' l) (hk : ∀ x ∈ out, x.k ≠ 3) (hg : ∀ x ∈ out, Good n me x) : Did n me r l r' out :=
  ⟨by rw [acc_none hk, List.append_nil]; exact h, hg, by rw [acc_none hk]; simp⟩
theorem prs_p (a : Na.M.S) (b : E) (k : Int) : cmpE a.p (Na.M.prs a b k).p ≤ 0 ∧ (Na.M.prs a b k).base = a.base := by
  cases h : Na.M.prb a b k with
  | false => rw [Na.M.prs_no h]; exact ⟨by rw [cmp_le]; omega, rfl⟩
  | true =>
    rw [Na.M.prs_yes h]
    have := Na.M.may_yes (Na.M.prb_may h)
    rw [cmp_ge] at this
    exact ⟨by rw [cmp_le]; show a.p.i < b.i ∨ (a.p.i = b.i ∧ a.p.t ≤ b.t); omega, rfl⟩
theorem acs_p (a : Na.M.S) (v : V) : cmpE a.p (Na.M.acs a v).p ≤ 0 ∧ (Na.M.acs a v).base = a.base := by
  cases h : Na.M.acb a v with
  | false => rw [Na.M.acs_no h]; exact ⟨by rw [cmp_le]; omega, rfl⟩
  | true =>
    rw [Na.M.acs_yes h]
    have := Na.M.may_yes (Na.M.acb_yes h).1
    rw [cmp_ge] at this
    exact ⟨by rw [cmp_le]; show a.p.i < v.b.i ∨ (a.p.i = v.b.i ∧ a.p.t ≤ v.b.t); omega, rfl⟩
theorem did_lead (h : Inv n me r l) (ok : Np.M.Ok r.p) (okl : Nl.M.Ok r.l) (hn : 1 ≤ n) : Did n me r l (ldS r) (ldN r) := by
  unfold ldS ldN
  by_cases hc : ldc r = 0
  · rw [if_pos hc, if_pos hc]
    obtain ⟨h1, h2, h3, h4⟩ := lde_is ok hc
    have hb := okl.nx.2.2.1
    have hpb : Na.M.prb r.a (ldb r) (Nl.M.nx r.l) = true := by
      unfold Na.M.prb Na.M.may
      rw [show M.vld (ldb r) = true from h2, Bool.true_and, Bool.and_eq_true, decide_eq_true_eq, decide_eq_true_eq]
      exact ⟨Int.le_of_lt h1, by rw [h.base]; exact hb⟩
    refine did_none ⟨h.n, h.me, ?_, ?_⟩ (fun x hx => by have := (toF_mem hx).1; omega) (fun x hx => ?_)
    · show (Na.M.prs _ _ _).base = _
      rw [(prs_p _ _ _).2]; exact h.base
    · show Onc (Np.M.lds _ _ _) (Na.M.prs _ _ _).p l
      rw [Na.M.prs_yes hpb]
      exact h.onc.lead ok hc
    · have := toF_good (r := r) (by decide) (fun e => by cases e) (by rw [h.n]; omega) x hx
      rw [h.n, h.me] at this
      exact this
  · rw [if_neg hc, if_neg hc]
    exact Did.still h
theorem did_propose (h : Inv n me r l) (ok : Np.M.Ok r.p) (hn : 1 ≤ n) (v : ByteArray) : Did n me r l (ppS r v) (ppN r v) := by
  unfold ppN
  by_cases hc : Np.M.ppc r.p v = 0
  · rw [if_pos hc]
    have hr : 1 ≤ r.n := by rw [h.n]; exact hn
    refine ⟨?_, fun x hx => ?_, ?_⟩
    · rw [acc_toE r _ hr]
      exact ⟨h.n, h.me, h.base, h.onc.propose ok hc⟩
    · have := toF_good (r := r) (by decide) (fun _ => rfl) (by omega) x hx
      rw [h.n, h.me] at this
      exact this
    · rw [acc_toE r _ hr]; simp
  · rw [if_neg hc]
    have e : ppS r v = r := by unfold ppS Np.M.pps; rw [if_neg hc]
    rw [e]
    exact Did.still h
theorem did_ask (h : Inv n me r l) (x : Int) : Did n me r l r (akN r x) := by
  unfold akN
  split
  · next e =>
    unfold isN at e
    simp only [Bool.and_eq_true, decide_eq_true_eq] at e
    refine did_none h (fun y hy => ?_) (fun y hy => ?_)
    · rw [List.mem_singleton] at hy; subst hy; show (5 : Int) ≠ 3; decide
    · rw [List.mem_singleton] at hy; subst hy
      exact ⟨h.me, e.1, by rw [← h.n]; exact e.2, by show (1 : Int) ≤ 5; decide, by show (5 : Int) ≤ 6; decide, fun e => by cases e⟩
  · exact Did.still h
theorem did_trim (h : Inv n me r l) (okl : Nl.M.Ok r.l) (u : Int) : Did n me r l (trS r u) [] := by
  have hb := okl.base
  have hx := okl.nx
  refine did_none ⟨h.n, h.me, ?_, h.onc⟩ (by simp) (by simp)
  show max r.a.base (min (Nl.M.tb r.l u) 1024) = Nl.M.tb r.l u
  rw [h.base]
  unfold Nl.M.tb
  omega
theorem lfT_td (n : Int) (hn : Nl.M.nde n = true) : ∀ j, j ≤ 1024 → Nl.M.Ok (lfT n j) ∧ (lfT n j).base = 0 ∧ ∀ k : Int, 0 ≤ k → k < j → ((lfT n j).td k).isSome = true
  | 0, _ => ⟨Nl.M.Ok.zero hn, rfl, fun k h1 h2 => by omega⟩
  | j + 1, hj => by
    obtain ⟨h1, h2, h3⟩ := lfT_td n hn j (by omega)
    refine ⟨h1.ts _ _, ?_, fun k k1 k2 => ?_⟩
    · show (Nl.M.ts (lfT n j) j ⟨#[]⟩).base = 0
      unfold Nl.M.ts
      split
      · exact h2
      · exact h2
    · show ((Nl.M.ts (lfT n j) j ⟨#[]⟩).td k).isSome = true
      unfold Nl.M.ts
      split
      · unfold Nl.M.tl
        simp only
        by_cases e : k = (j : Int)
        · rw [e, Nl.M.fup_same]; rfl
        · rw [Nl.M.fup_other _ e]; exact h3 k k1 (by omega)
      · next e =>
        by_cases e2 : k = (j : Int)
        · subst e2
          unfold Nl.M.may at e
          rw [h2, decide_eq_true k1, decide_eq_true (show ((j : Nat) : Int) < 1024 by omega), decide_eq_true (show (⟨#[]⟩ : ByteArray).size ≤ 4096 by decide)] at e
          exact Option.isSome_iff_ne_none.2 (by simpa using e)
        · exact h3 k k1 (by omega)
theorem lf_base (n b : Int) (hn : Nl.M.nde n = true) (h0 : 0 ≤ b) (h1 : b ≤ 1024) : (lf n b).base = b := by
  obtain ⟨B, rfl⟩ : ∃ B : Nat, b = B := ⟨b.toNat, by omega⟩
  obtain ⟨k1, k2, k3⟩ := lfT_td n hn B (by omega)
  have hx := k1.nx
  unfold lf
  rw [show ((B : Int)).toNat = B by omega]
  show Nl.M.tb (lfT n B) B = B
  unfold Nl.M.tb
  rw [k2]
  have : (B : Int) ≤ Nl.M.nx (lfT n B) := by
    rcases Int.lt_or_le (Nl.M.nx (lfT n B)) B with h | h
    · have h4 := k3 _ (by have := hx.2.2.1; omega) h
      rw [hx.2.1] at h4
      cases h4
    · exact h
  omega
theorem did_crash (h : Inv n me r l) (oka : Na.M.Ok r.a) (hn : Nl.M.nde n = true) : Did n me r l (crS r) [] := by
  refine did_none ⟨h.n, h.me, ?_, ?_⟩ (by simp) (by simp)
  · show r.a.base = (lf r.n r.a.base).base
    rw [lf_base r.n r.a.base (by rw [h.n]; exact hn) oka.b0 oka.b1]
  · exact h.onc.rest (by show (0 : Int) < 1; decide)
theorem ts_base (s : Nl.M.S) (k : Int) (v : ByteArray) : (Nl.M.ts s k v).base = s.base := by unfold Nl.M.ts; split <;> rfl
theorem rws_base (s : Nl.M.S) (k : Int) : (Nl.M.rws s k).base = s.base := by unfold Nl.M.rws; split <;> rfl
theorem hs_base (s : Nl.M.S) (f : Int) (x : V) : (Nl.M.hs s f x).base = s.base := by
  unfold Nl.M.hs
  split
  · split
    · exact rws_base _ _
    · exact rws_base _ _
  · rfl
theorem q6L_base : ∀ (v : List V) (l : Nl.M.S), (q6L l v).base = l.base
  | [], l => rfl
  | x :: v, l => by
    have h1 := q6L_base v (Nl.M.ts l x.s x.v)
    have e : q6L l (x :: v) = q6L (Nl.M.ts l x.s x.v) v := rfl
    rw [e, h1, ts_base]
theorem did_take (h : Inv n me r l) (ok : Np.M.Ok r.p) (hn : 1 ≤ n) (x : NT) : Did n me r l (tkS r x) (tkN r x) := by
  unfold tkS tkN
  cases hb : tkb r x with
  | false => exact Did.still h
  | true =>
    have hfn : 0 ≤ x.f ∧ x.f < n := by
      unfold tkb isN at hb
      simp only [Bool.and_eq_true, decide_eq_true_eq] at hb
      rw [← h.n]
      exact hb.2
    have hr : 1 ≤ r.n := by rw [h.n]; exact hn
    simp only [if_true]
    rcases kd_cases x with e | e | ⟨e, hl⟩ | ⟨e, hl⟩ | e | e | e
    · unfold doS doN
      rw [e]
      simp only
      refine did_none ⟨h.n, h.me, ?_, ?_⟩ (fun y hy => ?_) (fun y hy => ?_)
      · unfold q1S
        simp only
        split
        · rw [(prs_p _ _ _).2]; exact h.base
        · exact h.base
      · unfold q1S
        simp only
        split
        · exact (h.onc.step x.b).up (prs_p _ _ _).1
        · exact h.onc.step x.b
      · unfold q1N at hy
        split at hy
        · rw [List.mem_singleton] at hy; subst hy; show (2 : Int) ≠ 3; decide
        · cases hy
      · unfold q1N at hy
        split at hy
        · rw [List.mem_singleton] at hy; subst hy
          exact ⟨h.me, hfn.1, hfn.2, by show (1 : Int) ≤ 2; decide, by show (2 : Int) ≤ 6; decide, fun e => by cases e⟩
        · cases hy
    · unfold doS doN
      rw [e]
      simp only
      unfold q2S q2N
      cases hp : Np.M.prb r.p x.f x.b with
      | false =>
        exact did_none ⟨h.n, h.me, h.base, by simp only [Bool.false_eq_true, if_false]; exact h.onc.promise _ _ _⟩ (by simp) (by simp)
      | true =>
        simp only [if_true]
        have hs2 : (q2P r x.f x.b x.v).st = 2 := by
          unfold Np.M.prb at hp
          simp only [Bool.and_eq_true] at hp
          unfold q2P Np.M.prs
          rw [if_pos hp.1, if_pos hp.2]
        have okp : Np.M.Ok (q2P r x.f x.b x.v) := ok.prs _ _ _
        refine ⟨?_, fun y hy => ?_, ?_⟩
        · rw [acc_q2F r hr]
          exact ⟨h.n, h.me, h.base, (h.onc.promise _ _ _).fill okp hs2⟩
        · have := q2F_good r hr _ y hy
          rw [h.n, h.me] at this
          exact this
        · rw [acc_q2F r hr]; exact flo_len okp
    · unfold doS doN
      rw [e]
      simp only
      refine did_none ⟨h.n, h.me, ?_, ?_⟩ (fun y hy => ?_) (fun y hy => ?_)
      · unfold q3S; simp only; rw [(acs_p _ _).2]; exact h.base
      · unfold q3S; simp only; exact (h.onc.step _).up (acs_p _ _).1
      · unfold q3N at hy
        split at hy
        · have := (toF_mem hy).1; omega
        · cases hy
      · unfold q3N at hy
        split at hy
        · have := toF_good (r := r) (by decide) (fun e => by cases e) (by omega) y hy
          rw [h.n, h.me] at this
          exact this
        · cases hy
    · unfold doS doN
      rw [e]
      simp only
      exact did_none ⟨h.n, h.me, by unfold q4S; simp only; rw [hs_base]; exact h.base, h.onc⟩ (by simp) (by simp)
    · unfold doS doN
      rw [e]
      simp only
      refine did_none h (fun y hy => ?_) (fun y hy => ?_)
      · unfold q5N at hy
        split at hy
        · cases hy
        · split at hy
          · cases hy
          · rw [List.mem_singleton] at hy; subst hy; show (6 : Int) ≠ 3; decide
      · unfold q5N at hy
        split at hy
        · cases hy
        · split at hy
          · cases hy
          · rw [List.mem_singleton] at hy; subst hy
            exact ⟨h.me, hfn.1, hfn.2, by show (1 : Int) ≤ 6; decide, by show (6 : Int) ≤ 6; decide, fun e => by cases e⟩
    · unfold doS doN
      rw [e]
      simp only
      exact did_none ⟨h.n, h.me, by unfold q6S; simp only; rw [q6L_base]; exact h.base, h.onc⟩ (by simp) (by simp)
    · unfold doS doN
      rw [e]
      exact Did.still h
end
end Go.Proofs.Ytfjlanhekheecaa.Rm
namespace Go.Proofs.Ytfjlanhekheecaa
open Go.RowKit Go.Maps
set_option linter.unusedVariables false
open M (E V)
open Rm (NT R)

theorem row10' {w : World} {k : Nat} {v0 v1 v2 v3 v4 v5 v6 v7 v8 v9 : Value} {t : TypeId} (h : w.heap[k]? = some (.cells #[v0, v1, v2, v3, v4, v5, v6, v7, v8, v9] t (0, 0))) : w.cell? ⟨k, 0, none⟩ = some v0 ∧ w.cell? ⟨k, 1, none⟩ = some v1 ∧ w.cell? ⟨k, 2, none⟩ = some v2 ∧ w.cell? ⟨k, 3, none⟩ = some v3 ∧ w.cell? ⟨k, 4, none⟩ = some v4 ∧ w.cell? ⟨k, 5, none⟩ = some v5 ∧ w.cell? ⟨k, 6, none⟩ = some v6 ∧ w.cell? ⟨k, 7, none⟩ = some v7 ∧ w.cell? ⟨k, 8, none⟩ = some v8 ∧ w.cell? ⟨k, 9, none⟩ = some v9 :=
  ⟨by rw [cell_of_row w k 0 _ _ _ h]; rfl, by rw [cell_of_row w k 1 _ _ _ h]; rfl, by rw [cell_of_row w k 2 _ _ _ h]; rfl, by rw [cell_of_row w k 3 _ _ _ h]; rfl, by rw [cell_of_row w k 4 _ _ _ h]; rfl, by rw [cell_of_row w k 5 _ _ _ h]; rfl, by rw [cell_of_row w k 6 _ _ _ h]; rfl, by rw [cell_of_row w k 7 _ _ _ h]; rfl, by rw [cell_of_row w k 8 _ _ _ h]; rfl, by rw [cell_of_row w k 9 _ _ _ h]; rfl⟩
theorem prs_c (s : Np.M.S) (k : Int) (b : E) (l : List V) : (Np.M.prs s k b l).c ≤ s.c + l.length := by
  unfold Np.M.prs
  have h1 : (Np.M.cntL { s with who := Np.M.wset s.who k.toNat } l).c ≤ s.c + l.length := (Np.M.cntL_keep l { s with who := Np.M.wset s.who k.toNat }).2.2.2.2.2.2
  split
  · split
    · exact h1
    · exact h1
  · exact Nat.le_add_right _ _
theorem lds_c (s : Np.M.S) (a : E) (k : Int) : (Np.M.lds s a k).c = s.c := by unfold Np.M.lds; split <;> rfl
theorem sts_c (s : Np.M.S) (b : E) : (Np.M.sts s b).c = s.c := by unfold Np.M.sts; split <;> rfl
theorem fls_c (s : Np.M.S) : (Np.M.fls s).c = s.c := by unfold Np.M.fls; split <;> rfl
theorem pps_c (s : Np.M.S) (v : ByteArray) : (Np.M.pps s v).c = s.c := by unfold Np.M.pps; split <;> rfl
theorem hs_c (s : Nl.M.S) (f : Int) (x : V) : (Nl.M.hs s f x).c ≤ s.c + 2 := by
  have h1 : (Nl.M.rws s x.s).c ≤ s.c + 1 := by unfold Nl.M.rws; split; exact Nat.le_refl _; exact Nat.le_succ _
  unfold Nl.M.hs
  split
  · split
    · show (Nl.M.rws s x.s).c + 1 ≤ _; omega
    · show (Nl.M.rws s x.s).c ≤ _; omega
  · omega
theorem ldS_c (r : R) : (Rm.ldS r).p.c = r.p.c ∧ (Rm.ldS r).l.c = r.l.c := by
  unfold Rm.ldS
  split
  · exact ⟨lds_c _ _ _, rfl⟩
  · exact ⟨rfl, rfl⟩
theorem tkS_c (r : R) (x : NT) : (Rm.tkS r x).p.c ≤ r.p.c + x.v.length ∧ (Rm.tkS r x).l.c ≤ r.l.c + x.v.length + 2 := by
  unfold Rm.tkS
  split
  · rcases kd_cases x with e | e | ⟨e, hl⟩ | ⟨e, hl⟩ | e | e | e
    · unfold Rm.doS; rw [e]; exact ⟨by show (Np.M.sts _ _).c ≤ _; rw [sts_c]; omega, by show r.l.c ≤ _; omega⟩
    · unfold Rm.doS; rw [e]
      refine ⟨?_, by show r.l.c ≤ _; omega⟩
      have := prs_c r.p x.f x.b x.v
      show (if Np.M.prb r.p x.f x.b then Np.M.fls (Rm.q2P r x.f x.b x.v) else Rm.q2P r x.f x.b x.v).c ≤ _
      split
      · rw [fls_c]; exact this
      · exact this
    · unfold Rm.doS; rw [e]; exact ⟨by show (Np.M.sts _ _).c ≤ _; rw [sts_c]; omega, by show r.l.c ≤ _; omega⟩
    · unfold Rm.doS; rw [e]
      have := hs_c r.l x.f (x.v.headD Rm.v0)
      exact ⟨by show r.p.c ≤ _; omega, by show (Nl.M.hs r.l x.f (x.v.headD Rm.v0)).c ≤ _; omega⟩
    · unfold Rm.doS; rw [e]; exact ⟨by show r.p.c ≤ _; omega, by show r.l.c ≤ _; omega⟩
    · unfold Rm.doS; rw [e]
      have := q6L_c x.v r.l
      exact ⟨by show r.p.c ≤ _; omega, by show (Rm.q6L r.l x.v).c ≤ _; omega⟩
    · unfold Rm.doS; rw [e]; exact ⟨by show r.p.c ≤ _; omega, by show r.l.c ≤ _; omega⟩
  · exact ⟨by omega, by omega⟩
/-- A node and the row of all that it asked for. -/
structure L1 (w wr : World) (F : Nat → Prop) (b : Nat) (r : R) (v : Value) (said : List V) : Prop where
  rs : RS w wr F b r
  ro : OwnL vl 42 wr w.heap.size v said
  ra : ∀ k, v.ownBlock = some k → ¬ F k
theorem L1.keep {w wr w' : World} {F : Nat → Prop} {b : Nat} {r : R} {v : Value} {said : List V} (h : L1 w wr F b r v said) (hb : Below wr.heap.size wr w') : L1 w w' F b r v said := ⟨h.rs.keep hb, h.ro.keep hb, h.ra⟩
/-- What a deed leaves. -/
def CutR (w W2 : World) (F : Nat → Prop) (b : Nat) (n me : Int) (r : R) (said : List V) (k : Nat) (u : Value) (wx : World) : Prop := ∃ G r' out, NO W2 G u wx out ∧ RS w wx G b r' ∧ Fr W2 F wx G ∧ Rm.Did n me r said r' out ∧ r'.p.c ≤ 10 * (k + 1) ∧ r'.l.c ≤ 12 * (k + 1)
/-- The same, while what it said is looked at. -/
structure L2 (w W2 wc wr : World) (G : Nat → Prop) (b : Nat) (r : R) (v : Value) (said : List V) : Prop where
  l1 : L1 w wr G b r v said
  rb : ∀ k, v.ownBlock = some k → k < W2.heap.size ∨ wc.heap.size ≤ k
  kp : ∀ k, k < wc.heap.size → W2.heap.size ≤ k → ¬ G k → wr.heap[k]? = wc.heap[k]?
  sz : wc.heap.size ≤ wr.heap.size
section
variable {w W2 wc wr w' : World} {F G : Nat → Prop} {b : Nat} {r r' : R} {v v' : Value} {said x : List V}
theorem L1.did (h : L1 w W2 F b r v said) (hf : Fr W2 F wc G) (hr : RS w wc G b r') : L2 w W2 wc wc G b r' v said :=
  ⟨⟨hr, h.ro.keepBut (fun k hk hv => hf.block k hk (h.ra k hv)), fun k hk => not_n hf (h.ra k hk) (h.ro.lt hk).2⟩, fun k hk => .inl (h.ro.lt hk).2, fun k _ _ _ => rfl, Nat.le_refl _⟩
theorem L2.keep (h : L2 w W2 wc wr G b r v said) (hb : Below wr.heap.size wr w') : L2 w W2 wc w' G b r v said :=
  ⟨h.l1.keep hb, h.rb, fun k h1 h2 h3 => (hb.block k (Nat.lt_of_lt_of_le h1 h.sz)).trans (h.kp k h1 h2 h3), Nat.le_trans h.sz hb.size⟩
theorem L2.app (h : L2 w W2 wc wr G b r v said) (hr : Rw wr v w' v') (ho : OwnL vl 42 w' w.heap.size v' x) : L2 w W2 wc w' G b r v' x := by
  have hm := h.l1.rs.mine
  refine ⟨⟨h.l1.rs.step (rw_fr hr) (fun k hk e => h.l1.ra k e hk) (fun k e => (h.l1.ro.lt e).1), ho, fun k hk e => ?_⟩, fun k hk => ?_, fun k h1 h2 h3 => ?_, Nat.le_trans h.sz hr.g.size⟩
  · rcases hr.n k hk with h' | h'
    · exact h.l1.ra k h' e
    · have := (hm k e).2; omega
  · rcases hr.n k hk with h' | h'
    · exact h.rb k h'
    · exact .inr (Nat.le_trans h.sz h')
  · rw [hr.g.block k (Nat.lt_of_lt_of_le h1 h.sz) (fun e => by rcases h.rb k e.symm with h' | h' <;> omega)]
    exact h.kp k h1 h2 h3
theorem L2.xs (h : L2 w W2 wc wr G b r v said) {ad : Option Addr} {c : Nat} {ys : List RN} (hx : XS wc (fun k => W2.heap.size ≤ k ∧ ¬ G k) ad c ys) : XS wr (fun k => W2.heap.size ≤ k ∧ ¬ G k) ad c ys :=
  hx.keepBut h.sz fun k hk hp => h.kp k hk hp.1 hp.2
end
set_option maxRecDepth 100000
set_option maxHeartbeats 4000000
theorem own_walk (n me : Int) (a : Option Addr) (cap : Nat) (l : List D) (w : World) (hl : l.length ≤ maxLen) (hd : AtL dl w a l) (hok : ∀ d ∈ l, DOk w d) :
    Calls Try.prog 3 #[.int .i64 n, .int .i64 me, .slice a l.length cap] w fun e w' => e = .returned (.bool true) ∧ Below w.heap.size w w' := by
  have hm' : l.length ≤ 9223372036854775807 := by unfold maxLen at hl; omega
  have cf := few_any a cap l w hl hd hok
  have HD := Hid_of hd
  have HOK := Hid_of hok
  clear hd hok hl
  go_enter Try.func3, Try.ntmps3
  go_wp2_with fail
  refine cf.mono ?_
  clear cf
  rintro e w0 ⟨fb, rfl, hfew, hw0⟩
  obtain rfl := hw0.symm
  clear hw0
  cases fb with
  | false =>
    clear hfew
    go_wp2_with fail
    refine (awake_any _).mono ?_
    rintro e w2 ⟨rfl, hb⟩
    have HB := Hid_of hb
    clear hb
    go_wp2
    go_ret
    exact ⟨rfl, HB.out⟩
  | true =>
    obtain ⟨h40, hfd⟩ := hfew rfl
    have HFW := Hid_of hfd
    clear hfew hfd
    go_wp2_with fail
    refine (new_any w w (Below.refl _ _) n me).mono ?_
    rintro e w1 (⟨-, rfl, hb1⟩ | ⟨hnd, b, F, rfl, h1, hb1, hF1⟩)
    · have HB1 := Hid_of hb1
      clear hb1
      go_wp2_with fail
      refine (awake_any _).mono ?_
      rintro e w2 ⟨rfl, hb⟩
      have HB := Hid_of (bel_up HB1.out hb (Nat.le_refl _))
      clear hb
      go_wp2
      go_ret
      exact ⟨rfl, HB.out⟩
    · have HL0 : Hid (L1 w w1 F b (Rm.r0 n me) (.slice none 0 0) []) := ⟨h1, OwnL.nil _ _ _, fun k hk => by simp [Value.ownBlock] at hk⟩
      have hn1 : 1 ≤ n := by
        unfold Np.M.nde at hnd
        simp only [Bool.and_eq_true, decide_eq_true_eq] at hnd
        exact hnd.1.1.1
      clear h1 hb1 hF1 hnd
      go_wp2_with fail
      go_loopw [8, 9] (fun v i wr => ∃ (k : Nat) (F : Nat → Prop) (r : R) (said : List V), k ≤ l.length ∧ i = .int .i64 k ∧ L1 w wr F b r v said ∧ Rm.Inv n me r said ∧ r.p.c ≤ 10 * k ∧ r.l.c ≤ 12 * k ∧ said.length ≤ 1024 * k) (fun v i _ => l.length - (intOf i).toNat)
      case atStart => exact ⟨0, F, _, _, by omega, rfl, HL0.out, Rm.Inv.zero n me, Nat.le_refl _, Nat.le_refl _, Nat.le_refl _⟩
      case round =>
        clear HL0
        obtain ⟨k, F, r, said, hk, rfl, hol, hinv, hpc, hlc, hln⟩ := hrel
        by_cases hlt : k < l.length
        · have hki : (k : Int) < (l.length : Int) := by omega
          have hbw : Below w.heap.size w wr := hol.rs.bel
          obtain ⟨bd, od, rfl, z0, z1, z2, z3, z4, z5, z6, z7, z8, z9⟩ := AtL.getD (HD.out.keep hbw) k hlt
          have HFD := Hid_of (HFW.out _ (List.getElem_mem hlt))
          have HDk := Hid_of (HOK.out _ (List.getElem_mem hlt))
          obtain ⟨d, HDD⟩ : ∃ d, Hid (l[k] = d) := ⟨_, Hid_of rfl⟩
          rw [HDD.out] at z0 z1 z2 z3 z4 z5 z6 z7 z8 z9 HFD HDk
          clear HDD
          obtain ⟨W3, HW3⟩ : ∃ W3, Hid (wr.alloc (.cells #[.int .i64 d.k, .int .i64 d.dst, .string d.tx, .int .i64 d.y.x.k, .int .i64 d.y.x.f, .int .i64 d.y.x.t, .int .i64 d.y.x.s, .int .i64 d.y.x.b.i, .int .i64 d.y.x.b.t, .slice d.y.ad d.y.x.v.length d.y.c] 34) = W3) := ⟨_, Hid_of rfl⟩
          have hb3 : Below wr.heap.size wr W3 := by rw [← HW3.out]; exact bel1 wr _
          have hr3 : W3.heap[wr.heap.size]? = some (.cells #[.int .i64 d.k, .int .i64 d.dst, .string d.tx, .int .i64 d.y.x.k, .int .i64 d.y.x.f, .int .i64 d.y.x.t, .int .i64 d.y.x.s, .int .i64 d.y.x.b.i, .int .i64 d.y.x.b.t, .slice d.y.ad d.y.x.v.length d.y.c] 34 (0, 0)) := by rw [← HW3.out]; exact heap_alloc_last wr _
          obtain ⟨x0, x1, x2, x3, x4, x5, x6, x7, x8, x9⟩ := row10' hr3
          have HL3 := Hid_of (hol.keep hb3)
          have HB3 := Hid_of (bel_up hbw hb3 (Nat.le_refl _))
          have HINV := Hid_of hinv
          have HC := Hid_of (show r.p.c ≤ 10 * k ∧ r.l.c ≤ 12 * k from ⟨hpc, hlc⟩)
          have HLN := Hid_of hln
          have hk60 : k < 60 := by omega
          clear hol hinv hpc hlc hln hb3 hr3 hbw
          go_upto_region 12 with fail
          rw [HW3.out]
          clear HW3 z0 z1 z2 z3 z4 z5 z6 z7 z8 z9
          go_upto_block 2 with fail
          go_cut [10, 12, 13] from 39 to 64 (fun u m g wx => CutR w W3 F b n me r said k u wx)
          case first =>
            by_cases hk0 : d.k = 0
            · have dk0 : (d.k == 0) = true := by simpa using hk0
              obtain ⟨ba, bp, bl, Fa, Fp, Fl, rfl, hp⟩ := HL3.out.rs
              have cl := hp.lead
              have HD0 := Hid_of (Rm.did_lead HINV.out hp.ps.ok hp.ls.ok hn1)
              have HCC := Hid_of (ldS_c r)
              clear hp hk0
              go_wp2_with fail
              refine cl.mono ?_
              clear cl
              rintro e w5 ⟨u5, G5, rfl, hno, hr5, hf5⟩
              have HQ : Hid (CutR w W3 (uni b Fa Fp Fl) b n me r said k u5 w5) := ⟨G5, _, _, hno, hr5, hf5, HD0.out, by rw [HCC.out.1]; have := HC.out.1; omega, by rw [HCC.out.2]; have := HC.out.2; omega⟩
              clear hno hr5 hf5
              go_wp2_with fail
              go_meet
              case rel => exact HQ.out
            · have dk0 : (d.k == 0) = false := by simpa using hk0
              by_cases hk1 : d.k = 1
              · have dk1 : (d.k == 1) = true := by simpa using hk1
                obtain ⟨ba, bp, bl, Fa, Fp, Fl, rfl, hp⟩ := HL3.out.rs
                have cl := hp.propose d.tx
                have HD0 := Hid_of (Rm.did_propose HINV.out hp.ps.ok hn1 d.tx)
                clear hp hk0 hk1
                go_wp2_with fail
                refine cl.mono ?_
                clear cl
                rintro e w5 ⟨u5, rfl, hno, hr5, hf5⟩
                have HQ : Hid (CutR w W3 (uni b Fa Fp Fl) b n me r said k u5 w5) := ⟨_, _, _, hno, hr5.rs, hf5, HD0.out, by show (Np.M.pps r.p d.tx).c ≤ _; rw [pps_c]; have := HC.out.1; omega, by show r.l.c ≤ _; have := HC.out.2; omega⟩
                clear hno hr5 hf5
                go_wp2_with fail
                go_meet
                case rel => exact HQ.out
              · have dk1 : (d.k == 1) = false := by simpa using hk1
                by_cases hk2 : d.k = 2
                · have dk2 : (d.k == 2) = true := by simpa using hk2
                  have hF := HL3.out.rs.mine
                  obtain ⟨ba, bp, bl, Fa, Fp, Fl, rfl, hp⟩ := HL3.out.rs
                  have hy := (HDk.out.y).keep HB3.out
                  have hyw := HDk.out.y
                  have hfd : d.y.x.v.length ≤ 10 := HFD.out
                  have cl := hp.take d.y hy.xl (fun h0 q hq => by
                    have h1 := AtL.lt hyw.xl.at' h0 q hq
                    exact ⟨Nat.lt_of_lt_of_le h1 HB3.out.size, fun e => by have := (hF q e).1; omega⟩) hy.wf (by have := HC.out.1; omega) (by have := HC.out.2; omega)
                  have HD0 := Hid_of (Rm.did_take HINV.out hp.ps.ok hn1 d.y.x)
                  have HCC := Hid_of (tkS_c r d.y.x)
                  have HFL := Hid_of hfd
                  clear hp hk0 hk1 hk2 hy hyw hfd hF
                  go_wp2_with fail
                  refine cl.mono ?_
                  clear cl
                  rintro e w5 ⟨u5, G5, rfl, hno, hr5, hf5⟩
                  have HQ : Hid (CutR w W3 (uni b Fa Fp Fl) b n me r said k u5 w5) := ⟨G5, _, _, hno, hr5, hf5, HD0.out, by have := HC.out.1; have := HCC.out.1; have := HFL.out; omega, by have := HC.out.2; have := HCC.out.2; have := HFL.out; omega⟩
                  clear hno hr5 hf5
                  go_wp2_with fail
                  go_meet
                  case rel => exact HQ.out
                · have dk2 : (d.k == 2) = false := by simpa using hk2
                  by_cases hk3 : d.k = 3
                  · have dk3 : (d.k == 3) = true := by simpa using hk3
                    obtain ⟨ba, bp, bl, Fa, Fp, Fl, rfl, hp⟩ := HL3.out.rs
                    have cl := hp.ask d.dst
                    have HD0 := Hid_of (Rm.did_ask HINV.out d.dst)
                    have HRS := Hid_of hp
                    clear hp hk0 hk1 hk2 hk3
                    go_wp2_with fail
                    refine cl.mono ?_
                    clear cl
                    rintro e w5 ⟨u5, rfl, hno, hb5⟩
                    have HQ : Hid (CutR w W3 (uni b Fa Fp Fl) b n me r said k u5 w5) := ⟨_, _, _, hno, (HRS.out.keep hb5).rs, Fr.ofBelow hb5, HD0.out, by have := HC.out.1; omega, by have := HC.out.2; omega⟩
                    clear hno hb5
                    go_wp2_with fail
                    go_meet
                    case rel => exact HQ.out
                  · have dk3 : (d.k == 3) = false := by simpa using hk3
                    have HQ : Hid (CutR w W3 F b n me r said k (.slice none 0 0) W3) := ⟨F, r, [], NO.nil _ _ _, HL3.out.rs, Fr.refl _ _, Rm.Did.still HINV.out, by have := HC.out.1; omega, by have := HC.out.2; omega⟩
                    clear hk0 hk1 hk2 hk3
                    go_wp2_with fail
                    go_meet
                    case rel => exact HQ.out
          case rest =>
            obtain ⟨G, r', out, hno, hr5, hf5, hdid, hpc, hlc⟩ := hcut
            obtain ⟨ys, hob, hm⟩ := hno.ob
            have hl2 := HL3.out.did hf5 hr5
            obtain ⟨ad, c, rfl, hx⟩ := hob.ow.at
            have HXS : Hid (XS wc (fun k => W3.heap.size ≤ k ∧ ¬ G k) ad c ys) := ⟨hx.xl, fun k hk => ⟨(hx.blk k hk).1, (hx.blk k hk).2, hob.own k (by obtain ⟨o, z, rfl⟩ := hk; rfl)⟩, fun y hy => ⟨(hx.all y hy).xl, fun k hk => ⟨((hx.all y hy).blk k hk).1, ((hx.all y hy).blk k hk).2, hob.all y hy k hk⟩⟩⟩
            have HM := Hid_of hm
            have HL2 := Hid_of hl2
            have HDID := Hid_of hdid
            have HC2 := Hid_of (show r'.p.c ≤ 10 * (k + 1) ∧ r'.l.c ≤ 12 * (k + 1) from ⟨hpc, hlc⟩)
            have hlen : ys.length = out.length := by rw [← hm, List.length_map]
            have HLEN := Hid_of hlen
            clear hno hob hm hx hl2 hr5 hf5 hdid hpc hlc HL3 HINV HC HFD HDk hlen x0 x1 x2 x3 x4 x5 x6 x7 x8 x9
            obtain ⟨yl, hyl⟩ : ∃ yl, ys.length = yl := ⟨_, rfl⟩
            rw [hyl]
            have HYL := Hid_of hyl
            clear hyl
            go_upto_region 22 with fail
            go_wp2_with fail
            go_loopw [8, 14] (fun v i wr => ∃ j : Nat, j ≤ yl ∧ i = .int .i64 j ∧ L2 w W3 wc wr G b r' v (said ++ Rm.acc (out.take j))) (fun v i _ => yl - (intOf i).toNat)
            case atStart => exact ⟨0, by omega, rfl, by rw [List.take_zero]; show L2 w W3 wc wc G b r' _ (said ++ []); rw [List.append_nil]; exact HL2.out⟩
            case round =>
              obtain ⟨j, hj, rfl, h2⟩ := hrel
              by_cases hlt2 : j < yl
              · have hjn : (j : Int) < (yl : Int) := by omega
                have hjy : j < ys.length := by rw [HYL.out]; exact hlt2
                have hyb : yl ≤ 9223372036854775807 := by have h1 := HXS.out.xl.le; have h2 := HXS.out.xl.mx; unfold maxLen at h2; rw [HYL.out] at h1; omega
                have hwj : IntKind.i64.wrap ((j : Int) + 1) = (j : Int) + 1 := by rw [IntKind.wrap_i64]; omega
                have hjo : j < out.length := by rw [← HLEN.out]; exact hjy
                have hxs := h2.xs HXS.out
                obtain ⟨g0, o0, eA, q0, q1, q2, q3, q4, q5, q6⟩ := AtL.getN hxs.xl.at' j hjy
                have hyx : out[j] = ys[j].x := by
                  have := HM.out
                  subst this
                  simp
                have hgood := HDID.out.good _ (List.getElem_mem hjo)
                have hacc : Rm.acc (out.take (j + 1)) = Rm.acc (out.take j) ++ Rm.ask1 out[j] := by rw [List.take_succ_eq_append_getElem hjo, Rm.acc_append]; unfold Rm.acc; rw [List.flatMap_singleton]
                have haco : Rm.acc out = Rm.acc (out.take (j + 1)) ++ Rm.acc (out.drop (j + 1)) := by rw [← Rm.acc_append, List.take_append_drop]
                have hxn := hxs.all _ (List.getElem_mem hjy)
                obtain ⟨y, HY⟩ : ∃ y, ys[j] = y := ⟨_, rfl⟩
                rw [hyx] at hgood hacc
                rw [HY] at q0 q1 q2 q3 q4 q5 q6 hgood hacc hxn
                clear hyx HY hxs
                obtain ⟨⟨yk, yf, yt, yz, ⟨yi, yj⟩, yv⟩, yad, yc⟩ := y
                simp only at q0 q1 q2 q3 q4 q5 q6
                obtain ⟨hg1, hg2, hg3, hg4, hg5, hg6⟩ := hgood
                simp only at hg1 hg2 hg3 hg4 hg5 hg6
                subst hg1
                obtain ⟨W4, HW4⟩ : ∃ W4, Hid (wr.alloc (.cells #[.int .i64 yk, .int .i64 yf, .int .i64 yt, .int .i64 yz, .int .i64 yi, .int .i64 yj, .slice yad yv.length yc] 32) = W4) := ⟨_, Hid_of rfl⟩
                have hb4 : Below wr.heap.size wr W4 := by rw [← HW4.out]; exact bel1 wr _
                have hr4 : W4.heap[wr.heap.size]? = some (.cells #[.int .i64 yk, .int .i64 yf, .int .i64 yt, .int .i64 yz, .int .i64 yi, .int .i64 yj, .slice yad yv.length yc] 32 (0, 0)) := by rw [← HW4.out]; exact heap_alloc_last wr _
                obtain ⟨⟨b0, b1, b2, b3, b4, b5, b6⟩, -⟩ := row7 hr4
                have HL4 := Hid_of (h2.keep hb4)
                have HR4 := Hid_of hr4
                have HXN := Hid_of (hxn.keep hb4).xl
                have HACC := Hid_of hacc
                have HACO := Hid_of haco
                have e1 : decide (yt < 0) = false := decide_eq_false (by omega)
                have e2 : decide (n ≤ yt) = false := decide_eq_false (by omega)
                have e3 : decide (yk < 1) = false := decide_eq_false (by omega)
                have e4 : decide (6 < yk) = false := decide_eq_false (by omega)
                obtain ⟨a8, c8, hv8, hx8, -⟩ := h2.l1.ro.at
                have HX8 := Hid_of (hx8.keep hb4)
                have HV8 := Hid_of hv8
                obtain ⟨S2, HS2⟩ : ∃ S2, Hid (said ++ Rm.acc (out.take j) = S2) := ⟨_, Hid_of rfl⟩
                rw [HS2.out] at HL4 HX8 hv8
                subst hv8
                clear h2 hb4 hr4 hxn hacc haco hx8
                cases eA
                go_upto_region 26 with fail
                rw [HW4.out]
                clear HW4 q0 q1 q2 q3 q4 q5 q6
                by_cases h3 : yk = 3
                · subst h3
                  by_cases h0 : yt = 0
                  · subst h0
                    obtain ⟨x, rfl⟩ := List.length_eq_one_iff.1 (hg6 rfl)
                    obtain ⟨vs, ⟨vi, vt⟩, vv⟩ := x
                    have hS3 : said ++ Rm.acc (out.take (j + 1)) = S2 ++ [⟨vs, ⟨vi, vt⟩, vv⟩] := by
                      rw [HACC.out, ← List.append_assoc, HS2.out]
                      unfold Rm.ask1
                      rw [if_pos ⟨rfl, rfl⟩]
                    have hdif : ∀ z ∈ S2, Rm.Dif z ⟨vs, ⟨vi, vt⟩, vv⟩ := by
                      have h1 := HDID.out.inv.onc.dif
                      rw [HACO.out, ← List.append_assoc, hS3] at h1
                      have h2 := (List.pairwise_append.1 h1).1
                      intro z hz
                      exact (List.pairwise_append.1 h2).2.2 z hz _ (List.mem_singleton.2 rfl)
                    have hS2l : S2.length ≤ 70000 := by
                      have h1 := HDID.out.len
                      rw [HACO.out, List.length_append] at h1
                      have h2 := congrArg List.length hS3
                      rw [List.length_append, List.length_append] at h2
                      have h3 := HLN.out
                      have h4 : 1024 * k ≤ 1024 * 60 := Nat.mul_le_mul (Nat.le_refl _) (by omega)
                      simp only [List.length_singleton] at h2
                      omega
                    obtain ⟨gv, ov, rfl, v0, v1, v2, v3⟩ := HXN.out.at'.getV 0 (by simp)
                    simp only [List.getElem_cons_zero, Nat.zero_mul, Nat.add_zero] at v0 v1 v2 v3
                    have HVC : Hid (∀ wq, Below W4.heap.size W4 wq → wq.cell? ⟨gv, ov, none⟩ = some (.int .i64 vs) ∧ wq.cell? ⟨gv, ov + 1, none⟩ = some (.int .i64 vi) ∧ wq.cell? ⟨gv, ov + 2, none⟩ = some (.int .i64 vt) ∧ wq.cell? ⟨gv, ov + 3, none⟩ = some (.string vv)) := fun wq hq => by
                      have hk : ∀ o v, W4.cell? ⟨gv, o, none⟩ = some v → wq.cell? ⟨gv, o, none⟩ = some v := fun o v h => (World.cell?_of_block (w := W4) (a := ⟨gv, o, none⟩) (hq.block gv (cell_lt h))).trans h
                      exact ⟨hk _ _ v0, hk _ _ v1, hk _ _ v2, hk _ _ v3⟩
                    have HDIF := Hid_of hdif
                    have HS3 := Hid_of hS3
                    simp only [List.length_cons, List.length_nil, Nat.zero_add] at b6 HR4
                    clear hdif hS3 v0 v1 v2 v3 hg6
                    obtain ⟨g4, hg4'⟩ : ∃ g4, wr.heap.size = g4 := ⟨_, rfl⟩
                    have HG4 := Hid_of hg4'
                    rw [hg4'] at b0 b1 b2 b3 b4 b5 b6 HR4
                    obtain ⟨m2, hm2⟩ : ∃ m2, S2.length = m2 := ⟨_, rfl⟩
                    have HM2 := Hid_of hm2
                    rw [hm2] at hS2l ⊢
                    clear hm2
                    go_upto_region 31 with fail
                    go_wp2_with fail
                    go_loopw [16] (fun i wr => ∃ q : Nat, q ≤ m2 ∧ i = .int .i64 q ∧ Below W4.heap.size W4 wr) (fun i _ => m2 - (intOf i).toNat)
                    case atStart => exact ⟨0, by omega, rfl, Below.refl _ _⟩
                    case round =>
                      clear b0 b1 b2 b3 b4 b5 b6
                      obtain ⟨q, hq, rfl, hbq⟩ := hrel
                      by_cases hlq : q < m2
                      · have hqi : (q : Int) < (m2 : Int) := by omega
                        have hq2 : q < S2.length := by rw [HM2.out]; exact hlq
                        obtain ⟨g8, o8, eB, s0, s1, s2, s3⟩ := (HX8.out.keep hbq).at'.getV q hq2
                        have hds := HDIF.out _ (List.getElem_mem hq2)
                        obtain ⟨z, hz⟩ : ∃ z, S2[q] = z := ⟨_, rfl⟩
                        rw [hz] at s0 s1 s2 s3 hds
                        obtain ⟨as', ⟨ai, aj⟩, av⟩ := z
                        simp only at s0 s1 s2 s3 hds
                        clear hz
                        cases eB
                        have HBQ := Hid_of hbq
                        have HS : Hid (∀ wq, Below wr.heap.size wr wq → (wq.cell? ⟨g8, o8 + q * 4, none⟩ = some (.int .i64 as') ∧ wq.cell? ⟨g8, o8 + q * 4 + 1, none⟩ = some (.int .i64 ai) ∧ wq.cell? ⟨g8, o8 + q * 4 + 2, none⟩ = some (.int .i64 aj) ∧ wq.cell? ⟨g8, o8 + q * 4 + 3, none⟩ = some (.string av)) ∧ (wq.cell? ⟨g4, 0, none⟩ = some (.int .i64 3) ∧ wq.cell? ⟨g4, 1, none⟩ = some (.int .i64 yf) ∧ wq.cell? ⟨g4, 2, none⟩ = some (.int .i64 0) ∧ wq.cell? ⟨g4, 3, none⟩ = some (.int .i64 yz) ∧ wq.cell? ⟨g4, 4, none⟩ = some (.int .i64 yi) ∧ wq.cell? ⟨g4, 5, none⟩ = some (.int .i64 yj) ∧ wq.cell? ⟨g4, 6, none⟩ = some (.slice (some ⟨gv, ov, none⟩) 1 yc)) ∧ (wq.cell? ⟨gv, ov, none⟩ = some (.int .i64 vs) ∧ wq.cell? ⟨gv, ov + 1, none⟩ = some (.int .i64 vi) ∧ wq.cell? ⟨gv, ov + 2, none⟩ = some (.int .i64 vt) ∧ wq.cell? ⟨gv, ov + 3, none⟩ = some (.string vv))) := fun wq hq => by
                          have hk : ∀ o v, wr.cell? ⟨g8, o, none⟩ = some v → wq.cell? ⟨g8, o, none⟩ = some v := fun o v h => (World.cell?_of_block (w := wr) (a := ⟨g8, o, none⟩) (hq.block g8 (cell_lt h))).trans h
                          exact ⟨⟨hk _ _ s0, hk _ _ s1, hk _ _ s2, hk _ _ s3⟩, (row7 (bel_row (bel_row HR4.out HBQ.out) hq)).1, HVC.out wq (bel_up HBQ.out hq (Nat.le_refl _))⟩
                        have hnn2 : q < 9223372036854775807 := by omega
                        clear s0 s1 s2 s3 hbq
                        go_upto_region 34 with fail
                        by_cases hse : as' = vs
                        · subst hse
                          have heq : ∀ w, (binOp .eql 30 (.agg #[.int .i64 ai, .int .i64 aj]) (.agg #[.int .i64 vi, .int .i64 vt])).run Try.prog w = .ok (.bool false) w := fun w => by
                            rw [eq30]
                            have : (decide (ai = vi) && decide (aj = vt)) = false := by
                              rw [Bool.and_eq_false_iff]
                              by_cases h1 : ai = vi
                              · right
                                exact decide_eq_false (fun h2 => hds ⟨rfl, h1, h2⟩)
                              · left
                                exact decide_eq_false h1
                            rw [this]
                          clear hds
                          refine wp_region_held_drew (S := fun wq => Below (wr).heap.size (wr) wq) (by kernel_rfl) (Below.drew (Below.refl _ _)) (fun hHeld => ?_)
                          obtain ⟨wds, hwds⟩ : ∃ wd, wr.drew = wd := ⟨_, rfl⟩
                          have hBwd : Below wr.heap.size wr wds := by rw [← hwds]; exact Below.drew (Below.refl _ _)
                          rw [hwds] at hHeld ⊢
                          clear hwds
                          refine Tm 0 ?p0s ?v0s hHeld ?r0s
                          simp only [Act.put, Pa, Pb, Pc]
                          refine Tm 1 ?p1s ?v1s hHeld ?r1s
                          simp only [Act.put, Pa, Pb, Pc]
                          refine Tm 2 ?p2s ?v2s hHeld ?r2s
                          simp only [Act.put, Pa, Pb, Pc]
                          refine Tm 3 ?p3s ?v3s hHeld ?r3s
                          simp only [Act.put, Pa, Pb, Pc]
                          refine Tk 4 ?p4s ?v4s ?y4s hHeld ?r4s
                          case y4s => intro wq hq; obtain ⟨⟨s0, s1, s2, s3⟩, ⟨b0, b1, b2, b3, b4, b5, b6⟩, ⟨v0, v1, v2, v3⟩⟩ := HS.out wq hq; go_simp; try with_reducible rfl
                          simp only [Act.put, Pa, Pb, Pc]
                          refine Tm 5 ?p5s ?v5s hHeld ?r5s
                          simp only [Act.put, Pa, Pb, Pc]
                          refine Tk 6 ?p6s ?v6s ?y6s hHeld ?r6s
                          case y6s => intro wq hq; obtain ⟨⟨s0, s1, s2, s3⟩, ⟨b0, b1, b2, b3, b4, b5, b6⟩, ⟨v0, v1, v2, v3⟩⟩ := HS.out wq hq; go_simp; try with_reducible rfl
                          simp only [Act.put, Pa, Pb, Pc]
                          refine Tm 7 ?p7s ?v7s hHeld ?r7s
                          simp only [Act.put, Pa, Pb, Pc]
                          refine Tm 8 ?p8s ?v8s hHeld ?r8s
                          simp only [Act.put, Pa, Pb, Pc]
                          refine Tk 9 ?p9s ?v9s ?y9s hHeld ?r9s
                          case y9s => intro wq hq; obtain ⟨⟨s0, s1, s2, s3⟩, ⟨b0, b1, b2, b3, b4, b5, b6⟩, ⟨v0, v1, v2, v3⟩⟩ := HS.out wq hq; go_simp; try with_reducible rfl
                          simp only [Act.put, Pa, Pb, Pc]
                          refine Tm 10 ?p10s ?v10s hHeld ?r10s
                          simp only [Act.put, Pa, Pb, Pc]
                          refine Tm 11 ?p11s ?v11s hHeld ?r11s
                          simp only [Act.put, Pa, Pb, Pc]
                          refine Tm 12 ?p12s ?v12s hHeld ?r12s
                          simp only [Act.put, Pa, Pb, Pc]
                          refine Tm 13 ?p13s ?v13s hHeld ?r13s
                          simp only [Act.put, Pa, Pb, Pc]
                          refine Tm 14 ?p14s ?v14s hHeld ?r14s
                          simp only [Act.put, Pa, Pb, Pc]
                          refine Tm 15 ?p15s ?v15s hHeld ?r15s
                          simp only [Act.put, Pa, Pb, Pc]
                          refine Tk 16 ?p16s ?v16s ?y16s hHeld ?r16s
                          case y16s => intro wq hq; obtain ⟨⟨s0, s1, s2, s3⟩, ⟨b0, b1, b2, b3, b4, b5, b6⟩, ⟨v0, v1, v2, v3⟩⟩ := HS.out wq hq; go_simp; try with_reducible rfl
                          simp only [Act.put, Pa, Pb, Pc]
                          refine Tm 17 ?p17s ?v17s hHeld ?r17s
                          simp only [Act.put, Pa, Pb, Pc]
                          refine Tk 18 ?p18s ?v18s ?y18s hHeld ?r18s
                          case y18s => intro wq hq; obtain ⟨⟨s0, s1, s2, s3⟩, ⟨b0, b1, b2, b3, b4, b5, b6⟩, ⟨v0, v1, v2, v3⟩⟩ := HS.out wq hq; go_simp; try with_reducible rfl
                          simp only [Act.put, Pa, Pb, Pc]
                          refine Tm 19 ?p19s ?v19s hHeld ?r19s
                          simp only [Act.put, Pa, Pb, Pc]
                          refine Tm 20 ?p20s ?v20s hHeld ?r20s
                          simp only [Act.put, Pa, Pb, Pc]
                          refine Tk 21 ?p21s ?v21s ?y21s hHeld ?r21s
                          case y21s => intro wq hq; obtain ⟨⟨s0, s1, s2, s3⟩, ⟨b0, b1, b2, b3, b4, b5, b6⟩, ⟨v0, v1, v2, v3⟩⟩ := HS.out wq hq; go_simp; try with_reducible rfl
                          simp only [Act.put, Pa, Pb, Pc]
                          refine Tm 22 ?p22s ?v22s hHeld ?r22s
                          simp only [Act.put, Pa, Pb, Pc]
                          refine Tm 23 ?p23s ?v23s hHeld ?r23s
                          simp only [Act.put, Pa, Pb, Pc]
                          refine wpAnyH_done (by kernel_rfl) ?_ _
                          have HBX := Hid_of (bel_up HBQ.out hBwd (Nat.le_refl _))
                          clear HS hBwd hHeld
                          go_wp2_with fail
                          go_roundw
                          case rel => exact ⟨q + 1, by omega, by go_num, HBX.out⟩
                          case measure => simp [intOf]; omega
                        · have dse : (as' == vs) = false := by simpa using hse
                          clear hds hse
                          refine wp_region_held_drew (S := fun wq => Below (wr).heap.size (wr) wq) (by kernel_rfl) (Below.drew (Below.refl _ _)) (fun hHeld => ?_)
                          obtain ⟨wdp, hwdp⟩ : ∃ wd, wr.drew = wd := ⟨_, rfl⟩
                          have hBwd : Below wr.heap.size wr wdp := by rw [← hwdp]; exact Below.drew (Below.refl _ _)
                          rw [hwdp] at hHeld ⊢
                          clear hwdp
                          refine Tm 0 ?p0p ?v0p hHeld ?r0p
                          simp only [Act.put, Pa, Pb, Pc]
                          refine Tm 1 ?p1p ?v1p hHeld ?r1p
                          simp only [Act.put, Pa, Pb, Pc]
                          refine Tm 2 ?p2p ?v2p hHeld ?r2p
                          simp only [Act.put, Pa, Pb, Pc]
                          refine Tm 3 ?p3p ?v3p hHeld ?r3p
                          simp only [Act.put, Pa, Pb, Pc]
                          refine Tk 4 ?p4p ?v4p ?y4p hHeld ?r4p
                          case y4p => intro wq hq; obtain ⟨⟨s0, s1, s2, s3⟩, ⟨b0, b1, b2, b3, b4, b5, b6⟩, ⟨v0, v1, v2, v3⟩⟩ := HS.out wq hq; go_simp; try with_reducible rfl
                          simp only [Act.put, Pa, Pb, Pc]
                          refine Tm 5 ?p5p ?v5p hHeld ?r5p
                          simp only [Act.put, Pa, Pb, Pc]
                          refine Tk 6 ?p6p ?v6p ?y6p hHeld ?r6p
                          case y6p => intro wq hq; obtain ⟨⟨s0, s1, s2, s3⟩, ⟨b0, b1, b2, b3, b4, b5, b6⟩, ⟨v0, v1, v2, v3⟩⟩ := HS.out wq hq; go_simp; try with_reducible rfl
                          simp only [Act.put, Pa, Pb, Pc]
                          refine Tm 7 ?p7p ?v7p hHeld ?r7p
                          simp only [Act.put, Pa, Pb, Pc]
                          refine Tm 8 ?p8p ?v8p hHeld ?r8p
                          simp only [Act.put, Pa, Pb, Pc]
                          refine Tk 9 ?p9p ?v9p ?y9p hHeld ?r9p
                          case y9p => intro wq hq; obtain ⟨⟨s0, s1, s2, s3⟩, ⟨b0, b1, b2, b3, b4, b5, b6⟩, ⟨v0, v1, v2, v3⟩⟩ := HS.out wq hq; go_simp; try with_reducible rfl
                          simp only [Act.put, Pa, Pb, Pc]
                          refine Tm 10 ?p10p ?v10p hHeld ?r10p
                          simp only [Act.put, Pa, Pb, Pc]
                          refine Tm 11 ?p11p ?v11p hHeld ?r11p
                          simp only [Act.put, Pa, Pb, Pc]
                          refine Ts 12 ?p12p hHeld ?r12p
                          simp only [Act.put, Pa, Pb, Pc]
                          refine Ts 13 ?p13p hHeld ?r13p
                          simp only [Act.put, Pa, Pb, Pc]
                          refine Ts 14 ?p14p hHeld ?r14p
                          simp only [Act.put, Pa, Pb, Pc]
                          refine Ts 15 ?p15p hHeld ?r15p
                          simp only [Act.put, Pa, Pb, Pc]
                          refine Ts 16 ?p16p hHeld ?r16p
                          simp only [Act.put, Pa, Pb, Pc]
                          refine Ts 17 ?p17p hHeld ?r17p
                          simp only [Act.put, Pa, Pb, Pc]
                          refine Ts 18 ?p18p hHeld ?r18p
                          simp only [Act.put, Pa, Pb, Pc]
                          refine Ts 19 ?p19p hHeld ?r19p
                          simp only [Act.put, Pa, Pb, Pc]
                          refine Ts 20 ?p20p hHeld ?r20p
                          simp only [Act.put, Pa, Pb, Pc]
                          refine Ts 21 ?p21p hHeld ?r21p
                          simp only [Act.put, Pa, Pb, Pc]
                          refine Ts 22 ?p22p hHeld ?r22p
                          simp only [Act.put, Pa, Pb, Pc]
                          refine Tm 23 ?p23p ?v23p hHeld ?r23p
                          simp only [Act.put, Pa, Pb, Pc]
                          refine wpAnyH_done (by kernel_rfl) ?_ _
                          have HBX := Hid_of (bel_up HBQ.out hBwd (Nat.le_refl _))
                          clear HS hBwd hHeld
                          go_wp2_with fail
                          go_roundw
                          case rel => exact ⟨q + 1, by omega, by go_num, HBX.out⟩
                          case measure => simp [intOf]; omega
                      · obtain rfl : q = m2 := by omega
                        have hnl : decide ((q : Int) < (q : Int)) = false := decide_eq_false (by omega)
                        have hl5 := HL4.out.keep hbq
                        obtain ⟨⟨b0, b1, b2, b3, b4, b5, b6⟩, -⟩ := row7 (bel_row HR4.out hbq)
                        obtain ⟨v0, v1, v2, v3⟩ := HVC.out wr hbq
                        obtain ⟨a', c', w6, hrun, ho6, hr6⟩ := Np.app1 ⟨vs, ⟨vi, vt⟩, vv⟩ hl5.l1.ro hl5.l1.rs.bel.size (by rw [HM2.out]; omega)
                        have hl6 := hl5.app hr6 ho6
                        rw [HM2.out] at hrun hl6
                        simp only at hrun
                        have HL6 := Hid_of hl6
                        clear hl5 hl6 ho6 hr6 hbq
                        go_wp2_with (at_builtin; refine wpList_append_known rfl _ _ 27 rfl _ _ rfl rfl _ _ (hrun _) ?_)
                        go_roundw
                        case rel => exact ⟨j + 1, by omega, by go_num, by rw [HS3.out]; exact HL6.out⟩
                        case measure => simp [intOf]; omega
                  · have dt : (yt != 0) = true := by simpa using h0
                    have hS3 : Hid (said ++ Rm.acc (out.take (j + 1)) = S2) := by
                      rw [HACC.out]
                      unfold Rm.ask1
                      rw [if_neg (fun e => h0 e.2), List.append_nil]
                      exact HS2.out
                    clear h0 hg6
                    go_wp2_with fail
                    go_roundw
                    case rel => exact ⟨j + 1, by omega, by go_num, by rw [hS3.out]; exact HL4.out⟩
                    case measure => simp [intOf]; omega
                · have dt : (yk != 3) = true := by simpa using h3
                  have hS3 : Hid (said ++ Rm.acc (out.take (j + 1)) = S2) := by
                    rw [HACC.out]
                    unfold Rm.ask1
                    rw [if_neg (fun e => h3 e.1), List.append_nil]
                    exact HS2.out
                  clear h3 hg6
                  go_wp2_with fail
                  go_roundw
                  case rel => exact ⟨j + 1, by omega, by go_num, by rw [hS3.out]; exact HL4.out⟩
                  case measure => simp [intOf]; omega
              · obtain rfl : j = yl := by omega
                have hnl : decide ((j : Int) < (j : Int)) = false := decide_eq_false (by omega)
                have hfin : L1 w wr G b r' u8 (said ++ Rm.acc out) := by
                  have h3 := h2.l1
                  rw [List.take_of_length_le (by rw [← HLEN.out, HYL.out]; exact Nat.le_refl _)] at h3
                  exact h3
                have HF := Hid_of hfin
                have HSL : Hid ((said ++ Rm.acc out).length ≤ 1024 * (k + 1)) := by
                  have := HLN.out
                  have := HDID.out.len
                  rw [List.length_append]
                  exact Hid_of (by omega)
                clear h2 hfin
                go_wp2_with fail
                go_roundw
                case rel => exact ⟨k + 1, G, r', _, by omega, by go_num, HF.out, HDID.out.inv, HC2.out.1, HC2.out.2, HSL.out⟩
                case measure => simp [intOf]; omega
        · obtain rfl : k = l.length := by omega
          have hnl : decide ((l.length : Int) < (l.length : Int)) = false := decide_eq_false (by omega)
          have HB := Hid_of hol.rs.bel
          clear hol hinv hpc hlc hln
          go_wp2_with fail
          refine (awake_any _).mono ?_
          rintro e w9 ⟨rfl, hb9⟩
          have HB9 := Hid_of (bel_up HB.out hb9 (Nat.le_refl _))
          clear hb9
          go_wp2
          go_ret
          exact ⟨rfl, HB9.out⟩
end Go.Proofs.Ytfjlanhekheecaa
