/-
  The chapter's example on plain data.
-/
import Derived.Test.YtgodnpngdbelhaaG24
namespace Go.Proofs.Ytgodnpngdbelhaa
set_option linter.unusedVariables false
open M (E V)
open Rm (NT R)
def exX : ByteArray := ⟨#[120]⟩
def a1 : R := Rm.ppS (Rm.r0 1 0) exX
def a2 : R := Rm.ldS a1
def a3 : R := Rm.stl 50 a2 (Rm.ldN a1) 0
def a4 : R := Rm.ppS a3 exX
def a5 : R := Rm.stl 50 a4 (Rm.ppN a3 exX) 0
def a6 : R := Rm.crS a5
def a7 : R := Rm.ldS a6
def a8 : R := Rm.stl 50 a7 (Rm.ldN a6) 0
theorem ex0 : Np.M.nde 1 0 = true ∧ Np.M.nde 3 3 = false := ⟨by kernel_rfl, by kernel_rfl⟩
theorem ex1 : Np.M.ppc (Rm.r0 1 0).p exX = 16 := by kernel_rfl
theorem ex2 : Rm.stOk 50 a2 (Rm.ldN a1) 0 = true := by kernel_rfl
theorem ex3 : Np.M.ppc a3.p exX = 0 := by kernel_rfl
theorem ex4 : Rm.stOk 50 a4 (Rm.ppN a3 exX) 0 = true := by kernel_rfl
theorem ex5 : Rm.logL a5 = [exX] := by kernel_rfl
theorem ex6 : decide (2 ≤ a5.p.st) = true := by kernel_rfl
theorem ex7 : Rm.logL a6 = [] := by kernel_rfl
theorem ex8 : Rm.stOk 50 a7 (Rm.ldN a6) 0 = true := by kernel_rfl
theorem ex9 : Rm.logL a8 = [exX] := by kernel_rfl
theorem ex10 : Nl.M.nx a8.l = 1 := by kernel_rfl
end Go.Proofs.Ytgodnpngdbelhaa
namespace Go.Proofs.Ytgodnpngdbelhaa
open Go.RowKit Go.Maps
set_option linter.unusedVariables false
open M (E V)
open Rm (NT R)
/-- A row of texts beside a node. -/
structure LB (w : World) (G : Nat → Prop) (ad : Option Addr) (c : Nat) (l : List ByteArray) : Prop where
  xl : XL Nl.tl w ad c l
  blk : ∀ k, blk ad k → k < w.heap.size ∧ ¬ G k
theorem LB.fr {w w' : World} {G G' : Nat → Prop} {ad : Option Addr} {c : Nat} {l : List ByteArray} (h : LB w G ad c l) (hf : Fr w G w' G') : LB w' G' ad c l :=
  ⟨h.xl.keepBut fun k hk hk2 => hf.block k hk (h.blk k hk2).2, fun k hk => ⟨Nat.lt_of_lt_of_le (h.blk k hk).1 hf.size, not_n hf (h.blk k hk).2 (h.blk k hk).1⟩⟩
theorem LB.kp {w w' : World} {G G' : Nat → Prop} {u v : Value} {ad : Option Addr} {c : Nat} {l : List ByteArray} (h : LB w G ad c l) (hf : Kp w G u w' G' v) (hu : ∀ k, Go.Proofs.Ytgodnpngdbelhaa.blk ad k → u.ownBlock ≠ some k) : LB w' G' ad c l :=
  ⟨h.xl.keepBut fun k hk hk2 => hf.block k hk (h.blk k hk2).2 (hu k hk2), fun k hk => ⟨Nat.lt_of_lt_of_le (h.blk k hk).1 hf.size, fun e => by
    rcases hf.n k e with h' | h'
    · exact (h.blk k hk).2 h'
    · have := (h.blk k hk).1; omega⟩⟩
theorem tl_at {w : World} {k : Nat} {l : List ByteArray} (h : w.heap[k]? = some (.cells (Nl.tl.cells l).toArray 9 (0, 0))) : AtL Nl.tl w (some ⟨k, 0, none⟩) l := by
  intro j hj
  refine ⟨k, 0, rfl, fun q hq => ?_⟩
  rw [cell_of_row w _ _ _ _ _ h, List.getElem?_toArray, Nat.zero_add]
  exact Nl.tl.get _ j hj q hq
theorem Kp.below {w w' : World} {F G : Nat → Prop} {u v : Value} (h : Kp w F u w' G v) : w.heap.size ≤ w'.heap.size := h.size
end Go.Proofs.Ytgodnpngdbelhaa
namespace Go.Proofs.Ytgodnpngdbelhaa.Rm
set_option linter.unusedVariables false
open Go.Proofs.Ytgodnpngdbelhaa.M (E V cmpE cmpE_three)

theorem cmp_le {a b : E} : cmpE a b ≤ 0 ↔ (a.i < b.i ∨ (a.i = b.i ∧ a.t ≤ b.t)) := by
  rcases cmpE_three a b with ⟨h, e⟩ | ⟨h, e⟩ | ⟨h, e⟩ <;> rw [e] <;> omega
theorem cmp_lt' {a b : E} : 0 < cmpE a b ↔ (b.i < a.i ∨ (a.i = b.i ∧ b.t < a.t)) := by
  rcases cmpE_three a b with ⟨h, e⟩ | ⟨h, e⟩ | ⟨h, e⟩ <;> rw [e] <;> omega
theorem cmp_ge {a b : E} : 0 ≤ cmpE a b ↔ (b.i < a.i ∨ (a.i = b.i ∧ b.t ≤ a.t)) := by
  rcases cmpE_three a b with ⟨h, e⟩ | ⟨h, e⟩ | ⟨h, e⟩ <;> rw [e] <;> omega
/-- Two votes are not for one slot by one ballot. -/
def Dif (x y : V) : Prop := ¬ (x.s = y.s ∧ x.b.i = y.b.i ∧ x.b.t = y.b.t)
/-- What holds of a node, and all that it asked for. -/
structure Onc (p : Np.M.S) (ap : E) (l : List V) : Prop where
  dif : l.Pairwise Dif
  top : ∀ v ∈ l, cmpE v.b ap ≤ 0
  st1 : 1 ≤ p.st → cmpE p.b ap ≤ 0
  cur : 1 ≤ p.st → ∀ v ∈ l, v.b.i = p.b.i → v.b.t = p.b.t → 2 ≤ p.st ∧ p.ask ≤ v.s ∧ v.s < p.nx ∧ (p.st = 2 → p.fin ≤ v.s)
theorem le_tr {a b c : E} (h : cmpE a b ≤ 0) (k : cmpE b c ≤ 0) : cmpE a c ≤ 0 := by rw [cmp_le] at h k ⊢; omega
section
variable {p p' : Np.M.S} {ap ap' : E} {l : List V}
theorem Onc.up (h : Onc p ap l) (ha : cmpE ap ap' ≤ 0) : Onc p ap' l := ⟨h.dif, fun v hv => le_tr (h.top v hv) ha, fun e => le_tr (h.st1 e) ha, h.cur⟩
theorem Onc.rest (h : Onc p ap l) (hs : p'.st < 1) : Onc p' ap l := ⟨h.dif, h.top, fun e => by omega, fun e => by omega⟩
theorem Onc.step (h : Onc p ap l) (b : E) : Onc (Np.M.sts p b) ap l := by
  unfold Np.M.sts
  split
  · exact h.rest (by show (0 : Int) < 1; decide)
  · exact h
theorem grt_ge (a b : E) : cmpE b (Np.M.grt a b) ≤ 0 ∧ cmpE a (Np.M.grt a b) ≤ 0 := by
  unfold Np.M.grt
  split
  · next h => rw [cmp_lt'] at h; constructor <;> (rw [cmp_le]; omega)
  · next h => rw [cmp_lt'] at h; constructor <;> (rw [cmp_le]; omega)
theorem lde_is (ok : Np.M.Ok p) {a : E} {k : Int} (h : Np.M.ldc p a k = 0) : 0 < cmpE (Np.M.lde p a k) a ∧ M.vld (Np.M.lde p a k) = true ∧ (Np.M.lds p a k).b = Np.M.lde p a k ∧ (Np.M.lds p a k).st = 1 := by
  have hv : M.vld a = true ∧ ¬ 2147483647 ≤ (Np.M.grt a p.b).i := by
    unfold Np.M.ldc at h
    split at h
    · next h1 =>
      simp only [Bool.and_eq_true] at h1
      refine ⟨h1.1, fun h2 => ?_⟩
      rw [if_pos h2] at h
      omega
    · omega
  obtain ⟨hv, hg⟩ := hv
  unfold M.vld at hv
  simp only [Bool.and_eq_true, decide_eq_true_eq] at hv
  obtain ⟨g1, g2⟩ := grt_ge a p.b
  have hm0 := ok.m0
  have hm1 := ok.m1
  have hn := ok.n7
  have e1 : Np.M.lde p a k = M.nxt (Np.M.grt a p.b) p.me := by unfold Np.M.lde; rw [if_pos h]
  have e2 : Np.M.lds p a k = { Np.M.enter p 1 (M.nxt (Np.M.grt a p.b) p.me) with ask := k, fin := k, nx := k } := by unfold Np.M.lds; rw [if_pos h]
  rw [cmp_le] at g1 g2
  have e3 : M.nxt (Np.M.grt a p.b) p.me = ⟨(Np.M.grt a p.b).i + 1, M.nod p.me⟩ := by unfold M.nxt; rw [if_neg (by omega)]
  have e4 : M.nod p.me = p.me := by unfold M.nod; omega
  rw [e1, e2, e3, e4]
  refine ⟨?_, ?_, rfl, rfl⟩
  · rw [cmp_lt']
    simp only
    omega
  · unfold M.vld
    simp only [Bool.and_eq_true, decide_eq_true_eq]
    omega
theorem Onc.lead (h : Onc p ap l) (ok : Np.M.Ok p) {k : Int} (hc : Np.M.ldc p ap k = 0) : Onc (Np.M.lds p ap k) (Np.M.lde p ap k) l := by
  obtain ⟨h1, _, h3, h4⟩ := lde_is ok hc
  rw [cmp_lt'] at h1
  refine ⟨h.dif, fun v hv => ?_, fun _ => ?_, fun _ v hv e1 e2 => ?_⟩
  · have := h.top v hv; rw [cmp_le] at this ⊢; omega
  · rw [h3, cmp_le]; omega
  · have := h.top v hv
    rw [h3] at e1 e2
    rw [cmp_le] at this
    omega
theorem prs_bst (p : Np.M.S) (k : Int) (b : E) (l : List V) (hp : Np.M.prm p k b = true) : (Np.M.prs p k b l).b = p.b ∧ ((Np.M.prs p k b l).st = 1 ∨ (Np.M.prs p k b l).st = 2) ∧ p.st = 1 := by
  have h1 : p.st = 1 := by
    unfold Np.M.prm at hp
    simp only [Bool.and_eq_true, decide_eq_true_eq] at hp
    exact hp.1.1.1.1
  have hk := Np.M.cntL_keep l { p with who := Np.M.wset p.who k.toNat }
  unfold Np.M.prs
  rw [if_pos hp]
  split
  · exact ⟨hk.2.2.2.1, .inr rfl, h1⟩
  · exact ⟨hk.2.2.2.1, .inl (by rw [hk.2.2.1]; exact h1), h1⟩
theorem Onc.promise (h : Onc p ap l) (k : Int) (b : E) (vs : List V) : Onc (Np.M.prs p k b vs) ap l := by
  cases hp : Np.M.prm p k b with
  | false =>
    have e : Np.M.prs p k b vs = p := by unfold Np.M.prs; rw [hp]; rfl
    rw [e]; exact h
  | true =>
    obtain ⟨e1, e2, e3⟩ := prs_bst p k b vs hp
    refine ⟨h.dif, h.top, fun _ => by rw [e1]; exact h.st1 (by omega), fun _ v hv h2 h3 => ?_⟩
    rw [e1] at h2 h3
    have := (h.cur (by omega) v hv h2 h3).1
    omega
theorem Onc.fill (h : Onc p ap l) (ok : Np.M.Ok p) (hs : p.st = 2) : Onc (Np.M.fls p) ap (l ++ Np.M.flo p) := by
  unfold Np.M.fls Np.M.flo
  rw [if_pos hs, if_pos hs]
  have hmem : ∀ v ∈ Np.M.fl p (p.fin - p.ask).toNat, v.b = p.b ∧ p.ask ≤ v.s ∧ v.s < p.fin := by
    intro v hv
    unfold Np.M.fl at hv
    obtain ⟨j, hj, rfl⟩ := List.mem_map.1 hv
    rw [List.mem_range] at hj
    refine ⟨rfl, ?_, ?_⟩ <;> (simp only [Np.M.fl1]; omega)
  have := ok.fx
  have hpb := h.st1 (by omega)
  refine ⟨?_, ?_, fun _ => hpb, ?_⟩
  · rw [List.pairwise_append]
    refine ⟨h.dif, ?_, fun x hx y hy hxy => ?_⟩
    · unfold Np.M.fl
      rw [List.pairwise_map]
      refine List.Pairwise.imp ?_ List.pairwise_lt_range
      intro i j hij hd
      simp only [Np.M.fl1] at hd
      omega
    · obtain ⟨hy1, hy2, hy3⟩ := hmem y hy
      rw [hy1] at hxy
      have := (h.cur (by omega) x hx hxy.2.1 hxy.2.2).2.2.2 hs
      omega
  · intro v hv
    rcases List.mem_append.1 hv with hv | hv
    · exact h.top v hv
    · rw [(hmem v hv).1]; exact hpb
  · intro _ v hv h1 h2
    rcases List.mem_append.1 hv with hv | hv
    · have := h.cur (by omega) v hv h1 h2
      exact ⟨by simp, this.2.1, this.2.2.1, by simp⟩
    · obtain ⟨_, h3, h4⟩ := hmem v hv
      exact ⟨by simp, h3, by show v.s < p.nx; omega, by simp⟩
theorem Onc.propose (h : Onc p ap l) (ok : Np.M.Ok p) {v : ByteArray} (hc : Np.M.ppc p v = 0) : Onc (Np.M.pps p v) ap (l ++ [Np.M.ppv p v]) := by
  have e1 : Np.M.ppv p v = ⟨p.nx, p.b, v⟩ := by unfold Np.M.ppv; rw [if_pos hc]
  have e2 : Np.M.pps p v = { p with nx := p.nx + 1 } := by unfold Np.M.pps; rw [if_pos hc]
  have h2 : 2 ≤ p.st := by
    unfold Np.M.ppc at hc
    split at hc
    · omega
    · split at hc
      · omega
      · split at hc
        · omega
        · omega
  have := ok.fx
  have := ok.af
  have hpb := h.st1 (by omega)
  rw [e1, e2]
  refine ⟨?_, ?_, fun _ => hpb, ?_⟩
  · rw [List.pairwise_append]
    refine ⟨h.dif, List.pairwise_singleton _ _, fun x hx y hy hxy => ?_⟩
    rw [List.mem_singleton] at hy
    subst hy
    simp only at hxy
    have := (h.cur (by omega) x hx hxy.2.1 hxy.2.2).2.2.1
    omega
  · intro x hx
    rcases List.mem_append.1 hx with hx | hx
    · exact h.top x hx
    · rw [List.mem_singleton] at hx
      subst hx
      exact hpb
  · intro _ x hx h3 h4
    rcases List.mem_append.1 hx with hx | hx
    · have := h.cur (by omega) x hx h3 h4
      exact ⟨h2, this.2.1, by show x.s < p.nx + 1; omega, this.2.2.2⟩
    · rw [List.mem_singleton] at hx
      subst hx
      exact ⟨h2, by show p.ask ≤ p.nx; omega, by show p.nx < p.nx + 1; omega, fun _ => by show p.fin ≤ p.nx; omega⟩
end
/-- The votes asked for, of notes: those that go to node 0. -/
def ask1 (x : NT) : List V := if x.k = 3 ∧ x.t = 0 then x.v else []
def acc (l : List NT) : List V := l.flatMap ask1
/-- What holds of a note that goes out. -/
def Good (n me : Int) (x : NT) : Prop := x.f = me ∧ 0 ≤ x.t ∧ x.t < n ∧ 1 ≤ x.k ∧ x.k ≤ 6 ∧ (x.k = 3 → x.v.length = 1)
theorem acc_append (l q : List NT) : acc (l ++ q) = acc l ++ acc q := List.flatMap_append
theorem acc_none {l : List NT} (h : ∀ x ∈ l, x.k ≠ 3) : acc l = [] := by
  unfold acc
  rw [List.flatMap_eq_nil_iff]
  intro x hx
  unfold ask1
  rw [if_neg (fun e => h x hx e.1)]
theorem toF_mem {r : R} {k s : Int} {b : E} {v : List V} {j : Nat} {x : NT} (h : x ∈ toF r k s b v j) : x.k = k ∧ x.f = r.me ∧ 0 ≤ x.t ∧ x.t < j ∧ x.v = v := by
  unfold toF at h
  obtain ⟨i, hi, rfl⟩ := List.mem_map.1 h
  rw [List.mem_range] at hi
  exact ⟨rfl, rfl, by show (0 : Int) ≤ i; omega, by show (i : Int) < j; omega, rfl⟩
theorem toF_good {r : R} {k s : Int} {b : E} {v : List V} (hk : 1 ≤ k ∧ k ≤ 6) (hv : k = 3 → v.length = 1) (hn : 0 ≤ r.n) : ∀ x ∈ toF r k s b v r.n.toNat, Good r.n r.me x := by
  intro x hx
  obtain ⟨h1, h2, h3, h4, h5⟩ := toF_mem hx
  exact ⟨h2, h3, by omega, by omega, by omega, fun e => by rw [h5]; exact hv (by omega)⟩
theorem acc_toE (r : R) (x : V) (hn : 1 ≤ r.n) : acc (toE r 3 x) = [x] := by
  unfold toE toF acc
  obtain ⟨m, hm⟩ : ∃ m, r.n.toNat = m + 1 := ⟨r.n.toNat - 1, by omega⟩
  rw [hm, List.range_succ_eq_map, List.map_cons, List.flatMap_cons, List.map_map]
  have : ask1 ⟨3, r.me, ((0 : Nat) : Int), 0, e0, [x]⟩ = [x] := by unfold ask1; rw [if_pos ⟨rfl, rfl⟩]
  rw [this]
  have h2 : List.flatMap ask1 (List.map ((fun (i : Nat) => (⟨3, r.me, (i : Int), 0, e0, [x]⟩ : NT)) ∘ Nat.succ) (List.range m)) = [] := by
    rw [List.flatMap_eq_nil_iff]
    intro y hy
    obtain ⟨i, -, rfl⟩ := List.mem_map.1 hy
    unfold ask1
    rw [if_neg (fun e => by have : ((i + 1 : Nat) : Int) = 0 := e.2; omega)]
  rw [h2]
  rfl
theorem acc_q2F (r : R) (hn : 1 ≤ r.n) : ∀ l, acc (q2F r l) = l
  | [] => rfl
  | x :: l => by
    have := acc_q2F r hn l
    unfold q2F at this ⊢
    rw [List.flatMap_cons, acc_append, acc_toE r x hn, this]
    rfl
theorem q2F_good (r : R) (hn : 1 ≤ r.n) (l : List V) : ∀ x ∈ q2F r l, Good r.n r.me x := by
  intro x hx
  unfold q2F at hx
  obtain ⟨v, -, hv⟩ := List.mem_flatMap.1 hx
  exact toF_good (by decide) (fun _ => rfl) (by omega) x hv
/-- What holds behind all deeds. -/
structure Inv (n me : Int) (r : R) (l : List V) : Prop where
  n : r.n = n
  me : r.me = me
  base : r.a.base = r.l.base
  onc : Onc r.p r.a.p l
/-- What a deed leaves. -/
structure Did (n me : Int) (r : R) (l : List V) (r' : R) (out : List NT) : Prop where
  inv : Inv n me r' (l ++ acc out)
  good : ∀ x ∈ out, Good n me x
  len : (acc out).length ≤ 1024
section
variable {n me : Int} {r : R} {l : List V}
theorem Inv.zero (n me : Int) : Inv n me (r0 n me) [] := ⟨rfl, rfl, rfl, ⟨List.Pairwise.nil, by simp, fun e => by exact absurd e (by show ¬ (1 : Int) ≤ 0; decide), fun e => by simp⟩⟩
theorem Did.still (h : Inv n me r l) : Did n me r l r [] := ⟨by show Inv n me r (l ++ []); rw [List.append_nil]; exact h, by simp, by simp [acc]⟩
theorem did_none {r' : R} {out : List NT} (h : Inv n me r' l) (hk : ∀ x ∈ out, x.k ≠ 3) (hg : ∀ x ∈ out, Good n me x) : Did n me r l r' out :=
  ⟨by rw [acc_none hk, List.append_nil]; exact h, hg, by rw [acc_none hk]; simp⟩
theorem prs_p (a : Na.M.S) (b : E) (k : Int) : cmpE a.p (Na.M.prs a b k).p ≤ 0 ∧ (Na.M.prs a b k).base = a.base := by
  cases h : Na.M.prb a b k with
  | false => rw [Na.M.prs_no h]; exact ⟨by rw [cmp_le]; omega, rfl⟩
  | true =>
    rw [Na.M.prs_yes h]
    have := Na.M.may_yes (Na.M.prb_may h)
    rw [cmp_ge] at this
    exact ⟨by rw [cmp_le]; show a.p.i < b.i ∨ (a.p.i = b.i ∧ a.p.t ≤ b.t); omega, rfl⟩
theorem acs_p (a : Na.M.S) (v : V) : cmpE a.p (Na.M.acs a v).p ≤ 0 ∧ (Na.M.acs a v).base = a.base := by
  cases h : Na.M.acb a v with
  | false => rw [Na.M.acs_no h]; exact ⟨by rw [cmp_le]; omega, rfl⟩
  | true =>
    rw [Na.M.acs_yes h]
    have := Na.M.may_yes (Na.M.acb_yes h).1
    rw [cmp_ge] at this
    exact ⟨by rw [cmp_le]; show a.p.i < v.b.i ∨ (a.p.i = v.b.i ∧ a.p.t ≤ v.b.t); omega, rfl⟩
theorem did_lead (h : Inv n me r l) (ok : Np.M.Ok r.p) (okl : Nl.M.Ok r.l) (hn : 1 ≤ n) : Did n me r l (ldS r) (ldN r) := by
  unfold ldS ldN
  by_cases hc : ldc r = 0
  · rw [if_pos hc, if_pos hc]
    obtain ⟨h1, h2, h3, h4⟩ := lde_is ok hc
    have hb := okl.nx.2.2.1
    have hpb : Na.M.prb r.a (ldb r) (Nl.M.nx r.l) = true := by
      unfold Na.M.prb Na.M.may
      rw [show M.vld (ldb r) = true from h2, Bool.true_and, Bool.and_eq_true, decide_eq_true_eq, decide_eq_true_eq]
      exact ⟨Int.le_of_lt h1, by rw [h.base]; exact hb⟩
    refine did_none ⟨h.n, h.me, ?_, ?_⟩ (fun x hx => by have := (toF_mem hx).1; omega) (fun x hx => ?_)
    · show (Na.M.prs _ _ _).base = _
      rw [(prs_p _ _ _).2]; exact h.base
    · show Onc (Np.M.lds _ _ _) (Na.M.prs _ _ _).p l
      rw [Na.M.prs_yes hpb]
      exact h.onc.lead ok hc
    · have := toF_good (r := r) (by decide) (fun e => by cases e) (by rw [h.n]; omega) x hx
      rw [h.n, h.me] at this
      exact this
  · rw [if_neg hc, if_neg hc]
    exact Did.still h
theorem did_propose (h : Inv n me r l) (ok : Np.M.Ok r.p) (hn : 1 ≤ n) (v : ByteArray) : Did n me r l (ppS r v) (ppN r v) := by
  unfold ppN
  by_cases hc : Np.M.ppc r.p v = 0
  · rw [if_pos hc]
    have hr : 1 ≤ r.n := by rw [h.n]; exact hn
    refine ⟨?_, fun x hx => ?_, ?_⟩
    · rw [acc_toE r _ hr]
      exact ⟨h.n, h.me, h.base, h.onc.propose ok hc⟩
    · have := toF_good (r := r) (by decide) (fun _ => rfl) (by omega) x hx
      rw [h.n, h.me] at this
      exact this
    · rw [acc_toE r _ hr]; simp
  · rw [if_neg hc]
    have e : ppS r v = r := by unfold ppS Np.M.pps; rw [if_neg hc]
    rw [e]
    exact Did.still h
theorem did_ask (h : Inv n me r l) (x : Int) : Did n me r l r (akN r x) := by
  unfold akN
  split
  · next e =>
    unfold isN at e
    simp only [Bool.and_eq_true, decide_eq_true_eq] at e
    refine did_none h (fun y hy => ?_) (fun y hy => ?_)
    · rw [List.mem_singleton] at hy; subst hy; show (5 : Int) ≠ 3; decide
    · rw [List.mem_singleton] at hy; subst hy
      exact ⟨h.me, e.1, by rw [← h.n]; exact e.2, by show (1 : Int) ≤ 5; decide, by show (5 : Int) ≤ 6; decide, fun e => by cases e⟩
  · exact Did.still h
theorem did_trim (h : Inv n me r l) (okl : Nl.M.Ok r.l) (u : Int) : Did n me r l (trS r u) [] := by
  have hb := okl.base
  have hx := okl.nx
  refine did_none ⟨h.n, h.me, ?_, h.onc⟩ (by simp) (by simp)
  show max r.a.base (min (Nl.M.tb r.l u) 1024) = Nl.M.tb r.l u
  rw [h.base]
  unfold Nl.M.tb
  omega
theorem lfT_td (n : Int) (hn : Nl.M.nde n = true) : ∀ j, j ≤ 1024 → Nl.M.Ok (lfT n j) ∧ (lfT n j).base = 0 ∧ ∀ k : Int, 0 ≤ k → k < j → ((lfT n j).td k).isSome = true
  | 0, _ => ⟨Nl.M.Ok.zero hn, rfl, fun k h1 h2 => by omega⟩
  | j + 1, hj => by
    obtain ⟨h1, h2, h3⟩ := lfT_td n hn j (by omega)
    refine ⟨h1.ts _ _, ?_, fun k k1 k2 => ?_⟩
    · show (Nl.M.ts (lfT n j) j ⟨#[]⟩).base = 0
      unfold Nl.M.ts
      split
      · exact h2
      · exact h2
    · show ((Nl.M.ts (lfT n j) j ⟨#[]⟩).td k).isSome = true
      unfold Nl.M.ts
      split
      · unfold Nl.M.tl
        simp only
        by_cases e : k = (j : Int)
        · rw [e, Nl.M.fup_same]; rfl
        · rw [Nl.M.fup_other _ e]; exact h3 k k1 (by omega)
      · next e =>
        by_cases e2 : k = (j : Int)
        · subst e2
          unfold Nl.M.may at e
          rw [h2, decide_eq_true k1, decide_eq_true (show ((j : Nat) : Int) < 1024 by omega), decide_eq_true (show (⟨#[]⟩ : ByteArray).size ≤ 4096 by decide)] at e
          exact Option.isSome_iff_ne_none.2 (by simpa using e)
        · exact h3 k k1 (by omega)
theorem lf_base (n b : Int) (hn : Nl.M.nde n = true) (h0 : 0 ≤ b) (h1 : b ≤ 1024) : (lf n b).base = b := by
  obtain ⟨B, rfl⟩ : ∃ B : Nat, b = B := ⟨b.toNat, by omega⟩
  obtain ⟨k1, k2, k3⟩ := lfT_td n hn B (by omega)
  have hx := k1.nx
  unfold lf
  rw [show ((B : Int)).toNat = B by omega]
  show Nl.M.tb (lfT n B) B = B
  unfold Nl.M.tb
  rw [k2]
  have : (B : Int) ≤ Nl.M.nx (lfT n B) := by
    rcases Int.lt_or_le (Nl.M.nx (lfT n B)) B with h | h
    · have h4 := k3 _ (by have := hx.2.2.1; omega) h
      rw [hx.2.1] at h4
      cases h4
    · exact h
  omega
theorem did_crash (h : Inv n me r l) (oka : Na.M.Ok r.a) (hn : Nl.M.nde n = true) : Did n me r l (crS r) [] := by
  refine did_none ⟨h.n, h.me, ?_, ?_⟩ (by simp) (by simp)
  · show r.a.base = (lf r.n r.a.base).base
    rw [lf_base r.n r.a.base (by rw [h.n]; exact hn) oka.b0 oka.b1]
  · exact h.onc.rest (by show (0 : Int) < 1; decide)
theorem ts_base (s : Nl.M.S) (k : Int) (v : ByteArray) : (Nl.M.ts s k v).base = s.base := by unfold Nl.M.ts; split <;> rfl
theorem rws_base (s : Nl.M.S) (k : Int) : (Nl.M.rws s k).base = s.base := by unfold Nl.M.rws; split <;> rfl
theorem hs_base (s : Nl.M.S) (f : Int) (x : V) : (Nl.M.hs s f x).base = s.base := by
  unfold Nl.M.hs
  split
  · split
    · exact rws_base _ _
    · exact rws_base _ _
  · rfl
theorem q6L_base : ∀ (v : List V) (l : Nl.M.S), (q6L l v).base = l.base
  | [], l => rfl
  | x :: v, l => by
    have h1 := q6L_base v (Nl.M.ts l x.s x.v)
    have e : q6L l (x :: v) = q6L (Nl.M.ts l x.s x.v) v := rfl
    rw [e, h1, ts_base]
theorem did_take (h : Inv n me r l) (ok : Np.M.Ok r.p) (hn : 1 ≤ n) (x : NT) : Did n me r l (tkS r x) (tkN r x) := by
  unfold tkS tkN
  cases hb : tkb r x with
  | false => exact Did.still h
  | true =>
    have hfn : 0 ≤ x.f ∧ x.f < n := by
      unfold tkb isN at hb
      simp only [Bool.and_eq_true, decide_eq_true_eq] at hb
      rw [← h.n]
      exact hb.2
    have hr : 1 ≤ r.n := by rw [h.n]; exact hn
    simp only [if_true]
    rcases kd_cases x with e | e | ⟨e, hl⟩ | ⟨e, hl⟩ | e | e | e
    · unfold doS doN
      rw [e]
      simp only
      refine did_none ⟨h.n, h.me, ?_, ?_⟩ (fun y hy => ?_) (fun y hy => ?_)
      · unfold q1S
        simp only
        split
        · rw [(prs_p _ _ _).2]; exact h.base
        · exact h.base
      · unfold q1S
        simp only
        split
        · exact (h.onc.step x.b).up (prs_p _ _ _).1
        · exact h.onc.step x.b
      · unfold q1N at hy
        split at hy
        · rw [List.mem_singleton] at hy; subst hy; show (2 : Int) ≠ 3; decide
        · cases hy
      · unfold q1N at hy
        split at hy
        · rw [List.mem_singleton] at hy; subst hy
          exact ⟨h.me, hfn.1, hfn.2, by show (1 : Int) ≤ 2; decide, by show (2 : Int) ≤ 6; decide, fun e => by cases e⟩
        · cases hy
    · unfold doS doN
      rw [e]
      simp only
      unfold q2S q2N
      cases hp : Np.M.prb r.p x.f x.b with
      | false =>
        exact did_none ⟨h.n, h.me, h.base, by simp only [Bool.false_eq_true, if_false]; exact h.onc.promise _ _ _⟩ (by simp) (by simp)
      | true =>
        simp only [if_true]
        have hs2 : (q2P r x.f x.b x.v).st = 2 := by
          unfold Np.M.prb at hp
          simp only [Bool.and_eq_true] at hp
          unfold q2P Np.M.prs
          rw [if_pos hp.1, if_pos hp.2]
        have okp : Np.M.Ok (q2P r x.f x.b x.v) := ok.prs _ _ _
        refine ⟨?_, fun y hy => ?_, ?_⟩
        · rw [acc_q2F r hr]
          exact ⟨h.n, h.me, h.base, (h.onc.promise _ _ _).fill okp hs2⟩
        · have := q2F_good r hr _ y hy
          rw [h.n, h.me] at this
          exact this
        · rw [acc_q2F r hr]; exact flo_len okp
    · unfold doS doN
      rw [e]
      simp only
      refine did_none ⟨h.n, h.me, ?_, ?_⟩ (fun y hy => ?_) (fun y hy => ?_)
      · unfold q3S; simp only; rw [(acs_p _ _).2]; exact h.base
      · unfold q3S; simp only; exact (h.onc.step _).up (acs_p _ _).1
      · unfold q3N at hy
        split at hy
        · have := (toF_mem hy).1; omega
        · cases hy
      · unfold q3N at hy
        split at hy
        · have := toF_good (r := r) (by decide) (fun e => by cases e) (by omega) y hy
          rw [h.n, h.me] at this
          exact this
        · cases hy
    · unfold doS doN
      rw [e]
      simp only
      exact did_none ⟨h.n, h.me, by unfold q4S; simp only; rw [hs_base]; exact h.base, h.onc⟩ (by simp) (by simp)
    · unfold doS doN
      rw [e]
      simp only
      refine did_none h (fun y hy => ?_) (fun y hy => ?_)
      · unfold q5N at hy
        split at hy
        · cases hy
        · split at hy
          · cases hy
          · rw [List.mem_singleton] at hy; subst hy; show (6 : Int) ≠ 3; decide
      · unfold q5N at hy
        split at hy
        · cases hy
        · split at hy
          · cases hy
          · rw [List.mem_singleton] at hy; subst hy
            exact ⟨h.me, hfn.1, hfn.2, by show (1 : Int) ≤ 6; decide, by show (6 : Int) ≤ 6; decide, fun e => by cases e⟩
    · unfold doS doN
      rw [e]
      simp only
      exact did_none ⟨h.n, h.me, by unfold q6S; simp only; rw [q6L_base]; exact h.base, h.onc⟩ (by simp) (by simp)
    · unfold doS doN
      rw [e]
      exact Did.still h
end
end Go.Proofs.Ytgodnpngdbelhaa.Rm
