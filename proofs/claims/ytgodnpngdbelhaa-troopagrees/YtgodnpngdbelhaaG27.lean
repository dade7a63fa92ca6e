/-
  A calm run: one node alone asks and proposes, nothing is lost.
-/
import Derived.Test.YtgodnpngdbelhaaG26
namespace Go.Proofs.Ytgodnpngdbelhaa.Tm
set_option linter.unusedVariables false
open Go.Proofs.Ytgodnpngdbelhaa.M (E V cmpE cmpE_three)
open Go.Proofs.Ytgodnpngdbelhaa.Rm (NT R)
open Nl.M (ck W w0)

/-- All that is under way arrives, in order. -/
def all : Nat → T → T
  | 0, t => t
  | f + 1, t => if t.way.length = 0 then t else all f (dlT t 0)
/-- Some notes arrive, one behind the other: the nodes, and what they said. -/
def bt : (Nat → R) → List NT → (Nat → R) × List NT
  | rs, [] => (rs, [])
  | rs, x :: B => ((bt (upR rs x.t.toNat (Rm.tkS (rs x.t.toNat) x)) B).1, Rm.tkN (rs x.t.toNat) x ++ (bt (upR rs x.t.toNat (Rm.tkS (rs x.t.toNat) x)) B).2)
theorem all_none (n : Nat) (rs : Nat → R) : ∀ f, all f ⟨n, rs, []⟩ = ⟨n, rs, []⟩
  | 0 => rfl
  | f + 1 => by rw [all]; rfl
theorem dl_zero (n : Nat) (rs : Nat → R) (x : NT) (B : List NT) (h : B.length + (Rm.tkN (rs x.t.toNat) x).length ≤ 1024) : dlT ⟨n, rs, x :: B⟩ 0 = ⟨n, upR rs x.t.toNat (Rm.tkS (rs x.t.toNat) x), B ++ Rm.tkN (rs x.t.toNat) x⟩ := by
  have h0 : at' 0 (x :: B).length = 0 := by unfold at'; rw [Int.zero_emod]; rfl
  have ha : atT ⟨n, rs, x :: B⟩ 0 = x := by unfold atT; simp only [h0]; rfl
  unfold dlT
  rw [if_neg (by simp), ha]
  unfold say drT
  simp only [h0, List.eraseIdx_zero, List.tail_cons]
  rw [List.take_of_length_le (by omega)]
theorem all_bt {n : Nat} : ∀ (B : List NT) (rs : Nat → R) (rest : List NT) (f : Nat), B.length + rest.length + (bt rs B).2.length ≤ 1024 → all (B.length + f) ⟨n, rs, B ++ rest⟩ = all f ⟨n, (bt rs B).1, rest ++ (bt rs B).2⟩
  | [], rs, rest, f, h => by
    simp only [bt, List.length_nil, Nat.zero_add, List.nil_append, List.append_nil]
  | x :: B, rs, rest, f, h => by
    simp only [bt, List.length_cons, List.length_append] at h
    rw [show (x :: B).length + f = (B.length + f) + 1 by simp; omega, all, if_neg (by simp), List.cons_append, dl_zero n rs x (B ++ rest) (by rw [List.length_append]; omega), List.append_assoc, all_bt B _ _ f (by rw [List.length_append]; omega)]
    simp only [bt, List.append_assoc]
theorem fm_same {α β : Type} {f g : α → List β} : ∀ {l : List α}, (∀ x ∈ l, f x = g x) → l.flatMap f = l.flatMap g
  | [], _ => rfl
  | x :: l, h => by
    rw [List.flatMap_cons, List.flatMap_cons, h x List.mem_cons_self, fm_same fun y hy => h y (List.mem_cons_of_mem _ hy)]
/-- A note to each of some. -/
theorem bt_each (f : Nat → NT) (ht : ∀ i : Nat, (f i).t = (i : Int)) : ∀ (k s : Nat) (rs : Nat → R), bt rs ((List.range' s k).map f) = (fun j => if s ≤ j ∧ j < s + k then Rm.tkS (rs j) (f j) else rs j, (List.range' s k).flatMap fun j => Rm.tkN (rs j) (f j))
  | 0, s, rs => by
    simp only [List.range'_zero, List.map_nil, bt, List.flatMap_nil]
    congr 1
    funext j
    rw [if_neg (by omega)]
  | k + 1, s, rs => by
    have hs : (f s).t.toNat = s := by rw [ht]; omega
    rw [List.range'_succ, List.map_cons, bt, hs, bt_each f ht k (s + 1), List.flatMap_cons]
    congr 1
    · funext j
      unfold upR
      by_cases e : j = s
      · subst e
        dsimp only
        rw [if_neg (by omega), if_pos rfl, if_pos (by omega)]
      · simp only [if_neg e]
        by_cases h : s + 1 ≤ j ∧ j < s + 1 + k
        · rw [if_pos h, if_pos (by omega)]
        · rw [if_neg h, if_neg (by omega)]
    · congr 1
      refine fm_same fun j hj => ?_
      have := List.mem_range'_1.1 hj
      unfold upR
      rw [if_neg (by omega)]
theorem bt_append : ∀ (B C : List NT) (rs : Nat → R), bt rs (B ++ C) = ((bt (bt rs B).1 C).1, (bt rs B).2 ++ (bt (bt rs B).1 C).2)
  | [], C, rs => by simp [bt]
  | x :: B, C, rs => by
    rw [List.cons_append, bt, bt_append B C]
    simp only [bt, List.append_assoc]
theorem ck_low (m : Nat) : ∀ k, ck (fun i => decide (i < m)) k = min m k
  | 0 => by simp [ck]
  | k + 1 => by
    rw [ck, ck_low m k]
    by_cases h : k < m
    · rw [decide_eq_true h]; simp; omega
    · rw [decide_eq_false h]; simp; omega
/-- A learner that was told so many. -/
structure Ln (n : Nat) (l : List ByteArray) (r : Nl.M.S) : Prop where
  nn : r.n = (n : Int)
  base : r.base = 0
  ok : Nl.M.Ok r
  td : ∀ s : Int, r.td s = if 0 ≤ s then l[s.toNat]? else none
  vs : ∀ s : Int, (l.length : Int) ≤ s → r.vs s = []
/-- One that has heard k nodes of the next slot. -/
structure Lm (n : Nat) (l : List ByteArray) (u : V) (k : Nat) (r : Nl.M.S) : Prop where
  nn : r.n = (n : Int)
  base : r.base = 0
  ok : Nl.M.Ok r
  td : ∀ s : Int, r.td s = if 0 ≤ s then l[s.toNat]? else none
  vs : ∀ s : Int, (l.length : Int) < s → r.vs s = []
  row : ∀ i : Nat, (Nl.M.row r u.s).getD i w0 = if i < k then Nl.M.hh u else w0
def Lk (n : Nat) (l : List ByteArray) (u : V) (k : Nat) (r : Nl.M.S) : Prop := ((k : Int) < M.quo n → Lm n l u k r) ∧ (M.quo n ≤ k → Ln n (l ++ [u.v]) r)
section
variable {n : Nat} {l : List ByteArray} {u : V} {r : Nl.M.S}
theorem Ln.log (h : Ln n l r) (hl : l.length ≤ 1024) : Nl.M.lgs r 0 = l := by
  have hnx : Nl.M.nx r = l.length := by
    refine Nl.M.nx_of h.ok (by rw [h.base]; omega) (fun j h1 h2 => ?_) ?_
    · rw [h.base] at h1
      rw [h.td, if_pos h1, List.getElem?_eq_getElem (by omega)]
      rfl
    · rw [h.td, if_pos (by omega), List.getElem?_eq_none (by omega)]
  have hm : max 0 r.base = 0 := by rw [h.base]; rfl
  have hlen : Nl.M.lgn r 0 = l.length := by unfold Nl.M.lgn; rw [hnx, hm]; omega
  unfold Nl.M.lgs
  rw [hm, hlen]
  refine List.ext_getElem (Nl.M.lg_len _ _ _) fun j h1 h2 => ?_
  rw [Nl.M.lg_get _ _ _ _ h2, h.td, if_pos (by omega), show ((0 : Int) + (j : Nat)).toNat = j by omega, List.getElem?_eq_getElem h2]
  rfl
theorem Ln.mid (h : Ln n l r) (hu : u.s = l.length) : Lm n l u 0 r := by
  refine ⟨h.nn, h.base, h.ok, h.td, fun s hs => h.vs s (by omega), fun i => ?_⟩
  have e : r.vs u.s = [] := h.vs _ (by omega)
  unfold Nl.M.row
  rw [if_pos (by rw [e]; rfl), if_neg (by omega), List.getD_eq_getElem?_getD, List.getElem?_replicate]
  split <;> rfl
theorem Lk.zero (hn : 1 ≤ n ∧ n ≤ 7) (h : Ln n l r) (hu : u.s = l.length) : Lk n l u 0 r := by
  refine ⟨fun _ => h.mid hu, fun e => ?_⟩
  exfalso
  unfold M.quo at e
  rw [if_neg (by omega)] at e
  omega
theorem wq_hh (u : V) : Nl.M.wq (Nl.M.hh u) (Nl.M.hh u) = true := by
  unfold Nl.M.wq
  simp
theorem wq_w0 (u : V) : Nl.M.wq w0 (Nl.M.hh u) = false := rfl
theorem Lk.step (hn : 1 ≤ n ∧ n ≤ 7) {k : Nat} (hk : k < n) (h : Lk n l u k r) (hu : u.s = l.length) (hl : l.length < 1024) (hb : M.vld u.b = true) (hv : u.v.size ≤ 4096) : Lk n l u (k + 1) (Nl.M.hs r (k : Int) u) := by
  by_cases hq : (k : Int) < M.quo n
  · have g := h.1 hq
    have htd : r.td u.s = none := by rw [g.td, if_pos (by omega), List.getElem?_eq_none (by omega)]
    have hmay : Nl.M.may r u.s u.v = true := by
      unfold Nl.M.may
      rw [htd, g.base]
      simp
      omega
    have hok : Nl.M.hok r (k : Int) u = true := by
      unfold Nl.M.hok
      rw [hmay, hb, g.nn]
      simp
      omega
    have hlen : (Nl.M.row r u.s).length = n := by rw [Nl.M.row_len g.ok, g.nn]; omega
    have hhl : Nl.M.hl (Nl.M.row r u.s) k u = (Nl.M.row r u.s).set k (Nl.M.hh u) := by
      unfold Nl.M.hl Nl.M.hc
      have e := g.row k
      rw [if_neg (Nat.lt_irrefl k)] at e
      rw [e]
      rfl
    obtain ⟨R, hR⟩ : ∃ R, R = (Nl.M.row r u.s).set k (Nl.M.hh u) := ⟨_, rfl⟩
    have hRl : R.length = n := by rw [hR, List.length_set, hlen]
    have hRg : ∀ i : Nat, R.getD i w0 = if i < k + 1 then Nl.M.hh u else w0 := by
      intro i
      rw [hR, List.getD_eq_getElem?_getD, List.getElem?_set]
      by_cases e : k = i
      · subst e
        rw [if_pos rfl, if_pos (by omega), if_pos (by omega)]
        rfl
      · rw [if_neg e, ← List.getD_eq_getElem?_getD, g.row i]
        by_cases e2 : i < k
        · rw [if_pos e2, if_pos (by omega)]
        · rw [if_neg e2, if_neg (by omega)]
    have hag : Nl.M.hag r.n R (Nl.M.hh u) = decide (M.quo n ≤ ((k + 1 : Nat) : Int)) := by
      unfold Nl.M.hag
      have : ck (fun i => Nl.M.wq (R.getD i w0) (Nl.M.hh u)) R.length = k + 1 := by
        rw [hRl, ck_same (g := fun i => decide (i < k + 1)) n (fun i hi => ?_), ck_low]
        · omega
        · rw [hRg i]
          split
          · next e => rw [wq_hh, decide_eq_true e]
          · next e => rw [wq_w0, decide_eq_false e]
      rw [this, g.nn]
    obtain ⟨r1, r2, r3, r4, r5⟩ := Nl.M.rws_td r u.s
    have hvs : ∀ s, s ≠ u.s → (Nl.M.rws r u.s).vs s = r.vs s := fun s hs => by
      unfold Nl.M.rws
      split
      · exact Nl.M.fup_other _ hs
      · rfl
    have hok2 := g.ok.hs (k : Int) u
    unfold Nl.M.hs at hok2 ⊢
    rw [if_pos hok, Int.toNat_natCast, hhl, ← hR, hag] at hok2 ⊢
    refine ⟨fun hq2 => ?_, fun hq2 => ?_⟩
    · rw [if_neg (by rw [decide_eq_true_eq]; omega)] at hok2 ⊢
      refine ⟨r2.trans g.nn, r3.trans g.base, hok2, fun s => by show (Nl.M.rws r u.s).td s = _; rw [r1]; exact g.td s, fun s hs => ?_, fun i => ?_⟩
      · show Nl.M.fup (Nl.M.rws r u.s).vs u.s R s = []
        rw [Nl.M.fup_other _ (by omega), hvs s (by omega)]
        exact g.vs s hs
      · unfold Nl.M.row
        have e : (Nl.M.sv (Nl.M.rws r u.s) u.s R).vs u.s = R := Nl.M.fup_same _ _ _
        rw [e, if_neg (by omega)]
        exact hRg i
    · rw [if_pos (by rw [decide_eq_true_eq]; exact hq2)] at hok2 ⊢
      refine ⟨r2.trans g.nn, r3.trans g.base, hok2, fun s => ?_, fun s hs => ?_⟩
      · show Nl.M.fup (Nl.M.rws r u.s).td u.s (some u.v) s = _
        rw [r1]
        by_cases e : s = u.s
        · rw [e, Nl.M.fup_same, if_pos (by omega), hu, Int.toNat_natCast, List.getElem?_append_right (Nat.le_refl _), Nat.sub_self]
          rfl
        · rw [Nl.M.fup_other _ e, g.td]
          by_cases e0 : 0 ≤ s
          · rw [if_pos e0, if_pos e0]
            by_cases e1 : s.toNat < l.length
            · rw [List.getElem?_append_left e1]
            · rw [List.getElem?_eq_none (by omega), List.getElem?_eq_none (by rw [List.length_append, List.length_singleton]; omega)]
          · rw [if_neg e0, if_neg e0]
      · show Nl.M.fup (Nl.M.fup (Nl.M.rws r u.s).vs u.s R) u.s [] s = []
        rw [List.length_append, List.length_singleton] at hs
        rw [Nl.M.fup_other _ (by omega), Nl.M.fup_other _ (by omega), hvs s (by omega)]
        exact g.vs s (by omega)
  · have g := h.2 (by omega)
    have e : Nl.M.hs r (k : Int) u = r := by
      unfold Nl.M.hs
      rw [if_neg]
      intro e
      obtain ⟨_, _, _, e⟩ := Nl.M.hok_yes e
      have := (Nl.M.may_yes e).2.2.2
      rw [g.td, if_pos (by omega), hu, Int.toNat_natCast, List.getElem?_append_right (Nat.le_refl _), Nat.sub_self] at this
      cases this
    rw [e]
    exact ⟨fun _ => by omega, fun _ => g⟩
end

/-- Nodes that have one leader, and the same log. -/
structure Cs (n node : Nat) (b : E) (l : List ByteArray) (rs : Nat → R) : Prop where
  nd : ∀ j, j < n → (rs j).n = (n : Int) ∧ (rs j).me = (j : Int) ∧ (rs j).a.p = b ∧ (rs j).a.base = 0
  p : (rs node).p.st = 3 ∧ (rs node).p.b = b ∧ (rs node).p.nx = l.length
  l : ∀ j, j < n → Ln n l (rs j).l
section
variable {n node : Nat} {b : E} {l : List ByteArray} {u : V} {r : R} {rs : Nat → R}
theorem tkb_yes {x : NT} {j : Nat} (h1 : r.n = (n : Int)) (h2 : r.me = (j : Int)) (ht : x.t = (j : Int)) (hf : 0 ≤ x.f ∧ x.f < n) : Rm.tkb r x = true := by
  unfold Rm.tkb Rm.isN
  rw [Bool.and_eq_true, Bool.and_eq_true, decide_eq_true_eq, decide_eq_true_eq, decide_eq_true_eq]
  omega
theorem tk4 {s j : Nat} (h1 : r.n = (n : Int)) (h2 : r.me = (j : Int)) (hs : s < n) : Rm.tkS r ⟨4, s, j, 0, Rm.e0, [u]⟩ = Rm.q4S r s u ∧ Rm.tkN r ⟨4, s, j, 0, Rm.e0, [u]⟩ = [] := by
  have hb : Rm.tkb r ⟨4, s, j, 0, Rm.e0, [u]⟩ = true := tkb_yes h1 h2 rfl (by simp only; omega)
  unfold Rm.tkS Rm.tkN
  rw [hb]
  exact ⟨rfl, rfl⟩
theorem tk3 {s j : Nat} (h1 : r.n = (n : Int)) (h2 : r.me = (j : Int)) (hs : s < n) (ha : Na.M.acb r.a u = true) : Rm.tkS r ⟨3, s, j, 0, Rm.e0, [u]⟩ = Rm.q3S r u ∧ Rm.tkN r ⟨3, s, j, 0, Rm.e0, [u]⟩ = Rm.toE r 4 u := by
  have hb : Rm.tkb r ⟨3, s, j, 0, Rm.e0, [u]⟩ = true := tkb_yes h1 h2 rfl (by simp only; omega)
  unfold Rm.tkS Rm.tkN
  rw [hb]
  refine ⟨rfl, ?_⟩
  show Rm.q3N r u = _
  unfold Rm.q3N
  rw [if_pos ha]
/-- All hear what all voted. -/
theorem bt4 (hn : 1 ≤ n ∧ n ≤ 7) (hu : u.s = l.length) (hl : l.length < 1024) (hb : M.vld u.b = true) (hv : u.v.size ≤ 4096) : ∀ (k s : Nat) (rs : Nat → R), s + k ≤ n → (∀ j, j < n → (rs j).n = (n : Int) ∧ (rs j).me = (j : Int) ∧ Lk n l u s (rs j).l) →
    ∃ rs', bt rs ((List.range' s k).flatMap fun (j : Nat) => (List.range n).map fun (i : Nat) => (⟨4, (j : Int), (i : Int), 0, Rm.e0, [u]⟩ : NT)) = (rs', []) ∧ ∀ j, j < n → (rs' j).n = (rs j).n ∧ (rs' j).me = (rs j).me ∧ (rs' j).a = (rs j).a ∧ (rs' j).p = (rs j).p ∧ Lk n l u (s + k) (rs' j).l
  | 0, s, rs, hk, h => ⟨rs, by simp [bt], fun j hj => ⟨rfl, rfl, rfl, rfl, (h j hj).2.2⟩⟩
  | k + 1, s, rs, hk, h => by
    rw [List.range'_succ, List.flatMap_cons, bt_append, List.range_eq_range', bt_each (fun (i : Nat) => (⟨4, (s : Int), (i : Int), 0, Rm.e0, [u]⟩ : NT)) (fun _ => rfl)]
    have h0 : ((List.range' 0 n).flatMap fun j => Rm.tkN (rs j) ⟨4, (s : Int), (j : Int), 0, Rm.e0, [u]⟩) = [] := by
      rw [List.flatMap_eq_nil_iff]
      intro j hj
      have := List.mem_range'_1.1 hj
      obtain ⟨a1, a2, a3⟩ := h j (by omega)
      exact (tk4 a1 a2 (by omega)).2
    rw [h0]
    have hat : ∀ j, j < n → (fun j => if 0 ≤ j ∧ j < 0 + n then Rm.tkS (rs j) ⟨4, (s : Int), (j : Int), 0, Rm.e0, [u]⟩ else rs j) j = Rm.q4S (rs j) s u := fun j hj => by
      obtain ⟨a1, a2, a3⟩ := h j hj
      dsimp only
      rw [if_pos (by omega)]
      exact (tk4 a1 a2 (by omega)).1
    generalize (fun j => if 0 ≤ j ∧ j < 0 + n then Rm.tkS (rs j) ⟨4, (s : Int), (j : Int), 0, Rm.e0, [u]⟩ else rs j) = rs1 at hat ⊢
    obtain ⟨rs', e, h'⟩ := bt4 hn hu hl hb hv k (s + 1) rs1 (by omega) (fun j hj => by
      obtain ⟨a1, a2, a3⟩ := h j hj
      rw [hat j hj]
      exact ⟨a1, a2, a3.step hn (by omega) hu hl hb hv⟩)
    rw [List.range_eq_range'] at e
    rw [e]
    refine ⟨rs', rfl, fun j hj => ?_⟩
    have := h' j hj
    rw [hat j hj] at this
    rw [show s + (k + 1) = s + 1 + k by omega]
    exact this
theorem fm_len (g : Nat → Nat → NT) : ∀ k s, ((List.range' s k).flatMap fun j => (List.range n).map (g j)).length = k * n
  | 0, s => by simp
  | k + 1, s => by
    rw [List.range'_succ, List.flatMap_cons, List.length_append, fm_len g k (s + 1), List.length_map, List.length_range, Nat.succ_mul]
    omega
theorem Cs.propose (h : Cs n node b l rs) (hn : 1 ≤ n ∧ n ≤ 7) (hi : node < n) (hl : l.length < 1024) (hb : M.vld b = true) {v : ByteArray} (hv : v.size ≤ 4096) : ppcT ⟨n, rs, []⟩ node v = 0 ∧ ∃ rs', all 60 (ppT ⟨n, rs, []⟩ node v) = ⟨n, rs', []⟩ ∧ Cs n node b (l ++ [v]) rs' := by
  obtain ⟨p1, p2, p3⟩ := h.p
  obtain ⟨d1, d2, d3, d4⟩ := h.nd node hi
  have hc : Np.M.ppc (rs node).p v = 0 := by
    unfold Np.M.ppc
    rw [if_neg (by omega), if_neg (by omega), if_neg (by omega)]
  have hT : isT ⟨n, rs, []⟩ (node : Int) = true := by
    unfold isT
    rw [Bool.and_eq_true, decide_eq_true_eq, decide_eq_true_eq]
    simp only
    omega
  obtain ⟨u, hu⟩ : ∃ u : V, u = ⟨l.length, b, v⟩ := ⟨_, rfl⟩
  have u1 : u.s = l.length := by rw [hu]
  have u2 : u.b = b := by rw [hu]
  have u3 : u.v = v := by rw [hu]
  have hpv : Np.M.ppv (rs node).p v = u := by unfold Np.M.ppv; rw [if_pos hc, hu, p2, p3]
  refine ⟨by unfold ppcT; rw [hT, if_pos rfl]; exact hc, ?_⟩
  have hN : Rm.ppN (rs node) v = (List.range' 0 n).map fun (i : Nat) => (⟨3, (node : Int), (i : Int), 0, Rm.e0, [u]⟩ : NT) := by
    unfold Rm.ppN Rm.toE Rm.toF
    rw [if_pos hc, hpv, d1, d2, Int.toNat_natCast, List.range_eq_range']
  have hB1 : ((List.range' 0 n).map fun (i : Nat) => (⟨3, (node : Int), (i : Int), 0, Rm.e0, [u]⟩ : NT)).length = n := by rw [List.length_map, List.length_range']
  have e1 : ppT ⟨n, rs, []⟩ node v = ⟨n, upR rs node (Rm.ppS (rs node) v), ((List.range' 0 n).map fun (i : Nat) => (⟨3, (node : Int), (i : Int), 0, Rm.e0, [u]⟩ : NT)) ++ []⟩ := by
    unfold ppT say
    rw [hT, if_pos rfl]
    simp only [Int.toNat_natCast, hN, List.nil_append, List.append_nil]
    rw [List.take_of_length_le (by rw [hB1]; simp; omega)]
  rw [e1]
  have h1 : ∀ j, j < n → (upR rs node (Rm.ppS (rs node) v) j).n = (n : Int) ∧ (upR rs node (Rm.ppS (rs node) v) j).me = (j : Int) ∧ (upR rs node (Rm.ppS (rs node) v) j).a = (rs j).a ∧ (upR rs node (Rm.ppS (rs node) v) j).l = (rs j).l := fun j hj => by
    obtain ⟨a1, a2, a3, a4⟩ := h.nd j hj
    unfold upR
    by_cases e : j = node
    · rw [if_pos e]; subst e; exact ⟨a1, a2, rfl, rfl⟩
    · rw [if_neg e]; exact ⟨a1, a2, rfl, rfl⟩
  have h1p : (upR rs node (Rm.ppS (rs node) v) node).p = { (rs node).p with nx := (rs node).p.nx + 1 } := by
    unfold upR
    rw [if_pos rfl]
    show Np.M.pps (rs node).p v = _
    unfold Np.M.pps
    rw [if_pos hc]
  generalize upR rs node (Rm.ppS (rs node) v) = rs1 at *
  have hacb : ∀ j, j < n → Na.M.acb (rs1 j).a u = true := fun j hj => by
    obtain ⟨a1, a2, a3, a4⟩ := h.nd j hj
    rw [(h1 j hj).2.2.1]
    unfold Na.M.acb Na.M.may
    rw [u2, u1, u3, hb, a3, a4, Na.M.cmp_self]
    simp
    omega
  have hk3 : ∀ j, j < n → Rm.tkS (rs1 j) ⟨3, (node : Int), (j : Int), 0, Rm.e0, [u]⟩ = Rm.q3S (rs1 j) u ∧ Rm.tkN (rs1 j) ⟨3, (node : Int), (j : Int), 0, Rm.e0, [u]⟩ = (List.range n).map fun (i : Nat) => (⟨4, (j : Int), (i : Int), 0, Rm.e0, [u]⟩ : NT) := fun j hj => by
    obtain ⟨a1, a2, a3, a4⟩ := h1 j hj
    obtain ⟨z1, z2⟩ := tk3 a1 a2 hi (hacb j hj)
    refine ⟨z1, z2.trans ?_⟩
    unfold Rm.toE Rm.toF
    rw [a1, a2, Int.toNat_natCast]
  have hbt := bt_each (fun (i : Nat) => (⟨3, (node : Int), (i : Int), 0, Rm.e0, [u]⟩ : NT)) (fun _ => rfl) n 0 rs1
  have ho : ((List.range' 0 n).flatMap fun j => Rm.tkN (rs1 j) ⟨3, (node : Int), (j : Int), 0, Rm.e0, [u]⟩) = (List.range' 0 n).flatMap fun (j : Nat) => (List.range n).map fun (i : Nat) => (⟨4, (j : Int), (i : Int), 0, Rm.e0, [u]⟩ : NT) :=
    fm_same fun j hj => (hk3 j (by have := List.mem_range'_1.1 hj; omega)).2
  rw [ho] at hbt
  have hB2 := fm_len (n := n) (fun (j i : Nat) => (⟨4, (j : Int), (i : Int), 0, Rm.e0, [u]⟩ : NT)) n 0
  have hnn : n * n ≤ 49 := Nat.mul_le_mul hn.2 hn.2
  have e2 := all_bt (n := n) ((List.range' 0 n).map fun (i : Nat) => (⟨3, (node : Int), (i : Int), 0, Rm.e0, [u]⟩ : NT)) rs1 [] (60 - n) (by rw [hbt, hB1]; simp only [List.length_nil]; rw [hB2]; omega)
  rw [hB1, show n + (60 - n) = 60 by omega, hbt, List.nil_append] at e2
  rw [e2]
  have hat : ∀ j, j < n → (fun j => if 0 ≤ j ∧ j < 0 + n then Rm.tkS (rs1 j) ⟨3, (node : Int), (j : Int), 0, Rm.e0, [u]⟩ else rs1 j) j = Rm.q3S (rs1 j) u := fun j hj => by
    dsimp only
    rw [if_pos (by omega)]
    exact (hk3 j hj).1
  dsimp only
  generalize (fun j => if 0 ≤ j ∧ j < 0 + n then Rm.tkS (rs1 j) ⟨3, (node : Int), (j : Int), 0, Rm.e0, [u]⟩ else rs1 j) = rs2 at hat ⊢
  clear hbt e2
  obtain ⟨rs3, e3, h3⟩ := bt4 (l := l) (u := u) hn u1 hl (by rw [u2]; exact hb) (by rw [u3]; exact hv) n 0 rs2 (by omega) (fun j hj => by
    rw [hat j hj]
    obtain ⟨a1, a2, a3, a4⟩ := h1 j hj
    refine ⟨a1, a2, ?_⟩
    show Lk n l u 0 (rs1 j).l
    rw [a4]
    exact .zero hn (h.l j hj) u1)
  have e4 := all_bt (n := n) ((List.range' 0 n).flatMap fun (j : Nat) => (List.range n).map fun (i : Nat) => (⟨4, (j : Int), (i : Int), 0, Rm.e0, [u]⟩ : NT)) rs2 [] (60 - n - n * n) (by rw [e3, hB2]; simp only [List.length_nil]; omega)
  rw [hB2, show n * n + (60 - n - n * n) = 60 - n by omega, e3, List.append_nil, List.nil_append, all_none] at e4
  refine ⟨rs3, e4, fun j hj => ?_, ?_, fun j hj => ?_⟩
  · obtain ⟨k1, k2, k3, k4, k5⟩ := h3 j hj
    rw [hat j hj] at k1 k2 k3
    obtain ⟨a1, a2, a3, a4⟩ := h1 j hj
    have k3' : (rs3 j).a = Na.M.acs (rs1 j).a u := k3
    rw [Na.M.acs_yes (hacb j hj)] at k3'
    refine ⟨k1.trans a1, k2.trans a2, by rw [k3']; exact u2, ?_⟩
    rw [k3', a3]
    exact (h.nd j hj).2.2.2
  · obtain ⟨k1, k2, k3, k4, k5⟩ := h3 node hi
    rw [hat node hi] at k4
    have k4' : (rs3 node).p = Np.M.sts (rs1 node).p u.b := k4
    have hst : Np.M.sts (rs1 node).p u.b = (rs1 node).p := by
      unfold Np.M.sts Np.M.stb
      rw [h1p, u2, p2, Na.M.cmp_self]
      simp
    rw [k4', hst, h1p]
    refine ⟨p1, p2, ?_⟩
    show (rs node).p.nx + 1 = _
    rw [p3, List.length_append, List.length_singleton]
    omega
  · have k5 := (h3 j hj).2.2.2.2.2 (by unfold M.quo; rw [if_neg (by omega)]; omega)
    rw [u3] at k5
    exact k5
end

/-- A proposer that k nodes have promised. -/
structure Pq (n : Nat) (b : E) (k : Nat) (p : Np.M.S) : Prop where
  nn : p.n = (n : Int)
  b : p.b = b
  ask : p.ask = 0
  fin : p.fin = 0
  nx : p.nx = 0
  lo : (k : Int) < M.quo n → p.st = 1 ∧ ∀ i, p.who i = decide (i < k)
  hi : M.quo n ≤ k → p.st = 3
section
variable {n node : Nat} {b : E} {r : R} {rs : Nat → R}
theorem Pq.step (hn : 1 ≤ n ∧ n ≤ 7) {s : Nat} (hs : s < n) (h : Pq n b s r.p) : Rm.q2N r s b [] = [] ∧ (Rm.q2S r s b []).n = r.n ∧ (Rm.q2S r s b []).me = r.me ∧ (Rm.q2S r s b []).a = r.a ∧ (Rm.q2S r s b []).l = r.l ∧ Pq n b (s + 1) (Rm.q2S r s b []).p := by
  by_cases hq : (s : Int) < M.quo n
  · obtain ⟨l1, l2⟩ := h.lo hq
    have hm : Np.M.prm r.p s b = true := by
      unfold Np.M.prm
      rw [l1, h.b, h.nn, l2]
      simp
      omega
    have he : Np.M.enough r.p s = decide (M.quo n ≤ ((s + 1 : Nat) : Int)) := by
      unfold Np.M.enough
      have : Np.M.wcnt (Np.M.wset r.p.who (s : Int).toNat) 7 = s + 1 := by
        rw [wcnt_ck, ck_same (g := fun i => decide (i < s + 1)) 7 (fun i hi => ?_), ck_low]
        · omega
        · unfold Np.M.wset
          rw [Int.toNat_natCast]
          split
          · next e => rw [decide_eq_true (by omega)]
          · next e =>
            rw [l2]
            by_cases e2 : i < s
            · rw [decide_eq_true e2, decide_eq_true (by omega)]
            · rw [decide_eq_false e2, decide_eq_false (by omega)]
      rw [this, h.nn]
    have hw : ∀ i, Np.M.wset r.p.who (s : Int).toNat i = decide (i < s + 1) := fun i => by
      unfold Np.M.wset
      rw [Int.toNat_natCast]
      split
      · next e => rw [decide_eq_true (by omega)]
      · next e =>
        rw [l2]
        by_cases e2 : i < s
        · rw [decide_eq_true e2, decide_eq_true (by omega)]
        · rw [decide_eq_false e2, decide_eq_false (by omega)]
    unfold Rm.q2N Rm.q2S Rm.q2P Np.M.prb Np.M.prs
    rw [hm, he, Bool.true_and, if_pos rfl]
    by_cases hq2 : M.quo n ≤ ((s + 1 : Nat) : Int)
    · rw [decide_eq_true hq2, if_pos rfl, if_pos rfl, if_pos rfl]
      refine ⟨?_, rfl, rfl, rfl, rfl, ?_⟩
      · unfold Np.M.flo Np.M.fl
        rw [if_pos rfl]
        have : ({ Np.M.cntL { r.p with who := Np.M.wset r.p.who (s : Int).toNat } [] with st := 2 } : Np.M.S).fin = 0 := h.fin
        have h2 : ({ Np.M.cntL { r.p with who := Np.M.wset r.p.who (s : Int).toNat } [] with st := 2 } : Np.M.S).ask = 0 := h.ask
        rw [this, h2]
        rfl
      · unfold Np.M.fls
        rw [if_pos rfl]
        exact ⟨h.nn, h.b, h.ask, h.fin, h.nx, fun e => by omega, fun _ => rfl⟩
    · rw [decide_eq_false hq2]
      refine ⟨rfl, rfl, rfl, rfl, rfl, ?_⟩
      exact ⟨h.nn, h.b, h.ask, h.fin, h.nx, fun _ => ⟨l1, hw⟩, fun e => by omega⟩
  · have l1 := h.hi (by omega)
    have hm : Np.M.prm r.p s b = false := by
      unfold Np.M.prm
      rw [l1]
      rfl
    unfold Rm.q2N Rm.q2S Rm.q2P Np.M.prb Np.M.prs
    rw [hm]
    refine ⟨rfl, rfl, rfl, rfl, rfl, ?_⟩
    exact ⟨h.nn, h.b, h.ask, h.fin, h.nx, fun e => by omega, fun _ => l1⟩
theorem tk2 {s j : Nat} (h1 : r.n = (n : Int)) (h2 : r.me = (j : Int)) (hs : s < n) : Rm.tkS r ⟨2, s, j, 0, b, []⟩ = Rm.q2S r s b [] ∧ Rm.tkN r ⟨2, s, j, 0, b, []⟩ = Rm.q2N r s b [] := by
  have hb : Rm.tkb r ⟨2, s, j, 0, b, []⟩ = true := tkb_yes h1 h2 rfl (by simp only; omega)
  unfold Rm.tkS Rm.tkN
  rw [hb]
  exact ⟨rfl, rfl⟩
/-- All promise. -/
theorem bt2 (hn : 1 ≤ n ∧ n ≤ 7) (hi : node < n) : ∀ (k s : Nat) (rs : Nat → R), s + k ≤ n → (rs node).n = (n : Int) → (rs node).me = (node : Int) → Pq n b s (rs node).p →
    ∃ rs', bt rs ((List.range' s k).flatMap fun (j : Nat) => [(⟨2, (j : Int), (node : Int), 0, b, []⟩ : NT)]) = (rs', []) ∧ (∀ j, j ≠ node → rs' j = rs j) ∧ (rs' node).n = (rs node).n ∧ (rs' node).me = (rs node).me ∧ (rs' node).a = (rs node).a ∧ (rs' node).l = (rs node).l ∧ Pq n b (s + k) (rs' node).p
  | 0, s, rs, hk, h1, h2, h3 => ⟨rs, by simp [bt], fun _ _ => rfl, rfl, rfl, rfl, rfl, h3⟩
  | k + 1, s, rs, hk, h1, h2, h3 => by
    obtain ⟨z1, z2⟩ := tk2 (b := b) h1 h2 (show s < n by omega)
    obtain ⟨s1, s2, s3, s4, s5, s6⟩ := h3.step hn (show s < n by omega)
    have ht : (⟨2, (s : Int), (node : Int), 0, b, []⟩ : NT).t.toNat = node := by simp only; omega
    have hu : upR rs node (Rm.q2S (rs node) s b []) node = Rm.q2S (rs node) s b [] := if_pos rfl
    obtain ⟨rs', e, e1, e2, e3, e4, e5, e6⟩ := bt2 hn hi k (s + 1) (upR rs node (Rm.q2S (rs node) s b [])) (by omega) (by rw [hu, s2]; exact h1) (by rw [hu, s3]; exact h2) (by rw [hu]; exact s6)
    rw [hu] at e2 e3 e4 e5
    rw [List.range'_succ, List.flatMap_cons, List.singleton_append, bt, ht, z1, z2, s1, e]
    refine ⟨rs', rfl, fun j hj => (e1 j hj).trans (if_neg hj), e2.trans s2, e3.trans s3, e4.trans s4, e5.trans s5, ?_⟩
    rw [show s + (k + 1) = s + 1 + k by omega]
    exact e6
theorem tk1 {j : Nat} (h1 : r.n = (n : Int)) (h2 : r.me = (j : Int)) (hi : node < n) (hb : M.vld b = true) (h3 : r.a.base = 0) (h4 : r.a.l = []) (h5 : 0 ≤ cmpE b r.a.p) : Rm.tkS r ⟨1, node, j, 0, b, []⟩ = { r with p := Np.M.sts r.p b, a := ⟨b, 0, []⟩ } ∧ Rm.tkN r ⟨1, node, j, 0, b, []⟩ = [⟨2, (j : Int), (node : Int), 0, b, []⟩] := by
  have hk : Rm.tkb r ⟨1, node, j, 0, b, []⟩ = true := tkb_yes h1 h2 rfl (by simp only; omega)
  have hp : Na.M.prb r.a b 0 = true := by
    unfold Na.M.prb Na.M.may
    rw [hb, h3, decide_eq_true h5]
    rfl
  have hq : Rm.q1b r b 0 = true := by
    unfold Rm.q1b
    rw [hp]
    rfl
  unfold Rm.tkS Rm.tkN
  rw [hk]
  refine ⟨?_, ?_⟩
  · show Rm.q1S r b 0 = _
    unfold Rm.q1S
    rw [if_pos hq, Na.M.prs_yes hp, h3, h4]
  · show Rm.q1N r node b 0 = _
    unfold Rm.q1N
    rw [if_pos hq]
    unfold Na.M.prl
    rw [if_pos hp, h4, h2]
    rfl
/-- The ballot of a first leader. -/
def b1 (node : Nat) : E := ⟨1, node⟩
theorem lead_calm (hn : 1 ≤ n ∧ n ≤ 7) (hi : node < n) : ∃ rs', all 60 (ldT (t0 n) node) = ⟨n, rs', []⟩ ∧ Cs n node (b1 node) [] rs' := by
  have hok : Nl.M.Ok (Nl.M.s0 (n : Int)) := .zero (by unfold Nl.M.nde; simp; omega)
  have hln : Ln n [] (Nl.M.s0 (n : Int)) := ⟨rfl, rfl, hok, fun s => by show none = _; split <;> simp, fun s _ => rfl⟩
  have hnx : Nl.M.nx (Nl.M.s0 (n : Int)) = 0 := Nl.M.nx_of hok (Int.le_refl _) (fun j h1 h2 => by have : (0 : Int) ≤ j := h1; omega) rfl
  have hvb : M.vld (b1 node) = true := by
    unfold M.vld b1
    simp
    omega
  have hg : Np.M.grt ⟨0, 0⟩ ⟨0, 0⟩ = ⟨0, 0⟩ := rfl
  have hnxt : M.nxt ⟨0, 0⟩ (node : Int) = b1 node := by
    unfold M.nxt b1 M.nod
    rw [if_neg (by simp)]
    simp only [Int.zero_add]
    congr 1
    omega
  have hc : Rm.ldc (Rm.r0 n node) = 0 := by
    unfold Rm.ldc
    show Np.M.ldc (Np.M.S0 n node) ⟨0, 0⟩ (Nl.M.nx (Nl.M.s0 (n : Int))) = 0
    rw [hnx]
    rfl
  have hld : Rm.ldb (Rm.r0 n node) = b1 node := by
    have : Rm.ldb (Rm.r0 n node) = M.nxt (Np.M.grt ⟨0, 0⟩ ⟨0, 0⟩) (node : Int) := by unfold Rm.ldb Np.M.lde; exact if_pos hc
    rw [this, hg, hnxt]
  have hT : isT (t0 n) (node : Int) = true := by
    unfold isT t0
    rw [Bool.and_eq_true, decide_eq_true_eq, decide_eq_true_eq]
    simp only
    omega
  have hge : ∀ a : E, le a (b1 node) → 0 ≤ cmpE (b1 node) a := fun a h => cmp_ge.2 h
  have h0 : le ⟨0, 0⟩ (b1 node) := .inl (by show (0 : Int) < 1; decide)
  have hS : Rm.ldS (Rm.r0 n node) = { Rm.r0 n node with p := Np.M.lds (Np.M.S0 n node) ⟨0, 0⟩ 0, a := ⟨b1 node, 0, []⟩ } := by
    unfold Rm.ldS
    rw [if_pos hc, hld]
    have hp : Na.M.prb (Rm.r0 n node).a (b1 node) (Nl.M.nx (Rm.r0 n node).l) = true := by
      unfold Na.M.prb Na.M.may
      rw [hvb, show decide (0 ≤ cmpE (b1 node) (Rm.r0 (n : Int) (node : Int)).a.p) = true from decide_eq_true (hge _ h0)]
      show (true && decide ((0 : Int) ≤ Nl.M.nx (Nl.M.s0 (n : Int)))) = true
      rw [hnx]
      rfl
    rw [Na.M.prs_yes hp]
    show ({ Rm.r0 n node with p := Np.M.lds (Np.M.S0 n node) ⟨0, 0⟩ (Nl.M.nx (Nl.M.s0 (n : Int))), a := ⟨b1 node, 0, []⟩ } : R) = _
    rw [hnx]
  have hN : Rm.ldN (Rm.r0 n node) = (List.range' 0 n).map fun (i : Nat) => (⟨1, (node : Int), (i : Int), 0, b1 node, []⟩ : NT) := by
    unfold Rm.ldN Rm.toF
    rw [if_pos hc, hld]
    show ((List.range (n : Int).toNat).map fun (i : Nat) => (⟨1, (node : Int), (i : Int), Nl.M.nx (Nl.M.s0 (n : Int)), b1 node, []⟩ : NT)) = _
    rw [hnx, Int.toNat_natCast, List.range_eq_range']
  have hlds : Np.M.lds (Np.M.S0 n node) ⟨0, 0⟩ 0 = { Np.M.S0 n node with st := 1, b := b1 node } := by
    unfold Np.M.lds
    have hc0 : Np.M.ldc (Np.M.S0 n node) ⟨0, 0⟩ 0 = 0 := rfl
    rw [if_pos hc0]
    show ({ Np.M.enter (Np.M.S0 n node) 1 (M.nxt (Np.M.grt ⟨0, 0⟩ ⟨0, 0⟩) (node : Int)) with ask := 0, fin := 0, nx := 0 } : Np.M.S) = _
    rw [hg, hnxt]
    rfl
  have hB1 : ((List.range' 0 n).map fun (i : Nat) => (⟨1, (node : Int), (i : Int), 0, b1 node, []⟩ : NT)).length = n := by rw [List.length_map, List.length_range']
  have e1 : ldT (t0 n) node = ⟨n, upR (fun i => Rm.r0 n i) node (Rm.ldS (Rm.r0 n node)), ((List.range' 0 n).map fun (i : Nat) => (⟨1, (node : Int), (i : Int), 0, b1 node, []⟩ : NT)) ++ []⟩ := by
    unfold ldT say
    rw [hT, if_pos rfl]
    simp only [Int.toNat_natCast, t0, hN, List.nil_append, List.append_nil]
    rw [List.take_of_length_le (by rw [hB1]; simp; omega)]
  rw [e1, hS, hlds]
  have h1 : ∀ j, j < n → ∀ r, r = upR (fun i => Rm.r0 n i) node { Rm.r0 n node with p := { Np.M.S0 n node with st := 1, b := b1 node }, a := ⟨b1 node, 0, []⟩ } j → r.n = (n : Int) ∧ r.me = (j : Int) ∧ r.a.base = 0 ∧ r.a.l = [] ∧ 0 ≤ cmpE (b1 node) r.a.p ∧ r.l = Nl.M.s0 (n : Int) := fun j hj r hr => by
    unfold upR at hr
    split at hr
    · next e =>
      subst hr
      refine ⟨rfl, by rw [e]; rfl, rfl, rfl, hge _ (le_refl _), rfl⟩
    · subst hr
      exact ⟨rfl, rfl, rfl, rfl, hge _ h0, rfl⟩
  have h1p : (upR (fun i => Rm.r0 n i) node { Rm.r0 n node with p := { Np.M.S0 n node with st := 1, b := b1 node }, a := ⟨b1 node, 0, []⟩ } node).p = { Np.M.S0 n node with st := 1, b := b1 node } := by
    unfold upR
    rw [if_pos rfl]
  generalize upR (fun i => Rm.r0 n i) node { Rm.r0 n node with p := { Np.M.S0 n node with st := 1, b := b1 node }, a := ⟨b1 node, 0, []⟩ } = rs1 at *
  have hk1 : ∀ j, j < n → Rm.tkS (rs1 j) ⟨1, (node : Int), (j : Int), 0, b1 node, []⟩ = { rs1 j with p := Np.M.sts (rs1 j).p (b1 node), a := ⟨b1 node, 0, []⟩ } ∧ Rm.tkN (rs1 j) ⟨1, (node : Int), (j : Int), 0, b1 node, []⟩ = [⟨2, (j : Int), (node : Int), 0, b1 node, []⟩] := fun j hj => by
    obtain ⟨a1, a2, a3, a4, a5, a6⟩ := h1 j hj _ rfl
    exact tk1 a1 a2 hi hvb a3 a4 a5
  have hbt := bt_each (fun (i : Nat) => (⟨1, (node : Int), (i : Int), 0, b1 node, []⟩ : NT)) (fun _ => rfl) n 0 rs1
  have ho : ((List.range' 0 n).flatMap fun (j : Nat) => Rm.tkN (rs1 j) ⟨1, (node : Int), (j : Int), 0, b1 node, []⟩) = (List.range' 0 n).flatMap fun (j : Nat) => [(⟨2, (j : Int), (node : Int), 0, b1 node, []⟩ : NT)] :=
    fm_same fun j hj => (hk1 j (by have := List.mem_range'_1.1 hj; omega)).2
  rw [ho] at hbt
  have hB2 : ∀ k s, ((List.range' s k).flatMap fun (j : Nat) => [(⟨2, (j : Int), (node : Int), 0, b1 node, []⟩ : NT)]).length = k := by
    intro k
    induction k with
    | zero => intro s; simp
    | succ k ih => intro s; rw [List.range'_succ, List.flatMap_cons, List.length_append, ih, List.length_singleton]; omega
  have e2 := all_bt (n := n) ((List.range' 0 n).map fun (i : Nat) => (⟨1, (node : Int), (i : Int), 0, b1 node, []⟩ : NT)) rs1 [] (60 - n) (by rw [hbt, hB1]; simp only [List.length_nil]; rw [hB2]; omega)
  rw [hB1, show n + (60 - n) = 60 by omega, hbt, List.nil_append] at e2
  rw [e2]
  have hat : ∀ j, j < n → (fun j => if 0 ≤ j ∧ j < 0 + n then Rm.tkS (rs1 j) ⟨1, (node : Int), (j : Int), 0, b1 node, []⟩ else rs1 j) j = { rs1 j with p := Np.M.sts (rs1 j).p (b1 node), a := ⟨b1 node, 0, []⟩ } := fun j hj => by
    dsimp only
    rw [if_pos (by omega)]
    exact (hk1 j hj).1
  dsimp only
  generalize (fun j => if 0 ≤ j ∧ j < 0 + n then Rm.tkS (rs1 j) ⟨1, (node : Int), (j : Int), 0, b1 node, []⟩ else rs1 j) = rs2 at hat ⊢
  clear hbt e2
  have hsts : Np.M.sts (rs1 node).p (b1 node) = { Np.M.S0 n node with st := 1, b := b1 node } := by
    rw [h1p]
    unfold Np.M.sts Np.M.stb
    simp only [Na.M.cmp_self]
    simp
  obtain ⟨a1, a2, a3, a4, a5, a6⟩ := h1 node hi _ rfl
  obtain ⟨rs3, e3, k1, k2, k3, k4, k5, k6⟩ := bt2 (b := b1 node) hn hi n 0 rs2 (by omega) (by rw [hat node hi]; exact a1) (by rw [hat node hi]; exact a2) (by
    rw [hat node hi]
    show Pq n (b1 node) 0 (Np.M.sts (rs1 node).p (b1 node))
    rw [hsts]
    refine ⟨rfl, rfl, rfl, rfl, rfl, fun _ => ⟨rfl, fun i => ?_⟩, fun e => ?_⟩
    · rw [decide_eq_false (by omega)]; rfl
    · exfalso
      unfold M.quo at e
      rw [if_neg (by omega)] at e
      omega)
  have e4 := all_bt (n := n) ((List.range' 0 n).flatMap fun (j : Nat) => [(⟨2, (j : Int), (node : Int), 0, b1 node, []⟩ : NT)]) rs2 [] (60 - n - n) (by rw [e3, hB2]; simp only [List.length_nil]; omega)
  rw [hB2, show n + (60 - n - n) = 60 - n by omega, e3, List.append_nil, List.nil_append, all_none] at e4
  refine ⟨rs3, e4, fun j hj => ?_, ?_, fun j hj => ?_⟩
  · by_cases e : j = node
    · subst e
      rw [k2, k3, k4, hat j hj]
      exact ⟨a1, a2, rfl, rfl⟩
    · obtain ⟨c1, c2, c3, c4, c5, c6⟩ := h1 j hj _ rfl
      rw [k1 j e, hat j hj]
      exact ⟨c1, c2, rfl, rfl⟩
  · exact ⟨k6.hi (by unfold M.quo; rw [if_neg (by omega)]; omega), k6.b, k6.nx⟩
  · obtain ⟨c1, c2, c3, c4, c5, c6⟩ := h1 j hj _ rfl
    by_cases e : j = node
    · subst e
      rw [k5, hat j hj]
      show Ln n [] (rs1 j).l
      rw [c6]; exact hln
    · rw [k1 j e, hat j hj]
      show Ln n [] (rs1 j).l
      rw [c6]; exact hln
theorem vld_b1 (hn : 1 ≤ n ∧ n ≤ 7) (hi : node < n) : M.vld (b1 node) = true := by
  unfold M.vld b1
  simp
  omega
/-- What each log is, of such nodes. -/
theorem Cs.log {l : List ByteArray} (h : Cs n node b l rs) (hl : l.length ≤ 1024) {i : Nat} (hi : i < n) : logT ⟨n, rs, []⟩ i = l := by
  have hT : isT ⟨n, rs, []⟩ (i : Int) = true := by
    unfold isT
    rw [Bool.and_eq_true, decide_eq_true_eq, decide_eq_true_eq]
    simp only
    omega
  unfold logT Rm.logL
  rw [hT, if_pos rfl]
  simp only [Int.toNat_natCast]
  rw [(h.l i hi).base]
  exact (h.l i hi).log hl
end
end Go.Proofs.Ytgodnpngdbelhaa.Tm
