/-
  A learner as plain functions.
-/
import Derived.Test.YtfjlanhekheecaaM
namespace Go.Proofs.Ytfjlanhekheecaa.Nl.M
open Go.Proofs.Ytfjlanhekheecaa.M
set_option linter.unusedVariables false

/-- What counts for a node. -/
structure W where
  g : Bool
  b : E
  v : ByteArray
/-- The zero one. -/
def w0 : W := ⟨false, ⟨0, 0⟩, ⟨#[]⟩⟩
/-- A learner: how many nodes, its base, what is told of a slot, what was heard of one that is not told; no more than c were put into its map. -/
structure S where
  n : Int
  base : Int
  td : Int → Option ByteArray
  vs : Int → List W
  c : Nat
/-- One value of a function, another one. -/
def fup {α : Type} (f : Int → α) (k : Int) (x : α) : Int → α := fun j => if j = k then x else f j
theorem fup_same {α : Type} (f : Int → α) (k : Int) (x : α) : fup f k x k = x := if_pos rfl
theorem fup_other {α : Type} {f : Int → α} {k j : Int} (x : α) (h : j ≠ k) : fup f k x j = f j := if_neg h
/-- Are two alike? -/
def wq (x h : W) : Bool := (x.g == h.g) && (((x.b.i == h.b.i) && (x.b.t == h.b.t)) && (x.v.toList == h.v.toList))
/-- How many of the first so many. -/
def ck (g : Nat → Bool) : Nat → Nat
  | 0 => 0
  | k + 1 => ck g k + (if g k then 1 else 0)
theorem ck_le (g : Nat → Bool) : ∀ k, ck g k ≤ k
  | 0 => Nat.le_refl _
  | k + 1 => by
    have := ck_le g k
    rw [ck]
    split <;> omega
theorem ck_up (g : Nat → Bool) (k : Nat) : ∀ j, ck g k ≤ ck g (k + j) ∧ ck g (k + j) ≤ ck g k + j
  | 0 => ⟨Nat.le_refl _, Nat.le_refl _⟩
  | j + 1 => by
    have := ck_up g k j
    rw [show k + (j + 1) = k + j + 1 by omega, ck]
    split <;> omega
theorem ck_few (g : Nat → Bool) (m : Nat) (h : ∀ i, m ≤ i → g i = false) : ∀ k, ck g k ≤ m
  | 0 => Nat.zero_le _
  | k + 1 => by
    have h1 := ck_few g m h k
    have h2 := ck_le g k
    rw [ck]
    by_cases hk : m ≤ k
    · rw [h k hk]
      simpa using h1
    · split <;> omega
/-- May a slot be told, with that value? -/
def may (s : S) (k : Int) (v : ByteArray) : Bool := decide (s.base ≤ k) && (decide (k < 1024) && (decide (v.size ≤ 4096) && !(s.td k).isSome))
/-- What was heard of a slot, none of them at first. -/
def row (s : S) (k : Int) : List W := if (s.vs k).length = 0 then List.replicate s.n.toNat w0 else s.vs k
/-- The state once that row is made. -/
def rws (s : S) (k : Int) : S := if (s.vs k).length = 0 then { s with vs := fup s.vs k (List.replicate s.n.toNat w0), c := s.c + 1 } else s
/-- May node fr be heard? -/
def hok (s : S) (fr : Int) (x : V) : Bool := decide (0 ≤ fr) && (decide (fr < s.n) && (vld x.b && may s x.s x.v))
/-- What is heard. -/
def hh (x : V) : W := ⟨true, x.b, x.v⟩
/-- Does it count? -/
def hc (l : List W) (i : Nat) (x : V) : Bool := !(l.getD i w0).g || decide (cmpE (l.getD i w0).b x.b < 0)
/-- The row behind it. -/
def hl (l : List W) (i : Nat) (x : V) : List W := if hc l i x then l.set i (hh x) else l
/-- Do enough agree? -/
def hag (n : Int) (l : List W) (h : W) : Bool := decide (quo n ≤ (ck (fun i => wq (l.getD i w0) h) l.length : Nat))
/-- The row of a slot, another one. -/
def sv (s : S) (k : Int) (l : List W) : S := { s with vs := fup s.vs k l }
/-- A slot is told. -/
def tl (s : S) (k : Int) (v : ByteArray) : S := { s with td := fup s.td k (some v), vs := fup s.vs k [], c := s.c + 1 }
def hb (s : S) (fr : Int) (x : V) : Bool := hok s fr x && hag s.n (hl (row s x.s) fr.toNat x) (hh x)
def hs (s : S) (fr : Int) (x : V) : S := if hok s fr x then (if hag s.n (hl (row s x.s) fr.toNat x) (hh x) then tl (sv (rws s x.s) x.s (hl (row s x.s) fr.toNat x)) x.s x.v else sv (rws s x.s) x.s (hl (row s x.s) fr.toNat x)) else s
def ts (s : S) (k : Int) (v : ByteArray) : S := if may s k v then tl s k v else s
/-- How many are told without a gap. -/
def run (td : Int → Option ByteArray) (k : Int) : Nat → Nat
  | 0 => 0
  | f + 1 => if (td k).isSome then run td (k + 1) f + 1 else 0
def nx (s : S) : Int := s.base + (run s.td s.base 1024 : Nat)
/-- The base behind a trim. -/
def tb (s : S) (u : Int) : Int := max s.base (min u (nx s))
def tr (s : S) (u : Int) : S := { s with base := tb s u, td := fun k => if k < tb s u then none else s.td k }
/-- Values from a slot on. -/
def lg (td : Int → Option ByteArray) (k : Int) : Nat → List ByteArray
  | 0 => []
  | m + 1 => lg td k m ++ [(td (k + (m : Nat))).getD ⟨#[]⟩]
theorem lg_len (td : Int → Option ByteArray) (k : Int) : ∀ m, (lg td k m).length = m
  | 0 => rfl
  | m + 1 => by rw [lg, List.length_append, lg_len td k m]; rfl
theorem lg_get (td : Int → Option ByteArray) (k : Int) : ∀ m j (h : j < m), (lg td k m)[j]'(by rw [lg_len]; exact h) = (td (k + (j : Nat))).getD ⟨#[]⟩
  | 0, j, h => by omega
  | m + 1, j, h => by
    by_cases hj : j < m
    · have := lg_get td k m j hj
      simp only [lg]
      rw [List.getElem_append_left (by rw [lg_len]; exact hj)]
      exact this
    · obtain rfl : j = m := by omega
      simp only [lg]
      rw [List.getElem_append_right (by rw [lg_len]; exact Nat.le_refl _)]
      simp
def lgn (s : S) (fr : Int) : Nat := (nx s - max fr s.base).toNat
def lgs (s : S) (fr : Int) : List ByteArray := lg s.td (max fr s.base) (lgn s fr)
def s0 (n : Int) : S := ⟨n, 0, fun _ => none, fun _ => [], 0⟩
/-- How many nodes there may be. -/
def nde (n : Int) : Bool := decide (1 ≤ n) && decide (n ≤ 7)
/-- What holds of every learner. -/
structure Ok (s : S) : Prop where
  n : 1 ≤ s.n ∧ s.n ≤ 7
  base : 0 ≤ s.base ∧ s.base ≤ 1024
  td : ∀ k v, s.td k = some v → s.base ≤ k ∧ k < 1024 ∧ v.size ≤ 4096
  vs : ∀ k, (s.td k).isSome = true → s.vs k = []
  len : ∀ k, s.vs k = [] ∨ (s.vs k).length = s.n.toNat
theorem Ok.zero {n : Int} (h : nde n = true) : Ok (s0 n) := by
  unfold nde at h
  simp at h
  exact ⟨h, ⟨Int.le_refl _, by show (0 : Int) ≤ 1024; omega⟩, fun k v e => (by cases e), fun k e => rfl, fun k => .inl rfl⟩
theorem run_spec (td : Int → Option ByteArray) : ∀ f k, (∀ j, j < run td k f → (td (k + (j : Nat))).isSome = true) ∧ run td k f ≤ f ∧ (run td k f < f → td (k + (run td k f : Nat)) = none)
  | 0, k => ⟨fun j h => (by simp [run] at h), Nat.le_refl _, fun h => (by simp [run] at h)⟩
  | f + 1, k => by
    obtain ⟨h1, h2, h3⟩ := run_spec td f (k + 1)
    rw [run]
    by_cases hk : (td k).isSome = true
    · rw [if_pos hk]
      refine ⟨fun j hj => ?_, by omega, fun h => ?_⟩
      · match j with
        | 0 => simpa using hk
        | j + 1 =>
          have := h1 j (by omega)
          rw [show k + ((j + 1 : Nat) : Int) = k + 1 + (j : Nat) by omega]
          exact this
      · have := h3 (by omega)
        rw [show k + ((run td (k + 1) f + 1 : Nat) : Int) = k + 1 + (run td (k + 1) f : Nat) by omega]
        exact this
    · rw [if_neg hk]
      refine ⟨fun j hj => by omega, by omega, fun _ => ?_⟩
      simp only [Int.ofNat_zero, Int.add_zero]
      cases h : td k with
      | none => rfl
      | some v => rw [h] at hk; exact absurd rfl hk
theorem Ok.nx {s : S} (h : Ok s) : (∀ k, s.base ≤ k → k < M.nx s → (s.td k).isSome = true) ∧ s.td (M.nx s) = none ∧ s.base ≤ M.nx s ∧ M.nx s ≤ 1024 := by
  obtain ⟨h1, h2, h3⟩ := run_spec s.td 1024 s.base
  have hlt : ∀ k, (s.td k).isSome = true → s.base ≤ k ∧ k < 1024 := fun k e => by
    obtain ⟨v, hv⟩ := Option.isSome_iff_exists.1 e
    have := h.td k v hv
    exact ⟨this.1, this.2.1⟩
  have hb := h.base
  unfold M.nx
  generalize run s.td s.base 1024 = r at *
  have hr : s.base + (r : Nat) ≤ 1024 := by
    rcases Nat.eq_zero_or_pos r with h0 | h0
    · omega
    · have := hlt _ (h1 (r - 1) (by omega))
      omega
  refine ⟨fun k hk1 hk2 => ?_, ?_, by omega, hr⟩
  · have := h1 (k - s.base).toNat (by omega)
    rw [show s.base + ((k - s.base).toNat : Int) = k by omega] at this
    exact this
  · by_cases hf : r < 1024
    · exact h3 hf
    · cases e : s.td (s.base + (r : Nat)) with
      | none => rfl
      | some v =>
        have := hlt (s.base + (r : Nat)) (by rw [e]; rfl)
        omega
theorem nx_of {s : S} (h : Ok s) {k : Int} (h1 : s.base ≤ k) (h2 : ∀ j, s.base ≤ j → j < k → (s.td j).isSome = true) (h3 : s.td k = none) : nx s = k := by
  obtain ⟨n1, n2, n3, n4⟩ := h.nx
  rcases Int.lt_trichotomy (nx s) k with hk | hk | hk
  · have := h2 _ n3 hk
    rw [n2] at this
    cases this
  · exact hk
  · have := n1 k h1 hk
    rw [h3] at this
    cases this
theorem row_len {s : S} (h : Ok s) (k : Int) : (row s k).length = s.n.toNat := by
  unfold row
  split
  · simp
  · rename_i hne
    rcases h.len k with e | e
    · rw [e] at hne; simp at hne
    · exact e
theorem hl_len (l : List W) (i : Nat) (x : V) : (hl l i x).length = l.length := by
  unfold hl
  split
  · simp
  · rfl
theorem may_yes {s : S} {k : Int} {v : ByteArray} (h : may s k v = true) : s.base ≤ k ∧ k < 1024 ∧ v.size ≤ 4096 ∧ s.td k = none := by
  unfold may at h
  simp at h
  exact ⟨h.1, h.2.1, h.2.2.1, h.2.2.2⟩
theorem rws_td (s : S) (k : Int) : (rws s k).td = s.td ∧ (rws s k).n = s.n ∧ (rws s k).base = s.base ∧ (rws s k).vs k = row s k ∧ (rws s k).c ≤ s.c + 1 := by
  unfold rws row
  split
  · exact ⟨rfl, rfl, rfl, fup_same _ _ _, Nat.le_refl _⟩
  · exact ⟨rfl, rfl, rfl, rfl, Nat.le_succ _⟩
theorem Ok.sv {s : S} (h : Ok s) {k : Int} {l : List W} (hk : s.td k = none) (hl : l.length = s.n.toNat) : Ok (M.sv s k l) := by
  refine ⟨h.n, h.base, h.td, fun j hj => ?_, fun j => ?_⟩
  · have hne : j ≠ k := fun e => by
      subst e
      have hj' : (s.td j).isSome = true := hj
      rw [hk] at hj'
      cases hj'
    show fup s.vs k l j = []
    rw [fup_other _ hne]
    exact h.vs j hj
  · show fup s.vs k l j = [] ∨ (fup s.vs k l j).length = s.n.toNat
    by_cases hj : j = k
    · subst hj
      rw [fup_same]
      exact .inr hl
    · rw [fup_other _ hj]
      exact h.len j
theorem Ok.c {s : S} (h : Ok s) (c : Nat) : Ok { s with c := c } := ⟨h.n, h.base, h.td, h.vs, h.len⟩
theorem Ok.rws {s : S} (h : Ok s) {k : Int} (hk : s.td k = none) : Ok (M.rws s k) := by
  unfold M.rws
  split
  · exact (h.sv hk (by simp)).c _
  · exact h
theorem Ok.tl {s : S} (h : Ok s) {k : Int} {v : ByteArray} (hk : may s k v = true) : Ok (M.tl s k v) := by
  obtain ⟨k1, k2, k3, k4⟩ := may_yes hk
  refine ⟨h.n, h.base, fun j u e => ?_, fun j hj => ?_, fun j => ?_⟩
  · by_cases hj : j = k
    · subst hj
      have e' : fup s.td j (some v) j = some u := e
      rw [fup_same] at e'
      cases e'
      exact ⟨k1, k2, k3⟩
    · have e' : fup s.td k (some v) j = some u := e
      rw [fup_other _ hj] at e'
      exact h.td j u e'
  · show fup s.vs k [] j = []
    by_cases hjk : j = k
    · subst hjk
      exact fup_same _ _ _
    · rw [fup_other _ hjk]
      have hj' : (fup s.td k (some v) j).isSome = true := hj
      rw [fup_other _ hjk] at hj'
      exact h.vs j hj'
  · show fup s.vs k [] j = [] ∨ (fup s.vs k [] j).length = s.n.toNat
    by_cases hj : j = k
    · subst hj
      rw [fup_same]
      exact .inl rfl
    · rw [fup_other _ hj]
      exact h.len j
theorem hok_yes {s : S} {fr : Int} {x : V} (h : hok s fr x = true) : 0 ≤ fr ∧ fr < s.n ∧ vld x.b = true ∧ may s x.s x.v = true := by
  unfold hok at h
  simp only [Bool.and_eq_true, decide_eq_true_eq] at h
  exact ⟨h.1, h.2.1, h.2.2.1, h.2.2.2⟩
theorem may_of {s s' : S} (k : Int) (v : ByteArray) (h1 : s'.td = s.td) (h2 : s'.base = s.base) : may s' k v = may s k v := by unfold may; rw [h1, h2]
theorem Ok.hs {s : S} (h : Ok s) (fr : Int) (x : V) : Ok (M.hs s fr x) := by
  unfold M.hs
  split
  · rename_i hk
    obtain ⟨k0, k1, k2, k3⟩ := hok_yes hk
    obtain ⟨m1, m2, m3, m4⟩ := may_yes k3
    obtain ⟨r1, r2, r3, r4, r5⟩ := rws_td s x.s
    have hsv : Ok (M.sv (M.rws s x.s) x.s (hl (row s x.s) fr.toNat x)) := (h.rws m4).sv (by rw [r1]; exact m4) (by rw [hl_len, row_len h, r2])
    split
    · exact hsv.tl (by rw [may_of x.s x.v (show (M.sv (M.rws s x.s) x.s (hl (row s x.s) fr.toNat x)).td = s.td from r1) r3]; exact k3)
    · exact hsv
  · exact h
theorem Ok.ts {s : S} (h : Ok s) (k : Int) (v : ByteArray) : Ok (M.ts s k v) := by
  unfold M.ts
  split
  · rename_i hk
    exact h.tl hk
  · exact h
theorem Ok.tr {s : S} (h : Ok s) (u : Int) : Ok (M.tr s u) := by
  obtain ⟨n1, n2, n3, n4⟩ := h.nx
  have hb := h.base
  have ht : s.base ≤ tb s u ∧ tb s u ≤ M.nx s := by unfold tb; omega
  refine ⟨h.n, ⟨by show 0 ≤ tb s u; omega, by show tb s u ≤ 1024; omega⟩, fun k v e => ?_, fun k e => ?_, h.len⟩
  · have e' : (if k < tb s u then none else s.td k) = some v := e
    split at e'
    · cases e'
    · rename_i hk
      have := h.td k v e'
      exact ⟨by show tb s u ≤ k; omega, this.2.1, this.2.2⟩
  · have e' : (if k < tb s u then none else s.td k).isSome = true := e
    split at e'
    · cases e'
    · exact h.vs k e'
end Go.Proofs.Ytfjlanhekheecaa.Nl.M
