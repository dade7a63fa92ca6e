import Derived.Test.YtgodnpngdbelhaaGreatGP00
set_option maxRecDepth 100000
set_option maxHeartbeats 8000000
set_option linter.unusedVariables false
set_option linter.unusedSimpArgs false
namespace Go.Proofs.YtgodnpngdbelhaaGreat.M
structure E where
 i : Int
 t : Int
structure V where
 s : Int
 b : E
 v : ByteArray
def cmp (a b : Int) : Int := if a < b then -1 else if b < a then 1 else 0
def cmpE (a b : E) : Int := if cmp a.i b.i = 0 then cmp a.t b.t else cmp a.i b.i
theorem cmp_lt {a b : Int} (h : a < b) : cmp a b = -1 := by unfold cmp; rw [if_pos h]
theorem cmp_gt {a b : Int} (h : b < a) : cmp a b = 1 := by unfold cmp; rw [if_neg (by omega), if_pos h]
theorem cmp_eq (a : Int) : cmp a a = 0 := by unfold cmp; rw [if_neg (by omega), if_neg (by omega)]
theorem cmp_three (a b : Int) : (a < b ∧ cmp a b = -1) ∨ (a = b ∧ cmp a b = 0) ∨ (b < a ∧ cmp a b = 1) := by
 rcases Int.lt_trichotomy a b with h | h | h
 ·exact .inl ⟨h, cmp_lt h⟩
 ·subst h; exact .inr (.inl ⟨rfl, cmp_eq a⟩)
 ·exact .inr (.inr ⟨h, cmp_gt h⟩)
theorem cmpE_three (a b : E) : ((a.i < b.i ∨ (a.i = b.i ∧ a.t < b.t)) ∧ cmpE a b = -1) ∨ ((a.i = b.i ∧ a.t = b.t) ∧ cmpE a b = 0) ∨ ((b.i < a.i ∨ (a.i = b.i ∧ b.t < a.t)) ∧ cmpE a b = 1) := by
 unfold cmpE; rcases cmp_three a.i b.i with ⟨h, e⟩ | ⟨h, e⟩ | ⟨h, e⟩ <;> rw [e]
 ·exact .inl ⟨.inl h, by simp⟩
 ·rcases cmp_three a.t b.t with ⟨h', e'⟩ | ⟨h', e'⟩ | ⟨h', e'⟩ <;> rw [e']
  ·exact .inl ⟨.inr ⟨h, h'⟩, by simp⟩
  ·exact .inr (.inl ⟨⟨h, h'⟩, by simp⟩)
  ·exact .inr (.inr ⟨.inr ⟨h, h'⟩, by simp⟩)
 ·exact .inr (.inr ⟨.inl h, by simp⟩)
theorem order (a b c : E) : cmpE b a = - cmpE a b ∧ (cmpE a b = 0 ↔ a.i = b.i ∧ a.t = b.t) ∧ (cmpE a b = 0 → cmpE b c = 0 → cmpE a c = 0) ∧ (cmpE a b ≤ 0 → cmpE b c ≤ 0 → cmpE a c ≤ 0) ∧ (0 ≤ cmpE a b → 0 ≤ cmpE b c → 0 ≤ cmpE a c) := by
 rcases cmpE_three a b with ⟨h, e⟩ | ⟨h, e⟩ | ⟨h, e⟩ <;> rcases cmpE_three b a with ⟨h1, e1⟩ | ⟨h1, e1⟩ | ⟨h1, e1⟩ <;> rcases cmpE_three b c with ⟨h2, e2⟩ | ⟨h2, e2⟩ | ⟨h2, e2⟩ <;> rcases cmpE_three a c with ⟨h3, e3⟩ | ⟨h3, e3⟩ | ⟨h3, e3⟩ <;> rw [e, e1, e2, e3] <;> omega
def vld (b : E) : Bool := decide (0 ≤ b.i) && decide (b.i ≤ 2147483647) && decide (0 ≤ b.t) && decide (b.t ≤ 6)
def nod (n : Int) : Int := min (max n 0) 6
def nxt (b : E) (n : Int) : E := if b.i < 0 ∨ 2147483647 ≤ b.i then ⟨0, 0⟩ else ⟨b.i + 1, nod n⟩
def quo (n : Int) : Int := if n < 1 ∨ 7 < n then 0 else n / 2 + 1
def bst (l : List E) : Nat → Nat
 | 0 => 0
 | 1 => 0
 | k + 2 => if 0 < cmpE (l.getD (k + 1) ⟨0, 0⟩) (l.getD (bst l (k + 1)) ⟨0, 0⟩) then k + 1 else bst l (k + 1)
theorem bst_lt (l : List E) : ∀ k, 0 < k → bst l k < k
 | 0, h => by omega
 | 1, _ => by simp [bst]
 | k + 2, _ => by
  have := bst_lt l (k + 1) (by omega); rw [bst]
  split <;> omega
theorem bst_step (l : List E) (k : Nat) (h0 : 0 < k) (hk : k < l.length) : bst l (k + 1) = if 0 < cmpE l[k] (l[bst l k]'(Nat.lt_trans (bst_lt l k h0) hk)) then k else bst l k := by
 have hb := Nat.lt_trans (bst_lt l k h0) hk; obtain ⟨j, rfl⟩ : ∃ j, k = j + 1 := ⟨k - 1, by omega⟩; rw [bst]; simp only [List.getD_eq_getElem?_getD, List.getElem?_eq_getElem hk, List.getElem?_eq_getElem hb, Option.getD_some]
def bi (l : List E) (k : Nat) : Int := if k = 0 then -1 else (bst l k : Int)
theorem bi_zero (l : List E) : bi l 0 = -1 := rfl
theorem bi_pos (l : List E) {k : Nat} (h : 0 < k) : bi l k = (bst l k : Int) := by unfold bi; rw [if_neg (by omega)]
def bx (l : List E) (k : Nat) : E := if k = 0 then ⟨0, 0⟩ else l.getD (bst l k) ⟨0, 0⟩
theorem bx_pos (l : List E) {k : Nat} (h0 : 0 < k) (hk : k ≤ l.length) : bx l k = l[bst l k]'(Nat.lt_of_lt_of_le (bst_lt l k h0) hk) := by
 have hb := Nat.lt_of_lt_of_le (bst_lt l k h0) hk; unfold bx; rw [if_neg (by omega)]; simp only [List.getD_eq_getElem?_getD, List.getElem?_eq_getElem hb, Option.getD_some]
theorem bx_step (l : List E) (k : Nat) (hk : k < l.length) : (k = 0 ∨ 0 < cmpE l[k] (bx l k) → bx l (k + 1) = l[k]) ∧ (0 < k → ¬ 0 < cmpE l[k] (bx l k) → bx l (k + 1) = bx l k) := by
 rcases Nat.eq_zero_or_pos k with rfl | h0
 ·exact ⟨fun _ => bx_pos l (by omega) hk, fun h => by omega⟩
 ·have e := bst_step l k h0 hk; rw [bx_pos l h0 (by omega)]; rw [bx_pos l (show 0 < k + 1 by omega) hk]; constructor
  ·rintro (h | h)
   ·omega
   ·rw [if_pos h] at e; simp only [e]
  ·intro _ h; rw [if_neg h] at e; simp only [e]
def vx (l : List V) (k : Nat) : V := if k = 0 then ⟨0, ⟨0, 0⟩, ⟨#[]⟩⟩ else l.getD (bst (l.map V.b) k) ⟨0, ⟨0, 0⟩, ⟨#[]⟩⟩
theorem vx_pos (l : List V) {k : Nat} (h0 : 0 < k) (hk : k ≤ l.length) : vx l k = l[bst (l.map V.b) k]'(Nat.lt_of_lt_of_le (bst_lt _ k h0) hk) := by
 have hb := Nat.lt_of_lt_of_le (bst_lt (l.map V.b) k h0) hk; unfold vx; rw [if_neg (by omega)]; simp only [List.getD_eq_getElem?_getD, List.getElem?_eq_getElem hb, Option.getD_some]
theorem vx_step (l : List V) (k : Nat) (hk : k < l.length) : (k = 0 ∨ 0 < cmpE l[k].b (vx l k).b → vx l (k + 1) = l[k]) ∧ (0 < k → ¬ 0 < cmpE l[k].b (vx l k).b → vx l (k + 1) = vx l k) := by
 rcases Nat.eq_zero_or_pos k with rfl | h0
 ·exact ⟨fun _ => vx_pos l (by omega) hk, fun h => by omega⟩
 ·have e := bst_step (l.map V.b) k h0 (by simpa using hk); simp only [List.getElem_map] at e; rw [vx_pos l h0 (by omega)]; rw [vx_pos l (show 0 < k + 1 by omega) hk]; constructor
  ·rintro (h | h)
   ·omega
   ·rw [if_pos h] at e; simp only [e]
  ·intro _ h; rw [if_neg h] at e; simp only [e]
end Go.Proofs.YtgodnpngdbelhaaGreat.M
namespace Go.Proofs.YtgodnpngdbelhaaGreat.Nl.M
open Go.Proofs.YtgodnpngdbelhaaGreat.M
structure W where
 g : Bool
 b : E
 v : ByteArray
def w0 : W := ⟨false, ⟨0, 0⟩, ⟨#[]⟩⟩
structure S where
 n : Int
 base : Int
 td : Int → Option ByteArray
 vs : Int → List W
 c : Nat
def fup {α : Type} (f : Int → α) (k : Int) (x : α) : Int → α := fun j => if j = k then x else f j
theorem fup_same {α : Type} (f : Int → α) (k : Int) (x : α) : fup f k x k = x := if_pos rfl
theorem fup_other {α : Type} {f : Int → α} {k j : Int} (x : α) (h : j ≠ k) : fup f k x j = f j := if_neg h
def wq (x h : W) : Bool := (x.g == h.g) && (((x.b.i == h.b.i) && (x.b.t == h.b.t)) && (x.v.toList == h.v.toList))
def ck (g : Nat → Bool) : Nat → Nat
 | 0 => 0
 | k + 1 => ck g k + (if g k then 1 else 0)
theorem ck_le (g : Nat → Bool) : ∀ k, ck g k ≤ k
 | 0 => Nat.le_refl _
 | k + 1 => by
  have := ck_le g k; rw [ck]
  split <;> omega
theorem ck_up (g : Nat → Bool) (k : Nat) : ∀ j, ck g k ≤ ck g (k + j) ∧ ck g (k + j) ≤ ck g k + j
 | 0 => ⟨Nat.le_refl _, Nat.le_refl _⟩
 | j + 1 => by
  have := ck_up g k j; rw [show k + (j + 1) = k + j + 1 by omega, ck]
  split <;> omega
def may (s : S) (k : Int) (v : ByteArray) : Bool := decide (s.base ≤ k) && (decide (k < 1024) && (decide (v.size ≤ 4096) && !(s.td k).isSome))
def row (s : S) (k : Int) : List W := if (s.vs k).length = 0 then List.replicate s.n.toNat w0 else s.vs k
def rws (s : S) (k : Int) : S := if (s.vs k).length = 0 then { s with vs := fup s.vs k (List.replicate s.n.toNat w0), c := s.c + 1 } else s
def hok (s : S) (fr : Int) (x : V) : Bool := decide (0 ≤ fr) && (decide (fr < s.n) && (vld x.b && may s x.s x.v))
def hh (x : V) : W := ⟨true, x.b, x.v⟩
def hc (l : List W) (i : Nat) (x : V) : Bool := !(l.getD i w0).g || decide (cmpE (l.getD i w0).b x.b < 0)
def hl (l : List W) (i : Nat) (x : V) : List W := if hc l i x then l.set i (hh x) else l
def hag (n : Int) (l : List W) (h : W) : Bool := decide (quo n ≤ (ck (fun i => wq (l.getD i w0) h) l.length : Nat))
def sv (s : S) (k : Int) (l : List W) : S := { s with vs := fup s.vs k l }
def tl (s : S) (k : Int) (v : ByteArray) : S := { s with td := fup s.td k (some v), vs := fup s.vs k [], c := s.c + 1 }
def hb (s : S) (fr : Int) (x : V) : Bool := hok s fr x && hag s.n (hl (row s x.s) fr.toNat x) (hh x)
def hs (s : S) (fr : Int) (x : V) : S := if hok s fr x then (if hag s.n (hl (row s x.s) fr.toNat x) (hh x) then tl (sv (rws s x.s) x.s (hl (row s x.s) fr.toNat x)) x.s x.v else sv (rws s x.s) x.s (hl (row s x.s) fr.toNat x)) else s
def ts (s : S) (k : Int) (v : ByteArray) : S := if may s k v then tl s k v else s
def run (td : Int → Option ByteArray) (k : Int) : Nat → Nat
 | 0 => 0
 | f + 1 => if (td k).isSome then run td (k + 1) f + 1 else 0
def nx (s : S) : Int := s.base + (run s.td s.base 1024 : Nat)
def tb (s : S) (u : Int) : Int := max s.base (min u (nx s))
def tr (s : S) (u : Int) : S := { s with base := tb s u, td := fun k => if k < tb s u then none else s.td k }
def lg (td : Int → Option ByteArray) (k : Int) : Nat → List ByteArray
 | 0 => []
 | m + 1 => lg td k m ++ [(td (k + (m : Nat))).getD ⟨#[]⟩]
theorem lg_len (td : Int → Option ByteArray) (k : Int) : ∀ m, (lg td k m).length = m
 | 0 => rfl
 | m + 1 => by rw [lg, List.length_append, lg_len td k m]; rfl
theorem lg_get (td : Int → Option ByteArray) (k : Int) : ∀ m j (h : j < m), (lg td k m)[j]'(by rw [lg_len]; exact h) = (td (k + (j : Nat))).getD ⟨#[]⟩
 | 0, j, h => by omega
 | m + 1, j, h => by
  by_cases hj : j < m
  ·have := lg_get td k m j hj; simp only [lg]; rw [List.getElem_append_left (by rw [lg_len]; exact hj)]; exact this
  ·obtain rfl : j = m := by omega
   simp only [lg]; rw [List.getElem_append_right (by rw [lg_len]; exact Nat.le_refl _)]; simp
def lgn (s : S) (fr : Int) : Nat := (nx s - max fr s.base).toNat
def lgs (s : S) (fr : Int) : List ByteArray := lg s.td (max fr s.base) (lgn s fr)
def s0 (n : Int) : S := ⟨n, 0, fun _ => none, fun _ => [], 0⟩
def nde (n : Int) : Bool := decide (1 ≤ n) && decide (n ≤ 7)
structure Ok (s : S) : Prop where
 n : 1 ≤ s.n ∧ s.n ≤ 7
 base : 0 ≤ s.base ∧ s.base ≤ 1024
 td : ∀ k v, s.td k = some v → s.base ≤ k ∧ k < 1024 ∧ v.size ≤ 4096
 vs : ∀ k, (s.td k).isSome = true → s.vs k = []
 len : ∀ k, s.vs k = [] ∨ (s.vs k).length = s.n.toNat
theorem Ok.zero {n : Int} (h : nde n = true) : Ok (s0 n) := by
 unfold nde at h; simp at h; exact ⟨h, ⟨Int.le_refl _, by show (0 : Int) ≤ 1024; omega⟩, fun k v e => (by cases e), fun k e => rfl, fun k => .inl rfl⟩
theorem run_spec (td : Int → Option ByteArray) : ∀ f k, (∀ j, j < run td k f → (td (k + (j : Nat))).isSome = true) ∧ run td k f ≤ f ∧ (run td k f < f → td (k + (run td k f : Nat)) = none)
 | 0, k => ⟨fun j h => (by simp [run] at h), Nat.le_refl _, fun h => (by simp [run] at h)⟩
 | f + 1, k => by
  obtain ⟨h1, h2, h3⟩ := run_spec td f (k + 1); rw [run]; by_cases hk : (td k).isSome = true
  ·rw [if_pos hk]; refine ⟨fun j hj => ?_, by omega, fun h => ?_⟩
   ·match j with
    | 0 => simpa using hk
    | j + 1 =>
     have := h1 j (by omega); rw [show k + ((j + 1 : Nat) : Int) = k + 1 + (j : Nat) by omega]; exact this
   ·have := h3 (by omega); rw [show k + ((run td (k + 1) f + 1 : Nat) : Int) = k + 1 + (run td (k + 1) f : Nat) by omega]; exact this
  ·rw [if_neg hk]; refine ⟨fun j hj => by omega, by omega, fun _ => ?_⟩; simp only [Int.ofNat_zero, Int.add_zero]; cases h : td k with
   | none => rfl
   | some v => rw [h] at hk; exact absurd rfl hk
theorem Ok.nx {s : S} (h : Ok s) : (∀ k, s.base ≤ k → k < M.nx s → (s.td k).isSome = true) ∧ s.td (M.nx s) = none ∧ s.base ≤ M.nx s ∧ M.nx s ≤ 1024 := by
 obtain ⟨h1, h2, h3⟩ := run_spec s.td 1024 s.base; have hlt : ∀ k, (s.td k).isSome = true → s.base ≤ k ∧ k < 1024 := fun k e => by
  obtain ⟨v, hv⟩ := Option.isSome_iff_exists.1 e; have := h.td k v hv; exact ⟨this.1, this.2.1⟩
 have hb := h.base; unfold M.nx; generalize run s.td s.base 1024 = r at *; have hr : s.base + (r : Nat) ≤ 1024 := by
  rcases Nat.eq_zero_or_pos r with h0 | h0
  ·omega
  ·have := hlt _ (h1 (r - 1) (by omega)); omega
 refine ⟨fun k hk1 hk2 => ?_, ?_, by omega, hr⟩
 ·have := h1 (k - s.base).toNat (by omega); rw [show s.base + ((k - s.base).toNat : Int) = k by omega] at this; exact this
 ·by_cases hf : r < 1024
  ·exact h3 hf
  ·cases e : s.td (s.base + (r : Nat)) with
   | none => rfl
   | some v =>
    have := hlt (s.base + (r : Nat)) (by rw [e]; rfl); omega
theorem row_len {s : S} (h : Ok s) (k : Int) : (row s k).length = s.n.toNat := by
 unfold row; split
 ·simp
 ·rename_i hne
  rcases h.len k with e | e
  ·rw [e] at hne; simp at hne
  ·exact e
theorem hl_len (l : List W) (i : Nat) (x : V) : (hl l i x).length = l.length := by
 unfold hl; split
 ·simp
 ·rfl
theorem may_yes {s : S} {k : Int} {v : ByteArray} (h : may s k v = true) : s.base ≤ k ∧ k < 1024 ∧ v.size ≤ 4096 ∧ s.td k = none := by
 unfold may at h; simp at h; exact ⟨h.1, h.2.1, h.2.2.1, h.2.2.2⟩
theorem rws_td (s : S) (k : Int) : (rws s k).td = s.td ∧ (rws s k).n = s.n ∧ (rws s k).base = s.base ∧ (rws s k).vs k = row s k ∧ (rws s k).c ≤ s.c + 1 := by
 unfold rws row; split
 ·exact ⟨rfl, rfl, rfl, fup_same _ _ _, Nat.le_refl _⟩
 ·exact ⟨rfl, rfl, rfl, rfl, Nat.le_succ _⟩
theorem Ok.sv {s : S} (h : Ok s) {k : Int} {l : List W} (hk : s.td k = none) (hl : l.length = s.n.toNat) : Ok (M.sv s k l) := by
 refine ⟨h.n, h.base, h.td, fun j hj => ?_, fun j => ?_⟩
 ·have hne : j ≠ k := fun e => by
   subst e; have hj' : (s.td j).isSome = true := hj; rw [hk] at hj'; cases hj'
  show fup s.vs k l j = []; rw [fup_other _ hne]; exact h.vs j hj
 ·show fup s.vs k l j = [] ∨ (fup s.vs k l j).length = s.n.toNat; by_cases hj : j = k
  ·subst hj; rw [fup_same]; exact .inr hl
  ·rw [fup_other _ hj]; exact h.len j
theorem Ok.c {s : S} (h : Ok s) (c : Nat) : Ok { s with c := c } := ⟨h.n, h.base, h.td, h.vs, h.len⟩
theorem Ok.rws {s : S} (h : Ok s) {k : Int} (hk : s.td k = none) : Ok (M.rws s k) := by
 unfold M.rws; split
 ·exact (h.sv hk (by simp)).c _
 ·exact h
theorem Ok.tl {s : S} (h : Ok s) {k : Int} {v : ByteArray} (hk : may s k v = true) : Ok (M.tl s k v) := by
 obtain ⟨k1, k2, k3, k4⟩ := may_yes hk; refine ⟨h.n, h.base, fun j u e => ?_, fun j hj => ?_, fun j => ?_⟩
 ·by_cases hj : j = k
  ·subst hj; have e' : fup s.td j (some v) j = some u := e; rw [fup_same] at e'; cases e'; exact ⟨k1, k2, k3⟩
  ·have e' : fup s.td k (some v) j = some u := e; rw [fup_other _ hj] at e'; exact h.td j u e'
 ·show fup s.vs k [] j = []; by_cases hjk : j = k
  ·subst hjk; exact fup_same _ _ _
  ·rw [fup_other _ hjk]; have hj' : (fup s.td k (some v) j).isSome = true := hj; rw [fup_other _ hjk] at hj'; exact h.vs j hj'
 ·show fup s.vs k [] j = [] ∨ (fup s.vs k [] j).length = s.n.toNat; by_cases hj : j = k
  ·subst hj; rw [fup_same]; exact .inl rfl
  ·rw [fup_other _ hj]; exact h.len j
theorem hok_yes {s : S} {fr : Int} {x : V} (h : hok s fr x = true) : 0 ≤ fr ∧ fr < s.n ∧ vld x.b = true ∧ may s x.s x.v = true := by
 unfold hok at h; simp only [Bool.and_eq_true, decide_eq_true_eq] at h; exact ⟨h.1, h.2.1, h.2.2.1, h.2.2.2⟩
theorem may_of {s s' : S} (k : Int) (v : ByteArray) (h1 : s'.td = s.td) (h2 : s'.base = s.base) : may s' k v = may s k v := by unfold may; rw [h1, h2]
theorem Ok.hs {s : S} (h : Ok s) (fr : Int) (x : V) : Ok (M.hs s fr x) := by
 unfold M.hs; split
 ·rename_i hk
  obtain ⟨k0, k1, k2, k3⟩ := hok_yes hk; obtain ⟨m1, m2, m3, m4⟩ := may_yes k3; obtain ⟨r1, r2, r3, r4, r5⟩ := rws_td s x.s; have hsv : Ok (M.sv (M.rws s x.s) x.s (hl (row s x.s) fr.toNat x)) := (h.rws m4).sv (by rw [r1]; exact m4) (by rw [hl_len, row_len h, r2]); split
  ·exact hsv.tl (by rw [may_of x.s x.v (show (M.sv (M.rws s x.s) x.s (hl (row s x.s) fr.toNat x)).td = s.td from r1) r3]; exact k3)
  ·exact hsv
 ·exact h
theorem Ok.ts {s : S} (h : Ok s) (k : Int) (v : ByteArray) : Ok (M.ts s k v) := by
 unfold M.ts; split
 ·rename_i hk
  exact h.tl hk
 ·exact h
theorem Ok.tr {s : S} (h : Ok s) (u : Int) : Ok (M.tr s u) := by
 obtain ⟨n1, n2, n3, n4⟩ := h.nx; have hb := h.base; have ht : s.base ≤ tb s u ∧ tb s u ≤ M.nx s := by unfold tb; omega
 refine ⟨h.n, ⟨by show 0 ≤ tb s u; omega, by show tb s u ≤ 1024; omega⟩, fun k v e => ?_, fun k e => ?_, h.len⟩
 ·have e' : (if k < tb s u then none else s.td k) = some v := e
  split at e'
  ·cases e'
  ·rename_i hk
   have := h.td k v e'; exact ⟨by show tb s u ≤ k; omega, this.2.1, this.2.2⟩
 ·have e' : (if k < tb s u then none else s.td k).isSome = true := e
  split at e'
  ·cases e'
  ·exact h.vs k e'
end Go.Proofs.YtgodnpngdbelhaaGreat.Nl.M
namespace Go.Proofs.YtgodnpngdbelhaaGreat.Dl
open Go.Proofs.YtgodnpngdbelhaaGreat.M (E V quo cmpE vld)
open Go.Proofs.YtgodnpngdbelhaaGreat.Nl.M (S W w0 ck wq hh hc hl hag row rws sv tl ts hs hok fup fup_same fup_other)
structure X where
 n : Int
 base : Int
 td : List (Int × ByteArray)
 vs : List (Int × V)
def x0 (n base : Int) : X := ⟨n, base, [], []⟩
def fnd (l : List (Int × ByteArray)) (k : Int) : Option ByteArray := (l.find? fun y => decide (y.1 = k)).map (·.2)
def told (x : X) (k : Int) : Option ByteArray := if x.base ≤ k then fnd x.td k else none
def may (x : X) (k : Int) (v : ByteArray) : Bool := !(told x k).isSome && decide (x.base ≤ k) && decide (k < 1024) && decide (v.size ≤ 4096)
def tell (x : X) (k : Int) (v : ByteArray) : X := if may x k v then { x with td := x.td ++ [(k, v)] } else x
def own (f k : Int) (y : Int × V) : Bool := decide (y.1 = f) && decide (y.2.s = k)
def rest (l : List (Int × V)) (f k : Int) : List (Int × V) := l.filter fun y => !own f k y
def late (l : List (Int × V)) (f : Int) (v : V) : Bool := l.any fun y => own f v.s y && decide (0 ≤ cmpE y.2.b v.b)
def same (a b : V) : Bool := decide (a.s = b.s) && (decide (a.b.i = b.b.i) && decide (a.b.t = b.b.t)) && (a.v.toList == b.v.toList)
def cnt (l : List (Int × V)) (v : V) : Nat := (l.filter fun y => same y.2 v).length
def hrk (x : X) (f : Int) (v : V) : Bool := decide (0 ≤ f) && decide (f < x.n) && vld v.b && may x v.s v.v
def hr1 (x : X) (f : Int) (v : V) : X := { x with vs := rest x.vs f v.s ++ [(f, v)] }
def hear (x : X) (f : Int) (v : V) : X := if hrk x f v then (if late x.vs f v then x else if ((cnt (hr1 x f v).vs v : Nat) : Int) < quo x.n then hr1 x f v else tell (hr1 x f v) v.s v.v) else x
def wof (l : List (Int × V)) (k : Int) (j : Nat) : W := match l.find? (own j k) with
 | some y => hh y.2
 | none => w0
structure Rel (s : S) (x : X) : Prop where
 ok : Nl.M.Ok s
 n : x.n = s.n
 base : x.base = s.base
 td : ∀ k, s.td k = told x k
 vs : ∀ k, s.td k = none → ∀ j : Nat, (j : Int) < s.n → (row s k).getD j w0 = wof x.vs k j
 rng : ∀ y ∈ x.vs, 0 ≤ y.1 ∧ y.1 < x.n
 unq : x.vs.Pairwise fun a b => ¬ (a.1 = b.1 ∧ a.2.s = b.2.s)
 noq : ∀ k, s.td k = none → ∀ h : W, h.g = true → ((ck (fun i => wq ((row s k).getD i w0) h) s.n.toNat : Nat) : Int) < quo s.n
theorem quo_pos {n : Int} (h : 1 ≤ n ∧ n ≤ 7) : 0 < quo n := by
 unfold M.quo; rw [if_neg (by omega)]; omega
theorem ck_none (g : Nat → Bool) : ∀ n, (∀ i, i < n → g i = false) → ck g n = 0
 | 0, _ => rfl
 | n + 1, h => by rw [ck, ck_none g n (fun i hi => h i (by omega)), h n (by omega)]; rfl
theorem row_zero (n : Int) (k : Int) (j : Nat) : (row (Nl.M.s0 n) k).getD j w0 = w0 := by
 unfold row Nl.M.s0; simp only [List.length_nil, if_true]; rw [List.getD_eq_getElem?_getD, List.getElem?_replicate]
 split <;> rfl
theorem Rel.zero {n : Int} (h : 1 ≤ n ∧ n ≤ 7) : Rel (Nl.M.s0 n) (x0 n 0) := by
 refine ⟨Nl.M.Ok.zero (by unfold Nl.M.nde; simp only [Bool.and_eq_true, decide_eq_true_eq]; exact h), rfl, rfl, fun k => ?_, fun k _ j _ => ?_, fun y hy => (by cases hy), List.Pairwise.nil, fun k _ hw hg => ?_⟩
 ·unfold told x0 fnd
  split <;> rfl
 ·rw [row_zero]; rfl
 ·rw [ck_none _ _ (fun i _ => by
   rw [row_zero]; unfold wq w0; rw [hg]
   rfl)]
  exact quo_pos h
theorem Rel.may {s : S} {x : X} (h : Rel s x) (k : Int) (v : ByteArray) : Dl.may x k v = Nl.M.may s k v := by
 unfold Dl.may Nl.M.may; rw [← h.td k, h.base]; cases (s.td k).isSome <;> cases decide (s.base ≤ k) <;> cases decide (k < 1024) <;> cases decide (v.size ≤ 4096) <;> rfl
theorem fnd_app (l : List (Int × ByteArray)) (k : Int) (v : ByteArray) (j : Int) : fnd (l ++ [(k, v)]) j = match fnd l j with
  | some u => some u
  | none => if j = k then some v else none := by
 unfold fnd; rw [List.find?_append]; cases hf : l.find? fun y => decide (y.1 = j) with
 | some y => rfl
 | none =>
  by_cases hj : j = k
  ·subst hj; simp
  ·have : ¬ k = j := fun e => hj e.symm; simp [hj, this]
theorem told_app (x : X) (k : Int) (v : ByteArray) (hb : x.base ≤ k) (hn : told x k = none) (j : Int) : told { x with td := x.td ++ [(k, v)] } j = fup (told x) k (some v) j := by
 by_cases hj : j = k
 ·subst hj; rw [fup_same]; unfold told at hn ⊢; simp only at hn ⊢; rw [if_pos hb] at hn ⊢; rw [fnd_app, hn]; simp
 ·rw [fup_other _ hj]; unfold told; simp only; split
  ·rw [fnd_app]; cases fnd x.td j with
   | some u => rfl
   | none => simp [hj]
  ·rfl
theorem row_tl (s : S) (k : Int) (v : ByteArray) (j : Int) (hj : j ≠ k) : row (tl s k v) j = row s j := by
 unfold row tl; simp only [fup_other _ hj]
theorem Rel.put {s : S} {x : X} (h : Rel s x) {k : Int} {v : ByteArray} (hm : Nl.M.may s k v = true) : Rel (tl s k v) { x with td := x.td ++ [(k, v)] } := by
 obtain ⟨h1, h2, h3, h4⟩ := Nl.M.may_yes hm; refine ⟨h.ok.tl hm, h.n, h.base, fun j => ?_, fun j hj i hi => ?_, h.rng, h.unq, fun j hj w hw => ?_⟩
 ·rw [told_app x k v (by rw [h.base]; exact h1) (by rw [← h.td]; exact h4)]; show fup s.td k (some v) j = fup (told x) k (some v) j; unfold fup; split
  ·rfl
  ·exact h.td j
 ·have hjk : j ≠ k := fun e => by
   subst e; have : (tl s j v).td j = some v := fup_same _ _ _; rw [this] at hj; cases hj
  rw [row_tl s k v j hjk]; have hs : s.td j = none := by
   have : (tl s k v).td j = s.td j := fup_other _ hjk; rw [← this]; exact hj
  exact h.vs j hs i hi
 ·have hjk : j ≠ k := fun e => by
   subst e; have : (tl s j v).td j = some v := fup_same _ _ _; rw [this] at hj; cases hj
  rw [row_tl s k v j hjk]; have hs : s.td j = none := by
   have : (tl s k v).td j = s.td j := fup_other _ hjk; rw [← this]; exact hj
  exact h.noq j hs w hw
theorem Rel.tell {s : S} {x : X} (h : Rel s x) (k : Int) (v : ByteArray) : Rel (ts s k v) (tell x k v) := by
 unfold ts Dl.tell; rw [h.may]; cases hm : Nl.M.may s k v with
 | true => exact h.put hm
 | false => exact h
def Unq (l : List (Int × V)) : Prop := l.Pairwise fun a b => ¬ (a.1 = b.1 ∧ a.2.s = b.2.s)
theorem own_iff {f k : Int} {y : Int × V} : own f k y = true ↔ y.1 = f ∧ y.2.s = k := by
 unfold own; simp only [Bool.and_eq_true, decide_eq_true_eq]
theorem own_one : ∀ {l : List (Int × V)}, Unq l → ∀ f k, l.filter (own f k) = (l.find? (own f k)).toList
 | [], _, f, k => rfl
 | a :: l, h, f, k => by
  have h1 := List.pairwise_cons.1 h; cases ha : own f k a with
  | true =>
   rw [List.filter_cons_of_pos ha, List.find?_cons_of_pos ha]; have : l.filter (own f k) = [] := by
    rw [List.filter_eq_nil_iff]; intro b hb hob; have e1 := own_iff.1 ha; have e2 := own_iff.1 hob; exact h1.1 b hb ⟨by rw [e1.1, e2.1], by rw [e1.2, e2.2]⟩
   rw [this]; rfl
  | false =>
   rw [List.filter_cons_of_neg (by rw [ha]; decide), List.find?_cons_of_neg (by rw [ha]; decide)]; exact own_one h1.2 f k
theorem unq_rest {l : List (Int × V)} (h : Unq l) (f k : Int) : Unq (rest l f k) := List.Pairwise.filter _ h
theorem unq_hr {l : List (Int × V)} (h : Unq l) (f : Int) (v : V) : Unq (rest l f v.s ++ [(f, v)]) := by
 unfold Unq; rw [List.pairwise_append]; refine ⟨unq_rest h f v.s, List.pairwise_singleton _ _, fun a ha b hb => ?_⟩; obtain rfl := List.mem_singleton.1 hb; have := (List.mem_filter.1 ha).2; rintro ⟨e1, e2⟩; rw [own_iff.2 ⟨e1, e2⟩] at this; cases this
theorem find_rest (l : List (Int × V)) (f k j q : Int) (h : ¬ (j = f ∧ q = k)) : (rest l f k).find? (own j q) = l.find? (own j q) := by
 unfold rest; rw [List.find?_filter]; congr 1; funext y; cases ho : own j q y with
 | false => simp
 | true =>
  have e := own_iff.1 ho; have : own f k y = false := Bool.eq_false_iff.2 fun e2 => h ⟨e.1.symm.trans (own_iff.1 e2).1, e.2.symm.trans (own_iff.1 e2).2⟩; simp [this]
theorem find_none (l : List (Int × V)) (f k : Int) : (rest l f k).find? (own f k) = none := by
 rw [List.find?_eq_none]; intro y hy; have := (List.mem_filter.1 hy).2; intro e; rw [e] at this; cases this
theorem wof_hr (l : List (Int × V)) (f : Int) (v : V) (k : Int) (j : Nat) : wof (rest l f v.s ++ [(f, v)]) k j = if (j : Int) = f ∧ k = v.s then hh v else wof l k j := by
 unfold wof; rw [List.find?_append]; by_cases h : (j : Int) = f ∧ k = v.s
 ·rw [if_pos h]; obtain ⟨e1, e2⟩ := h; subst e2; rw [e1, find_none]; have : own f v.s (f, v) = true := own_iff.2 ⟨rfl, rfl⟩; simp [this]
 ·rw [if_neg h, find_rest l f v.s j k h]; cases l.find? (own (j : Int) k) with
  | some y => rfl
  | none =>
   have : own (j : Int) k (f, v) = false := Bool.eq_false_iff.2 fun e => h ⟨(own_iff.1 e).1.symm, (own_iff.1 e).2.symm⟩; simp [this]
theorem late_is {l : List (Int × V)} (h : Unq l) (f : Nat) (v : V) : late l f v = ((wof l v.s f).g && decide (0 ≤ cmpE (wof l v.s f).b v.b)) := by
 have h1 := own_one h (f : Int) v.s; have h2 : late l f v = (l.filter (own f v.s)).any (fun y => decide (0 ≤ cmpE y.2.b v.b)) := by
  unfold late; rw [List.any_filter]
 rw [h2, h1]; unfold wof; cases l.find? (own (f : Int) v.s) with
 | some y =>
  show (decide (0 ≤ cmpE y.2.b v.b) || false) = (true && decide (0 ≤ cmpE y.2.b v.b)); rw [Bool.or_false, Bool.true_and]
 | none => rfl
theorem hc_late {l : List (Int × V)} (h : Unq l) {R : List W} {f : Nat} {v : V} (hr : R.getD f w0 = wof l v.s f) : hc R f v = !late l f v := by
 rw [late_is h]; unfold hc; rw [hr]; cases (wof l v.s f).g with
 | false => rfl
 | true =>
  rw [Bool.not_true, Bool.false_or, Bool.true_and]; by_cases hx : cmpE (wof l v.s f).b v.b < 0
  ·rw [decide_eq_true hx, decide_eq_false (by omega)]; rfl
  ·rw [decide_eq_false hx, decide_eq_true (by omega)]; rfl
theorem same_is (a v : V) : same a v = (decide (a.s = v.s) && wq (hh a) (hh v)) := by
 unfold same wq hh; simp only [beq_self_eq_true, Bool.true_and]; have h1 : (a.b.i == v.b.i) = decide (a.b.i = v.b.i) := rfl; have h2 : (a.b.t == v.b.t) = decide (a.b.t = v.b.t) := rfl; rw [h1, h2, Bool.and_assoc]
theorem cnt_is {l : List (Int × V)} (h : Unq l) (v : V) (n : Nat) (hr : ∀ y ∈ l, 0 ≤ y.1 ∧ y.1 < n) : cnt l v = ck (fun i => wq (wof l v.s i) (hh v)) n := by
 have step : ∀ m : Nat, ((l.filter fun y => same y.2 v).filter fun y => decide (y.1 < (m : Int))).length = ck (fun i => wq (wof l v.s i) (hh v)) m := by
  intro m
  induction m with
  | zero =>
   rw [ck, List.length_eq_zero_iff, List.filter_eq_nil_iff]; intro y hy; have := (hr y (List.mem_filter.1 hy).1).1; simp only [decide_eq_true_eq]; omega
  | succ m ih =>
   rw [ck, ← ih]; have h1 : ∀ q : List (Int × V), (q.filter fun y => decide (y.1 < ((m + 1 : Nat) : Int))).length = (q.filter fun y => decide (y.1 < (m : Int))).length + (q.filter fun y => decide (y.1 = (m : Int))).length := by
    intro q
    induction q with
    | nil => rfl
    | cons a q ihq =>
     simp only [List.filter_cons]; by_cases e1 : a.1 < (m : Int)
     ·rw [if_pos (by simp only [decide_eq_true_eq]; omega), if_pos (by simpa using e1), if_neg (by simp only [decide_eq_true_eq]; omega)]; simp only [List.length_cons]; rw [ihq]; omega
     ·by_cases e2 : a.1 = (m : Int)
      ·rw [if_pos (by simp only [decide_eq_true_eq]; omega), if_neg (by simpa using e1), if_pos (by simpa using e2)]; simp only [List.length_cons]; rw [ihq]; omega
      ·rw [if_neg (by simp only [decide_eq_true_eq]; omega), if_neg (by simpa using e1), if_neg (by simpa using e2)]; exact ihq
   rw [h1]; congr 1; have h2 : ((l.filter fun y => same y.2 v).filter fun y => decide (y.1 = (m : Int))) = (l.filter (own m v.s)).filter fun y => wq (hh y.2) (hh v) := by
    rw [List.filter_filter, List.filter_filter]; congr 1; funext y; rw [same_is]; unfold own; cases decide (y.1 = (m : Int)) <;> cases decide (y.2.s = v.s) <;> cases wq (hh y.2) (hh v) <;> rfl
   rw [h2, own_one h]; unfold wof; cases l.find? (own (m : Int) v.s) with
   | none => simp [wq, w0, hh]
   | some y =>
    simp only [Option.toList]; show (([y] : List (Int × V)).filter fun y => wq (hh y.2) (hh v)).length = _; simp only [List.filter_cons, List.filter_nil]
    split <;> rfl
 rw [← step n]; unfold cnt; congr 1; refine (List.filter_eq_self.2 fun y hy => ?_).symm; have := (hr y (List.mem_filter.1 hy).1).2; exact decide_eq_true this
structure Mid (k0 : Int) (s : S) (x : X) : Prop where
 ok : Nl.M.Ok s
 n : x.n = s.n
 base : x.base = s.base
 td : ∀ k, s.td k = told x k
 vs : ∀ k, s.td k = none → ∀ j : Nat, (j : Int) < s.n → (row s k).getD j w0 = wof x.vs k j
 rng : ∀ y ∈ x.vs, 0 ≤ y.1 ∧ y.1 < x.n
 unq : Unq x.vs
 noq : ∀ k, k ≠ k0 → s.td k = none → ∀ h : W, h.g = true → ((ck (fun i => wq ((row s k).getD i w0) h) s.n.toNat : Nat) : Int) < quo s.n
theorem Mid.full {s : S} {x : X} {k : Int} (h : Mid k s x) (hq : ∀ w : W, w.g = true → ((ck (fun i => wq ((row s k).getD i w0) w) s.n.toNat : Nat) : Int) < quo s.n) : Rel s x :=
 ⟨h.ok, h.n, h.base, h.td, h.vs, h.rng, h.unq, fun j hj => by
  by_cases e : j = k
  ·subst e; exact hq
  ·exact h.noq j e hj⟩
theorem Mid.put {s : S} {x : X} {k : Int} {v : ByteArray} (h : Mid k s x) (hm : Nl.M.may s k v = true) : Rel (tl s k v) { x with td := x.td ++ [(k, v)] } := by
 obtain ⟨h1, h2, h3, h4⟩ := Nl.M.may_yes hm; have key : ∀ j, (tl s k v).td j = none → j ≠ k ∧ s.td j = none := fun j hj => by
  have hjk : j ≠ k := fun e => by
   subst e; have : (tl s j v).td j = some v := fup_same _ _ _; rw [this] at hj; cases hj
  exact ⟨hjk, (show (tl s k v).td j = s.td j from fup_other _ hjk) ▸ hj⟩
 refine ⟨h.ok.tl hm, h.n, h.base, fun j => ?_, fun j hj i hi => ?_, h.rng, h.unq, fun j hj w hw => ?_⟩
 ·rw [told_app x k v (by rw [h.base]; exact h1) (by rw [← h.td]; exact h4)]; show fup s.td k (some v) j = fup (told x) k (some v) j; unfold fup; split
  ·rfl
  ·exact h.td j
 ·rw [row_tl s k v j (key j hj).1]; exact h.vs j (key j hj).2 i hi
 ·rw [row_tl s k v j (key j hj).1]; exact h.noq j (key j hj).1 (key j hj).2 w hw
theorem row_sv (s : S) (k : Int) (R : List W) (hR : R.length = s.n.toNat) (hn : 1 ≤ s.n) (j : Int) : row (sv (rws s k) k R) j = if j = k then R else row s j := by
 have hl : R.length ≠ 0 := by omega
 have hn' : (sv (rws s k) k R).n = s.n := (Nl.M.rws_td s k).2.1; have hvs : ∀ j, (sv (rws s k) k R).vs j = fup (rws s k).vs k R j := fun j => rfl; unfold row; rw [hvs, hn']; by_cases hj : j = k
 ·subst hj; rw [fup_same, if_neg hl, if_pos rfl]
 ·rw [fup_other _ hj, if_neg hj]; have : (rws s k).vs j = s.vs j := by
   unfold rws; split
   ·exact fup_other _ hj
   ·rfl
  rw [this]
theorem wq_trans {a b c : W} (h1 : wq a b = true) : wq a c = wq b c := by
 unfold wq at *; simp only [Bool.and_eq_true, beq_iff_eq] at h1; obtain ⟨e1, ⟨e2, e3⟩, e4⟩ := h1; rw [e1, e2, e3, e4]
theorem ck_same' {f g : Nat → Bool} : ∀ n, (∀ i, i < n → f i = g i) → ck f n = ck g n
 | 0, _ => rfl
 | n + 1, h => by rw [ck, ck, ck_same' n (fun i hi => h i (by omega)), h n (by omega)]
theorem ck_sub {f g : Nat → Bool} : ∀ n, (∀ i, i < n → f i = true → g i = true) → ck f n ≤ ck g n
 | 0, _ => Nat.le_refl _
 | n + 1, h => by
  have := ck_sub n (fun i hi => h i (by omega)); rw [ck, ck]; have h2 := h n (by omega); cases hf : f n with
  | true => rw [h2 hf]; simp; omega
  | false => simp; split <;> omega
theorem Rel.hear {s : S} {x : X} (h : Rel s x) (f : Int) (v : V) : Rel (hs s f v) (hear x f v) := by
 have hk : hrk x f v = hok s f v := by
  unfold hrk hok; rw [h.may, h.n]; cases decide (0 ≤ f) <;> cases decide (f < s.n) <;> cases vld v.b <;> rfl
 unfold hs Dl.hear; rw [hk]; cases he : hok s f v with
 | false => exact h
 | true =>
  obtain ⟨f0, f1, fv, fm⟩ := Nl.M.hok_yes he; obtain ⟨m1, m2, m3, m4⟩ := Nl.M.may_yes fm; obtain ⟨i, rfl⟩ : ∃ i : Nat, f = (i : Int) := ⟨f.toNat, by omega⟩; have hrl := Nl.M.row_len h.ok v.s; have hn1 := h.ok.n; have hri := h.vs v.s m4 i f1; have hcl := hc_late h.unq hri; have hin : i < s.n.toNat := by omega
  simp only [if_true, Int.toNat_natCast]; have hsz : (hl (row s v.s) i v).length = s.n.toNat := by rw [Nl.M.hl_len, hrl]
  have hag_is : hag s.n (hl (row s v.s) i v) (hh v) = decide (quo s.n ≤ ((ck (fun j => wq ((hl (row s v.s) i v).getD j w0) (hh v)) s.n.toNat : Nat) : Int)) := by
   unfold hag; rw [hsz]
  have sgen : ∀ (R : List W) (y : X), R.length = s.n.toNat → y.n = x.n → y.base = x.base → y.td = x.td → (∀ k j, (j : Nat) < s.n.toNat → k ≠ v.s → wof y.vs k j = wof x.vs k j) → (∀ j : Nat, (j : Int) < s.n → R.getD j w0 = wof y.vs v.s j) → (∀ z ∈ y.vs, 0 ≤ z.1 ∧ z.1 < y.n) → Unq y.vs → Mid v.s (sv (rws s v.s) v.s R) y := by
   intro R y hR hy1 hy2 hy3 hy4 hy5 hy6 hy7; obtain ⟨t1, t2, t3, -, -⟩ := Nl.M.rws_td s v.s; have htd : (sv (rws s v.s) v.s R).td = s.td := t1; have hnn : (sv (rws s v.s) v.s R).n = s.n := t2; refine ⟨(h.ok.rws m4).sv (by rw [t1]; exact m4) (by rw [t2]; exact hR), by rw [hy1, hnn]; exact h.n, by rw [hy2, h.base]; exact t3.symm, fun k => ?_, fun k hkn j hj => ?_, hy6, hy7, fun k hkv hkn w hw => ?_⟩
   ·rw [htd, h.td k]; unfold told; rw [hy2, hy3]
   ·rw [row_sv s v.s R hR hn1.1]; rw [hnn] at hj; by_cases e : k = v.s
    ·subst e; rw [if_pos rfl]; exact hy5 j hj
    ·rw [if_neg e, hy4 k j (by omega) e]; exact h.vs k (by rw [htd] at hkn; exact hkn) j hj
   ·rw [row_sv s v.s R hR hn1.1, if_neg hkv, hnn]; exact h.noq k (by rw [htd] at hkn; exact hkn) w hw
  cases hlt : late x.vs i v with
  | true =>
   rw [hlt] at hcl; have hll : hl (row s v.s) i v = row s v.s := by unfold hl; rw [hcl]; rfl
   have hno : hag s.n (hl (row s v.s) i v) (hh v) = false := by
    rw [hag_is, hll]; have := h.noq v.s m4 (hh v) rfl; exact decide_eq_false (by omega)
   rw [hno]; simp only [if_true, Bool.false_eq_true, if_false]; rw [hll]; refine (sgen (row s v.s) x hrl rfl rfl rfl (fun _ _ _ _ => rfl) (h.vs v.s m4) h.rng h.unq).full fun w hw => ?_; rw [row_sv s v.s (row s v.s) hrl hn1.1, if_pos rfl]; have := h.noq v.s m4 w hw; rw [show (sv (rws s v.s) v.s (row s v.s)).n = s.n from (Nl.M.rws_td s v.s).2.1]; exact this
  | false =>
   rw [hlt] at hcl; have hll : hl (row s v.s) i v = (row s v.s).set i (hh v) := by unfold hl; rw [hcl]; rfl
   have hget : ∀ j : Nat, ((row s v.s).set i (hh v)).getD j w0 = if j = i then hh v else (row s v.s).getD j w0 := fun j => by
    rw [List.getD_eq_getElem?_getD, List.getD_eq_getElem?_getD, List.getElem?_set]; by_cases e : i = j
    ·subst e; rw [if_pos rfl, if_pos rfl, if_pos (by rw [hrl]; exact hin)]; rfl
    ·rw [if_neg e, if_neg (fun e2 => e e2.symm)]
   have hy5 : ∀ j : Nat, (j : Int) < s.n → ((row s v.s).set i (hh v)).getD j w0 = wof (hr1 x i v).vs v.s j := fun j hj => by
    show _ = wof (rest x.vs i v.s ++ [((i : Int), v)]) v.s j; rw [hget, wof_hr]; by_cases e : j = i
    ·subst e; rw [if_pos rfl, if_pos ⟨rfl, rfl⟩]
    ·rw [if_neg e, if_neg (fun e2 => e (by omega))]; exact h.vs v.s m4 j hj
   have hrng : ∀ z ∈ (hr1 x i v).vs, 0 ≤ z.1 ∧ z.1 < (hr1 x i v).n := fun z hz => by
    rcases List.mem_append.1 hz with hz | hz
    ·exact h.rng z (List.mem_filter.1 hz).1
    ·obtain rfl := List.mem_singleton.1 hz; exact ⟨Int.natCast_nonneg i, by show (i : Int) < x.n; rw [h.n]; exact f1⟩
   have hunq : Unq (hr1 x i v).vs := unq_hr h.unq i v; have hmid := sgen ((row s v.s).set i (hh v)) (hr1 x i v) (by rw [List.length_set]; exact hrl) rfl rfl rfl (fun k j _ e => by
    show wof (rest x.vs i v.s ++ [((i : Int), v)]) k j = wof x.vs k j; rw [wof_hr, if_neg (fun e2 => e e2.2)]) hy5 hrng hunq
   have hcn : cnt (hr1 x i v).vs v = ck (fun j => wq (((row s v.s).set i (hh v)).getD j w0) (hh v)) s.n.toNat := by
    rw [cnt_is hunq v s.n.toNat (fun z hz => by have := hrng z hz; have e : (hr1 x i v).n = s.n := h.n; rw [e] at this; omega)]; exact ck_same' _ fun j hj => by rw [hy5 j (by omega)]
   rw [hll] at hag_is ⊢; rw [hag_is, hcn, h.n]; simp only [Bool.false_eq_true, if_false]; have hnn : (sv (rws s v.s) v.s ((row s v.s).set i (hh v))).n = s.n := (Nl.M.rws_td s v.s).2.1; by_cases hq : ((ck (fun j => wq (((row s v.s).set i (hh v)).getD j w0) (hh v)) s.n.toNat : Nat) : Int) < quo s.n
   ·rw [if_pos hq, decide_eq_false (by omega)]; simp only [Bool.false_eq_true, if_false]; refine hmid.full fun w hw => ?_; rw [row_sv s v.s _ (by rw [List.length_set]; exact hrl) hn1.1, if_pos rfl, hnn]; by_cases e : wq (hh v) w = true
    ·rw [ck_same' (g := fun j => wq (((row s v.s).set i (hh v)).getD j w0) (hh v)) _ (fun j _ => ?_)]
     ·exact hq
     ·cases e3 : wq (((row s v.s).set i (hh v)).getD j w0) (hh v) with
      | true => rw [wq_trans e3]; exact e
      | false =>
       rw [Bool.eq_false_iff]; intro e4; have e5 : wq w (((row s v.s).set i (hh v)).getD j w0) = true := by
        unfold wq at e4 ⊢; simp only [Bool.and_eq_true, beq_iff_eq] at e4 ⊢; exact ⟨e4.1.symm, ⟨e4.2.1.1.symm, e4.2.1.2.symm⟩, e4.2.2.symm⟩
       have e6 : wq (hh v) (((row s v.s).set i (hh v)).getD j w0) = true := by rw [wq_trans e]; exact e5
       have e7 : wq (((row s v.s).set i (hh v)).getD j w0) (hh v) = true := by
        unfold wq at e6 ⊢; simp only [Bool.and_eq_true, beq_iff_eq] at e6 ⊢; exact ⟨e6.1.symm, ⟨e6.2.1.1.symm, e6.2.1.2.symm⟩, e6.2.2.symm⟩
       rw [e7] at e3; cases e3
    ·have h1 := ck_sub (f := fun j => wq (((row s v.s).set i (hh v)).getD j w0) w) (g := fun j => wq ((row s v.s).getD j w0) w) s.n.toNat (fun j _ hj => by
      rw [hget] at hj; by_cases e2 : j = i
      ·rw [if_pos e2] at hj; exact absurd hj e
      ·rw [if_neg e2] at hj; exact hj)
     have h2 := h.noq v.s m4 w hw; omega
   ·rw [if_neg hq, decide_eq_true (by omega)]; simp only [if_true]; have hm2 : Nl.M.may (sv (rws s v.s) v.s ((row s v.s).set i (hh v))) v.s v.v = true := by
     exact (Nl.M.may_of (s := s) (s' := sv (rws s v.s) v.s ((row s v.s).set i (hh v))) v.s v.v (Nl.M.rws_td s v.s).1 (Nl.M.rws_td s v.s).2.2.1).trans fm
    have hm3 : Dl.may (hr1 x i v) v.s v.v = true := by
     have e : Dl.may (hr1 x i v) v.s v.v = Dl.may x v.s v.v := rfl; rw [e, h.may]; exact fm
    unfold Dl.tell; rw [hm3]; exact hmid.put hm2
end Go.Proofs.YtgodnpngdbelhaaGreat.Dl
