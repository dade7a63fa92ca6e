/-
  What is kept in memory: entries that are linked, in a row.
-/
import Derived.Test.YtpfmdchmgaaakaaRows
import Derived.Test.YtpfmdchmgaaakaaM
import Derived.WalkKit
import Derived.WalkSpells
import Derived.WalkLawsBesides
import Derived.Deep.QuietTactic
import Derived.BigQuiet
import Derived.BigRegion
import Derived.RegionTactic
import Derived.Deep.RegionWith
import Derived.ProofKit
import Derived.Below
import Derived.Deep.WholeRow
import Derived.Laws.MakeOwn
import Derived.Laws.AppendOwn
import Derived.Laws.CopyRow
import Derived.Lib.Hide
import Derived.Lib.Walk
namespace Go.Proofs.Ytpfmdchmgaaakaa
open Go.RowKit
set_option linter.unusedVariables false
open M (K)

theorem below_drewN {B : Nat} {a w : World} (h : Below B a w) (n : Nat) : Below B a (w.drewN n) := ⟨h.os, h.tape, h.output, h.size, h.block⟩
theorem bel1 (w : World) (o : Obj) : Below w.heap.size w (w.alloc o) := (Below.refl w.heap.size w).alloc (Nat.le_refl _) o
theorem bel_up {B : Nat} {w w1 w2 : World} (h : Below B w w1) (h2 : Below w1.heap.size w1 w2) (hB : B ≤ w.heap.size) : Below B w w2 := h.trans (h2.mono (Nat.le_trans hB h.size))
theorem Hid_of {p : Prop} (h : p) : Hid p := h
theorem row5 {w : World} {k : Nat} {v0 v1 v2 v3 v4 : Value} {t : TypeId} (h : w.heap[k]? = some (.cells #[v0, v1, v2, v3, v4] t (0, 0))) :
    (w.cell? ⟨k, 0, none⟩ = some v0 ∧ w.cell? ⟨k, 1, none⟩ = some v1 ∧ w.cell? ⟨k, 2, none⟩ = some v2 ∧ w.cell? ⟨k, 3, none⟩ = some v3 ∧ w.cell? ⟨k, 4, none⟩ = some v4) ∧ ∀ j, w.frozen? ⟨k, j, none⟩ = false :=
  ⟨⟨by rw [cell_of_row w k 0 _ _ _ h]; rfl, by rw [cell_of_row w k 1 _ _ _ h]; rfl, by rw [cell_of_row w k 2 _ _ _ h]; rfl, by rw [cell_of_row w k 3 _ _ _ h]; rfl, by rw [cell_of_row w k 4 _ _ _ h]; rfl⟩, fun j => frozen_of_row w k j _ _ h⟩

/-- A pointer to an entry, or none. -/
def ptr : Option Nat → Value
  | none => .pointer none
  | some b => .pointer (some ⟨b, 0, none⟩)
/-- An entry in memory. -/
def erow (e : K) (p n : Option Nat) : Obj := .cells #[.int .i64 e.key, .string e.val, .bool e.pin, ptr p, ptr n] 66 (0, 0)
/-- A cache in memory. -/
def crow (most bytes : Int) (m : Nat) (p n : Option Nat) : Obj := .cells #[.int .i64 most, .int .i64 bytes, .map (some m), ptr p, ptr n] 58 (0, 0)
/-- The first of a row, or what is behind it. -/
def hd : List (Nat × K) → Option Nat → Option Nat
  | [], n => n
  | x :: _, _ => some x.1
/-- The last of a row, or what is ahead of it. -/
def lst : Option Nat → List (Nat × K) → Option Nat
  | p, [] => p
  | _, x :: r => lst (some x.1) r
theorem lst_app : ∀ (p : Option Nat) (A B : List (Nat × K)), lst p (A ++ B) = lst (lst p A) B
  | p, [], B => rfl
  | p, x :: A, B => lst_app (some x.1) A B
theorem lst_snoc (p : Option Nat) (A : List (Nat × K)) (x : Nat × K) : lst p (A ++ [x]) = some x.1 := by rw [lst_app]; rfl
theorem hd_app (A B : List (Nat × K)) (n : Option Nat) : hd (A ++ B) n = hd A (hd B n) := by cases A <;> rfl
/-- Entries that are linked. -/
def Lk (w : World) : Option Nat → List (Nat × K) → Option Nat → Prop
  | _, [], _ => True
  | p, x :: r, n => w.heap[x.1]? = some (erow x.2 p (hd r n)) ∧ Lk w (some x.1) r n
theorem Lk_app (w : World) : ∀ (p : Option Nat) (A B : List (Nat × K)) (n : Option Nat), Lk w p (A ++ B) n ↔ Lk w p A (hd B n) ∧ Lk w (lst p A) B n
  | p, [], B, n => by simp [Lk, lst]
  | p, x :: A, B, n => by
    rw [List.cons_append, Lk, Lk, Lk_app w (some x.1) A B n, hd_app, lst, and_assoc]
theorem Lk.keep {w w' : World} : ∀ {p : Option Nat} {l : List (Nat × K)} {n : Option Nat}, Lk w p l n → (∀ b ∈ l.map (·.1), w'.heap[b]? = w.heap[b]?) → Lk w' p l n
  | p, [], n, _, _ => trivial
  | p, x :: r, n, h, hk => ⟨(hk x.1 (by simp)).trans h.1, Lk.keep h.2 (fun b hb => hk b (by simp [hb]))⟩
theorem Lk.lt {w : World} : ∀ {p : Option Nat} {l : List (Nat × K)} {n : Option Nat}, Lk w p l n → ∀ b ∈ l.map (·.1), b < w.heap.size
  | p, [], n, _, b, hb => by simp at hb
  | p, x :: r, n, h, b, hb => by
    rcases List.mem_cons.1 hb with rfl | hb
    · exact (Array.getElem?_eq_some_iff.1 h.1).1
    · exact Lk.lt h.2 b hb
/-- The blocks of a row. -/
abbrev bs (L : List (Nat × K)) : List Nat := L.map (·.1)
/-- Nothing has changed but the cache and entries of a row. -/
structure Sm (w : World) (c : Nat) (L : List (Nat × K)) (w' : World) : Prop where
  os : w'.os = w.os
  tape : w'.tape = w.tape
  output : w'.output = w.output
  size : w'.heap.size = w.heap.size
  block : ∀ k, k ≠ c → k ∉ bs L → w'.heap[k]? = w.heap[k]?
theorem Sm.two (w : World) {c : Nat} {L : List (Nat × K)} {k1 k2 : Nat} (j1 j2 : Nat) (v1 v2 : Value) (h1 : k1 = c ∨ k1 ∈ bs L) (h2 : k2 = c ∨ k2 ∈ bs L) : Sm w c L ((w.setCell ⟨k1, j1, none⟩ v1).setCell ⟨k2, j2, none⟩ v2) :=
  ⟨rfl, rfl, rfl, by simp, fun k hc hl => (heap_setCell_other _ ⟨k2, j2, none⟩ k _ (fun e => by subst e; rcases h2 with h | h; exact hc h; exact hl h)).trans (heap_setCell_other _ ⟨k1, j1, none⟩ k _ (fun e => by subst e; rcases h1 with h | h; exact hc h; exact hl h))⟩
def UnOut (w : World) (c : Nat) (mo by' : Int) (m : Nat) (A B : List (Nat × K)) (x : Nat × K) (e : Ending) (w' : World) : Prop :=
  e = .returned (.tuple #[]) ∧ w'.heap[c]? = some (crow mo by' m (hd (A ++ B) none) (lst none (A ++ B))) ∧ Lk w' none (A ++ B) none ∧ w'.heap[x.1]? = w.heap[x.1]? ∧ Sm w c (A ++ B) w'
set_option maxRecDepth 100000 in
set_option maxHeartbeats 1000000 in
theorem unlink_one (c : Nat) (mo by' : Int) (m : Nat) (x : Nat × K) (w : World) (hc : w.heap[c]? = some (crow mo by' m (hd [x] none) (lst none [x]))) (hl : Lk w none [x] none) (nc : c ≠ x.1) :
    Calls Try.prog 34 #[.pointer (some ⟨c, 0, none⟩), .pointer (some ⟨x.1, 0, none⟩)] w (UnOut w c mo by' m [] [] x) := by
  obtain ⟨⟨c0, c1, c2, c3, c4⟩, cf⟩ := row5 hc
  obtain ⟨⟨x0, x1, x2, x3, x4⟩, xf⟩ := row5 hl.1
  have HK : Hid (UnOut w c mo by' m [] [] x (.returned (.tuple #[])) ((w.setCell ⟨c, 3, none⟩ (.pointer none)).setCell ⟨c, 4, none⟩ (.pointer none))) :=
    ⟨rfl, heap_setCell_same _ c 4 _ _ _ (heap_setCell_same w c 3 _ _ _ hc), trivial, (heap_setCell_other _ ⟨c, 4, none⟩ _ _ nc.symm).trans (heap_setCell_other _ ⟨c, 3, none⟩ _ _ nc.symm), Sm.two w 3 4 _ _ (.inl rfl) (.inl rfl)⟩
  have y3 : (w.setCell ⟨c, 3, none⟩ (.pointer none)).cell? ⟨x.1, 3, none⟩ = some (.pointer none) := (World.cell?_of_block (w := w) (a := ⟨x.1, 3, none⟩) (heap_setCell_other w ⟨c, 3, none⟩ x.1 _ nc.symm)).trans x3
  have y4 : (w.setCell ⟨c, 3, none⟩ (.pointer none)).cell? ⟨x.1, 4, none⟩ = some (.pointer none) := (World.cell?_of_block (w := w) (a := ⟨x.1, 4, none⟩) (heap_setCell_other w ⟨c, 3, none⟩ x.1 _ nc.symm)).trans x4
  have f3 := cf 3
  have f4 := cf 4
  have g4 : (w.setCell ⟨c, 3, none⟩ (.pointer none)).frozen? ⟨c, 4, none⟩ = false := frozen_of_row _ c 4 _ _ (heap_setCell_same w c 3 _ _ _ hc)
  simp only [hd, lst, ptr] at c3 c4 x3 x4
  generalize x.1 = xb at *
  clear hc hl cf xf
  go_enter Try.func34, Try.ntmps34
  go_wp2
  go_end0
  exact HK.out
theorem ne_mem {k b : Nat} {l : List Nat} (h : k ∈ l) (hb : b ∉ l) : k ≠ b := fun e => hb (e ▸ h)
theorem Sm.drew {w : World} {c : Nat} {L : List (Nat × K)} {w' : World} (h : Sm w c L w') : Sm w c L w'.drew := ⟨h.os, h.tape, h.output, h.size, h.block⟩
theorem Lk.drew {w : World} {p : Option Nat} {l : List (Nat × K)} {n : Option Nat} (h : Lk w p l n) : Lk w.drew p l n := h.keep fun _ _ => rfl
theorem UnOut.drew {w : World} {c : Nat} {mo by' : Int} {m : Nat} {A B : List (Nat × K)} {x : Nat × K} {e : Ending} {w' : World} (h : UnOut w c mo by' m A B x e w') : UnOut w c mo by' m A B x e w'.drew :=
  ⟨h.1, h.2.1, h.2.2.1.drew, h.2.2.2.1, h.2.2.2.2.drew⟩
theorem cell_set_other {w : World} {k j : Nat} {a : Addr} {v u : Value} (h : w.cell? ⟨k, j, none⟩ = some u) (hne : k ≠ a.block) : (w.setCell a v).cell? ⟨k, j, none⟩ = some u :=
  (World.cell?_of_block (w := w) (a := ⟨k, j, none⟩) (heap_setCell_other w a k v hne)).trans h
theorem nodup_mid {A B : List (Nat × K)} {x : Nat × K} (h : (bs (A ++ x :: B)).Nodup) : (bs (A ++ B)).Nodup ∧ x.1 ∉ bs (A ++ B) ∧ (∀ a ∈ bs A, ∀ b ∈ bs B, a ≠ b) := by
  unfold bs at *
  rw [List.map_append, List.map_cons, List.nodup_append, List.nodup_cons] at h
  obtain ⟨h1, ⟨h2, h3⟩, h4⟩ := h
  rw [List.map_append, List.nodup_append]
  refine ⟨⟨h1, h3, fun a ha b hb => h4 a ha b (by simp [hb])⟩, ?_, fun a ha b hb => h4 a ha b (by simp [hb])⟩
  intro hx
  rcases List.mem_append.1 hx with hx | hx
  · exact h4 _ hx _ (by simp) rfl
  · exact h2 hx
set_option maxRecDepth 100000 in
set_option maxHeartbeats 1000000 in
theorem unlink_first (c : Nat) (mo by' : Int) (m : Nat) (B : List (Nat × K)) (x b : Nat × K) (w : World) (hc : w.heap[c]? = some (crow mo by' m (hd (x :: b :: B) none) (lst none (x :: b :: B)))) (hl : Lk w none (x :: b :: B) none) (nd : (bs (x :: b :: B)).Nodup) (nc : c ∉ bs (x :: b :: B)) :
    Calls Try.prog 34 #[.pointer (some ⟨c, 0, none⟩), .pointer (some ⟨x.1, 0, none⟩)] w (UnOut w c mo by' m [] (b :: B) x) := by
  obtain ⟨⟨c0, c1, c2, c3, c4⟩, cf⟩ := row5 hc
  obtain ⟨⟨x0, x1, x2, x3, x4⟩, xf⟩ := row5 hl.1
  obtain ⟨⟨b0, b1, b2, b3, b4⟩, bf⟩ := row5 hl.2.1
  simp only [bs, List.map_cons, List.nodup_cons, List.mem_cons, not_or] at nd nc
  obtain ⟨⟨n1, n2⟩, n3, n4⟩ := nd
  obtain ⟨n5, n6, n7⟩ := nc
  have HK : Hid (UnOut w c mo by' m [] (b :: B) x (.returned (.tuple #[])) ((w.setCell ⟨c, 3, none⟩ (.pointer (some ⟨b.1, 0, none⟩))).setCell ⟨b.1, 3, none⟩ (.pointer none))) := by
    refine ⟨rfl, (heap_setCell_other _ ⟨b.1, 3, none⟩ _ _ n6).trans (heap_setCell_same w c 3 _ _ _ hc), ⟨heap_setCell_same _ b.1 3 _ _ _ ((heap_setCell_other _ ⟨c, 3, none⟩ _ _ (Ne.symm n6)).trans hl.2.1), Lk.keep hl.2.2 fun k hk => ?_⟩, (heap_setCell_other _ ⟨b.1, 3, none⟩ _ _ n1).trans (heap_setCell_other _ ⟨c, 3, none⟩ _ _ (Ne.symm n5)), Sm.two w 3 3 _ _ (.inl rfl) (.inr (by simp [bs]))⟩
    exact (heap_setCell_other _ ⟨b.1, 3, none⟩ _ _ (ne_mem hk n3)).trans (heap_setCell_other _ ⟨c, 3, none⟩ _ _ (ne_mem hk n7))
  simp only [hd, lst, ptr] at c3 c4 x3 x4 b3 b4
  have y3 := cell_set_other (a := ⟨c, 3, none⟩) (v := .pointer (some ⟨b.1, 0, none⟩)) x3 (Ne.symm n5)
  have y4 := cell_set_other (a := ⟨c, 3, none⟩) (v := .pointer (some ⟨b.1, 0, none⟩)) x4 (Ne.symm n5)
  have z3 := cell_set_other (a := ⟨c, 3, none⟩) (v := .pointer (some ⟨b.1, 0, none⟩)) b3 (Ne.symm n6)
  have f3 := cf 3
  have g3 : (w.setCell ⟨c, 3, none⟩ (.pointer (some ⟨b.1, 0, none⟩))).frozen? ⟨b.1, 3, none⟩ = false := frozen_of_row _ b.1 3 _ _ ((heap_setCell_other _ ⟨c, 3, none⟩ _ _ (Ne.symm n6)).trans hl.2.1)
  generalize x.1 = xb at *
  generalize b.1 = bb at *
  clear hc hl cf xf bf n1 n2 n3 n4 n5 n6 n7 b4
  go_enter Try.func34, Try.ntmps34
  go_wp2_with fail
  go_region
  all_goals
    go_wp2
    go_end0
    first | exact HK.out | exact HK.out.drew | exact HK.out.drew.drew
set_option maxRecDepth 100000 in
set_option maxHeartbeats 1000000 in
theorem unlink_last (c : Nat) (mo by' : Int) (m : Nat) (A : List (Nat × K)) (a x : Nat × K) (w : World) (hc : w.heap[c]? = some (crow mo by' m (hd (A ++ [a] ++ [x]) none) (lst none (A ++ [a] ++ [x])))) (hl : Lk w none (A ++ [a] ++ [x]) none) (nd : (bs (A ++ [a] ++ [x])).Nodup) (nc : c ∉ bs (A ++ [a] ++ [x])) :
    Calls Try.prog 34 #[.pointer (some ⟨c, 0, none⟩), .pointer (some ⟨x.1, 0, none⟩)] w (UnOut w c mo by' m (A ++ [a]) [] x) := by
  rw [Lk_app, Lk_app, lst_snoc] at hl
  obtain ⟨⟨hA, ha, _⟩, hx, _⟩ := hl
  simp only [hd] at ha hx hA
  rw [lst_snoc, hd_app, hd_app] at hc
  obtain ⟨⟨c0, c1, c2, c3, c4⟩, cf⟩ := row5 hc
  obtain ⟨⟨x0, x1, x2, x3, x4⟩, xf⟩ := row5 hx
  obtain ⟨⟨a0, a1, a2, a3, a4⟩, af⟩ := row5 ha
  obtain ⟨nd1, nd2, nd3⟩ := nodup_mid (A := A ++ [a]) (B := []) nd
  rw [List.append_nil] at nd1 nd2
  simp only [bs, List.map_append, List.map_cons, List.map_nil, List.mem_append, List.mem_singleton, not_or, List.nodup_append] at nd1 nd2 nc
  obtain ⟨⟨n1, n2⟩, n3⟩ := nc
  obtain ⟨n4, n5⟩ := nd2
  obtain ⟨n6, _, n7⟩ := nd1
  have n8 : a.1 ∉ bs A := fun h => n7 _ h _ (by simp) rfl
  have HK : Hid (UnOut w c mo by' m (A ++ [a]) [] x (.returned (.tuple #[])) ((w.setCell ⟨a.1, 4, none⟩ (.pointer none)).setCell ⟨c, 4, none⟩ (.pointer (some ⟨a.1, 0, none⟩)))) := by
    refine ⟨rfl, ?_, ?_, (heap_setCell_other _ ⟨c, 4, none⟩ _ _ (Ne.symm n3)).trans (heap_setCell_other _ ⟨a.1, 4, none⟩ _ _ n5), Sm.two w 4 4 _ _ (.inr (by simp [bs])) (.inl rfl)⟩
    · rw [List.append_nil, lst_snoc, hd_app]
      exact heap_setCell_same _ c 4 _ _ _ ((heap_setCell_other w ⟨a.1, 4, none⟩ _ _ n2).trans hc)
    · rw [List.append_nil, Lk_app]
      refine ⟨Lk.keep hA fun k hk => ?_, ?_, trivial⟩
      · exact (heap_setCell_other _ ⟨c, 4, none⟩ _ _ (ne_mem hk n1)).trans (heap_setCell_other _ ⟨a.1, 4, none⟩ _ _ (ne_mem hk n8))
      · exact (heap_setCell_other _ ⟨c, 4, none⟩ _ _ (Ne.symm n2)).trans (heap_setCell_same w a.1 4 _ _ _ ha)
  simp only [ptr] at c4 x3 x4 a4
  have y3 := cell_set_other (a := ⟨a.1, 4, none⟩) (v := .pointer none) x3 n5
  have y4 := cell_set_other (a := ⟨a.1, 4, none⟩) (v := .pointer none) x4 n5
  have z3 := cell_set_other (a := ⟨a.1, 4, none⟩) (v := .pointer none) c4 n2
  have f3 := af 4
  have g3 : (w.setCell ⟨a.1, 4, none⟩ (.pointer none)).frozen? ⟨c, 4, none⟩ = false := frozen_of_row _ c 4 _ _ ((heap_setCell_other _ ⟨a.1, 4, none⟩ _ _ n2).trans hc)
  generalize x.1 = xb at *
  generalize a.1 = bb at *
  clear hc hA ha hx cf xf af nd nd3 n1 n2 n3 n4 n5 n6 n7 n8 a3 c3
  go_enter Try.func34, Try.ntmps34
  go_wp2_with fail
  go_region
  all_goals
    go_wp2
    go_end0
    first | exact HK.out | exact HK.out.drew | exact HK.out.drew.drew
set_option maxRecDepth 100000 in
set_option maxHeartbeats 1000000 in
theorem unlink_mid (c : Nat) (mo by' : Int) (m : Nat) (A B : List (Nat × K)) (a x b : Nat × K) (w : World) (hc : w.heap[c]? = some (crow mo by' m (hd (A ++ [a] ++ x :: b :: B) none) (lst none (A ++ [a] ++ x :: b :: B)))) (hl : Lk w none (A ++ [a] ++ x :: b :: B) none) (nd : (bs (A ++ [a] ++ x :: b :: B)).Nodup) (nc : c ∉ bs (A ++ [a] ++ x :: b :: B)) :
    Calls Try.prog 34 #[.pointer (some ⟨c, 0, none⟩), .pointer (some ⟨x.1, 0, none⟩)] w (UnOut w c mo by' m (A ++ [a]) (b :: B) x) := by
  rw [Lk_app, Lk_app, lst_snoc] at hl
  obtain ⟨⟨hA, ha, _⟩, hx, hb, hB⟩ := hl
  simp only [hd] at ha hx hA
  rw [lst_app, hd_app, hd_app] at hc
  obtain ⟨⟨x0, x1, x2, x3, x4⟩, xf⟩ := row5 hx
  obtain ⟨⟨a0, a1, a2, a3, a4⟩, af⟩ := row5 ha
  obtain ⟨⟨b0, b1, b2, b3, b4⟩, bf⟩ := row5 hb
  obtain ⟨nd1, nd2, nd3⟩ := nodup_mid (A := A ++ [a]) (B := b :: B) nd
  simp only [bs, List.map_append, List.map_cons, List.map_nil, List.mem_append, List.mem_cons, not_or, List.nodup_append, List.nodup_cons, List.not_mem_nil, not_false_eq_true, or_false] at nd1 nd2 nc
  obtain ⟨⟨n1, n2⟩, n3, n4, n5⟩ := nc
  obtain ⟨⟨n6, n7⟩, n8, n9⟩ := nd2
  obtain ⟨⟨n10, _, n11⟩, ⟨n12, n13⟩, n14⟩ := nd1
  have n15 : a.1 ∉ bs A := fun h => n11 _ h _ (by simp) rfl
  have n16 : a.1 ≠ b.1 := n14 _ (.inr rfl) _ (.inl rfl)
  have HK : Hid (UnOut w c mo by' m (A ++ [a]) (b :: B) x (.returned (.tuple #[])) ((w.setCell ⟨a.1, 4, none⟩ (.pointer (some ⟨b.1, 0, none⟩))).setCell ⟨b.1, 3, none⟩ (.pointer (some ⟨a.1, 0, none⟩)))) := by
    refine ⟨rfl, ?_, ?_, (heap_setCell_other _ ⟨b.1, 3, none⟩ _ _ n8).trans (heap_setCell_other _ ⟨a.1, 4, none⟩ _ _ n7), Sm.two w 4 3 _ _ (.inr (by simp [bs])) (.inr (by simp [bs]))⟩
    · rw [lst_app, hd_app, hd_app]
      exact (heap_setCell_other _ ⟨b.1, 3, none⟩ _ _ n4).trans ((heap_setCell_other w ⟨a.1, 4, none⟩ _ _ n2).trans hc)
    · rw [Lk_app, Lk_app, lst_snoc]
      refine ⟨⟨Lk.keep hA fun k hk => ?_, ?_, trivial⟩, ?_, Lk.keep hB fun k hk => ?_⟩
      · exact (heap_setCell_other _ ⟨b.1, 3, none⟩ _ _ (n14 _ (.inl hk) _ (.inl rfl))).trans (heap_setCell_other _ ⟨a.1, 4, none⟩ _ _ (ne_mem hk n15))
      · exact (heap_setCell_other _ ⟨b.1, 3, none⟩ _ _ n16).trans (heap_setCell_same w a.1 4 _ _ _ ha)
      · exact heap_setCell_same _ b.1 3 _ _ _ ((heap_setCell_other w ⟨a.1, 4, none⟩ _ _ n16.symm).trans hb)
      · exact (heap_setCell_other _ ⟨b.1, 3, none⟩ _ _ (ne_mem hk n12)).trans (heap_setCell_other _ ⟨a.1, 4, none⟩ _ _ (Ne.symm (n14 _ (.inr rfl) _ (.inr hk))))
  simp only [ptr] at x3 x4 a4 b3
  have y3 := cell_set_other (a := ⟨a.1, 4, none⟩) (v := .pointer (some ⟨b.1, 0, none⟩)) x3 n7
  have y4 := cell_set_other (a := ⟨a.1, 4, none⟩) (v := .pointer (some ⟨b.1, 0, none⟩)) x4 n7
  have z3 := cell_set_other (a := ⟨a.1, 4, none⟩) (v := .pointer (some ⟨b.1, 0, none⟩)) b3 n16.symm
  have f3 := af 4
  have g3 : (w.setCell ⟨a.1, 4, none⟩ (.pointer (some ⟨b.1, 0, none⟩))).frozen? ⟨b.1, 3, none⟩ = false := frozen_of_row _ b.1 3 _ _ ((heap_setCell_other _ ⟨a.1, 4, none⟩ _ _ n16.symm).trans hb)
  generalize x.1 = xb at *
  generalize a.1 = ab at *
  generalize b.1 = bb at *
  clear hc hA ha hx hb hB xf af bf nd nd3 n1 n2 n3 n4 n5 n6 n7 n8 n9 n10 n11 n12 n13 n14 n15 n16 a3 b4
  go_enter Try.func34, Try.ntmps34
  go_wp2_with fail
  go_region
  all_goals
    go_wp2_with fail
    go_region
    all_goals
      go_wp2
      go_end0
      first | exact HK.out | exact HK.out.drew | exact HK.out.drew.drew
theorem unlink_any (c : Nat) (mo by' : Int) (m : Nat) (A B : List (Nat × K)) (x : Nat × K) (w : World) (hc : w.heap[c]? = some (crow mo by' m (hd (A ++ x :: B) none) (lst none (A ++ x :: B)))) (hl : Lk w none (A ++ x :: B) none) (nd : (bs (A ++ x :: B)).Nodup) (nc : c ∉ bs (A ++ x :: B)) :
    Calls Try.prog 34 #[.pointer (some ⟨c, 0, none⟩), .pointer (some ⟨x.1, 0, none⟩)] w (UnOut w c mo by' m A B x) := by
  rcases List.eq_nil_or_concat A with rfl | ⟨A', a, rfl⟩
  · cases B with
    | nil => exact unlink_one c mo by' m x w hc hl (by simpa [bs] using nc)
    | cons b B => exact unlink_first c mo by' m B x b w hc hl nd nc
  · rw [List.concat_eq_append] at *
    cases B with
    | nil => exact unlink_last c mo by' m A' a x w hc hl nd nc
    | cons b B => exact unlink_mid c mo by' m A' B a x b w hc hl nd nc
end Go.Proofs.Ytpfmdchmgaaakaa
