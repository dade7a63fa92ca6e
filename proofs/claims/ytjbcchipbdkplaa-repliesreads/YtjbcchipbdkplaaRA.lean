/-
  What is kept of all clients, in memory: a map of rows of calls.
-/
import Derived.Test.YtjbcchipbdkplaaSI
import Derived.Test.YtjbcchipbdkplaaBS
import Derived.Maps.OwnSet
import Derived.Maps.RangeWalk
namespace Go.Proofs.Ytjbcchipbdkplaa
open Go.RowKit Go.Maps
set_option linter.unusedVariables false
open Rp (C fup)

/-- What has become of something whose own were F, and now are G: nothing else has changed. -/
structure Fr (w : World) (F : Nat → Prop) (w' : World) (G : Nat → Prop) : Prop where
  os : w'.os = w.os
  tape : w'.tape = w.tape
  output : w'.output = w.output
  size : w.heap.size ≤ w'.heap.size
  block : ∀ k, k < w.heap.size → ¬ F k → w'.heap[k]? = w.heap[k]?
  n : ∀ k, G k → F k ∨ w.heap.size ≤ k
theorem Fr.refl (w : World) (F : Nat → Prop) : Fr w F w F := ⟨rfl, rfl, rfl, Nat.le_refl _, fun _ _ _ => rfl, fun k h => .inl h⟩
theorem Fr.ofBelow {w w1 : World} {F : Nat → Prop} (h : Below w.heap.size w w1) : Fr w F w1 F := ⟨h.os, h.tape, h.output, h.size, fun k hk _ => h.block k hk, fun k h => .inl h⟩
theorem Fr.trans {w w1 w2 : World} {F G H : Nat → Prop} (h : Fr w F w1 G) (k : Fr w1 G w2 H) : Fr w F w2 H := by
  refine ⟨k.os.trans h.os, k.tape.trans h.tape, k.output.trans h.output, Nat.le_trans h.size k.size, fun c hc hF => ?_, fun c hc => ?_⟩
  · rw [k.block c (Nat.lt_of_lt_of_le hc h.size) (fun e => by
      rcases h.n c e with h' | h'
      · exact hF h'
      · omega)]
    exact h.block c hc hF
  · rcases k.n c hc with h' | h'
    · exact h.n c h'
    · exact .inr (Nat.le_trans h.size h')
theorem Fr.below {B : Nat} {w w1 : World} {F G : Nat → Prop} (h : Fr w F w1 G) (hF : ∀ k, F k → B ≤ k) (hB : B ≤ w.heap.size) : Below B w w1 :=
  ⟨h.os, h.tape, h.output, h.size, fun k hk => h.block k (by omega) (fun e => by have := hF k e; omega)⟩
theorem Fr.drew {w w1 : World} {F G : Nat → Prop} (h : Fr w F w1 G) : Fr w F w1.drew G := ⟨h.os, h.tape, h.output, h.size, h.block, h.n⟩
theorem Fr.drewN {w w1 : World} {F G : Nat → Prop} (h : Fr w F w1 G) (n : Nat) : Fr w F (w1.drewN n) G := ⟨h.os, h.tape, h.output, h.size, h.block, h.n⟩
theorem Fr.up {w w1 w2 : World} {F G : Nat → Prop} (h : Fr w F w1 G) (k : Below w1.heap.size w1 w2) : Fr w F w2 G := h.trans (Fr.ofBelow k)
/-- A row as the map has it: nothing, or its block, how long it is, its room. -/
def svV : Option (Nat × Nat × Nat) → Value
  | none => .slice none 0 0
  | some (g, n, c) => .slice (some ⟨g, 0, none⟩) n c
def senc : Option (Nat × Nat × Nat) → DataW Unit
  | none => .agg []
  | some (g, n, c) => .agg [.lit (.int .i64 (g : Int)), .lit (.int .i64 (n : Int)), .lit (.int .i64 (c : Int))]
def slR : Value → Option (DataW Unit × List MemPlace)
  | .slice none 0 0 => some (senc none, [])
  | .slice (some ⟨g, 0, none⟩) n c => some (senc (some (g, n, c)), [])
  | _ => none
theorem slR_mk : ∀ p, slR (svV p) = some (senc p, [])
  | none => rfl
  | some (g, n, c) => rfl
theorem senc_inj : ∀ {p q}, senc p = senc q → p = q
  | none, none, _ => rfl
  | none, some (g, n, c), h => by simp [senc] at h
  | some (g, n, c), none, h => by simp [senc] at h
  | some (g, n, c), some (g', n', c'), h => by
    simp only [senc, DataW.agg.injEq, List.cons.injEq, DataW.lit.injEq, Lit.int.injEq, and_true, true_and] at h
    obtain ⟨h1, h2, h3⟩ := h
    have : g = g' := by omega
    have : n = n' := by omega
    have : c = c' := by omega
    simp_all
theorem slR_shape {v : Value} {y : DataW Unit × List MemPlace} (h : slR v = some y) : ∃ p, v = svV p ∧ y = (senc p, []) := by
  unfold slR at h
  split at h
  · cases h; exact ⟨none, rfl, rfl⟩
  · rename_i g n c; cases h; exact ⟨some (g, n, c), rfl, rfl⟩
  · cases h
theorem slR_inv {v : Value} {p : Option (Nat × Nat × Nat)} {ps : List MemPlace} (h : slR v = some (senc p, ps)) : v = svV p := by
  obtain ⟨q, rfl, e⟩ := slR_shape h
  simp only [Prod.mk.injEq] at e
  rw [senc_inj e.1]
theorem law3 : Keyed Try.prog 3 := int_keyed Try.underlying3
theorem zero63 (w : World) : (zeroValue 63).run Try.prog w = .ok (svV none) w := by kernel_rfl
/-- A map at block m that has of each client the row f tells. -/
def MI (w : World) (m n : Nat) (f : Int → Option (Nat × Nat × Nat)) : Prop := ∃ D : DataW Unit, w.ownsMap Try.prog 3 slR m n D ∧ ∀ k, D.atKey (.int .i64 k) (senc none) = senc (f k) ∧ Maps.has D (.int .i64 k) = (f k).isSome
/-- Nothing has changed but the map. -/
structure MT (w : World) (m : Nat) (w' : World) : Prop where
  os : w'.os = w.os
  tape : w'.tape = w.tape
  output : w'.output = w.output
  size : w'.heap.size = w.heap.size
  block : ∀ k, k ≠ m → w'.heap[k]? = w.heap[k]?
  frozen : ∀ a, w'.frozen? a = w.frozen? a
theorem MT.of {w w' : World} {m : Nat} (h : w.mapTurned w' m) : MT w m w' := by
  have hf := fun a => h.frozen a
  obtain ⟨es, clock, es', clock', hb, rfl⟩ := h
  exact ⟨rfl, rfl, rfl, by simp [ChangeMaps.setBlock], fun k hk => ChangeMaps.heap_setBlock_other hb _ hk, hf⟩
theorem lit_i {x : Int} (h0 : -9223372036854775808 ≤ x) (h1 : x ≤ 9223372036854775807) : (Lit.int .i64 x).wf = true := by
  simp [Lit.wf, IntKind.min, IntKind.max, IntKind.bits, IntKind.signed]
  omega
section
variable {w w' : World} {m n : Nat} {f : Int → Option (Nat × Nat × Nat)}
theorem MI.keep (h : MI w m n f) (hk : w'.heap[m]? = w.heap[m]?) : MI w' m n f := by
  obtain ⟨D, ⟨es, clock, hb, rest⟩, hD⟩ := h
  exact ⟨D, ⟨es, clock, hk.trans hb, rest⟩, hD⟩
theorem MI.mono (h : MI w m n f) {n' : Nat} (hn : n ≤ n') : MI w m n' f := by
  obtain ⟨D, hD, h⟩ := h
  exact ⟨D, hD.mono hn, h⟩
theorem MI.lt (h : MI w m n f) : m < w.heap.size := by
  obtain ⟨D, h, _⟩ := h
  exact h.lt
theorem MI.ne (h : MI w m n f) {b : Nat} {cs : Array Value} {t : TypeId} {z : Nat × Nat} (hb : w.heap[b]? = some (.cells cs t z)) : b ≠ m := by
  obtain ⟨D, ⟨es, clock, hm, _⟩, _⟩ := h
  intro e
  subst e
  rw [hm] at hb
  cases hb
theorem MI.look (h : MI w m n f) (k : Int) (hk : (Lit.int .i64 k).wf = true) : (Instr.lookup 55 (.map (some m)) (.int .i64 k) false).run Try.prog w = .ok (svV (f k)) w := by
  obtain ⟨D, h, hD⟩ := h
  obtain ⟨v, ps, hrun, hv⟩ := h.lookup law3 Try.underlying55 (zero63 w) (zd := senc none) (zp := []) rfl (keyOf_int_mk Try.underlying3 hk)
  rw [(hD k).1] at hv
  rw [hrun, slR_inv hv]
theorem lit_ne {j k : Int} (h : j ≠ k) : (Lit.int .i64 j) ≠ (Lit.int .i64 k) := fun e => h (by cases e; rfl)
theorem MI.put (h : MI w m n f) (k : Int) (hk : (Lit.int .i64 k).wf = true) (p : Nat × Nat × Nat) (hn : n < maxLen) :
    ∃ w', (Instr.mapUpdate 55 (.map (some m)) (.int .i64 k) (svV (some p))).run Try.prog w = .ok () w' ∧ MI w' m (n + 1) (fup f k (some p)) ∧ MT w m w' := by
  obtain ⟨D, h, hD⟩ := h
  obtain ⟨w', hrun, h', ht⟩ := h.store law3 Try.underlying55 hn (keyOf_int_mk Try.underlying3 hk) (slR_mk (some p))
  refine ⟨w', hrun, ⟨_, h', fun j => ?_⟩, MT.of ht⟩
  unfold fup
  by_cases hj : j = k
  · subst hj
    rw [if_pos rfl, atKey_put_same h.isMap (law3.key (keyOf_int_mk Try.underlying3 hk)), Maps.has_put_same h.isMap (law3.key (keyOf_int_mk Try.underlying3 hk))]
    exact ⟨rfl, rfl⟩
  · rw [if_neg hj, atKey_put_other (lit_ne hj), Maps.has_put_other (lit_ne hj)]
    exact hD j
theorem MI.made (w : World) : MI (w.alloc (.map #[] 0)) w.heap.size 0 (fun _ => none) := ⟨_, World.ownsMap_made _ _ _ _, fun _ => ⟨rfl, rfl⟩⟩
end
theorem rw2 {w : World} {k : Nat} {v0 v1 : Value} {t : TypeId} (h : w.heap[k]? = some (.cells #[v0, v1] t (0, 0))) :
    (w.cell? ⟨k, 0, none⟩ = some v0 ∧ w.cell? ⟨k, 1, none⟩ = some v1) ∧ ∀ j, w.frozen? ⟨k, j, none⟩ = false :=
  ⟨⟨by rw [cell_of_row w k 0 _ _ _ h]; rfl, by rw [cell_of_row w k 1 _ _ _ h]; rfl⟩, fun j => frozen_of_row w k j _ _ h⟩
/-- What is one's own. -/
def fpr (b m : Nat) (f : Int → Option (Nat × Nat × Nat)) (k : Nat) : Prop := k = b ∨ k = m ∨ ∃ c, (svV (f c)).ownBlock = some k
/-- What is kept, at block b. -/
structure RI (w : World) (base b m n room : Nat) (f : Int → Option (Nat × Nat × Nat)) (T : Int → List C) : Prop where
  row : w.heap[b]? = some (.cells #[.int .i64 room, .map (some m)] 57 (0, 0))
  mi : MI w m n f
  own : ∀ c, OwnL cl 66 w base (svV (f c)) (T c)
  got : ∀ c, (f c).isSome = true → T c ≠ []
  ap : ∀ c d g, (svV (f c)).ownBlock = some g → (svV (f d)).ownBlock = some g → c = d
  nb : ∀ c, (svV (f c)).ownBlock ≠ some b ∧ (svV (f c)).ownBlock ≠ some m
  low : base ≤ b ∧ base ≤ m
section
variable {w w' w'' : World} {base b m n room : Nat} {f : Int → Option (Nat × Nat × Nat)} {T : Int → List C}
theorem RI.lt (h : RI w base b m n room f T) : b < w.heap.size := (Array.getElem?_eq_some_iff.1 h.row).1
theorem RI.bm (h : RI w base b m n room f T) : b ≠ m := h.mi.ne h.row
theorem RI.mine (h : RI w base b m n room f T) : ∀ k, fpr b m f k → base ≤ k ∧ k < w.heap.size := by
  rintro k (rfl | rfl | ⟨c, e⟩)
  · exact ⟨h.low.1, h.lt⟩
  · exact ⟨h.low.2, h.mi.lt⟩
  · exact (h.own c).lt e
theorem RI.keepBut (h : RI w base b m n room f T) (hb : ∀ k, k < w.heap.size → fpr b m f k → w'.heap[k]? = w.heap[k]?) : RI w' base b m n room f T :=
  ⟨(hb b h.lt (.inl rfl)).trans h.row, h.mi.keep (hb m h.mi.lt (.inr (.inl rfl))), fun c => (h.own c).keepBut (fun k hk e => hb k hk (.inr (.inr ⟨c, e⟩))), h.got, h.ap, h.nb, h.low⟩
theorem RI.keep (h : RI w base b m n room f T) (hb : Below w.heap.size w w') : RI w' base b m n room f T := h.keepBut fun k hk _ => hb.block k hk
theorem RI.mono (h : RI w base b m n room f T) {n' : Nat} (hn : n ≤ n') : RI w base b m n' room f T := ⟨h.row, h.mi.mono hn, h.own, h.got, h.ap, h.nb, h.low⟩
theorem RI.cells (h : RI w base b m n room f T) : (w.cell? ⟨b, 0, none⟩ = some (.int .i64 room) ∧ w.cell? ⟨b, 1, none⟩ = some (.map (some m))) ∧ ∀ j, w.frozen? ⟨b, j, none⟩ = false := rw2 h.row
theorem RI.nil (h : RI w base b m n room f T) {c : Int} (hf : f c = none) : T c = [] := by
  have := h.own c
  rw [hf] at this
  obtain ⟨a, cap, e, _⟩ := this.at
  simp only [svV, Value.slice.injEq] at e
  exact List.eq_nil_of_length_eq_zero e.2.1.symm
theorem RI.has (h : RI w base b m n room f T) {c : Int} (hT : T c ≠ []) : ∃ g cap, f c = some (g, (T c).length, cap) := by
  cases hf : f c with
  | none => exact absurd (h.nil hf) hT
  | some p =>
    obtain ⟨g, k, cap⟩ := p
    have := h.own c
    rw [hf] at this
    obtain ⟨a, cap', e, _⟩ := this.at
    simp only [svV, Value.slice.injEq] at e
    exact ⟨g, cap, by rw [e.2.1]⟩
theorem ne_rw {v v' : Value} (hn : ∀ k, v'.ownBlock = some k → v.ownBlock = some k ∨ w.heap.size ≤ k) {k : Nat} (hk : k < w.heap.size) (h : v.ownBlock ≠ some k) : v'.ownBlock ≠ some k := fun e => by
  rcases hn k e with h' | h'
  · exact h h'
  · omega
/-- A client's row has changed, and was laid into the map. -/
theorem RI.stored (h : RI w base b m n room f T) {c : Int} {p : Nat × Nat × Nat} {l : List C} (hr : Rw w (svV (f c)) w' (svV (some p))) (ho : OwnL cl 66 w' base (svV (some p)) l) (hl : l ≠ []) (hm : MI w'' m (n + 1) (fup f c (some p))) (ht : MT w' m w'') :
    RI w'' base b m (n + 1) room (fup f c (some p)) (fup T c l) ∧ Fr w (fpr b m f) w'' (fpr b m (fup f c (some p))) := by
  have hk1 : ∀ k, k < w.heap.size → (svV (f c)).ownBlock ≠ some k → w'.heap[k]? = w.heap[k]? := fun k h1 h2 => hr.g.block k h1 (fun e => h2 e.symm)
  have hk2 : ∀ k, k ≠ m → w''.heap[k]? = w'.heap[k]? := ht.block
  have hpb : (svV (some p)).ownBlock ≠ some b := ne_rw hr.n h.lt (h.nb c).1
  have hpm : (svV (some p)).ownBlock ≠ some m := ne_rw hr.n h.mi.lt (h.nb c).2
  refine ⟨⟨?_, hm, fun d => ?_, fun d hd => ?_, fun d e g hd he => ?_, fun d => ?_, h.low⟩, ⟨ht.os.trans hr.g.os, ht.tape.trans hr.g.tape, ht.output.trans hr.g.output, by rw [ht.size]; exact hr.g.size, fun k hk hF => ?_, ?_⟩⟩
  · rw [hk2 b h.bm, hk1 b h.lt (h.nb c).1]; exact h.row
  · by_cases hd : d = c
    · subst hd
      rw [Rp.fup_same, Rp.fup_same]
      exact ho.keepBut (fun k _ e => hk2 k (by rintro rfl; exact hpm e))
    · rw [Rp.fup_other _ _ hd, Rp.fup_other _ _ hd]
      exact (h.own d).keepBut (fun k hk e => (hk2 k (by rintro rfl; exact (h.nb d).2 e)).trans (hk1 k hk (fun e' => hd (h.ap d c k e e'))))
  · by_cases hdc : d = c
    · subst hdc; rw [Rp.fup_same]; exact hl
    · rw [Rp.fup_other _ _ hdc] at hd ⊢; exact h.got d hd
  · have key : ∀ x g, x ≠ c → (svV (f x)).ownBlock = some g → (svV (some p)).ownBlock ≠ some g := fun x g hx hxg e => by
      rcases hr.n g e with h' | h'
      · exact hx (h.ap x c g hxg h')
      · have := ((h.own x).lt hxg).2; omega
    by_cases hdc : d = c
    · by_cases hec : e = c
      · rw [hdc, hec]
      · subst hdc
        rw [Rp.fup_same] at hd
        rw [Rp.fup_other _ _ hec] at he
        exact absurd hd (key e g hec he)
    · rw [Rp.fup_other _ _ hdc] at hd
      by_cases hec : e = c
      · subst hec
        rw [Rp.fup_same] at he
        exact absurd he (key d g hdc hd)
      · rw [Rp.fup_other _ _ hec] at he
        exact h.ap d e g hd he
  · by_cases hdc : d = c
    · subst hdc; rw [Rp.fup_same]; exact ⟨hpb, hpm⟩
    · rw [Rp.fup_other _ _ hdc]; exact h.nb d
  · rw [hk2 k (fun e => hF (.inr (.inl e))), hk1 k hk (fun e => hF (.inr (.inr ⟨c, e⟩)))]
  · rintro k (rfl | rfl | ⟨d, e⟩)
    · exact .inl (.inl rfl)
    · exact .inl (.inr (.inl rfl))
    · by_cases hdc : d = c
      · subst hdc
        rw [Rp.fup_same] at e
        rcases hr.n k e with h' | h'
        · exact .inl (.inr (.inr ⟨d, h'⟩))
        · exact .inr h'
      · rw [Rp.fup_other _ _ hdc] at e
        exact .inl (.inr (.inr ⟨d, e⟩))
/-- A call of a client's row has changed where it stands. -/
theorem RI.setAt (h : RI w base b m n room f T) (c : Int) (i : Nat) (hi : i < (T c).length) {g cap : Nat} (hf : f c = some (g, (T c).length, cap)) : (∀ j, w.frozen? ⟨g, j, none⟩ = false) ∧ (∃ v, w.cell? ⟨g, i * 3, none⟩ = some v) ∧ (∃ v, w.cell? ⟨g, i * 3 + 1, none⟩ = some v) ∧ (∃ v, w.cell? ⟨g, i * 3 + 2, none⟩ = some v) ∧
    ∀ x : C, RI (((w.setCell ⟨g, i * 3, none⟩ (.int .i64 x.id)).setCell ⟨g, i * 3 + 1, none⟩ (.bool x.busy)).setCell ⟨g, i * 3 + 2, none⟩ (.string (ofL x.reply))) base b m n room f (fup T c ((T c).set i x)) ∧
      Fr w (fpr b m f) (((w.setCell ⟨g, i * 3, none⟩ (.int .i64 x.id)).setCell ⟨g, i * 3 + 1, none⟩ (.bool x.busy)).setCell ⟨g, i * 3 + 2, none⟩ (.string (ofL x.reply))) (fpr b m f) := by
  have hown := h.own c
  rw [hf] at hown
  obtain ⟨g0, cap0, e0, hbg, hgl, hc0, hfr, hs0⟩ := hown.set1 i hi 0 (by decide)
  simp only [svV, Value.slice.injEq, Option.some.injEq, Addr.mk.injEq, true_and, and_true] at e0
  obtain ⟨rfl, rfl⟩ := e0
  obtain ⟨g1, cap1, e1, _, _, hc1, _, _⟩ := hown.set1 i hi 1 (by decide)
  simp only [svV, Value.slice.injEq, Option.some.injEq, Addr.mk.injEq, true_and, and_true] at e1
  obtain ⟨rfl, rfl⟩ := e1
  obtain ⟨g2, cap2, e2, _, _, hc2, _, _⟩ := hown.set1 i hi 2 (by decide)
  simp only [svV, Value.slice.injEq, Option.some.injEq, Addr.mk.injEq, true_and, and_true] at e2
  obtain ⟨rfl, rfl⟩ := e2
  refine ⟨hfr, ⟨_, hc0⟩, ⟨_, hc1⟩, ⟨_, hc2⟩, fun x => ?_⟩
  have ho1 := hs0 ⟨x.id, (T c)[i].busy, (T c)[i].reply⟩ (.int .i64 x.id) rfl
  have hi1 : i < ((T c).set i ⟨x.id, (T c)[i].busy, (T c)[i].reply⟩).length := by simp; exact hi
  obtain ⟨g3, cap3, e3, _, _, _, _, hs1⟩ := OwnL.set1 (l := (T c).set i ⟨x.id, (T c)[i].busy, (T c)[i].reply⟩) ho1 i hi1 1 (by decide)
  simp only [svV, Value.slice.injEq, Option.some.injEq, Addr.mk.injEq, and_true] at e3
  obtain ⟨rfl, _⟩ := e3
  have ho2 := hs1 ⟨x.id, x.busy, (T c)[i].reply⟩ (.bool x.busy) (by rw [List.getElem_set_self]; rfl)
  rw [List.set_set] at ho2
  have hi2 : i < ((T c).set i ⟨x.id, x.busy, (T c)[i].reply⟩).length := by simp; exact hi
  obtain ⟨g4, cap4, e4, _, _, _, _, hs2⟩ := OwnL.set1 (l := (T c).set i ⟨x.id, x.busy, (T c)[i].reply⟩) ho2 i hi2 2 (by decide)
  simp only [svV, Value.slice.injEq, Option.some.injEq, Addr.mk.injEq, and_true] at e4
  obtain ⟨rfl, _⟩ := e4
  have ho3 := hs2 x (.string (ofL x.reply)) (by rw [List.getElem_set_self]; rfl)
  rw [List.set_set] at ho3
  obtain ⟨W, hW⟩ : ∃ W, ((w.setCell ⟨g, i * 3, none⟩ (.int .i64 x.id)).setCell ⟨g, i * 3 + 1, none⟩ (.bool x.busy)).setCell ⟨g, i * 3 + 2, none⟩ (.string (ofL x.reply)) = W := ⟨_, rfl⟩
  have ho4 : OwnL cl 66 W base (svV (some (g, (T c).length, cap))) ((T c).set i x) := by rw [← hW]; exact ho3
  have hk : ∀ k, k ≠ g → W.heap[k]? = w.heap[k]? := fun k hk => by
    rw [← hW, heap_setCell_other _ ⟨g, i * 3 + 2, none⟩ k _ hk, heap_setCell_other _ ⟨g, i * 3 + 1, none⟩ k _ hk, heap_setCell_other _ ⟨g, i * 3, none⟩ k _ hk]
  have hos : W.os = w.os ∧ W.tape = w.tape ∧ W.output = w.output ∧ W.heap.size = w.heap.size := by rw [← hW]; exact ⟨rfl, rfl, rfl, by simp⟩
  have hog : (svV (f c)).ownBlock = some g := by rw [hf]; rfl
  rw [hW]
  refine ⟨⟨?_, h.mi.keep (hk m ?_), fun d => ?_, fun d hd => ?_, h.ap, h.nb, h.low⟩, ⟨hos.1, hos.2.1, hos.2.2.1, by rw [hos.2.2.2]; exact Nat.le_refl _, fun k _ hF => hk k (fun e => hF (.inr (.inr ⟨c, by rw [hog, e]⟩))), fun k hk => .inl hk⟩⟩
  · rw [hk b (fun e => (h.nb c).1 (by rw [hog, e]))]; exact h.row
  · exact fun e => (h.nb c).2 (by rw [hog, e])
  · by_cases hdc : d = c
    · subst hdc
      rw [Rp.fup_same, hf]
      exact ho4
    · rw [Rp.fup_other _ _ hdc]
      exact (h.own d).keepBut (fun k _ e => hk k (by rintro rfl; exact hdc (h.ap d c k e hog)))
  · by_cases hdc : d = c
    · subst hdc
      rw [Rp.fup_same]
      intro e
      have := congrArg List.length e
      rw [List.length_set, List.length_nil] at this
      omega
    · rw [Rp.fup_other _ _ hdc]; exact h.got d hd
end
end Go.Proofs.Ytjbcchipbdkplaa
