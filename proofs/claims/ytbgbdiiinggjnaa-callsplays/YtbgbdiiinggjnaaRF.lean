/-
  The document's Due, half done.
-/
import Derived.Test.YtbgbdiiinggjnaaRE
namespace Go.Proofs.Ytbgbdiiinggjnaa
open Go.RowKit
set_option linter.unusedVariables false
open M (E)
open Cl (K W Ms fup Rel)

/-- How many of a row in memory are due. -/
def mcnt (w : World) (al : Option Addr) (now : Int) : Nat → Nat
  | 0 => 0
  | n + 1 => mcnt w al now n + (match al with
    | some ad => (match w.cell? ⟨ad.block, ad.off + n * 7 + 2, none⟩, w.cell? ⟨ad.block, ad.off + n * 7 + 4, none⟩ with
      | some (.int _ s), some (.int _ d) => if s = 1 ∧ d ≤ now then 1 else 0
      | _, _ => 0)
    | none => 0)
theorem mcnt_eq {w : World} {al : Option Addr} {L : List K} (h : AtL kl w al L) (now : Int) : ∀ n, n ≤ L.length → mcnt w al now n = Cl.cnt now (L.take n)
  | 0, _ => by simp [mcnt, Cl.cnt]
  | n + 1, hn => by
    have hlt : n < L.length := by omega
    obtain ⟨b, off, rfl, d0, d1, d2, d3, d4, d5, d6⟩ := h.getK n hlt
    rw [mcnt, mcnt_eq h now n (by omega)]
    simp only [d2, d4]
    unfold Cl.cnt
    rw [List.take_succ_eq_append_getElem hlt, List.filter_append, List.length_append]
    congr 1
    by_cases hd : Cl.dueb now L[n] = true
    · rw [if_pos (Cl.dueb_iff.1 hd)]
      simp [hd]
    · rw [if_neg (fun h => hd (Cl.dueb_iff.2 h))]
      simp [hd]
/-- The row of calls l, and what is sent so far. -/
structure DQ (w : World) (me next now nx : Int) (a : Option Addr) (cap : Nat) (L : List K) (ids0 : List Int) (al : Option Addr) (cl : Nat) (wr : World) (u : Value) (Lr : List K) (out : List Ms) (ids : List Int) : Prop where
  c : wr.heap[w.heap.size]? = some (.cells #[.int .i64 me, .int .i64 next, .slice a L.length cap] 29 (0, 0))
  z : wr.heap[w.heap.size + 1]? = some (.cells #[.int .i64 0, .int .i64 0, .slice none 0 0] 29 (0, 0))
  b : Below w.heap.size w wr
  o : OwnL kl 68 wr (w.heap.size + 2) (.slice al L.length cl) Lr
  us : OwnL ml 32 wr (w.heap.size + 2) u out
  ap : ∀ k, u.ownBlock = some k → (Value.slice al L.length cl).ownBlock ≠ some k
  d : Cl.Dues Lr now ids
  run : Cl.run me now ids0 L [] = Cl.run me now ids Lr out
  up : Cl.Up Lr
  len : Lr.length = L.length
  ok : ∀ k ∈ Lr, Cl.KOk nx k
  ol : out.length + ids.length ≤ 1000
section
variable {w : World} {me next now nx : Int} {a : Option Addr} {cap : Nat} {L : List K} {ids0 : List Int} {al : Option Addr} {cl : Nat} {wr w' : World} {u u' : Value} {Lr : List K} {out : List Ms} {ids : List Int}
theorem DQ.keep (h : DQ w me next now nx a cap L ids0 al cl wr u Lr out ids) (hb : Below wr.heap.size wr w') : DQ w me next now nx a cap L ids0 al cl w' u Lr out ids :=
  ⟨(hb.block _ (Array.getElem?_eq_some_iff.1 h.c).1).trans h.c, (hb.block _ (Array.getElem?_eq_some_iff.1 h.z).1).trans h.z, bel_up h.b hb (Nat.le_refl _), h.o.keep hb, h.us.keep hb, h.ap, h.d, h.run, h.up, h.len, h.ok, h.ol⟩
/-- A cell of the row, set: all else stays. -/
theorem DQ.setCell (h : DQ w me next now nx a cap L ids0 al cl wr u Lr out ids) {g j : Nat} {v : Value} (hg : (Value.slice al L.length cl).ownBlock = some g) {Lr' : List K} (ho : OwnL kl 68 (wr.setCell ⟨g, j, none⟩ v) (w.heap.size + 2) (.slice al L.length cl) Lr') :
    ((wr.setCell ⟨g, j, none⟩ v).heap[w.heap.size]? = some (.cells #[.int .i64 me, .int .i64 next, .slice a L.length cap] 29 (0, 0)) ∧ (wr.setCell ⟨g, j, none⟩ v).heap[w.heap.size + 1]? = some (.cells #[.int .i64 0, .int .i64 0, .slice none 0 0] 29 (0, 0))) ∧ Below w.heap.size w (wr.setCell ⟨g, j, none⟩ v) ∧ OwnL ml 32 (wr.setCell ⟨g, j, none⟩ v) (w.heap.size + 2) u out := by
  have hlt := h.o.lt hg
  have hk : ∀ k, k ≠ g → (wr.setCell ⟨g, j, none⟩ v).heap[k]? = wr.heap[k]? := fun k hk => heap_setCell_other wr ⟨g, j, none⟩ k _ hk
  refine ⟨⟨(hk _ (by omega)).trans h.c, (hk _ (by omega)).trans h.z⟩, h.b.setCell (p := ⟨g, j, none⟩) (by show w.heap.size ≤ g; omega) _, h.us.keepBut fun k _ hu => hk k (fun e => h.ap k hu (by rw [hg, e]))⟩
theorem cnt_at (h : DQ w me next now nx a cap L ids0 al cl wr u Lr out ids) : mcnt wr al now L.length = Cl.cnt now Lr := by
  obtain ⟨a2, c2, hv, hx, _⟩ := h.o.at
  rw [h.len] at hv
  cases hv
  rw [mcnt_eq hx.at' now L.length (by rw [h.len]; exact Nat.le_refl _)]
  rw [List.take_of_length_le (by rw [h.len]; exact Nat.le_refl _)]
theorem upd_ok {i : Int} {g : K → K} (hok : ∀ k ∈ Lr, Cl.KOk nx k) (hg : ∀ k ∈ Lr, k.id = i → Cl.KOk nx (g k)) : ∀ k ∈ Cl.upd Lr i g, Cl.KOk nx k := by
  intro k hk
  obtain ⟨k0, hk0, rfl⟩ := Cl.mem_upd.1 hk
  unfold Cl.one
  by_cases hi : k0.id = i
  · rw [if_pos hi]; exact hg k0 hk0 hi
  · rw [if_neg hi]; exact hok k0 hk0
theorem upd_len (Lr : List K) (i : Int) (g : K → K) : (Cl.upd Lr i g).length = Lr.length := by unfold Cl.upd; rw [List.length_map]
/-- The one that is due first. -/
theorem Fp_at {j : Nat} (hf : Cl.Fp Lr now Lr.length j) : ∃ hj : j < Lr.length, Cl.dueb now Lr[j] = true := by
  rcases hf with ⟨h0, _⟩ | ⟨j', hj', _, h1, h2, _⟩
  · omega
  · obtain rfl : j = j' := by omega
    exact ⟨hj', h2⟩
/-- Given up. -/
theorem DQ.gone (h : DQ w me next now nx a cap L ids0 al cl wr u Lr out ids) {j : Nat} (hj : j < Lr.length) (hf : Cl.Fp Lr now Lr.length j) (h8 : 8 ≤ Lr[j].sent) :
    ∃ g, al = some ⟨g, 0, none⟩ ∧ (wr.cell? ⟨g, j * 7 + 2, none⟩ = some (.int .i64 Lr[j].st) ∧ wr.frozen? ⟨g, j * 7 + 2, none⟩ = false) ∧ ∀ w', wr.setCell ⟨g, j * 7 + 2, none⟩ (.int .i64 3) = w' → ∃ Lr' ids', DQ w me next now nx a cap L ids0 al cl w' u Lr' out ids' ∧ Cl.cnt now Lr' < Cl.cnt now Lr := by
  obtain ⟨g, cap4, hv, hbg, hgl, hc, hfz, hset⟩ := h.o.set1 j hj 2 (by decide)
  rw [h.len] at hv
  cases hv
  refine ⟨g, rfl, ⟨hc, hfz _⟩, fun w' hw' => ?_⟩
  obtain ⟨_, hd⟩ := Fp_at hf
  have hst := (Cl.dueb_iff.1 hd).1
  obtain ⟨ids', rfl, hd'⟩ := h.d.cons h.up hj hf
  have hgk : Cl.get Lr Lr[j].id = some Lr[j] := Cl.get_mem h.up (List.getElem_mem hj)
  obtain ⟨t1, t2⟩ := Cl.step_gone h.up hgk h8 (now := now) me
  have e : Cl.upd Lr Lr[j].id (Cl.stepK now) = Lr.set j (Cl.goneK Lr[j]) := by rw [t1]; exact Cl.upd_at h.up _ hj rfl
  have o2 := hset (Cl.goneK Lr[j]) (.int .i64 3) rfl
  rw [← e] at o2
  obtain ⟨⟨s1, s2⟩, s3, s4⟩ := h.setCell (j := j * 7 + 2) (v := .int .i64 3) rfl o2
  subst hw'
  refine ⟨_, ids', ⟨s1, s2, s3, o2, s4, h.ap, hd', ?_, h.up.upd (Cl.stepK_id now), by rw [upd_len, h.len], upd_ok h.ok fun k hk hi => ?_, by have := h.ol; simp at this; omega⟩, Cl.cnt_step h.up hj hd⟩
  · rw [h.run, Cl.run_cons, t2, List.append_nil]
  · have : k = Lr[j] := h.up.inj hk (List.getElem_mem hj) hi
    subst this
    unfold Cl.stepK
    rw [if_pos h8]
    exact Cl.goneK_ok (h.ok _ hk) hst
/-- Sent: the row. -/
theorem DQ.send (h : DQ w me next now nx a cap L ids0 al cl wr u Lr out ids) (hn : 0 ≤ now ∧ now ≤ 1099511626776) {j : Nat} (hj : j < Lr.length) (hf : Cl.Fp Lr now Lr.length j) (h8 : Lr[j].sent < 8) :
    ∃ g, al = some ⟨g, 0, none⟩ ∧ (wr.cell? ⟨g, j * 7 + 3, none⟩ = some (.int .i64 Lr[j].sent) ∧ wr.frozen? ⟨g, j * 7 + 3, none⟩ = false) ∧ ∀ w1, wr.setCell ⟨g, j * 7 + 3, none⟩ (.int .i64 (Lr[j].sent + 1)) = w1 → (w1.cell? ⟨g, j * 7 + 4, none⟩ = some (.int .i64 Lr[j].due) ∧ w1.frozen? ⟨g, j * 7 + 4, none⟩ = false) ∧ ∀ w2, w1.setCell ⟨g, j * 7 + 4, none⟩ (.int .i64 (now + Cl.wait Lr[j].sent)) = w2 →
      ((w2.cell? ⟨w.heap.size, 0, none⟩ = some (.int .i64 me) ∧ w2.cell? ⟨g, j * 7 + 1, none⟩ = some (.int .i64 Lr[j].whom) ∧ w2.cell? ⟨g, j * 7, none⟩ = some (.int .i64 Lr[j].id) ∧ w2.cell? ⟨g, j * 7 + 5, none⟩ = some (.string Lr[j].body)) ∧ OwnL ml 32 w2 (w.heap.size + 2) u out ∧ w.heap.size + 2 ≤ w2.heap.size) ∧ ∀ u' w3, OwnL ml 32 w3 (w.heap.size + 2) u' (out ++ [Cl.msg me Lr[j]]) → Rw (w2.drew.alloc (.cells #[.int .i64 1, .int .i64 me, .int .i64 Lr[j].whom, .int .i64 Lr[j].id, .string Lr[j].body] 32)) u w3 u' → (w3.cell? ⟨w.heap.size, 0, none⟩ = some (.int .i64 me) ∧ w3.cell? ⟨g, j * 7 + 1, none⟩ = some (.int .i64 Lr[j].whom) ∧ w3.cell? ⟨g, j * 7, none⟩ = some (.int .i64 Lr[j].id) ∧ w3.cell? ⟨g, j * 7 + 5, none⟩ = some (.string Lr[j].body)) ∧ ∃ Lr' ids', DQ w me next now nx a cap L ids0 al cl w3 u' Lr' (out ++ [Cl.msg me Lr[j]]) ids' ∧ Cl.cnt now Lr' < Cl.cnt now Lr := by
  obtain ⟨g, cap4, hv, hbg, hgl, hc, hfz, hset⟩ := h.o.set1 j hj 3 (by decide)
  rw [h.len] at hv
  cases hv
  refine ⟨g, rfl, ⟨hc, hfz _⟩, fun w1 hw1 => ?_⟩
  obtain ⟨_, hd⟩ := Fp_at hf
  have hst := (Cl.dueb_iff.1 hd).1
  obtain ⟨ids', rfl, hd'⟩ := h.d.cons h.up hj hf
  have hgk : Cl.get Lr Lr[j].id = some Lr[j] := Cl.get_mem h.up (List.getElem_mem hj)
  obtain ⟨t1, t2⟩ := Cl.step_send h.up hgk h8 (now := now) me
  have e : Cl.upd Lr Lr[j].id (Cl.stepK now) = Lr.set j (Cl.sendK now Lr[j]) := by rw [t1]; exact Cl.upd_at h.up _ hj rfl
  have o1 := hset ⟨Lr[j].id, Lr[j].whom, Lr[j].st, Lr[j].sent + 1, Lr[j].due, Lr[j].body, Lr[j].reply⟩ (.int .i64 (Lr[j].sent + 1)) rfl
  obtain ⟨⟨s1, s2⟩, s3, s4⟩ := h.setCell (j := j * 7 + 3) (v := .int .i64 (Lr[j].sent + 1)) rfl o1
  rw [show j * kl.n + 3 = j * 7 + 3 from rfl, hw1] at o1
  rw [hw1] at s1 s2 s3 s4
  obtain ⟨g', cap5, hv5, hbg5, hgl5, hc5, hfz5, hset5⟩ := o1.set1 j (by simpa using hj) 4 (by decide)
  rw [List.length_set, h.len] at hv5
  injection hv5 with e1 e2 e3
  injection e1 with e1
  injection e1 with e1
  subst e1
  have hc5' : w1.cell? ⟨g, j * 7 + 4, none⟩ = some (.int .i64 Lr[j].due) := by
    have := hc5
    simp only [List.getElem_set_self] at this
    exact this
  refine ⟨⟨hc5', hfz5 _⟩, fun w2 hw2 => ?_⟩
  have o2 := hset5 (Cl.sendK now Lr[j]) (.int .i64 (now + Cl.wait Lr[j].sent)) (by simp only [List.getElem_set_self]; rfl)
  rw [List.set_set, ← e, show j * kl.n + 4 = j * 7 + 4 from rfl, hw2] at o2
  have hk2 : ∀ k, k ≠ g → w2.heap[k]? = w1.heap[k]? := fun k hk => by rw [← hw2]; exact heap_setCell_other w1 ⟨g, j * 7 + 4, none⟩ k _ hk
  have r1 := (hk2 w.heap.size (by omega)).trans s1
  have r2 := (hk2 (w.heap.size + 1) (by omega)).trans s2
  have b2 : Below w.heap.size w w2 := by rw [← hw2]; exact s3.setCell (p := ⟨g, j * 7 + 4, none⟩) (by show w.heap.size ≤ g; omega) _
  have u2 : OwnL ml 32 w2 (w.heap.size + 2) u out := s4.keepBut fun k _ hu => hk2 k (fun e' => h.ap k hu (by rw [e']; rfl))
  have hrow : ∀ W : World, OwnL kl 68 W (w.heap.size + 2) (.slice (some ⟨g, 0, none⟩) L.length cl) (Cl.upd Lr Lr[j].id (Cl.stepK now)) → W.heap[w.heap.size]? = some (.cells #[.int .i64 me, .int .i64 next, .slice a L.length cap] 29 (0, 0)) → (W.cell? ⟨w.heap.size, 0, none⟩ = some (.int .i64 me) ∧ W.cell? ⟨g, j * 7 + 1, none⟩ = some (.int .i64 Lr[j].whom) ∧ W.cell? ⟨g, j * 7, none⟩ = some (.int .i64 Lr[j].id) ∧ W.cell? ⟨g, j * 7 + 5, none⟩ = some (.string Lr[j].body)) := by
    intro W hW hc
    obtain ⟨a9, c9, hv9, hx9, _⟩ := hW.at
    have hj9 : j < (Cl.upd Lr Lr[j].id (Cl.stepK now)).length := by rw [upd_len]; exact hj
    obtain ⟨b9, off9, ea, d0, d1, d2, d3, d4, d5, d6⟩ := hx9.at'.getK j hj9
    injection hv9 with f1
    rw [ea] at f1
    injection f1 with f1
    injection f1 with f1 f2
    subst f1 f2
    have he : (Cl.upd Lr Lr[j].id (Cl.stepK now))[j] = Cl.sendK now Lr[j] := by
      have : ∀ (X : List K) (hX : j < X.length), Cl.upd Lr Lr[j].id (Cl.stepK now) = X → (Cl.upd Lr Lr[j].id (Cl.stepK now))[j] = X[j] := fun X hX e => by subst e; rfl
      rw [this (Lr.set j (Cl.sendK now Lr[j])) (by simpa using hj) e, List.getElem_set_self]
    rw [he] at d0 d1 d5
    simp only [Nat.zero_add] at d0 d1 d5
    exact ⟨(rw3 hc).1.1, d1, d0, d5⟩
  have hl2 := (Array.getElem?_eq_some_iff.1 r2).1
  refine ⟨⟨hrow w2 o2 r1, u2, by omega⟩, fun u' w3 hu' hr' => ?_⟩
  have hb3 : ∀ k, k < w2.heap.size → u.ownBlock ≠ some k → w3.heap[k]? = w2.heap[k]? := fun k hk hne => by
    rw [hr'.g.block k (by simp; omega) (fun e' => hne e'.symm)]
    exact Below.heap_alloc w2.drew _ k hk
  have hgs : g < w2.heap.size := (o2.lt (b := g) rfl).2
  have hug : u.ownBlock ≠ some g := fun e' => h.ap g e' rfl
  have c3 := (hb3 w.heap.size (by omega) (fun e' => by have := (u2.lt e').1; omega)).trans r1
  have z3 := (hb3 (w.heap.size + 1) hl2 (fun e' => by have := (u2.lt e').1; omega)).trans r2
  have o3 : OwnL kl 68 w3 (w.heap.size + 2) (.slice (some ⟨g, 0, none⟩) L.length cl) (Cl.upd Lr Lr[j].id (Cl.stepK now)) := o2.keepBut fun k hk hkk => hb3 k hk (fun e' => by
    have : k = g := by simpa [Value.ownBlock] using hkk.symm
    subst this
    exact hug e')
  refine ⟨hrow w3 o3 c3, _, ids', ⟨c3, z3, ⟨?_, ?_, ?_, ?_, fun k hk => ?_⟩, o3, hu', fun k e' e2' => ?_, hd', ?_, h.up.upd (Cl.stepK_id now), by rw [upd_len, h.len], upd_ok h.ok fun k hk hi => ?_, by have := h.ol; simp at this ⊢; omega⟩, Cl.cnt_step h.up hj hd⟩
  · rw [hr'.g.os]; exact b2.os
  · rw [hr'.g.tape]; exact b2.tape
  · rw [hr'.g.output]; exact b2.output
  · have h1 := hr'.g.size; have h2 := b2.size; simp at h1; omega
  · have := b2.size
    rw [hb3 k (by omega) (fun e' => by have := (u2.lt e').1; omega)]
    exact b2.block k hk
  · have hkg : k = g := by simpa [Value.ownBlock] using e2'.symm
    subst hkg
    rcases hr'.n k e' with h' | h'
    · exact hug h'
    · simp at h'; omega
  · rw [h.run, Cl.run_cons, t2]
  · have : k = Lr[j] := h.up.inj hk (List.getElem_mem hj) hi
    subst this
    unfold Cl.stepK
    rw [if_neg (by omega)]
    exact Cl.sendK_ok (h.ok _ hk) h8 hn
end
end Go.Proofs.Ytbgbdiiinggjnaa
