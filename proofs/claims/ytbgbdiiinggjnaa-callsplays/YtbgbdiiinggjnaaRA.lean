/-
  The document's calls: none; the open ones; where one stands; what it has come to.
-/
import Derived.Test.YtbgbdiiinggjnaaPD
namespace Go.Proofs.Ytbgbdiiinggjnaa
open Go.RowKit
set_option linter.unusedVariables false
open M (E)
open Cl (K W Ms fup Rel)

theorem rw3 {w : World} {k : Nat} {v0 v1 v2 : Value} {t : TypeId} (h : w.heap[k]? = some (.cells #[v0, v1, v2] t (0, 0))) :
    (w.cell? ⟨k, 0, none⟩ = some v0 ∧ w.cell? ⟨k, 1, none⟩ = some v1 ∧ w.cell? ⟨k, 2, none⟩ = some v2) ∧ ∀ j, w.frozen? ⟨k, j, none⟩ = false :=
  ⟨⟨by rw [cell_of_row w k 0 _ _ _ h]; rfl, by rw [cell_of_row w k 1 _ _ _ h]; rfl, by rw [cell_of_row w k 2 _ _ _ h]; rfl⟩, fun j => frozen_of_row w k j _ _ h⟩
/-- The document's calls as a value whose row lies somewhere. -/
structure RN (w : World) (a : Option Addr) (cap : Nat) (L : List K) : Prop where
  x : XL kl w a cap L
  n : L.length ≤ 1000
theorem RN.keepBut {w w' : World} {a : Option Addr} {cap : Nat} {L : List K} (h : RN w a cap L) (hb : ∀ k, k < w.heap.size → blk a k → w'.heap[k]? = w.heap[k]?) : RN w' a cap L := ⟨h.x.keepBut hb, h.n⟩
theorem RN.keep {w w' : World} {a : Option Addr} {cap : Nat} {L : List K} (h : RN w a cap L) (hb : Below w.heap.size w w') : RN w' a cap L := ⟨h.x.keep hb, h.n⟩
/-- Where a row lies behind a call: where it lay, or in new memory. -/
structure Lie (w : World) (a : Option Addr) (w' : World) (a' : Option Addr) : Prop where
  l : ∀ k, blk a' k → blk a k ∨ (w.heap.size ≤ k ∧ k < w'.heap.size)
theorem Lie.same (w w' : World) (a : Option Addr) : Lie w a w' a := ⟨fun k h => .inl h⟩
theorem Try.size29 : (Try.prog.info? 29).map (·.size) = some 3 := by kernel_rfl
theorem f10_res : Try.f10.results = #[.cell 4 29] := rfl
set_option maxHeartbeats 400000 in
theorem rnew_any (me first : Int) (w : World) : Calls Try.prog 10 #[.int .i64 me, .int .i64 first] w fun e w' => e = .returned (.agg #[.int .i64 (Cl.node me), .int .i64 (Cl.start first), .slice none 0 0]) ∧ Below w.heap.size w w' := by
  have HB := Hid_of (fun u v x : Value => bel1 w (.cells #[u, v, x] 29))
  have HR := Hid_of (fun u v x : Value => heap_alloc_new w (.cells #[u, v, x] 29))
  go_enter Try.func10, Try.ntmps10
  go_wp2
  refine bodyPost_ret (v := .agg #[.int .i64 (Cl.node me), .int .i64 (Cl.start first), .slice none 0 0]) ?_ rfl ⟨rfl, HB.out _ _ _⟩
  exact results_cell_row f10_res _ _ w.heap.size 29 _ (0, 0) _ rfl (HR.out _ _ _) Try.underlying29 rfl Try.size29
theorem rmoment_any (now : Int) (w : World) : Calls Try.prog 26 #[.int .i64 now] w fun e w' => e = .returned (.bool (Cl.moment now)) ∧ w' = w := by
  unfold Cl.moment
  cases h1 : decide (0 ≤ now) with
  | true =>
    go_enter Try.func26, Try.ntmps26
    go_wp2
    go_ret
    exact ⟨rfl, rfl⟩
  | false =>
    go_enter Try.func26, Try.ntmps26
    go_wp2
    go_ret
    exact ⟨rfl, rfl⟩
/-- Half told. -/
structure RL (w : World) (L : List K) (q : Nat) (u : Value) (wr : World) : Prop where
  o : OwnL il 3 wr w.heap.size u (Cl.nums (L.take q))
  b : Below w.heap.size w wr
theorem nums_app (A B : List K) : Cl.nums (A ++ B) = Cl.nums A ++ Cl.nums B := by unfold Cl.nums Cl.opn; rw [List.filter_append, List.map_append]
theorem nums_len (L : List K) : (Cl.nums L).length ≤ L.length := by unfold Cl.nums Cl.opn; rw [List.length_map]; exact List.length_filter_le _ _
def ROpOut (w : World) (L : List K) (e : Ending) (w' : World) : Prop := ∃ a cap, e = .returned (.slice a (Cl.nums L).length cap) ∧ AtI w' a (Cl.nums L) ∧ (∀ k, blk a k → w.heap.size ≤ k ∧ k < w'.heap.size) ∧ Below w.heap.size w w'
set_option maxRecDepth 100000 in
set_option maxHeartbeats 1000000 in
theorem ropen_any {w : World} {a : Option Addr} {cap : Nat} {L : List K} (h : RN w a cap L) (me next : Int) :
    Calls Try.prog 24 #[.agg #[.int .i64 me, .int .i64 next, .slice a L.length cap]] w (ROpOut w L) := by
  obtain ⟨W1, HW1⟩ : ∃ W1, Hid (w.alloc (.cells #[.int .i64 me, .int .i64 next, .slice a L.length cap] 29) = W1) := ⟨_, rfl⟩
  have HB1 : Hid (Below w.heap.size w W1) := by rw [← HW1.out]; exact bel1 w _
  have hr1 : W1.heap[w.heap.size]? = some (.cells #[.int .i64 me, .int .i64 next, .slice a L.length cap] 29 (0, 0)) := by rw [← HW1.out]; exact heap_alloc_last w _
  have HS : Hid (∀ W, Below W1.heap.size W1 W → W.cell? ⟨w.heap.size, 2, none⟩ = some (.slice a L.length cap) ∧ AtL kl W a L) := fun W hW => ⟨(rw3 ((hW.block _ (Array.getElem?_eq_some_iff.1 hr1).1).trans hr1)).1.2.2, ((h.keep HB1.out).keep hW).x.at'⟩
  have hn := h.n
  clear h hr1
  go_enter Try.func24, Try.ntmps24
  go_upto_region 1 with fail
  rw [HW1.out]
  go_wp2
  go_loopw [3, 4] (fun u i wr => ∃ q : Nat, q ≤ L.length ∧ i = .int .i64 q ∧ Hid (RL W1 L q u wr)) (fun _ i _ => L.length - (intOf i).toNat)
  case atStart => exact ⟨0, by omega, rfl, ⟨OwnL.nil _ _ _, Below.refl _ _⟩⟩
  case round =>
    obtain ⟨q, hq, rfl, HL⟩ := hrel
    obtain ⟨c2, hat⟩ := HS.out wr HL.out.b
    by_cases hlt : q < L.length
    · obtain ⟨b0, off, rfl, d0, d1, d2, d3, d4, d5, d6⟩ := hat.getK q hlt
      have hqi : (q : Int) < (L.length : Int) := by omega
      have htk : L.take (q + 1) = L.take q ++ [L[q]] := List.take_succ_eq_append_getElem hlt
      have hnl : (Cl.nums (L.take q)).length ≤ q := by have := nums_len (L.take q); simp at this; omega
      by_cases hst : L[q].st = 1
      · obtain ⟨a3, cap3, hv, _⟩ := HL.out.o.at
        obtain ⟨nl, hnl2⟩ : ∃ nl, (Cl.nums (L.take q)).length = nl := ⟨_, rfl⟩
        rw [hnl2] at hv hnl
        subst hv
        have hat2 : AtL il (wr.alloc (.cells #[.int .i64 L[q].id] 3)) (some ⟨wr.heap.size, 0, none⟩) [L[q].id] := atL_one (t := 3) (heap_alloc_last wr _)
        obtain ⟨a4, cap4, w4, hrun, ho, hrw⟩ := run_appL_ty tiI (wr.alloc (.cells #[.int .i64 L[q].id] 3)) W1.heap.size (.slice a3 nl cap3) (Cl.nums (L.take q)) [L[q].id] wr.heap.size 0 1 1 (HL.out.o.keep (bel1 wr _)) hat2 rfl (by have := HL.out.b.size; simp; omega) (by rw [hnl2]; simp; omega)
        rw [hnl2] at hrun ho hrw
        have HL4 : Hid (RL W1 L (q + 1) (.slice a4 (nl + 1) cap4) w4) := by
          refine ⟨?_, Below.trans (bel_up HL.out.b (bel1 wr _) (Nat.le_refl _)) (hrw.below (fun j hj => (HL.out.o.lt hj).1) (by have := HL.out.b.size; simp; omega))⟩
          have e : Cl.nums (L.take (q + 1)) = Cl.nums (L.take q) ++ [L[q].id] := by
            rw [htk, nums_app]
            congr 1
            unfold Cl.nums Cl.opn Cl.op
            simp [hst]
          rw [e]
          exact ho
        replace hrun : ∀ ty, (Builtin.append_ #[54, 54] ty #[.slice a3 nl cap3, .slice (some ⟨wr.heap.size, 0, none⟩) 1 1]).run Try.prog (wr.alloc (.cells #[.int .i64 L[q].id] 3)) = .ok (.slice a4 (nl + 1) cap4) w4 := hrun
        rw [hst] at d2
        clear HL hat ho hrw hnl2 htk hat2 hst
        generalize L[q].id = x0 at *
        go_wp2_with (at_builtin; refine wpList_append_known rfl _ _ 54 rfl _ _ rfl rfl _ _ (hrun _) ?_)
        go_roundw
        case rel => exact ⟨q + 1, by omega, by go_num, HL4⟩
        case measure => simp [intOf]; omega
      · have dst : (L[q].st == 1) = false := by simpa using hst
        have HL4 : Hid (RL W1 L (q + 1) u3 wr) := by
          refine ⟨?_, HL.out.b⟩
          have e : Cl.nums (L.take (q + 1)) = Cl.nums (L.take q) := by
            rw [htk, nums_app]
            have : Cl.nums [L[q]] = [] := by unfold Cl.nums Cl.opn Cl.op; simp [hst]
            rw [this, List.append_nil]
          rw [e]
          exact HL.out.o
        clear HL hat htk hst
        generalize L[q].st = x2 at *
        go_wp2
        go_roundw
        case rel => exact ⟨q + 1, by omega, by go_num, HL4⟩
        case measure => simp [intOf]; omega
    · have hqn : q = L.length := by omega
      subst hqn
      obtain ⟨a3, cap3, hv, hx3, hbl⟩ := HL.out.o.at
      rw [List.take_length] at hv hx3
      have HQ : Hid (ROpOut w L (.returned (.slice a3 (Cl.nums L).length cap3)) wr) := ⟨a3, cap3, rfl, hx3.at'.ints, fun j hj => ⟨by have := (hbl j hj).1; have := HB1.out.size; omega, (hbl j hj).2.2⟩, bel_up HB1.out HL.out.b (Nat.le_refl _)⟩
      subst hv
      generalize (Cl.nums L).length = nl at *
      clear HL hx3 hbl hat
      go_wp2
      go_ret
      exact HQ.out
/-- Where a call stands; less than 0: there is none. -/
def FI (L : List K) (i : Int) (r : Int) : Prop := (r = -1 ∧ ∀ k ∈ L, k.id ≠ i) ∨ ∃ j : Nat, ∃ h : j < L.length, r = (j : Int) ∧ L[j].id = i
theorem FI.get {L : List K} (hu : Cl.Up L) {i r : Int} (h : FI L i r) : (r = -1 ∧ Cl.get L i = none) ∨ ∃ j : Nat, ∃ h : j < L.length, r = (j : Int) ∧ L[j].id = i ∧ Cl.get L i = some L[j] := by
  rcases h with ⟨h1, h2⟩ | ⟨j, hj, h1, h2⟩
  · refine .inl ⟨h1, ?_⟩
    cases hg : Cl.get L i with
    | none => rfl
    | some k => exact absurd (Cl.get_some hg).2 (h2 k (Cl.get_some hg).1)
  · refine .inr ⟨j, hj, h1, h2, ?_⟩
    rw [← h2]
    exact Cl.get_mem hu (List.getElem_mem hj)
set_option maxRecDepth 100000 in
set_option maxHeartbeats 1000000 in
theorem find_any {w : World} {a : Option Addr} {cap : Nat} {L : List K} (h : RN w a cap L) (me next i : Int) :
    Calls Try.prog 37 #[.agg #[.int .i64 me, .int .i64 next, .slice a L.length cap], .int .i64 i] w fun e w' => ∃ r, e = .returned (.int .i64 r) ∧ FI L i r ∧ Below w.heap.size w w' := by
  obtain ⟨W1, HW1⟩ : ∃ W1, Hid (w.alloc (.cells #[.int .i64 me, .int .i64 next, .slice a L.length cap] 29) = W1) := ⟨_, rfl⟩
  have HB1 : Hid (Below w.heap.size w W1) := by rw [← HW1.out]; exact bel1 w _
  have hr1 : W1.heap[w.heap.size]? = some (.cells #[.int .i64 me, .int .i64 next, .slice a L.length cap] 29 (0, 0)) := by rw [← HW1.out]; exact heap_alloc_last w _
  have c2 := (rw3 hr1).1.2.2
  have hat := (h.keep HB1.out).x.at'
  have hn := h.n
  clear h hr1
  go_enter Try.func37, Try.ntmps37
  go_upto_region 1 with fail
  rw [HW1.out]
  go_wp2
  go_loopw [5] (fun u wr => ∃ q : Nat, q ≤ L.length ∧ u = .int .i64 q ∧ wr = W1 ∧ Hid (∀ j (h : j < L.length), j < q → L[j].id ≠ i)) (fun u _ => L.length - (intOf u).toNat)
  case atStart => exact ⟨0, by omega, rfl, rfl, fun j h h' => by omega⟩
  case round =>
    obtain ⟨q, hq, rfl, rfl, HI⟩ := hrel
    by_cases hlt : q < L.length
    · obtain ⟨b0, off, rfl, d0, d1, d2, d3, d4, d5, d6⟩ := hat.getK q hlt
      have hqi : (q : Int) < (L.length : Int) := by omega
      by_cases hid : L[q].id = i
      · have HQ : Hid (FI L i q) := .inr ⟨q, hlt, rfl, hid⟩
        have dd : (L[q].id == i) = true := by simpa using hid
        clear hat hid
        generalize L[q].id = x0 at *
        go_wp2
        go_ret
        exact ⟨q, rfl, HQ.out, HB1.out⟩
      · have HN : Hid (∀ j (h : j < L.length), j < q + 1 → L[j].id ≠ i) := fun j hj hjq => by
          rcases Nat.lt_or_ge j q with h' | h'
          · exact HI.out j hj h'
          · obtain rfl : j = q := by omega
            exact hid
        have dd : (L[q].id == i) = false := by simpa using hid
        clear hid
        generalize L[q].id = x0 at *
        go_wp2
        go_roundw
        case rel => exact ⟨q + 1, by omega, by go_num, by first | rfl | trivial, HN⟩
        case measure => simp [intOf]; omega
    · have HQ : Hid (FI L i (-1)) := .inl ⟨rfl, fun k hk => by
        obtain ⟨j, hj, rfl⟩ := List.getElem_of_mem hk
        exact HI.out j hj (by omega)⟩
      clear hat
      go_wp2
      go_ret
      exact ⟨-1, rfl, HQ.out, HB1.out⟩
set_option maxRecDepth 100000 in
set_option maxHeartbeats 1000000 in
theorem rstate_any {w : World} {a : Option Addr} {cap : Nat} {L : List K} (h : RN w a cap L) (hu : Cl.Up L) (me next i : Int) :
    Calls Try.prog 21 #[.agg #[.int .i64 me, .int .i64 next, .slice a L.length cap], .int .i64 i] w fun e w' => e = .returned (.tuple #[.int .i64 (Cl.stS L i), .string (Cl.stR L i)]) ∧ Below w.heap.size w w' := by
  obtain ⟨W1, HW1⟩ : ∃ W1, Hid (w.alloc (.cells #[.int .i64 me, .int .i64 next, .slice a L.length cap] 29) = W1) := ⟨_, rfl⟩
  have HB1 : Hid (Below w.heap.size w W1) := by rw [← HW1.out]; exact bel1 w _
  have hr1 : W1.heap[w.heap.size]? = some (.cells #[.int .i64 me, .int .i64 next, .slice a L.length cap] 29 (0, 0)) := by rw [← HW1.out]; exact heap_alloc_last w _
  obtain ⟨⟨c0, c1, c2⟩, _⟩ := rw3 hr1
  have HS : Hid (∀ W, Below W1.heap.size W1 W → W.cell? ⟨w.heap.size, 2, none⟩ = some (.slice a L.length cap) ∧ AtL kl W a L) := fun W hW => ⟨(rw3 ((hW.block _ (Array.getElem?_eq_some_iff.1 hr1).1).trans hr1)).1.2.2, ((h.keep HB1.out).keep hW).x.at'⟩
  have hf := find_any (h.keep HB1.out) me next i
  have hn := h.n
  clear h hr1
  go_enter Try.func21, Try.ntmps21
  go_upto_region 1 with fail
  rw [HW1.out]
  go_wp2_with fail
  refine hf.mono ?_
  rintro e w2 ⟨r, rfl, hfi, hb2⟩
  obtain ⟨e2, hat⟩ := HS.out w2 hb2
  have HB2 : Hid (Below w.heap.size w w2) := bel_up HB1.out hb2 (Nat.le_refl _)
  rcases hfi.get hu with ⟨rfl, hg⟩ | ⟨j, hj, rfl, hid, hg⟩
  · have HQ : Hid (Cl.stS L i = 0 ∧ Cl.stR L i = ⟨#[]⟩) := by unfold Cl.stS Cl.stR; rw [hg]; exact ⟨rfl, rfl⟩
    clear hg hfi hb2 hat hf
    go_wp2
    go_ret2
    exact ⟨by rw [HQ.out.1, HQ.out.2]; rfl, HB2.out⟩
  · have HQ : Hid (Cl.stS L i = L[j].st ∧ Cl.stR L i = L[j].reply) := by unfold Cl.stS Cl.stR; rw [hg]; exact ⟨rfl, rfl⟩
    obtain ⟨b0, off, rfl, d0, d1, d2, d3, d4, d5, d6⟩ := hat.getK j hj
    have hji : (j : Int) < (L.length : Int) := by omega
    have HNB : Hid (∀ N, Below w.heap.size w (w2.drewN N)) := fun N => below_drewN HB2.out N
    clear hg hfi hb2 hat hf hid
    generalize L[j].st = x2 at *
    generalize L[j].reply = x6 at *
    go_wp2_with fail
    go_quiet (fail)
    go_wp2
    go_ret2
    exact ⟨by rw [HQ.out.1, HQ.out.2]; rfl, HNB.out _⟩
end Go.Proofs.Ytbgbdiiinggjnaa
