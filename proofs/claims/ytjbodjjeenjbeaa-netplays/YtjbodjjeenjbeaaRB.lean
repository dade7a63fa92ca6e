/-
  The document's net: a new one, whether something is a node, which one is meant, whether a link is cut.
-/
import Derived.Test.YtjbodjjeenjbeaaRA
namespace Go.Proofs.Ytjbodjjeenjbeaa
open Go.RowKit
set_option linter.unusedVariables false
open Nt (Pk)

theorem Try.size30 : (Try.prog.info? 30).map (·.size) = some 3 := by kernel_rfl
/-- What a call makes of what is under way: the slice that was there, or a new row. -/
def XRes (w w' : World) (a : Option Addr) (cap : Nat) (R : List Pk) (v : Value) (R' : List Pk) : Prop := (v = .slice a R.length cap ∧ R' = R) ∨ OwnP 44 w' w.heap.size v R'
/-- .. and of the links. -/
def KRes (w w' : World) (a : Option Addr) (cap : Nat) (K : List (Int × Int)) (v : Value) (K' : List (Int × Int)) : Prop := (v = .slice a K.length cap ∧ K' = K) ∨ OwnL w' w.heap.size v K'
/-- The document's net as a value whose rows lie somewhere. -/
structure RN (w : World) (a : Option Addr) (cap : Nat) (R : List Pk) (ka : Option Addr) (kc : Nat) (K : List (Int × Int)) : Prop where
  r : XP w a cap R
  k : AtL w ka K
  ok : Nt.Ok R
  n : K.length ≤ 100000
theorem RN.keepBut {w w' : World} {a : Option Addr} {cap : Nat} {R : List Pk} {ka : Option Addr} {kc : Nat} {K : List (Int × Int)} (h : RN w a cap R ka kc K) (hb : ∀ k, k < w.heap.size → (blk a k ∨ blk ka k) → w'.heap[k]? = w.heap[k]?) : RN w' a cap R ka kc K :=
  ⟨h.r.keepBut (fun k hk e => hb k hk (.inl e)), h.k.keepBut (fun k hk e => hb k hk (.inr e)), h.ok, h.n⟩
theorem RN.keep {w w' : World} {a : Option Addr} {cap : Nat} {R : List Pk} {ka : Option Addr} {kc : Nat} {K : List (Int × Int)} (h : RN w a cap R ka kc K) (hb : Below w.heap.size w w') : RN w' a cap R ka kc K := h.keepBut fun k hk _ => hb.block k hk
/-- What a call leaves. -/
def ROut (w : World) (N : Int) (a : Option Addr) (cap : Nat) (R : List Pk) (ka : Option Addr) (kc : Nat) (K : List (Int × Int)) (R' : List Pk) (K' : List (Int × Int)) (r : Bool) (e : Ending) (w' : World) : Prop :=
  ∃ v1 v2, e = .returned (.tuple #[.agg #[.int .i64 N, v1, v2], .bool r]) ∧ XRes w w' a cap R v1 R' ∧ KRes w w' ka kc K v2 K' ∧ Below w.heap.size w w'
theorem f10_res : Try.f10.results = #[.cell 2 30] := rfl
set_option maxHeartbeats 400000 in
theorem rnew_any (x : Int) (w : World) : Calls Try.prog 10 #[.int .i64 x] w fun e w' => e = .returned (.agg #[.int .i64 (Nt.lim x), .slice none 0 0, .slice none 0 0]) ∧ Below w.heap.size w w' := by
  obtain ⟨mx, hmx⟩ : ∃ z, max x 1 = z := ⟨_, rfl⟩
  obtain ⟨mn, hmn⟩ : ∃ z, min mx 64 = z := ⟨_, rfl⟩
  have hlim : Nt.lim x = mn := by unfold Nt.lim; rw [hmx, hmn]
  rw [hlim]
  have HR := Hid_of (heap_alloc_last w (.cells #[.int .i64 mn, .slice none 0 0, .slice none 0 0] 30))
  have HB := Hid_of (bel1 w (.cells #[.int .i64 mn, .slice none 0 0, .slice none 0 0] 30))
  clear hlim
  go_enter Try.func10, Try.ntmps10
  go_wp2
  refine bodyPost_ret (v := .agg #[.int .i64 mn, .slice none 0 0, .slice none 0 0]) ?_ rfl ⟨rfl, HB.out⟩
  exact results_cell_row f10_res _ _ w.heap.size 30 _ (0, 0) _ rfl HR.out Try.underlying30 rfl Try.size30
set_option maxHeartbeats 400000 in
theorem rnode_any (N : Int) (v1 v2 : Value) (i : Int) (w : World) : Calls Try.prog 25 #[.agg #[.int .i64 N, v1, v2], .int .i64 i] w fun e w' => e = .returned (.bool (Nt.node N i)) ∧ Below w.heap.size w w' := by
  have HB := Hid_of (bel1 w (.cells #[.int .i64 N, v1, v2] 30))
  cases h1 : decide (0 ≤ i) with
  | true =>
    have HN : Hid (Nt.node N i = decide (i < N)) := Hid_of (show Nt.node N i = decide (i < N) by unfold Nt.node; rw [h1]; rfl)
    go_enter Try.func25, Try.ntmps25
    go_wp2
    go_ret
    rw [HN.out]
    exact ⟨rfl, HB.out⟩
  | false =>
    have HN : Hid (Nt.node N i = false) := Hid_of (show Nt.node N i = false by unfold Nt.node; rw [h1]; rfl)
    go_enter Try.func25, Try.ntmps25
    go_wp2
    go_ret
    rw [HN.out]
    exact ⟨rfl, HB.out⟩
set_option maxHeartbeats 400000 in
theorem rat_any (i : Int) (n : Nat) (h : 0 < n) (hn : n ≤ 1000000) (w : World) : Calls Try.prog 36 #[.int .i64 i, .int .i64 n] w fun e w' => e = .returned (.int .i64 (Nt.wr i n)) ∧ w' = w := by
  have hw := Nt.wr_int i h
  have hl := Nt.wr_lt i h
  have d0 : ((n : Int) == 0) = false := by simp; omega
  have d1 : ((n : Int) = 0) = False := by simp; omega
  have ht := Int.tmod_lt_of_pos i (show (0 : Int) < n by omega)
  have ht2 := Int.lt_tmod_of_pos i (show (0 : Int) < n by omega)
  have HW : Hid ((i.tmod n + n) % (n : Int) = ((Nt.wr i n : Nat) : Int)) := by
    refine Hid_of ?_
    rw [hw]
    rcases emod_of_tmod i n h with ⟨h1, h2⟩ | ⟨h1, h2⟩
    · rw [h2, Int.add_emod_right, Int.emod_emod_of_dvd _ (Int.dvd_refl _)]
    · rw [h2, Int.emod_emod_of_dvd _ (Int.dvd_refl _)]
  generalize Nt.wr i n = q at *
  clear hw hl
  go_enter Try.func36, Try.ntmps36
  go_wp2
  go_ret
  refine ⟨?_, rfl⟩
  show Ending.returned (.int .i64 ((i.tmod n + n) % (n : Int))) = _
  rw [HW.out]
theorem rcut_in {K : List (Int × Int)} {x y : Int} {q : Nat} (h : q < K.length) (e : K[q].1 = x ∧ K[q].2 = y) : Nt.rcut K x y = true := by
  refine decide_eq_true ?_
  have : K[q] = (x, y) := Prod.ext e.1 e.2
  rw [← this]
  exact List.getElem_mem h
theorem rcut_out {K : List (Int × Int)} {x y : Int} (h : ∀ j (h : j < K.length), ¬ (K[j].1 = x ∧ K[j].2 = y)) : Nt.rcut K x y = false := by
  refine decide_eq_false fun hm => ?_
  obtain ⟨j, hj, e⟩ := List.getElem_of_mem hm
  exact h j hj (by rw [e]; exact ⟨rfl, rfl⟩)
set_option maxRecDepth 100000 in
set_option maxHeartbeats 1000000 in
theorem rcut_any (N : Int) (v1 : Value) (ka : Option Addr) (kc : Nat) (K : List (Int × Int)) (x y : Int) (w : World) (hn : K.length ≤ 100000) (hk : AtL w ka K) :
    Calls Try.prog 30 #[.agg #[.int .i64 N, v1, .slice ka K.length kc], .int .i64 x, .int .i64 y] w fun e w' => e = .returned (.bool (Nt.rcut K (min x y) (max x y))) ∧ Below w.heap.size w w' := by
  obtain ⟨W1, HW1⟩ : ∃ W1, Hid (w.alloc (.cells #[.int .i64 N, v1, .slice ka K.length kc] 30) = W1) := ⟨_, rfl⟩
  have HB : Hid (Below w.heap.size w W1) := by rw [← HW1.out]; exact bel1 w _
  have hr1 : W1.heap[w.heap.size]? = some (.cells #[.int .i64 N, v1, .slice ka K.length kc] 30 (0, 0)) := by rw [← HW1.out]; exact heap_alloc_last w _
  obtain ⟨⟨c0, c1, c2⟩, _⟩ := rw3 hr1
  have HK := Hid_of (hk.keep HB.out)
  clear hk hr1
  generalize hlo : min x y = lo
  generalize hhi : max x y = hi
  go_enter Try.func30, Try.ntmps30
  go_upto_region 1 with fail
  rw [HW1.out]
  clear HW1
  go_wp2_with fail
  go_loopw [7] (fun i wr => ∃ q : Nat, q ≤ K.length ∧ i = .int .i64 q ∧ wr = W1 ∧ Hid (∀ j (h : j < K.length), j < q → ¬ (K[j].1 = lo ∧ K[j].2 = hi))) (fun i _ => K.length - (intOf i).toNat)
  case atStart => exact ⟨0, by omega, rfl, rfl, fun j h hj => by omega⟩
  case round =>
    obtain ⟨q, hq, rfl, rfl, HF⟩ := hrel
    by_cases hlt : q < K.length
    · obtain ⟨b, off, rfl, d0, d1⟩ := HK.out q hlt
      have e1 := eq85 K[q].1 K[q].2 lo hi
      have hqi : (q : Int) < (K.length : Int) := by omega
      have HIN := Hid_of (fun e => rcut_in (x := lo) (y := hi) hlt e)
      by_cases he : K[q].1 = lo ∧ K[q].2 = hi
      · have hb : ((K[q].1 == lo) && (K[q].2 == hi)) = true := by simp [he.1, he.2]
        rw [hb] at e1
        have HI : Hid (Nt.rcut K lo hi = true) := rcut_in hlt he
        clear hb he HK HF HIN
        generalize K[q].1 = u at *
        generalize K[q].2 = v at *
        go_wp2
        go_ret
        rw [HI.out]
        exact ⟨rfl, HB.out⟩
      · have hb : ((K[q].1 == lo) && (K[q].2 == hi)) = false := by
          cases h1 : (K[q].1 == lo) && (K[q].2 == hi)
          · rfl
          · simp only [Bool.and_eq_true, beq_iff_eq] at h1
            exact absurd h1 he
        rw [hb] at e1
        have HN : Hid (∀ j (h : j < K.length), j < q + 1 → ¬ (K[j].1 = lo ∧ K[j].2 = hi)) := fun j hj hjq => by
          rcases Nat.lt_or_ge j q with h' | h'
          · exact HF.out j hj h'
          · obtain rfl : j = q := by omega
            exact he
        clear hb he HK HF HIN
        generalize K[q].1 = u at *
        generalize K[q].2 = v at *
        go_wp2
        go_roundw
        case rel => exact ⟨q + 1, by omega, by go_num, by first | rfl | trivial, HN.out⟩
        case measure => simp [intOf]; omega
    · have hqe : q = K.length := by omega
      subst hqe
      have HO : Hid (Nt.rcut K lo hi = false) := rcut_out (fun j hj => HF.out j hj hj)
      clear HF HK
      go_wp2
      go_ret
      rw [HO.out]
      exact ⟨rfl, HB.out⟩
end Go.Proofs.Ytjbodjjeenjbeaa
