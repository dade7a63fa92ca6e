/-
  Ints sorted: the numbers that an iterator over a slice gives.
-/
import Derived.Test.YticjilpomdahbaaC
import Derived.Test.YticjilpomdahbaaShelf
import Derived.RangeFuncGives
namespace Go.Proofs.Yticjilpomdahbaa
open Go.RowKit Go.Maps Go.Sort Go.Shelf
set_option linter.unusedVariables false

/-- slices.Sort at this program, at the fence that asks nothing. -/
theorem sortsA (m : Nat) : AnyZI.SortsIn Try.prog Try.sortedA_ren Fence.wide m :=
  ⟨fun blk off cap ss W hH hblk hsz => callsIn_wide.2 (Try.slices_Sort_int blk off cap ss W hH hblk hsz),
   fun p cap W => callsIn_wide.2 (Try.slices_Sort_int_none p cap W)⟩
set_option maxRecDepth 100000 in
set_option maxHeartbeats 1000000 in
/-- The iterator over a slice's ints, for every loop body that goes on. -/
theorem values1_in (F : Fence) (n : Nat) (hf : F.fn 86) (hro : F.round = none) (hn : 1 ≤ n) (l Bm : Nat) (a : Option Addr) (cap : Nat) (xs : List Int) (hx : xs.length ≤ 100000) (J : List Int → World → Prop)
    (hY : ∀ pre x W, J pre W → pre.length < xs.length → YieldAt F (n - 1) Try.prog l #[encZ x] W fun e W' => e = .returned (.bool true) ∧ J (pre ++ [x]) W' ∧ KeepsWalks W W')
    (W : World) (hcell : ∀ pre W', J pre W' → (∀ j (h : j < xs.length), ∃ b off, a = some ⟨b, off, none⟩ ∧ W'.cell? ⟨b, off + j, none⟩ = some (.int .i64 xs[j])))
    (hm : W.cell? ⟨Bm, 0, none⟩ = some (.slice a xs.length cap)) (h0 : J [] W) :
    CallsIn F n Try.prog 86 #[.func (.yield l) #[] #[], .pointer (some ⟨Bm, 0, none⟩)] W fun e W' => (∃ v, e = .returned v) ∧ J xs W' := by
  refine callsIn_of_wp Try.func86 rfl hf ?_ hro
  simp only [Try.ntmps86, List.size_toArray, List.length_cons, List.length_nil, Nat.reduceAdd, Nat.reduceSub, Array.replicate_succ, Array.replicate_zero, List.push_toArray, List.append_toArray, List.nil_append, List.cons_append]
  gi_wp2
  gi_loopw [7] (fun i wr => ∃ k : Nat, k ≤ xs.length ∧ i = .int .i64 k ∧ J (xs.take k) wr) (fun i _ => xs.length - (intOf i).toNat)
  case atStart => exact ⟨0, Nat.zero_le _, rfl, by simpa using h0⟩
  case round =>
    obtain ⟨k, hk, rfl, hJ⟩ := hrel
    by_cases hlt : k < xs.length
    · obtain ⟨b, off, rfl, c0⟩ := hcell _ _ hJ k hlt
      obtain ⟨fn, tmps, assign, body, hy, hR⟩ := hY (xs.take k) xs[k] wr hJ (by rw [List.length_take]; omega)
      generalize hxk : xs[k] = x at *
      gi_wp2
      refine hR.mono ?_
      rintro e W3 ⟨rfl, hJ3, hk3⟩
      gi_wp2
      go_roundw
      case rel => exact ⟨k + 1, by omega, by go_num, by rw [List.take_succ_eq_append_getElem hlt, hxk]; exact hJ3⟩
      case measure => simp [intOf]; omega
    · obtain rfl : k = xs.length := by omega
      rw [List.take_length] at hJ
      gi_wp2
      go_end0
      exact ⟨⟨_, rfl⟩, hJ⟩
set_option maxRecDepth 100000 in
set_option maxHeartbeats 2000000 in
/-- What an iterator gives, appended to nothing: the iterator is called at a loop whose rounds keep all that lay before. -/
theorem appendSeq_in (g : Nat) (lb : Array Value) (eg : ∀ args w, (callFunc g args).run Try.prog w = .ok (.enter g args) w) (xs : List Int) (hN : xs.length ≤ 100000) (w : World)
    (hseq : ∀ (l : Nat) (J : List Int → World → Prop) (W : World), Below w.heap.size w W → (∀ s W', J s W' → Below w.heap.size w W') →
      (∀ pre x W1, J pre W1 → pre.length < xs.length → YieldAt Fence.wide 3 Try.prog l #[encZ x] W1 fun e W' => e = .returned (.bool true) ∧ J (pre ++ [x]) W' ∧ KeepsWalks W1 W') →
      J [] W → CallsIn Fence.wide 4 Try.prog g (#[.func (.yield l) #[] #[]] ++ lb) W fun e W' => (∃ v, e = .returned v) ∧ J xs W') :
    CallsIn Fence.wide 5 Try.prog 88 #[.slice none 0 0, .func (.func g) #[] lb] w fun e w' => ∃ v : Value, e = .returned v ∧ w'.ownsRow w.heap.size 3 1 v xs.length (xs.map encZ) ∧ Below w.heap.size w w' := by
  have L : SlLaysZI.n11 Try.prog Try.sortedA_ren := { Try.sortedA with }
  refine callsIn_of_wp_marks Try.func88 rfl trivial ?_ rfl
  simp only [Try.ntmps88, List.size_toArray, List.length_cons, List.length_nil, Nat.reduceAdd, Nat.reduceSub, Array.replicate_succ, Array.replicate_zero, List.push_toArray, List.append_toArray, List.nil_append, List.cons_append]
  gi_wp2
  refine wpIn_rangeFunc ?_
  intro fn hfn
  obtain ⟨W0, hW0⟩ : ∃ W0, w.alloc (.cells #[.slice none 0 0] 72) = W0 := ⟨_, rfl⟩
  have hs0 : W0.heap.size = w.heap.size + 1 := by rw [← hW0]; simp
  have hv0 : W0.heap[w.heap.size]? = some (.cells #[.slice none 0 0] 72 (0, 0)) := by rw [← hW0]; exact World.alloc_heap_new w _
  have hb0 : Below w.heap.size w W0 := by rw [← hW0]; exact bel1 w _
  rw [hW0]
  obtain ⟨R, hR⟩ : ∃ R, AnyZI.apRec Try.sortedA_ren fn (.func (.func g) #[] lb) w.heap.size W0.heap.size .ready none = R := ⟨_, rfl⟩
  obtain ⟨W1, hW1⟩ : ∃ W1, (W0.alloc (.deferred (some []))).alloc (.loop R) = W1 := ⟨_, rfl⟩
  have hold : ∀ k, k < W0.heap.size → W1.heap[k]? = W0.heap[k]? := fun k hk => by
    rw [← hW1]; exact (Below.heap_alloc _ _ k (by simp; omega)).trans (Below.heap_alloc _ _ k hk)
  have hb1 : Below w.heap.size w W1 := by rw [← hW1]; exact (hb0.alloc hb0.size _).alloc (by have := hb0.size; simp; omega) _
  have hs1 : W1.heap.size = W0.heap.size + 2 := by rw [← hW1]; simp
  have hl1 : W1.heap[W0.heap.size + 1]? = some (.loop R) := by
    rw [← hW1]; have := World.alloc_heap_new (W0.alloc (.deferred (some []))) (.loop R); rwa [World.size_alloc] at this
  have hM : AnyZI.ApAt Try.sortedA_ren w fn (.func (.func g) #[] lb) w.heap.size (W0.heap.size + 1) W0.heap.size [] W1 :=
    ⟨⟨_, (hold w.heap.size (by omega)).trans hv0, ⟨rfl, .inl ⟨rfl, rfl⟩⟩, by simp⟩, by rw [hR]; exact hl1,
     by rw [← hW1]; exact (Below.heap_alloc _ _ _ (by simp)).trans (World.alloc_heap_new W0 _), hb1⟩
  refine ⟨W0.heap.size + 1, [{ target := .collected W0.heap.size, args := #[] }], W1, { target := .fn (.func g) lb, args := #[.func (.yield (W0.heap.size + 1)) #[] #[]] }, W1, g,
    #[.func (.yield (W0.heap.size + 1)) #[] #[]] ++ lb, W1, ?_, ?_, ?_, ?_, fun _ => (by decide), ?_⟩
  · rw [← hW1, ← hR]; exact run_enterLoop_outer _ _ _ _ _
  · simp [resolve, go_sem]
  · intro f' hf'; trivial
  · simp [invoke, go_sem, eg]
  · refine (hseq (W0.heap.size + 1) (AnyZI.ApAt Try.sortedA_ren w fn (.func (.func g) #[] lb) w.heap.size (W0.heap.size + 1) W0.heap.size) W1 hb1 (fun s W' h => h.below)
      (fun pre x W hJ hl => AnyZI.apYield L Fence.wide 3 w fn hfn _ w.heap.size (W0.heap.size + 1) W0.heap.size (by omega) (by omega) (by omega) (Nat.le_refl _) (by omega) xs.length (by unfold maxLen; omega) (by omega) pre x W hJ hl) hM).mono ?_
    rintro e W2 ⟨⟨v0, rfl⟩, h2⟩
    obtain ⟨v, hv, hrow, _⟩ := h2.box
    have hL := h2.L
    rw [hR] at hL
    have hend := run_endLoop (P := Try.prog) hL (by rw [← hR]; simp [AnyZI.apRec])
    obtain ⟨W3, hW3⟩ : ∃ W3, W2.putObj (W0.heap.size + 1) (.loop { R with state := .exhausted }) = W3 := ⟨_, rfl⟩
    rw [hW3, show R.pending = none by rw [← hR]; rfl] at hend
    have hg3 : W2.grownBy W3 (some (W0.heap.size + 1)) := by rw [← hW3]; exact grownBy_putObj_a _ _ _
    have hv3 : W3.heap[w.heap.size]? = some (.cells #[v] 72 (0, 0)) := by rw [← hW3]; exact (World.putObj_heap_other (by omega)).trans hv
    have hK3 : W3.heap[W0.heap.size]? = some (.deferred (some [])) := by rw [← hW3]; exact (World.putObj_heap_other (by omega)).trans h2.K
    have hrow3 := hrow.kept hg3 (ownsRow_ne_a hrow hL (fun cur e => by cases e))
    have hb3 : Below w.heap.size w W3 := h2.below.grown hg3 h2.below.size (fun k e => by cases e; omega)
    obtain ⟨hc3, hf3⟩ := cell_of_box_a hv3
    have hK : W3.grownBy (W3.putObj W0.heap.size (.deferred none)) (some W0.heap.size) := grownBy_putObj_a _ _ _
    have HQ : Hid (∃ v' : Value, Ending.returned v = .returned v' ∧ (W3.putObj W0.heap.size (.deferred none)).ownsRow w.heap.size 3 1 v' xs.length (xs.map encZ) ∧ Below w.heap.size w (W3.putObj W0.heap.size (.deferred none))) :=
      ⟨v, rfl, hrow3.kept hK (ownsRow_ne_a hrow3 hK3 (fun cur e => by cases e)), hb3.grown hK hb3.size (fun k e => by cases e; omega)⟩
    clear hW3 hR
    refine ⟨none, W3, hend, ?_⟩
    gi_wp2
    rw [← hs0]
    refine ⟨by simp, .inl ⟨_, _, rfl, run_takeDeferred hK3, ?_⟩⟩
    refine ⟨_, results_tmp rfl _ _ _, ?_⟩
    exact HQ.out
set_option maxRecDepth 100000 in
set_option maxHeartbeats 2000000 in
/-- The ints of a slice, sorted, in a new one. -/
theorem sorted_any (Bm : Nat) (a : Option Addr) (cap : Nat) (xs : List Int) (hx : xs.length ≤ 100000) (w : World) (hat : AtV w a (IC xs)) (hm : w.cell? ⟨Bm, 0, none⟩ = some (.slice a xs.length cap)) :
    Calls Try.prog 72 #[.func (.func 86) #[] #[.pointer (some ⟨Bm, 0, none⟩)]] w fun e w' => ∃ v : Value, e = .returned v ∧ w'.ownsRow w.heap.size 3 1 v xs.length (IC (xs.mergeSort fun x y => decide (x ≤ y))) ∧ Below w.heap.size w w' := by
  have h52 : CallsIn Fence.wide 5 Try.prog 88 #[.slice none 0 0, .func (.func 86) #[] #[.pointer (some ⟨Bm, 0, none⟩)]] w fun e w' => ∃ v : Value, e = .returned v ∧ w'.ownsRow w.heap.size 3 1 v xs.length (xs.map encZ) ∧ Below w.heap.size w w' :=
    appendSeq_in 86 _ (enters_of Try.func86 (by kernel_rfl) rfl) xs hx w fun l J W hW hJ hY h0 =>
      values1_in Fence.wide 4 trivial rfl (by omega) l Bm a cap xs hx J hY W (fun pre W' h' => (hat.keep (hJ _ _ h')).int) ((hW.cell (p := ⟨Bm, 0, none⟩) (World.block_lt_of_cell? w _ hm)).trans hm) h0
  have h45 : Calls Try.prog 84 #[.func (.func 86) #[] #[.pointer (some ⟨Bm, 0, none⟩)]] w fun e w' => ∃ v : Value, e = .returned v ∧ w'.ownsRow w.heap.size 3 1 v xs.length (xs.map encZ) ∧ Below w.heap.size w w' := by
    have h52' := callsIn_wide.1 h52
    clear h52 hat hm
    go_enter Try.func84, Try.ntmps84
    go_wp2_with fail
    refine h52'.mono ?_
    rintro e w' ⟨v, rfl, h1, h2⟩
    have HQ := Hid_of (And.intro h1 h2)
    clear h1 h2 h52'
    go_wp2
    go_ret
    exact ⟨v, rfl, HQ.out⟩
  clear h52 hat hm
  go_enter Try.func72, Try.ntmps72
  go_wp2_with fail
  refine h45.mono ?_
  rintro e W ⟨v, rfl, hrow, hb⟩
  rcases hrow.2 with ⟨rfl, hz⟩ | ⟨gb, cp, cur, rfl, hbase, hgb, r1, r2, r3, r4⟩
  · have hss : xs = [] := List.eq_nil_of_length_eq_zero hz
    subst hss
    have HQ := Hid_of (And.intro hrow hb)
    clear hrow hb h45
    go_wp2_with fail
    refine (Try.slices_Sort_int_none none 0 W).mono ?_
    rintro e w' ⟨rfl, rfl⟩
    go_wp2
    go_ret
    exact ⟨_, rfl, by simpa [IC] using HQ.out.1, HQ.out.2⟩
  · have hH : Holds (Value.int .i64) W gb 0 xs.toArray := holds_of_block_i hgb (by simpa using r4)
    have hgl : gb < W.heap.size := (Array.getElem?_eq_some_iff.1 hgb).1
    have hS := Try.slices_Sort_int gb 0 cp xs W hH hgl (by omega)
    have HQ : Hid (∀ k os, (grow (putRow encZ (Sort.ahead W k) gb 0 (xs.mergeSort fun x y => decide (x ≤ y)).toArray) os).ownsRow w.heap.size 3 1 (.slice (some ⟨gb, 0, none⟩) xs.length cp) xs.length (IC (xs.mergeSort fun x y => decide (x ≤ y))) ∧ Below w.heap.size w (grow (putRow encZ (Sort.ahead W k) gb 0 (xs.mergeSort fun x y => decide (x ≤ y)).toArray) os)) :=
      fun k os => ⟨ownsRow_sorted_i (by simp) hbase hgb r1 r2 r3, hb.grown (grownBy_sorted_i _) hb.size (fun j hj => by cases hj; exact hbase)⟩
    clear hH hrow hb h45 hgb
    go_wp2_with fail
    refine hS.mono ?_
    rintro e w' ⟨rfl, nn, os, rfl⟩
    have HQ2 := Hid_of (HQ.out nn os)
    clear HQ hS
    generalize hG : grow _ _ = G at *
    clear hG
    go_wp2
    go_ret
    exact ⟨_, rfl, HQ2.out⟩
theorem values_any (v : Value) (a : Option Addr) (n c : Nat) (hv : v = .slice a n c) (w : World) : Calls Try.prog 73 #[v] w fun e w' => e = .returned (.func (.func 86) #[] #[.pointer (some ⟨w.heap.size, 0, none⟩)]) ∧ w' = w.alloc (.cells #[v] 72) := by
  subst hv
  go_enter Try.func73, Try.ntmps73
  go_wp2
  go_ret
  exact ⟨rfl, rfl⟩
set_option maxRecDepth 100000 in
set_option maxHeartbeats 2000000 in
theorem loose_any (base b g : Nat) (vl : Value) (n : Nat) (P : List M.Pl) (ls : List Nat) (w : World) (h : DI w base b g vl n P ls) :
    Calls Try.prog 51 #[.pointer (some ⟨b, 0, none⟩)] w fun e w' => ∃ v : Value, e = .returned v ∧ w'.ownsRow w.heap.size 3 1 v (M.lo P).length (IC (M.zs (M.lo P))) ∧ Below w.heap.size w w' := by
  obtain ⟨⟨_, _, c2, _⟩, _⟩ := row4 h.row
  obtain ⟨a, cap, rfl, hat, _, _⟩ := owns_at h.own
  have hlen : (M.zs ls).length = (M.lo P).length := by rw [M.zs_len]; exact h.lo.perm.length_eq
  have hx : (M.zs ls).length ≤ 100000 := by have := h.lsn; rw [M.zs_len]; omega
  have hs := sorted_any w.heap.size a cap (M.zs ls) hx (w.alloc (.cells #[.slice a (M.zs ls).length cap] 72)) (hat.keep (bel1 w _)) (by
    rw [cell_of_row _ _ 0 _ _ _ (heap_alloc_last w _)]; rfl)
  rw [h.lo.sort, hlen] at hs
  rw [hlen] at c2
  clear h hat hx
  generalize (M.lo P).length = m at *
  go_enter Try.func51, Try.ntmps51
  go_wp2_with fail
  refine (values_any _ a m cap rfl w).mono ?_
  rintro e w1 ⟨rfl, rfl⟩
  go_wp2_with fail
  refine hs.mono ?_
  rintro e w' ⟨v, rfl, h1, h2⟩
  have HQ : Hid (w'.ownsRow w.heap.size 3 1 v m (IC (M.zs (M.lo P))) ∧ Below w.heap.size w w') := ⟨owns_low h1 (by simp), bel_up (bel1 w _) h2 (Nat.le_refl _)⟩
  clear h1 h2 hs
  go_wp2
  go_ret
  exact ⟨v, rfl, HQ.out⟩
end Go.Proofs.Yticjilpomdahbaa
