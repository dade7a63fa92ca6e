/-
  The document's net: its rows in memory; links compared; a new one, whether something is a node, which one is meant, whether a link is cut.
-/
import Derived.Test.YtjbodjjeenjbeaaNP
import Derived.Laws.StructEq
namespace Go.Proofs.Ytjbodjjeenjbeaa
open Go.RowKit
set_option linter.unusedVariables false
open Nt (Pk)

/-- The cells of links. -/
def LC : List (Int × Int) → List Value
  | [] => []
  | p :: r => .int .i64 p.1 :: .int .i64 p.2 :: LC r
theorem LC_app : ∀ l q, LC (l ++ q) = LC l ++ LC q
  | [], q => rfl
  | p :: r, q => by rw [List.cons_append, LC, LC_app r q]; rfl
theorem LC_len : ∀ l, (LC l).length = l.length * 2
  | [] => rfl
  | p :: r => by rw [LC]; simp [LC_len r]; omega
theorem LC_get : ∀ (l : List (Int × Int)) (j : Nat) (h : j < l.length), (LC l)[j * 2]? = some (.int .i64 l[j].1) ∧ (LC l)[j * 2 + 1]? = some (.int .i64 l[j].2)
  | [], j, h => by simp at h
  | p :: r, 0, h => by simp [LC]
  | p :: r, j + 1, h => by
    have := LC_get r j (by simpa using h)
    rw [LC, show (j + 1) * 2 = j * 2 + 1 + 1 by omega]
    simpa using this
theorem LC_one : ∀ (l : List (Int × Int)), ∀ v ∈ LC l, v.oneCell' = true
  | [], v, h => by simp [LC] at h
  | p :: r, v, h => by
    simp only [LC, List.mem_cons] at h
    rcases h with rfl | rfl | h
    · rfl
    · rfl
    · exact LC_one r v h
/-- A slice of links in memory. -/
def AtL (w : World) (a : Option Addr) (l : List (Int × Int)) : Prop :=
  ∀ j (h : j < l.length), ∃ b off, a = some ⟨b, off, none⟩ ∧ w.cell? ⟨b, off + j * 2, none⟩ = some (.int .i64 l[j].1) ∧ w.cell? ⟨b, off + j * 2 + 1, none⟩ = some (.int .i64 l[j].2)
theorem AtL.keepBut {w w' : World} {a : Option Addr} {l : List (Int × Int)} (h : AtL w a l) (hb : ∀ k, k < w.heap.size → blk a k → w'.heap[k]? = w.heap[k]?) : AtL w' a l := by
  intro j hj
  obtain ⟨b, off, rfl, h0, h1⟩ := h j hj
  have hk := hb b (World.block_lt_of_cell? w _ h0) ⟨off, none, rfl⟩
  exact ⟨b, off, rfl, (World.cell?_of_block (w := w) (a := ⟨b, off + j * 2, none⟩) hk).trans h0, (World.cell?_of_block (w := w) (a := ⟨b, off + j * 2 + 1, none⟩) hk).trans h1⟩
theorem AtL.keep {w w' : World} {a : Option Addr} {l : List (Int × Int)} (h : AtL w a l) (hb : Below w.heap.size w w') : AtL w' a l := h.keepBut fun k hk _ => hb.block k hk
/-- A row of links of one's own. -/
def OwnL (w : World) (base : Nat) (v : Value) (l : List (Int × Int)) : Prop := w.ownsRow base 85 2 v l.length (LC l)
theorem OwnL.nil (w : World) (base : Nat) : OwnL w base (.slice none 0 0) [] := World.ownsRow_nil _ _ _ _
theorem OwnL.keepBut {w w1 : World} {base : Nat} {v : Value} {l : List (Int × Int)} (h : OwnL w base v l) (hb : ∀ k, k < w.heap.size → v.ownBlock = some k → w1.heap[k]? = w.heap[k]?) : OwnL w1 base v l := owns_keepBut h hb
theorem OwnL.keep {w w1 : World} {base : Nat} {v : Value} {l : List (Int × Int)} (h : OwnL w base v l) (hb : Below w.heap.size w w1) : OwnL w1 base v l := owns_keepBut h fun k hk _ => hb.block k hk
theorem OwnL.low {w : World} {base base' : Nat} {v : Value} {l : List (Int × Int)} (h : OwnL w base v l) (hb : base' ≤ base) : OwnL w base' v l := owns_base h hb
theorem OwnL.lt {w : World} {base : Nat} {v : Value} {l : List (Int × Int)} (h : OwnL w base v l) {b : Nat} (hb : v.ownBlock = some b) : base ≤ b ∧ b < w.heap.size := World.ownsRow.lt h b hb
theorem OwnL.at {w : World} {base : Nat} {v : Value} {l : List (Int × Int)} (h : OwnL w base v l) : ∃ a cap, v = .slice a l.length cap ∧ AtL w a l ∧ ∀ k, blk a k → base ≤ k ∧ v.ownBlock = some k ∧ k < w.heap.size := by
  rcases h.2 with ⟨rfl, h0⟩ | ⟨g, cap, cur, rfl, hb', hh, hc, hm, hs, ht⟩
  · have e : l = [] := List.length_eq_zero_iff.1 h0
    subst e
    exact ⟨_, 0, rfl, (fun j h => by simp at h), (fun k hk => by obtain ⟨_, _, h⟩ := hk; cases h)⟩
  · refine ⟨some ⟨g, 0, none⟩, cap, rfl, fun j hj => ⟨g, 0, rfl, ?_⟩, (fun k hk => by obtain ⟨_, _, h⟩ := hk; simp at h; obtain ⟨rfl, _⟩ := h; exact ⟨hb', rfl, (Array.getElem?_eq_some_iff.1 hh).1⟩)⟩
    have hr := LC_get l j hj
    have key : ∀ (i : Nat) (u : Value), (LC l)[i]? = some u → w.cell? ⟨g, 0 + i, none⟩ = some u := fun i u hu => by
      have := World.ownsRow.cells h (g := g) rfl i u hu
      rwa [show ((⟨g, 0, none⟩ : Addr).add i) = ⟨g, 0 + i, none⟩ by unfold Addr.add; split <;> simp_all] at this
    exact ⟨key _ _ hr.1, key _ _ hr.2⟩
theorem hi85 : Try.prog.info? 85 = some Try.t85 := by kernel_rfl
theorem hz85 : Try.t85.zero = some (.agg #[.int .i64 0, .int .i64 0]) := rfl
theorem hs85 : Try.t85.size = 2 := rfl
theorem hb85 : Try.t85.bytes = 16 := rfl
/-- One more. -/
theorem run_appL (w : World) (ty : TypeId) (base : Nat) (v : Value) (l : List (Int × Int)) (x y : Int) (g : Nat) (hown : OwnL w base v l) (hg : w.heap[g]? = some (.cells #[.int .i64 x, .int .i64 y] 85 (0, 0))) (hb : base ≤ w.heap.size) (hl : l.length ≤ 1000000) :
    ∃ a' c' w', (Builtin.append_ #[28, 28] ty #[v, .slice (some ⟨g, 0, none⟩) 1 1]).run Try.prog w = .ok (.slice a' (l.length + 1) c') w' ∧ OwnL w' base (.slice a' (l.length + 1) c') (l ++ [(x, y)]) ∧ Rw w v w' (.slice a' (l.length + 1) c') := by
  have hat : ∀ j u, (LC [(x, y)])[j]? = some u → w.cell? ((⟨g, 0, none⟩ : Addr).add j) = some u := by
    intro j u hu
    rw [show ((⟨g, 0, none⟩ : Addr).add j) = ⟨g, j, none⟩ by unfold Addr.add; split <;> simp_all, cell_of_row w g j _ _ _ hg, ← hu]
    simp [LC]
  obtain ⟨v', w', hr, h2, h3, _, h5⟩ := run_append_own_at (P := Try.prog) w base 28 ty 85 Try.t85 _ 2 16 Try.underlying28 hi85 hz85 hs85 hb85 rfl (by decide) v l.length (LC l) hown ⟨g, 0, none⟩ 1 1 (LC [(x, y)]) (LC_len [(x, y)]) hat (LC_one [(x, y)]) (by unfold maxLen; omega) (by omega) hb
  have ho : OwnL w' base v' (l ++ [(x, y)]) := by
    unfold OwnL
    rw [LC_app, List.length_append]
    exact h2
  obtain ⟨a', c', rfl, _⟩ := ho.at
  rw [List.length_append] at hr ho h5 h2
  refine ⟨a', c', w', hr, ho, h3, fun k hk => ?_⟩
  rcases h5 with h5 | h5
  · exact .inl (by rw [← h5]; exact hk)
  · have h6 : (Value.slice a' (l.length + 1) c').ownBlock = some w.heap.size := h5
    rw [h6] at hk
    cases hk
    exact .inr (Nat.le_refl _)
set_option maxHeartbeats 400000 in
theorem equal85 (a b c d : Int) (w : World) : (Op.equalIn 10000 85 (.agg #[.int .i64 a, .int .i64 b]) (.agg #[.int .i64 c, .int .i64 d])).run Try.prog w = .ok ((a == c) && (b == d)) w := by
  have he := fun x y => run_equalIn_int (P := Try.prog) w 9998 3 .i64 .i64 x y Try.underlying3
  have a3 := Try.isAgg3
  rw [run_equalIn_array w 9999 _ _ Try.underlying85 (show Try.prog.info? 3 = some Try.t3 from by kernel_rfl)]
  simp only [show List.range 2 = [0, 1] from rfl, Op.eqItems, Sem.run_bind, part, a3, Result.andThen_ok]
  cases h1 : a == c
  · simp [he, h1]
  · cases h2 : b == d <;> simp [he, h1, h2, Try.cells3]
theorem eq85 (a b c d : Int) (w : World) : (binOp .eql 85 (.agg #[.int .i64 a, .int .i64 b]) (.agg #[.int .i64 c, .int .i64 d])).run Try.prog w = .ok (.bool ((a == c) && (b == d))) w := by
  rw [run_eql_struct, equal85]
  rfl
theorem ne85 (a b c d : Int) (w : World) : (binOp .neq 85 (.agg #[.int .i64 a, .int .i64 b]) (.agg #[.int .i64 c, .int .i64 d])).run Try.prog w = .ok (.bool (!((a == c) && (b == d)))) w := by
  rw [run_neq_struct, equal85]
  rfl

theorem Try.size30 : (Try.prog.info? 30).map (·.size) = some 3 := by kernel_rfl
/-- What a call makes of what is under way: the slice that was there, or a new row. -/
def XRes (w w' : World) (a : Option Addr) (cap : Nat) (R : List Pk) (v : Value) (R' : List Pk) : Prop := (v = .slice a R.length cap ∧ R' = R) ∨ OwnP 44 w' w.heap.size v R'
/-- .. and of the links. -/
def KRes (w w' : World) (a : Option Addr) (cap : Nat) (K : List (Int × Int)) (v : Value) (K' : List (Int × Int)) : Prop := (v = .slice a K.length cap ∧ K' = K) ∨ OwnL w' w.heap.size v K'
/-- The document's net as a value whose rows lie somewhere. -/
structure RN (w : World) (a : Option Addr) (cap : Nat) (R : List Pk) (ka : Option Addr) (kc : Nat) (K : List (Int × Int)) : Prop where
  r : XP w a cap R
  k : AtL w ka K
  ok : Nt.Ok R
  n : K.length ≤ 100000
theorem RN.keepBut {w w' : World} {a : Option Addr} {cap : Nat} {R : List Pk} {ka : Option Addr} {kc : Nat} {K : List (Int × Int)} (h : RN w a cap R ka kc K) (hb : ∀ k, k < w.heap.size → (blk a k ∨ blk ka k) → w'.heap[k]? = w.heap[k]?) : RN w' a cap R ka kc K :=
  ⟨h.r.keepBut (fun k hk e => hb k hk (.inl e)), h.k.keepBut (fun k hk e => hb k hk (.inr e)), h.ok, h.n⟩
theorem RN.keep {w w' : World} {a : Option Addr} {cap : Nat} {R : List Pk} {ka : Option Addr} {kc : Nat} {K : List (Int × Int)} (h : RN w a cap R ka kc K) (hb : Below w.heap.size w w') : RN w' a cap R ka kc K := h.keepBut fun k hk _ => hb.block k hk
/-- What a call leaves. -/
def ROut (w : World) (N : Int) (a : Option Addr) (cap : Nat) (R : List Pk) (ka : Option Addr) (kc : Nat) (K : List (Int × Int)) (R' : List Pk) (K' : List (Int × Int)) (r : Bool) (e : Ending) (w' : World) : Prop :=
  ∃ v1 v2, e = .returned (.tuple #[.agg #[.int .i64 N, v1, v2], .bool r]) ∧ XRes w w' a cap R v1 R' ∧ KRes w w' ka kc K v2 K' ∧ Below w.heap.size w w'
theorem f10_res : Try.f10.results = #[.cell 2 30] := rfl
set_option maxHeartbeats 400000 in
theorem rnew_any (x : Int) (w : World) : Calls Try.prog 10 #[.int .i64 x] w fun e w' => e = .returned (.agg #[.int .i64 (Nt.lim x), .slice none 0 0, .slice none 0 0]) ∧ Below w.heap.size w w' := by
  obtain ⟨mx, hmx⟩ : ∃ z, max x 1 = z := ⟨_, rfl⟩
  obtain ⟨mn, hmn⟩ : ∃ z, min mx 64 = z := ⟨_, rfl⟩
  have hlim : Nt.lim x = mn := by unfold Nt.lim; rw [hmx, hmn]
  rw [hlim]
  have HR := Hid_of (heap_alloc_last w (.cells #[.int .i64 mn, .slice none 0 0, .slice none 0 0] 30))
  have HB := Hid_of (bel1 w (.cells #[.int .i64 mn, .slice none 0 0, .slice none 0 0] 30))
  clear hlim
  go_enter Try.func10, Try.ntmps10
  go_wp2
  refine bodyPost_ret (v := .agg #[.int .i64 mn, .slice none 0 0, .slice none 0 0]) ?_ rfl ⟨rfl, HB.out⟩
  exact results_cell_row f10_res _ _ w.heap.size 30 _ (0, 0) _ rfl HR.out Try.underlying30 rfl Try.size30
set_option maxHeartbeats 400000 in
theorem rnode_any (N : Int) (v1 v2 : Value) (i : Int) (w : World) : Calls Try.prog 25 #[.agg #[.int .i64 N, v1, v2], .int .i64 i] w fun e w' => e = .returned (.bool (Nt.node N i)) ∧ Below w.heap.size w w' := by
  have HB := Hid_of (bel1 w (.cells #[.int .i64 N, v1, v2] 30))
  cases h1 : decide (0 ≤ i) with
  | true =>
    have HN : Hid (Nt.node N i = decide (i < N)) := Hid_of (show Nt.node N i = decide (i < N) by unfold Nt.node; rw [h1]; rfl)
    go_enter Try.func25, Try.ntmps25
    go_wp2
    go_ret
    rw [HN.out]
    exact ⟨rfl, HB.out⟩
  | false =>
    have HN : Hid (Nt.node N i = false) := Hid_of (show Nt.node N i = false by unfold Nt.node; rw [h1]; rfl)
    go_enter Try.func25, Try.ntmps25
    go_wp2
    go_ret
    rw [HN.out]
    exact ⟨rfl, HB.out⟩
set_option maxHeartbeats 400000 in
theorem rat_any (i : Int) (n : Nat) (h : 0 < n) (hn : n ≤ 1000000) (w : World) : Calls Try.prog 36 #[.int .i64 i, .int .i64 n] w fun e w' => e = .returned (.int .i64 (Nt.wr i n)) ∧ w' = w := by
  have hw := Nt.wr_int i h
  have hl := Nt.wr_lt i h
  have d0 : ((n : Int) == 0) = false := by simp; omega
  have d1 : ((n : Int) = 0) = False := by simp; omega
  have ht := Int.tmod_lt_of_pos i (show (0 : Int) < n by omega)
  have ht2 := Int.lt_tmod_of_pos i (show (0 : Int) < n by omega)
  have HW : Hid ((i.tmod n + n) % (n : Int) = ((Nt.wr i n : Nat) : Int)) := by
    refine Hid_of ?_
    rw [hw]
    rcases emod_of_tmod i n h with ⟨h1, h2⟩ | ⟨h1, h2⟩
    · rw [h2, Int.add_emod_right, Int.emod_emod_of_dvd _ (Int.dvd_refl _)]
    · rw [h2, Int.emod_emod_of_dvd _ (Int.dvd_refl _)]
  generalize Nt.wr i n = q at *
  clear hw hl
  go_enter Try.func36, Try.ntmps36
  go_wp2
  go_ret
  refine ⟨?_, rfl⟩
  show Ending.returned (.int .i64 ((i.tmod n + n) % (n : Int))) = _
  rw [HW.out]
theorem rcut_in {K : List (Int × Int)} {x y : Int} {q : Nat} (h : q < K.length) (e : K[q].1 = x ∧ K[q].2 = y) : Nt.rcut K x y = true := by
  refine decide_eq_true ?_
  have : K[q] = (x, y) := Prod.ext e.1 e.2
  rw [← this]
  exact List.getElem_mem h
theorem rcut_out {K : List (Int × Int)} {x y : Int} (h : ∀ j (h : j < K.length), ¬ (K[j].1 = x ∧ K[j].2 = y)) : Nt.rcut K x y = false := by
  refine decide_eq_false fun hm => ?_
  obtain ⟨j, hj, e⟩ := List.getElem_of_mem hm
  exact h j hj (by rw [e]; exact ⟨rfl, rfl⟩)
set_option maxRecDepth 100000 in
set_option maxHeartbeats 1000000 in
theorem rcut_any (N : Int) (v1 : Value) (ka : Option Addr) (kc : Nat) (K : List (Int × Int)) (x y : Int) (w : World) (hn : K.length ≤ 100000) (hk : AtL w ka K) :
    Calls Try.prog 30 #[.agg #[.int .i64 N, v1, .slice ka K.length kc], .int .i64 x, .int .i64 y] w fun e w' => e = .returned (.bool (Nt.rcut K (min x y) (max x y))) ∧ Below w.heap.size w w' := by
  obtain ⟨W1, HW1⟩ : ∃ W1, Hid (w.alloc (.cells #[.int .i64 N, v1, .slice ka K.length kc] 30) = W1) := ⟨_, rfl⟩
  have HB : Hid (Below w.heap.size w W1) := by rw [← HW1.out]; exact bel1 w _
  have hr1 : W1.heap[w.heap.size]? = some (.cells #[.int .i64 N, v1, .slice ka K.length kc] 30 (0, 0)) := by rw [← HW1.out]; exact heap_alloc_last w _
  obtain ⟨⟨c0, c1, c2⟩, _⟩ := rw3 hr1
  have HK := Hid_of (hk.keep HB.out)
  clear hk hr1
  generalize hlo : min x y = lo
  generalize hhi : max x y = hi
  go_enter Try.func30, Try.ntmps30
  go_upto_region 1 with fail
  rw [HW1.out]
  clear HW1
  go_wp2_with fail
  go_loopw [7] (fun i wr => ∃ q : Nat, q ≤ K.length ∧ i = .int .i64 q ∧ wr = W1 ∧ Hid (∀ j (h : j < K.length), j < q → ¬ (K[j].1 = lo ∧ K[j].2 = hi))) (fun i _ => K.length - (intOf i).toNat)
  case atStart => exact ⟨0, by omega, rfl, rfl, fun j h hj => by omega⟩
  case round =>
    obtain ⟨q, hq, rfl, rfl, HF⟩ := hrel
    by_cases hlt : q < K.length
    · obtain ⟨b, off, rfl, d0, d1⟩ := HK.out q hlt
      have e1 := eq85 K[q].1 K[q].2 lo hi
      have hqi : (q : Int) < (K.length : Int) := by omega
      have HIN := Hid_of (fun e => rcut_in (x := lo) (y := hi) hlt e)
      by_cases he : K[q].1 = lo ∧ K[q].2 = hi
      · have hb : ((K[q].1 == lo) && (K[q].2 == hi)) = true := by simp [he.1, he.2]
        rw [hb] at e1
        have HI : Hid (Nt.rcut K lo hi = true) := rcut_in hlt he
        clear hb he HK HF HIN
        generalize K[q].1 = u at *
        generalize K[q].2 = v at *
        go_wp2
        go_ret
        rw [HI.out]
        exact ⟨rfl, HB.out⟩
      · have hb : ((K[q].1 == lo) && (K[q].2 == hi)) = false := by
          cases h1 : (K[q].1 == lo) && (K[q].2 == hi)
          · rfl
          · simp only [Bool.and_eq_true, beq_iff_eq] at h1
            exact absurd h1 he
        rw [hb] at e1
        have HN : Hid (∀ j (h : j < K.length), j < q + 1 → ¬ (K[j].1 = lo ∧ K[j].2 = hi)) := fun j hj hjq => by
          rcases Nat.lt_or_ge j q with h' | h'
          · exact HF.out j hj h'
          · obtain rfl : j = q := by omega
            exact he
        clear hb he HK HF HIN
        generalize K[q].1 = u at *
        generalize K[q].2 = v at *
        go_wp2
        go_roundw
        case rel => exact ⟨q + 1, by omega, by go_num, by first | rfl | trivial, HN.out⟩
        case measure => simp [intOf]; omega
    · have hqe : q = K.length := by omega
      subst hqe
      have HO : Hid (Nt.rcut K lo hi = false) := rcut_out (fun j hj => HF.out j hj hj)
      clear HF HK
      go_wp2
      go_ret
      rw [HO.out]
      exact ⟨rfl, HB.out⟩
end Go.Proofs.Ytjbodjjeenjbeaa
