import Derived.Test.YtlnedgjikkhplaaGreatGP10
import Derived.Laws.OwnMore
set_option maxRecDepth 100000
set_option maxHeartbeats 8000000
set_option linter.unusedVariables false
set_option linter.unusedSimpArgs false
namespace Go.Proofs.YtlnedgjikkhplaaGreat.Ns
open Go.RowKit
theorem Tryz.size148 : (Tryz.prog.info? 148).map (·.size) = some 2 := by kernel_rfl
theorem bwrite_any (B b : Nat) (bs : List Value) (s : ByteArray) (w : World) (h : Lib.BuilderAt 148 5 B b (.pointer (some ⟨b, 0, none⟩)) bs w) (hlen : bs.length + s.size ≤ 100000000) (hBw : B ≤ w.heap.size) :
  Calls Tryz.prog 86 #[.pointer (some ⟨b, 0, none⟩), .string s] w fun e w' => e = .returned (.tuple #[.int .i64 s.size, .nilIface]) ∧ Lib.BuilderAt 148 5 B b (.pointer (some ⟨b, 0, none⟩)) (bs ++ Lib.strCells s) w' ∧ Below B w w' := by
 obtain ⟨i0, hi, hz0, hz1, hz2⟩ := info_parts Tryz.info5
 obtain ⟨hB, v, hbk, hown, hne⟩ := h
 have c0 : w.cell? ⟨b, 0, none⟩ = some (.pointer (some ⟨b, 0, none⟩)) := by rw [Lib.cell_of_heap hbk]; rfl
 have c1 : w.cell? ⟨b, 1, none⟩ = some v := by rw [Lib.cell_of_heap hbk]; rfl
 have hcc : Calls Tryz.prog 132 #[.pointer (some ⟨b, 0, none⟩)] w fun e w' => e = .returned (.tuple #[]) ∧ w' = w := by
  clear hown hbk hi hz0 hz1 hz2 c1
  obtain ⟨j, hj, hjs⟩ := Option.map_eq_some_iff.1 Tryz.size148
  go_enter Tryz.func132, Tryz.ntmps132
  go_wp2; rw [Lib.run_neq_ptr_same w _ Tryz.underlying146 hj]
  go_wp2
  go_end0
  exact ⟨rfl, rfl⟩
 go_enter Tryz.func86, Tryz.ntmps86
 go_wp2_with fail
 refine hcc.mono ?_; rintro e w1 ⟨rfl, rfl⟩
 clear hcc
 go_wp2_with (at_builtin; refine Lib.wpList_append_own_string _ rfl _ _ 138 9 rfl B 5 i0 Tryz.underlying138 Tryz.underlying9 hi hz0 hz1 hz2 _ _ _ rfl hown s rfl ?c3 ?c4 ?c5 ?_)
 case c3 => unfold maxLen; omega
 case c4 => omega
 case c5 => omega
 intro v' w2 hown' hgrow _
 have hlt : b < w1.heap.size := (Array.getElem?_eq_some_iff.1 hbk).1
 have hb2 : w2.heap[b]? = some (.cells #[.pointer (some ⟨b, 0, none⟩), v] 148 (0, 0)) := by
  rw [hgrow.block b hlt (fun e => hne e.symm)]
  exact hbk
 obtain ⟨⟨d0, d1⟩, df⟩ := row2 hb2
 have f1 := df 1
 obtain ⟨ao, n', cap, rfl⟩ : ∃ ao n' cap, v' = .slice ao n' cap := by
  rcases hown'.2 with ⟨hv, _⟩ | ⟨g, cap, cur, hv, _⟩
  ·exact ⟨_, _, _, hv⟩
  ·exact ⟨_, _, _, hv⟩
 have HK := Hf (And.intro (Lib.BuilderAt.put (T := 148) (e := 5) hB hb2 (bs' := bs ++ Lib.strCells s) (by simpa [Lib.strCells_length] using hown') (by decide)) (((Below.refl B w1).grown hgrow hBw (fun k hk => (hown.lt k hk).1)).setCell (p := ⟨b, 1, none⟩) hB (.slice ao n' cap)))
 clear hown hown' hgrow hbk df hb2; go_wp2
 go_ret2
 exact ⟨rfl, HK.out⟩
theorem last_any (p : M.Pl) (hp : p.2.size = 64 ∨ p.2.size = 0) (w : World) : Calls Tryz.prog 87 #[.agg #[.string p.1, .string p.2]] w fun e w' => e = .returned (.string (M.last p)) ∧ Below w.heap.size w w' := by
 have HB : Hid (Below w.heap.size w (w.alloc (.cells #[.string p.1, .string p.2] 81))) := bel1 w _
 cases hl : M.lse p with
 | true =>
  rw [M.lse_yes hl]
  have h64 : p.2.size = 64 := by
   rcases hp with h' | h'
   ·exact h'
   ·unfold M.lse at hl; rw [h'] at hl; cases hl
  have he := ne_nil h64
  clear hl hp
  generalize p.1 = f at *
  generalize p.2 = s at *
  go_enter Tryz.func87, Tryz.ntmps87
  go_wp2
  go_ret
  exact ⟨rfl, HB.out⟩
 | false =>
  obtain ⟨e1, e2⟩ := M.lse_no hl
  rw [e1]; rw [e2] at HB ⊢
  have he := is_nil
  clear hl hp e1 e2
  generalize p.1 = f at *
  go_enter Tryz.func87, Tryz.ntmps87
  go_wp2
  go_ret
  exact ⟨rfl, HB.out⟩
def RdOut (w : World) (n : Nat) (lost : Bool) (P : List M.Pl) (at' m : Int) (e : Ending) (w' : World) : Prop := e = .returned (.tuple #[.string (M.rtext n lost P at' m), .int .i64 (M.refused n lost at' m)]) ∧ Below w.heap.size w w'
theorem read_no (b n : Nat) (v1 v2 : Value) (lost : Bool) (P : List M.Pl) (at' m : Int) (w : World) (h : w.heap[b]? = some (.cells #[.int .i64 n, v1, v2, .bool lost] 84 (0, 0))) (hn : n ≤ 4096) (hm : m ≤ 9223372036854775807) (hz : M.refused n lost at' m ≠ 0) :
  Calls Tryz.prog 35 #[.pointer (some ⟨b, 0, none⟩), .int .i64 at', .int .i64 m] w (RdOut w n lost P at' m) := by
 have href := refused_any b n v1 v2 lost at' m w h hn hm
 have HK : Hid (RdOut w n lost P at' m (.returned (.tuple #[.string M.E, .int .i64 (M.refused n lost at' m)])) w) := by
  unfold RdOut M.rtext; rw [decide_eq_false hz]
  exact ⟨rfl, Below.refl _ _⟩
 have hz' : (M.refused n lost at' m == 0) = false := by simpa using hz
 generalize M.refused n lost at' m = r at *
 clear h
 go_enter Tryz.func35, Tryz.ntmps35
 go_wp2_with fail
 refine href.mono ?_; rintro e w1 ⟨rfl, rfl⟩
 clear href; go_wp2
 go_ret2
 exact HK.out
def rd (P : List M.Pl) (a k : Nat) : List UInt8 := (((P.map M.last).drop a).take k).flatMap fun s => s.data.toList
theorem rd_step (P : List M.Pl) (a k : Nat) (h : a + k < P.length) : rd P a (k + 1) = rd P a k ++ (M.last P[a + k]).data.toList := by
 unfold rd
 have hl : k < ((P.map M.last).drop a).length := by simp; omega
 rw [List.take_succ_eq_append_getElem hl, List.flatMap_append]
 simp
theorem rd_len (P : List M.Pl) (a k : Nat) (h : M.Ok P) : (rd P a k).length ≤ k * 64 := by
 unfold rd; rw [M.flat_len _ (fun s hs => by
  have := List.mem_of_mem_drop (List.mem_of_mem_take hs)
  obtain ⟨p, hp, rfl⟩ := List.mem_map.1 this
  exact h.last p hp), List.length_take]
 have : min k ((P.map M.last).drop a).length ≤ k := Nat.min_le_left _ _
 omega
theorem read_any (base b g : Nat) (vl : Value) (n : Nat) (P : List M.Pl) (ls : List Nat) (at' m : Int) (w : World) (h : DI w base b g vl n P ls) (hm : m ≤ 9223372036854775807) :
  Calls Tryz.prog 35 #[.pointer (some ⟨b, 0, none⟩), .int .i64 at', .int .i64 m] w (RdOut w n false P at' m) := by
 by_cases hz : M.refused n false at' m = 0
 ·have href := refused_any b n _ _ false at' m w h.row h.n1.2 hm
  obtain ⟨_, a, k, rfl, rfl, hk1, hak⟩ := M.refused_ok hz
  have HW : Hid (∀ w', Below w.heap.size w w' → RdOut w n false P (a : Int) (k : Int) (.returned (.tuple #[.string ⟨(rd P a k).toArray⟩, .int .i64 0])) w') := fun w' hb => by
   unfold RdOut M.rtext; rw [hz]
   exact ⟨rfl, hb⟩
  rw [hz] at href
  have hn := h.n1.2
  have HX := Hf h
  have hPl := h.len
  have HOK := Hf h.ok
  have hw1 : (w.alloc (.cells #[.pointer none, .slice none 0 0] 148)).heap.size = w.heap.size + 1 := by simp
  obtain ⟨W1, HW1⟩ := Nh (w.alloc (.cells #[.pointer none, .slice none 0 0] 148))
  have hgrow := Tryz.Builder_Grow_fresh w.heap.size w.heap.size (k * 64) W1 Lr (by rw [← HW1.out]; exact heap_alloc_last w _) (by rw [← HW1.out]; simp) (by omega)
  have HB1 : Hid (Below w.heap.size w W1) := by rw [← HW1.out]; exact bel1 w _
  clear h hz hw1
  go_enter Tryz.func35, Tryz.ntmps35
  go_wp2_with fail
  refine href.mono ?_; rintro e w1 ⟨rfl, rfl⟩
  clear href
  go_wp2_with fail
  rw [HW1.out, show (k : Int) * 64 = ((k * 64 : Nat) : Int) by omega]
  refine hgrow.mono ?_; rintro e w2 ⟨rfl, hB2, hb2⟩
  have HBB := Hf (And.intro hB2 (HB1.out.trans hb2))
  have hX2 := HX.out.keep (HB1.out.trans hb2)
  obtain ⟨⟨_, r1, _, _⟩, _⟩ := row4 hX2.row
  clear hgrow hB2 hb2 HB1 HW1 hX2; go_wp2; rw [show a + k - a = k by omega]
  go_loopw [32] (fun i wr => ∃ j : Nat, j ≤ k ∧ i = .int .i64 j ∧ Lib.BuilderAt 148 5 w1.heap.size w1.heap.size (.pointer (some ⟨w1.heap.size, 0, none⟩)) (Lib.byteCells (rd P a j)) wr ∧ Below w1.heap.size w1 wr) (fun i _ => k - (intOf i).toNat)
  case atStart => exact ⟨0, Nat.zero_le _, rfl, HBB.out⟩
  case round =>
   obtain ⟨j, hj, rfl, hBd, hbl⟩ := hrel
   by_cases hlt : j < k
   ·have hiP : a + j < P.length := by omega
    obtain ⟨c0, c1⟩ := (HX.out.keep hbl).pl.c (a + j) hiP
    have hok := HOK.out.get (a + j) hiP
    have hsz : (M.last P[a + j]).size = 64 := HOK.out.last _ (List.getElem_mem hiP)
    have hrl := rd_len P a j HOK.out
    have HST := Hf (rd_step P a j hiP)
    have HBd := Hf hBd
    have HBl := Hf hbl
    obtain ⟨p, hp⟩ := Nq (P[a + j])
    rw [hp] at c0 c1 hok hsz HST; rw [show (a + j) * 2 = a * 2 + j * 2 by omega] at c0 c1
    obtain ⟨W3, HW3⟩ := Nh (wr.alloc (.cells #[.string p.1, .string p.2] 81))
    have HB3 : Hid (Below wr.heap.size wr W3) := by rw [← HW3.out]; exact bel1 wr _
    have hla := last_any p hok.2 W3
    clear hBd hbl HX HOK HBB r1 hp hok
    go_wp2_with fail
    rw [HW3.out]
    refine hla.mono ?_; rintro e w4 ⟨rfl, hb4⟩
    have hb5 := Bu HB3.out hb4 Lr
    have hBd5 : Lib.BuilderAt 148 5 w1.heap.size w1.heap.size (.pointer (some ⟨w1.heap.size, 0, none⟩)) (Lib.byteCells (rd P a j)) w4 := by
     obtain ⟨q1, v, q2, q3, q4⟩ := HBd.out
     exact ⟨q1, v, (hb5.block _ (Array.getElem?_eq_some_iff.1 q2).1).trans q2, owns_keep q3 hb5, q4⟩
    have hwr := bwrite_any w1.heap.size w1.heap.size _ (M.last p) w4 hBd5 (by rw [Lib.byteCells_length, hsz]; omega) (by have := HBl.out.size; have := hb5.size; omega)
    rw [Lib.strCells_eq, ← Lib.byteCells_append, ← HST.out] at hwr
    have HB5 : Hid (Below w1.heap.size w1 w4) := Bu HBl.out hb5 Lr
    clear hla hb4 hBd5 hb5 HBd HBl HB3 HW3 HST c0 c1
    generalize M.last p = lp at *
    go_wp2_with fail
    refine hwr.mono ?_; rintro e w6 ⟨rfl, hB6, hb6⟩
    have HR := Hf (And.intro hB6 (HB5.out.trans hb6))
    clear hwr hB6 hb6 HB5; go_wp2
    go_roundw
    case rel => exact ⟨j + 1, by omega, by go_num, HR.out⟩
    case measure => simp [intOf]; omega
   ·obtain rfl : j = k := by omega
    have hstr := Tryz.Builder_String_any w1.heap.size w1.heap.size (rd P a j) wr (.inr hBd) hbl.size
    have HBl := Hf hbl
    clear hBd hbl HX HOK HBB r1
    go_wp2_with fail
    refine hstr.mono ?_; rintro e w6 ⟨rfl, hb6⟩
    have HQ := Hf (HW.out w6 (HBl.out.trans hb6))
    clear hstr hb6 HBl HW; go_wp2
    go_ret2
    exact HQ.out
 ·exact read_no b n _ _ false P at' m w h.row h.n1.2 hm hz
end Go.Proofs.YtlnedgjikkhplaaGreat.Ns
namespace Go.Proofs.YtlnedgjikkhplaaGreat.Ns
open Go.RowKit
open M (ofL ofL_size ofL_of)
theorem write_no (b n : Nat) (v1 v2 : Value) (lost : Bool) (at' : Int) (s : ByteArray) (w : World) (h : w.heap[b]? = some (.cells #[.int .i64 n, v1, v2, .bool lost] 84 (0, 0))) (hn : n ≤ 4096) (hs : s.size ≤ maxLen) (hz : M.wcode n lost at' s ≠ 0) :
  Calls Tryz.prog 71 #[.pointer (some ⟨b, 0, none⟩), .int .i64 at', .string s] w fun e w' => e = .returned (.int .i64 (M.wcode n lost at' s)) ∧ w' = w := by
 unfold maxLen at hs
 by_cases hm : s.size % 64 = 0
 ·have hmi : (s.size : Int) % 64 = 0 := by omega
  have hmt : (s.size : Int).tmod 64 = 0 := by rw [Int.tmod_eq_emod_of_nonneg (by omega)]; exact hmi
  have hdv : (s.size : Int).tdiv 64 = ((s.size / 64 : Nat) : Int) := by rw [Int.tdiv_eq_ediv_of_nonneg (by omega)]; omega
  have hdm : (s.size : Int) / 64 = ((s.size / 64 : Nat) : Int) := by omega
  have hwc : M.wcode n lost at' s = M.refused n lost at' ((s.size / 64 : Nat) : Int) := by unfold M.wcode; simp [hm]
  obtain ⟨m, hmm⟩ := Nq (s.size / 64)
  rw [hmm] at hdv hdm hwc; rw [hwc] at hz ⊢
  have href := refused_any b n v1 v2 lost at' (m : Int) w h hn (by omega)
  have hz' : (M.refused n lost at' (m : Int) == 0) = false := by simpa using hz
  generalize M.refused n lost at' (m : Int) = r at *
  clear h hwc
  go_enter Tryz.func71, Tryz.ntmps71
  go_wp2_with fail
  refine href.mono ?_; rintro e w1 ⟨rfl, rfl⟩
  clear href; go_wp2
  go_ret
  exact ⟨rfl, rfl⟩
 ·have hmt : (s.size : Int).tmod 64 ≠ 0 := by rw [Int.tmod_eq_emod_of_nonneg (by omega)]; omega
  have hmt' : ((s.size : Int).tmod 64 == 0) = false := by simpa using hmt
  have hme : ((s.size : Int) % 64 == 0) = false := by simp; omega
  have hw : M.wcode n lost at' s = 1 := by unfold M.wcode; simp [hm]
  rw [hw]; clear h
  go_enter Tryz.func71, Tryz.ntmps71
  go_wp2
  go_ret
  exact ⟨rfl, rfl⟩
theorem ref_lost (n : Nat) (at' m : Int) : M.refused n true at' m ≠ 0 := fun h => by
 obtain ⟨h', _⟩ := M.refused_ok h
 cases h'
theorem wcode_lost (n : Nat) (at' : Int) (s : ByteArray) : M.wcode n true at' s ≠ 0 := fun h => ref_lost _ _ _ (M.wcode_ok h).2
theorem loose_lost (base b n : Nat) (w : World) (h : LI w base b n) : Calls Tryz.prog 48 #[.pointer (some ⟨b, 0, none⟩)] w fun e w' => ∃ v : Value, e = .returned v ∧ w'.ownsRow w.heap.size 3 1 v 0 (IC []) ∧ Below w.heap.size w w' := by
 obtain ⟨⟨_, _, c2, _⟩, _⟩ := row4 h.row
 have hs := sorted_any w.heap.size none 0 [] (by simp) (w.alloc (.cells #[.slice none 0 0] 82)) (AtV.nil _ _) (by
  rw [cell_of_row _ _ 0 _ _ _ (heap_alloc_last w _)]; rfl)
 clear h
 go_enter Tryz.func48, Tryz.ntmps48
 go_wp2_with fail
 refine (values_any _ none 0 0 rfl w).mono ?_; rintro e w1 ⟨rfl, rfl⟩
 go_wp2_with fail
 refine hs.mono ?_; rintro e w' ⟨v, rfl, h1, h2⟩
 have HQ : Hid (w'.ownsRow w.heap.size 3 1 v 0 (IC []) ∧ Below w.heap.size w w') := ⟨owns_low (by simpa [IC] using h1) (by simp), Bu (bel1 w _) h2 Lr⟩
 clear h1 h2 hs; go_wp2
 go_ret
 exact ⟨v, rfl, HQ.out⟩
theorem crash_lost (base b n : Nat) (keep tear : Int) (w : World) (h : LI w base b n) : Calls Tryz.prog 14 #[.pointer (some ⟨b, 0, none⟩), .int .u64 keep, .int .i64 tear] w fun e w' => e = .returned (.tuple #[]) ∧ LI w' base b n ∧ Ch w (· = b) w' (· = b) := by
 have hloo := loose_lost base b n w h
 have HX := Hf h
 clear h
 by_cases h1 : 1 ≤ tear
 all_goals
  go_enter Tryz.func14, Tryz.ntmps14
  go_wp2_with fail
  refine hloo.mono ?_; rintro e w2 ⟨v, rfl, ho, hb2⟩
  obtain ⟨a, cap, rfl, _⟩ := owns_at ho
  have hrow : w2.heap[b]? = _ := (hb2.block b HX.out.lt).trans HX.out.row
  obtain ⟨⟨_, _, r2, _⟩, rf⟩ := row4 hrow
  have HK : Hid (LI (w2.setCell ⟨b, 2, none⟩ (.slice none 0 0)) base b n ∧ Ch w (· = b) (w2.setCell ⟨b, 2, none⟩ (.slice none 0 0)) (· = b)) := ⟨⟨heap_setCell_same w2 b 2 _ _ _ hrow, HX.out.n1, HX.out.low⟩, (Ch.ofBelow hb2).trans (Ch.cell b 2 _ rfl)⟩
  have rf2 := rf 2
  clear hloo ho hb2 hrow rf HX; go_wp2
  go_loopw [6, 22] (fun t i wr => (∃ T : Bool, t = .bool T) ∧ i = .int .i64 0 ∧ wr = w2) (fun _ _ _ => 0)
  case atStart => exact ⟨⟨_, rfl⟩, rfl, rfl⟩
  case round =>
   obtain ⟨⟨T, rfl⟩, rfl, rfl⟩ := hrel
   go_wp2
   go_end0
   exact ⟨rfl, HK.out⟩
theorem run_copy2 {P : Program} (w : World) (dT sT ty elem : TypeId) (g off dLen dCap : Nat) (sp : Option Addr) (sLen sCap : Nat) (cur : List Value) (t : TypeId) (cs : List Value) (m : Nat)
  (hu : P.underlying dT = some (.slice elem)) (hs : (P.info? elem).map (·.size) = some 2)
  (hg : w.heap[g]? = some (.cells cur.toArray t (0, 0))) (hm : Nat.min sLen dLen = m) (hn : cs.length = m * 2)
  (hsrc : 0 < m → ∃ ad, sp = some ad ∧ ∀ j v, cs[j]? = some v → w.cell? (ad.add j) = some v) (hfit : off + cs.length ≤ cur.length) (h1 : ∀ v ∈ cs, v.oneCell' = true) :
  (Builtin.copy_ #[dT, sT] ty #[.slice (some ⟨g, off, none⟩) dLen dCap, .slice sp sLen sCap]).run P w = .ok (goInt m) (w.setRow g (splice cur off cs).toArray) := by
 cases hq : P.info? elem with
 | none => simp [hq] at hs
 | some i =>
  have hi : i.size = 2 := by simpa [hq] using hs
  have hst := run_storeCells_at P g off t cs 0 cur.toArray w hg (by simpa using hfit) h1
  have hst' : (storeCells ⟨g, off, none⟩ cs).run P w = .ok () (w.setRow g (splice cur off cs).toArray) := by
   have := hst
   simp only [Nat.add_zero] at this
   simpa [splice] using this
  rcases Nat.eq_zero_or_pos m with h0 | hp
  ·subst h0
   obtain rfl : cs = [] := List.eq_nil_of_length_eq_zero (by simpa using hn)
   cases sp with
   | none => simp [Builtin.copy_, run_underlying hu, Builtin.lenOf, Builtin.firstCells, sizeOf, typeInfo, hq, hm, hst']
   | some ad =>
    have hl := run_loadCells_list (P := P) w ad [] (by simp)
    simp at hl
    simp [Builtin.copy_, run_underlying hu, Builtin.lenOf, Builtin.firstCells, sizeOf, typeInfo, hq, hm, hl, hst']
  ·obtain ⟨ad, rfl, hc⟩ := hsrc hp
   have hl := run_loadCells_list (P := P) w ad cs hc
   rw [hn] at hl
   simp [Builtin.copy_, run_underlying hu, Builtin.lenOf, Builtin.firstCells, sizeOf, typeInfo, hq, hi, hm, hl, hst']
theorem wp_copy_runI {P : Program} (w : World) {o : Oper} {a : Act} {K : Act → World → Prop} {Q : Exit → Act → World → Prop} (d s : Operand) (t t' : TypeId)
  (ho : o.op = .call { callee := .builtin .copy, args := #[d, s], argTypes := #[t, t'] }) (v u : Value) (hd : a.eval d = v) (hs : a.eval s = u) {v' : Value} {w' : World}
  (hr : (Builtin.copy_ #[t, t'] o.type #[v, u]).run P w = .ok v' w') (h : K (a.put o.dst v') w') : o.wp P a w K Q := by
 unfold Oper.wp execOp
 simp only [ho, resolve, invoke, builtin, Sem.run_bind, Sem.run_pure, Result.andThen_ok, List.map_toArray, List.map_cons, List.map_nil, hd, hs, hr]
 exact h
theorem wpList_copy_runI {P : Program} (w : World) {ops : Array Oper} {rest : List Oper} {o : Oper} {a : Act} {Q : Exit → Act → World → Prop} (hgd : o.guard = none) (d s : Operand) (t t' : TypeId)
  (ho : o.op = .call { callee := .builtin .copy, args := #[d, s], argTypes := #[t, t'] }) (v u : Value) (hd : a.eval d = v) (hs : a.eval s = u) {v' : Value} {w' : World}
  (hr : (Builtin.copy_ #[t, t'] o.type #[v, u]).run P w = .ok v' w') (h : wpList P ops Q rest (a.put o.dst v') w') : wpList P ops Q (o :: rest) a w :=
 wpList_plain hgd fun _ hK => wp_copy_runI w d s t t' ho v u hd hs hr (hK _ _ h)
theorem step_copy_runI {P : Program} {ops : Array Oper} {o : Oper} {a : Act} {w : World} {K : Act → World → Prop} {Q : Exit → Act → World → Prop} {E : Prop}
  (hg : o.guard = none) (d x : Operand) (dT sT : TypeId) (hop : o.op = Op.call { callee := Callee.builtin Builtin.copy, args := #[d, x], argTypes := #[dT, sT] })
  (v u : Value) (hd : a.eval d = v) (hx : a.eval x = u) {v' : Value} {w' : World} (hr : (Builtin.copy_ #[dT, sT] o.type #[v, u]).run P w = .ok v' w') (hK : K (a.put o.dst v') w') :
  if Region.wanted o (yielded ops a.tmps) = true then Oper.wp P o a w K Q else E := by
 have hw : Region.wanted o (yielded ops a.tmps) = true := by simp [Region.wanted, hg]
 rw [if_pos hw]; unfold Oper.wp
 simp [execOp, hop, resolve, invoke, builtin, hd, hx, hr, Result.andThen]
 exact hK
def zr : ByteArray := ofL (List.replicate 64 0)
theorem zr_size : zr.size = 64 := by rw [zr, ofL_size, List.length_replicate]
theorem pad_zr : ofL (pad (M.E).data.toList 64) = zr := by rfl
def nw (n k : Nat) : List M.Pl := List.replicate k (zr, M.E) ++ List.replicate (n - k) (M.E, M.E)
theorem nw_len (n k : Nat) (h : k ≤ n) : (nw n k).length = n := by simp [nw]; omega
theorem nw_all (n : Nat) : nw n n = List.replicate n (zr, M.E) := by simp [nw]
theorem nw_step (n k m : Nat) (h : k + m ≤ n) : splice (PC (nw n k)) (k * 2) (PC (List.replicate m (zr, M.E))) = PC (nw n (k + m)) := by
 have e1 : nw n k = List.replicate k (zr, M.E) ++ (List.replicate m (M.E, M.E) ++ List.replicate (n - (k + m)) (M.E, M.E)) := by
  unfold nw; rw [List.replicate_append_replicate]
  congr 2
  omega
 have e2 : nw n (k + m) = List.replicate k (zr, M.E) ++ (List.replicate m (zr, M.E) ++ List.replicate (n - (k + m)) (M.E, M.E)) := by
  unfold nw; rw [← List.replicate_append_replicate, List.append_assoc]
 rw [e1, e2]
 simp only [PC_app]
 have l1 : (PC (List.replicate k (zr, M.E))).length = k * 2 := by rw [PC_len, List.length_replicate]
 have l2 : (PC (List.replicate m (zr, M.E))).length = m * 2 := by rw [PC_len, List.length_replicate]
 have l3 : (PC (List.replicate m (M.E, M.E))).length = m * 2 := by rw [PC_len, List.length_replicate]
 unfold splice
 have e3 : (PC (List.replicate k (zr, M.E)) ++ (PC (List.replicate m (M.E, M.E)) ++ PC (List.replicate (n - (k + m)) (M.E, M.E)))).drop (k * 2 + m * 2) = PC (List.replicate (n - (k + m)) (M.E, M.E)) := by
  rw [← List.append_assoc]
  exact List.drop_left' (by rw [List.length_append, l1, l3])
 rw [List.take_left' l1, l2, e3]
theorem PC_one (P : List M.Pl) : ∀ v ∈ PC P, v.oneCell' = true := by
 induction P with
 | nil => intro v h; simp [PC] at h
 | cons p r ih =>
  intro v h
  simp only [PC, List.mem_cons] at h
  rcases h with rfl | rfl | h
  ·rfl
  ·rfl
  ·exact ih v h
theorem made2 (n : Nat) : (madeCells #[.string M.E, .string M.E] (n * 2)).toList = PC (nw n 0) := by
 have e : PC (nw n 0) = List.replicate (n * 2) (.string M.E) := by
  unfold nw; rw [List.replicate_zero, List.nil_append, Nat.sub_zero]
  induction n with
  | zero => rfl
  | succ n ih => rw [show (n + 1) * 2 = n * 2 + 1 + 1 by omega, List.replicate_succ, PC, ih]; rfl
 rw [e]
 apply List.ext_getElem
 ·simp [size_madeCells]
 ·intro j h1 h2
  simp only [madeCells, Array.getElem_toList, Array.getElem_map, Array.getElem_range, List.getElem_replicate]
  rcases Nat.mod_two_eq_zero_or_one j with h | h
  ·simp [h]
  ·simp [h]
theorem Tryz.info81 : (Tryz.prog.info? 81).map (fun i => (i.zero, i.size, i.bytes)) = some (some (.agg #[.string M.E, .string M.E]), 2, 32) := by kernel_rfl
theorem Tryz.size81 : (Tryz.prog.info? 81).map (·.size) = some 2 := by kernel_rfl
theorem pad_any (w : World) : Calls Tryz.prog 30 #[.string M.E, .int .i64 64] w fun e w' => e = .returned (.tuple #[.string zr, .int .i64 0]) ∧ Below w.heap.size w w' := by
 have hp := padded_any M.E 64 w (by omega) (by decide)
 rw [pad_zr] at hp
 go_enter Tryz.func30, Tryz.ntmps30
 go_wp2_with fail
 refine hp.mono ?_; rintro e w1 ⟨rfl, hb⟩
 clear hp; go_wp2
 go_ret2
 exact ⟨rfl, hb⟩
theorem pr_of_owns {w : World} {base g n : Nat} {P : List M.Pl} (hl : P.length = n) (h : w.ownsRow base 81 2 (.slice (some ⟨g, 0, none⟩) n n) n (PC P)) : PR w g P := by
 rcases h.2 with ⟨h', _⟩ | ⟨g', cap, cur, h', _, hh, _, _, hs, ht⟩
 ·cases h'
 ·simp only [Value.slice.injEq, Option.some.injEq, Addr.mk.injEq, and_true, true_and] at h'
  obtain ⟨rfl, rfl⟩ := h'
  rw [List.take_of_length_le (by rw [Array.length_toList, hs]; exact Nat.le_refl _)] at ht; unfold PR; rw [hh, ← ht]
theorem copy_nw (w : World) (g n k m : Nat) (sp : Addr) (sLen sCap dCap : Nat) (hp : PR w g (nw n k)) (hk : k ≤ n) (hm : Nat.min sLen (n - k) = m) (hs : ∀ j v, (PC (List.replicate m (zr, M.E)))[j]? = some v → w.cell? (sp.add j) = some v) :
  ∃ w', (∀ ty, (Builtin.copy_ #[78, 78] ty #[.slice (some ⟨g, k * 2, none⟩) (n - k) dCap, .slice (some sp) sLen sCap]).run Tryz.prog w = .ok (goInt m) w') ∧ PR w' g (nw n (k + m)) ∧ w.grownBy w' (some g) := by
 have hmk : k + m ≤ n := by
  have : Nat.min sLen (n - k) ≤ n - k := Nat.min_le_right _ _
  omega
 refine ⟨_, fun ty => run_copy2 w 78 78 ty 81 g (k * 2) (n - k) dCap (some sp) sLen sCap (PC (nw n k)) 81 (PC (List.replicate m (zr, M.E))) m Tryz.underlying78 Tryz.size81 hp hm (by rw [PC_len, List.length_replicate]) (fun _ => ⟨sp, rfl, hs⟩) (by rw [PC_len, PC_len, List.length_replicate, nw_len n k hk]; omega) (PC_one _), ?_, ?_⟩
 ·unfold PR
  rw [← nw_step n k m hmk]
  exact setRow_heap _ _ _ _ 81 (0, 0) hp
 ·exact ⟨rfl, rfl, rfl, by simp, fun j hj hn => setRow_other _ _ _ _ (fun e => hn (by rw [e]))⟩
theorem nw_cells {w : World} {g n k m : Nat} (hp : PR w g (nw n k)) (hmk : m ≤ k) : ∀ j v, (PC (List.replicate m (zr, M.E)))[j]? = some v → w.cell? ((⟨g, 0, none⟩ : Addr).add j) = some v := by
 intro j v hv; rw [add_none, Nat.zero_add, cell_of_row w g j _ _ _ hp]
 have hl := (List.getElem?_eq_some_iff.1 hv).1
 have e : PC (nw n k) = PC (List.replicate m (zr, M.E)) ++ PC (List.replicate (k - m) (zr, M.E) ++ List.replicate (n - k) (M.E, M.E)) := by
  rw [← PC_app, ← List.append_assoc, List.replicate_append_replicate, Nat.add_sub_cancel' hmk]
  rfl
 rw [e]
 simp only [List.getElem?_toArray]
 rw [List.getElem?_append_left hl]
 exact hv
theorem repeat_any (B n : Nat) (w : World) (hB : w.heap[B]? = some (.cells #[.string zr, .string M.E] 81 (0, 0))) (h1 : 1 ≤ n) (h2 : n ≤ 4096) :
  Calls Tryz.prog 31 #[.slice (some ⟨B, 0, none⟩) 1 1, .int .i64 n] w fun e w' => ∃ g, e = .returned (.slice (some ⟨g, 0, none⟩) n n) ∧ w.heap.size ≤ g ∧ PR w' g (List.replicate n (zr, M.E)) ∧ Below w.heap.size w w' := by
 obtain ⟨i0, hi, hz0, hz1, hz2⟩ := info_parts Tryz.info81
 have hmul := Tryz.bits_Mul 1 n (by omega) (by omega) w
 rw [show 1 * n / 18446744073709551616 = 0 by omega, show 1 * n % 18446744073709551616 = n by omega] at hmul
 have hd0 : decide ((n : Int) < 0) = false := by simp
 have hd1 : decide ((9223372036854775807 : Int) < (n : Int)) = false := by simp; omega
 go_enter Tryz.func31, Tryz.ntmps31
 go_wp2_with fail
 refine hmul.mono ?_; rintro e w1 ⟨rfl, rfl⟩
 clear hmul
 go_wp2_with (at_make; refine wpList_make_full _ rfl (.tmp 29) (.tmp 29) 78 rfl w1.heap.size 81 i0 (.agg #[.string M.E, .string M.E]) 2 Tryz.underlying78 hi hz0 hz1 .i64 .i64 _ _ n rfl rfl (by omega) (by omega) (by rw [hz2]; omega) (by unfold maxLen; omega) Lr ?_; intro w2 ho hg; rw [show (Value.agg #[.string M.E, .string M.E]).cells = #[.string M.E, .string M.E] from rfl, made2] at ho; have hp2 := pr_of_owns (nw_len n 0 (by omega)) ho; clear ho)
 have hb2 : Below w1.heap.size w1 w2 := (Below.refl _ _).grown hg Lr (by simp)
 have hB2 : w2.heap[B]? = some (.cells #[.string zr, .string M.E] 81 (0, 0)) := (hb2.block B (Array.getElem?_eq_some_iff.1 hB).1).trans hB
 obtain ⟨w3, hcp, hp3, hg3⟩ := copy_nw w2 w1.heap.size n 0 1 ⟨B, 0, none⟩ 1 1 n hp2 (by omega) (by simp only [Nat.min_def]; split <;> omega) (by
  intro j v hv; rw [add_none, Nat.zero_add, cell_of_row w2 B j _ _ _ hB2]
  simpa [PC] using hv)
 rw [Nat.zero_mul, Nat.sub_zero] at hcp
 have HB3 : Hid (PR w3 w1.heap.size (nw n 1) ∧ Below w1.heap.size w1 w3) := ⟨by simpa using hp3, hb2.grown hg3 hb2.size (fun k e => by cases e; exact Nat.le_refl _)⟩
 clear hp2 hB2 hb2 hg3 hp3 hi hz0 hz1 hz2 hg hB; rw [hcp]; clear hcp; go_wp2
 go_loopw [8] (fun i wr => ∃ k : Nat, 1 ≤ k ∧ k ≤ n ∧ i = .int .i64 k ∧ PR wr w1.heap.size (nw n k) ∧ Below w1.heap.size w1 wr) (fun i _ => n - (intOf i).toNat)
 case atStart => exact ⟨1, by omega, h1, rfl, HB3.out⟩
 case round =>
  obtain ⟨k, hk1, hkn, rfl, hp, hb⟩ := hrel
  by_cases hlt : k < n
  ·obtain ⟨m, hm⟩ := Nq (Nat.min k (n - k))
   have hm1 : 1 ≤ m ∧ m ≤ k ∧ k + m ≤ n := by
    rw [← hm]
    simp only [Nat.min_def]
    split <;> omega
   obtain ⟨w4, hcp, hp4, hg4⟩ := copy_nw wr.drew w1.heap.size n k m ⟨w1.heap.size, 0, none⟩ k n (n - k) hp hkn hm (nw_cells (w := wr) hp hm1.2.1)
   have HR : Hid (PR w4 w1.heap.size (nw n (k + m)) ∧ Below w1.heap.size w1 w4) := ⟨hp4, (Below.drew hb).grown hg4 (Below.drew hb).size (fun k e => by cases e; exact Nat.le_refl _)⟩
   clear hp hb hp4 hg4 HB3 hm
   have hnk : ¬ n = k := by omega
   obtain ⟨hm2, hm3, hm4⟩ := hm1
   have hwr : IntKind.i64.wrap ((k : Int) + (m : Int)) = (k : Int) + (m : Int) := by rw [IntKind.wrap_i64]; omega
   go_wp2_with fail
   go_region_law (refine step_copy_runI rfl _ _ 78 78 rfl _ _ (by simp [Act.eval, Act.put]) (by simp [Act.eval, Act.put]) (hcp _) ?_)
   all_goals
    simp only [Act.put, List.getElem_cons_succ, List.getElem_cons_zero, List.getElem_toArray, List.setIfInBounds_toArray, List.set_cons_succ, List.set_cons_zero]
    go_wp2
    go_roundw
    case rel => exact ⟨k + m, by omega, by omega, by go_num, HR.out⟩
    case measure => simp [intOf]; omega
  ·obtain rfl : k = n := by omega
   rw [nw_all] at hp
   have HR := Hf (And.intro hp hb)
   clear hp hb HB3; go_wp2
   go_ret
   exact ⟨w1.heap.size, rfl, Nat.le_refl _, HR.out⟩
def cntOf (n : Int) : Nat := (min (max n 1) 4096).toNat
theorem cntOf_le (n : Int) : 1 ≤ cntOf n ∧ cntOf n ≤ 4096 ∧ min (max n 1) 4096 = (cntOf n : Int) := by unfold cntOf; omega
def new (n : Nat) : List M.Pl := List.replicate n (zr, M.E)
theorem new_len (n : Nat) : (new n).length = n := by simp [new]
theorem new_lse (n : Nat) : ∀ p ∈ new n, M.lse p = false := by
 intro p hp; rw [(List.mem_replicate.1 hp).2]
 rfl
theorem new_ok (n : Nat) : M.Ok (new n) := by
 intro p hp; rw [(List.mem_replicate.1 hp).2]
 exact ⟨zr_size, .inr rfl⟩
theorem new_any (n : Int) (w : World) : Calls Tryz.prog 9 #[.int .i64 n] w fun e w' => ∃ b g, e = .returned (.pointer (some ⟨b, 0, none⟩)) ∧ DI w' w.heap.size b g (.slice none 0 0) (cntOf n) (new (cntOf n)) [] ∧ Below w.heap.size w w' := by
 obtain ⟨h1, h2, h3⟩ := cntOf_le n
 generalize cntOf n = c at *
 obtain ⟨mx, hmx⟩ := Nq (max n 1)
 rw [hmx] at h3
 go_enter Tryz.func9, Tryz.ntmps9
 go_wp2_with fail
 refine (pad_any w).mono ?_; rintro e w1 ⟨rfl, hb1⟩
 obtain ⟨W2, HW2⟩ := Nh (w1.alloc (.cells #[.string zr, .string M.E] 81))
 have hrep := repeat_any w1.heap.size c W2 (by rw [← HW2.out]; exact heap_alloc_last w1 _) h1 h2
 have HB2 : Hid (Below w.heap.size w W2) := by rw [← HW2.out]; exact Bu hb1 (bel1 w1 _) Lr
 clear hb1
 go_wp2_with fail
 rw [HW2.out]
 refine hrep.mono ?_; rintro e w3 ⟨g, rfl, hg, hp, hb3⟩
 have HQ : Hid (∃ b' g', Ending.returned (.pointer (some ⟨w3.heap.size, 0, none⟩)) = .returned (.pointer (some ⟨b', 0, none⟩)) ∧ DI (w3.alloc (.cells #[.int .i64 c, .slice (some ⟨g, 0, none⟩) c c, .slice none 0 0, .bool false] 84)) w.heap.size b' g' (.slice none 0 0) c (new c) [] ∧ Below w.heap.size w (w3.alloc (.cells #[.int .i64 c, .slice (some ⟨g, 0, none⟩) c c, .slice none 0 0, .bool false] 84))) := by
  have hb4 : Below w.heap.size w w3 := Bu HB2.out hb3 Lr
  have hs2 := HB2.out.size
  have hs4 := hb4.size
  refine ⟨w3.heap.size, g, rfl, ⟨heap_alloc_last w3 _, (Below.heap_alloc _ _ g hp.lt).trans hp, new_len c, ⟨h1, h2⟩, new_ok c, World.ownsRow_nil _ _ _ _, M.Lo.none (new_lse c), ⟨?_, by simp [Value.ownBlock], by simp [Value.ownBlock]⟩, ⟨hs4, by omega⟩⟩, Bu hb4 (bel1 w3 _) Lr⟩
  have := hp.lt
  omega
 clear hrep hg hp hb3 HB2 HW2; go_wp2
 go_ret
 exact HQ.out
structure DS (w0 w : World) (b : Nat) (F : Nat → Prop) (n : Nat) (P : List M.Pl) (lost : Bool) : Prop where
 x : (lost = false ∧ ∃ g vl ls, F = fp b g vl ∧ DI w w0.heap.size b g vl n P ls) ∨ (lost = true ∧ P = [] ∧ F = (· = b) ∧ LI w w0.heap.size b n)
 bel : Below w0.heap.size w0 w
structure AtO (w : World) (F : Nat → Prop) (a : Option Addr) (cs : List Value) : Prop where
 v : AtV w a cs
 o : ∀ k, blk a k → ¬ F k ∧ k < w.heap.size
theorem AtO.step {w w' : World} {F G : Nat → Prop} {a : Option Addr} {cs : List Value} (h : AtO w F a cs) (hc : Ch w F w' G) : AtO w' G a cs :=
 ⟨h.v.keepBut (fun k hk hb => hc.block k hk (h.o k hb).1), fun k hb => ⟨fun hG => by
  rcases hc.n k hG with h' | h'
  ·exact (h.o k hb).1 h'
  ·have := (h.o k hb).2; omega, Nat.lt_of_lt_of_le (h.o k hb).2 hc.size⟩⟩
theorem AtO.keep {w w' : World} {F : Nat → Prop} {a : Option Addr} {cs : List Value} (h : AtO w F a cs) (hb : Below w.heap.size w w') : AtO w' F a cs := h.step (Ch.ofBelow hb)
section
variable {w0 w w' : World} {b : Nat} {F G : Nat → Prop} {n : Nat} {P P' : List M.Pl} {lost : Bool}
theorem DS.own (h : DS w0 w b F n P lost) : ∀ k, F k → w0.heap.size ≤ k ∧ k < w.heap.size := by
 intro k hk
 rcases h.x with ⟨_, g, vl, ls, rfl, hd⟩ | ⟨_, _, rfl, hl⟩
 ·exact hd.mine k hk
 ·subst hk
  exact ⟨hl.low, hl.lt⟩
theorem DS.keepBut (h : DS w0 w b F n P lost) (hb : ∀ k, k < w.heap.size → F k → w'.heap[k]? = w.heap[k]?) (hB : Below w0.heap.size w0 w') : DS w0 w' b F n P lost := by
 refine ⟨?_, hB⟩
 rcases h.x with ⟨hl, g, vl, ls, rfl, hd⟩ | ⟨hl, hP, rfl, hi⟩
 ·exact .inl ⟨hl, g, vl, ls, rfl, hd.keepBut hb⟩
 ·exact .inr ⟨hl, hP, rfl, ⟨(hb b hi.lt rfl).trans hi.row, hi.n1, hi.low⟩⟩
theorem DS.keep (h : DS w0 w b F n P lost) (hb : Below w.heap.size w w') : DS w0 w' b F n P lost := h.keepBut (fun k hk _ => hb.block k hk) (Bu h.bel hb Lr)
theorem DS.n1 (h : DS w0 w b F n P lost) : 1 ≤ n ∧ n ≤ 4096 := by
 rcases h.x with ⟨_, g, vl, ls, rfl, hd⟩ | ⟨_, _, rfl, hl⟩
 ·exact hd.n1
 ·exact hl.n1
theorem DS.row (h : DS w0 w b F n P lost) : ∃ v1 v2, w.heap[b]? = some (.cells #[.int .i64 n, v1, v2, .bool lost] 84 (0, 0)) := by
 rcases h.x with ⟨rfl, g, vl, ls, rfl, hd⟩ | ⟨rfl, _, rfl, hl⟩
 ·exact ⟨_, _, hd.row⟩
 ·exact ⟨_, _, hl.row⟩
theorem DS.ok (h : DS w0 w b F n P lost) : M.Ok P ∧ P.length ≤ 4096 := by
 rcases h.x with ⟨_, g, vl, ls, rfl, hd⟩ | ⟨_, rfl, rfl, hl⟩
 ·exact ⟨hd.ok, by rw [hd.len]; exact hd.n1.2⟩
 ·exact ⟨fun p hp => by simp at hp, by simp⟩
theorem DS.len (h : DS w0 w b F n P false) : P.length = n := by
 rcases h.x with ⟨_, g, vl, ls, rfl, hd⟩ | ⟨hl, _⟩
 ·exact hd.len
 ·cases hl
theorem DS.ch (h : DS w0 w b F n P lost) (hc : Ch w F w' G) : Below w0.heap.size w0 w' := h.bel.trans (hc.below (fun k hk => (h.own k hk).1) h.bel.size)
theorem newD (n : Int) (w : World) : Calls Tryz.prog 9 #[.int .i64 n] w fun e w' => ∃ b F, e = .returned (.pointer (some ⟨b, 0, none⟩)) ∧ DS w w' b F (cntOf n) (new (cntOf n)) false :=
 (new_any n w).mono fun e w' ⟨b, g, h1, h2, h3⟩ => ⟨b, _, h1, .inl ⟨rfl, g, _, _, rfl, h2⟩, h3⟩
theorem DS.write (h : DS w0 w b F n P lost) (at' : Int) (s : ByteArray) (hs : s.size ≤ 131072) :
  Calls Tryz.prog 71 #[.pointer (some ⟨b, 0, none⟩), .int .i64 at', .string s] w fun e w' => ∃ G, e = .returned (.int .i64 (M.wcode n lost at' s)) ∧ DS w0 w' b G n (M.wrote n lost P at' s) lost ∧ Ch w F w' G := by
 rcases h.x with ⟨rfl, g, vl, ls, rfl, hd⟩ | ⟨rfl, rfl, rfl, hl⟩
 ·refine (write_any _ b g vl n P ls at' s w h.bel.size hd hs).mono ?_
  rintro e w' ⟨vl', ls', h1, h2, h3⟩
  exact ⟨_, h1, ⟨.inl ⟨rfl, g, vl', ls', rfl, h2⟩, h.ch h3⟩, h3⟩
 ·refine (write_no b n _ _ true at' s w hl.row hl.n1.2 (by unfold maxLen; omega) (wcode_lost n at' s)).mono ?_
  rintro e w' ⟨h1, rfl⟩
  refine ⟨_, h1, ?_, Ch.refl _ _⟩
  unfold M.wrote; rw [decide_eq_false (wcode_lost n at' s)]
  exact h
theorem DS.read (h : DS w0 w b F n P lost) (at' m : Int) (hm : m ≤ 9223372036854775807) :
  Calls Tryz.prog 35 #[.pointer (some ⟨b, 0, none⟩), .int .i64 at', .int .i64 m] w fun e w' => e = .returned (.tuple #[.string (M.rtext n lost P at' m), .int .i64 (M.refused n lost at' m)]) ∧ Below w.heap.size w w' ∧ DS w0 w' b F n P lost := by
 rcases h.x with ⟨rfl, g, vl, ls, rfl, hd⟩ | ⟨rfl, rfl, rfl, hl⟩
 ·refine (read_any _ b g vl n P ls at' m w hd hm).mono ?_
  rintro e w' ⟨h1, h2⟩
  exact ⟨h1, h2, h.keep h2⟩
 ·refine (read_no b n _ _ true [] at' m w hl.row hl.n1.2 hm (ref_lost n at' m)).mono ?_
  rintro e w' ⟨h1, h2⟩
  exact ⟨h1, h2, h.keep h2⟩
theorem DS.flush (h : DS w0 w b F n P lost) : Calls Tryz.prog 109 #[.pointer (some ⟨b, 0, none⟩)] w fun e w' => ∃ G, e = .returned (.tuple #[]) ∧ DS w0 w' b G n (M.flush P) lost ∧ Ch w F w' G := by
 rcases h.x with ⟨rfl, g, vl, ls, rfl, hd⟩ | ⟨rfl, rfl, rfl, hl⟩
 ·refine (flush_any _ b g vl n P ls w hd).mono ?_
  rintro e w' ⟨vl', ls', h1, h2, h3⟩
  exact ⟨_, h1, ⟨.inl ⟨rfl, g, vl', ls', rfl, h2⟩, h.ch h3⟩, h3⟩
 ·refine (flush_lost _ b n w hl).mono ?_
  rintro e w' ⟨h1, h2, h3⟩
  exact ⟨_, h1, ⟨.inr ⟨rfl, rfl, rfl, h2⟩, h.ch h3⟩, h3⟩
theorem DS.crash (h : DS w0 w b F n P lost) (keep : Nat) (tear : Int) (hk : keep < 18446744073709551616) : Calls Tryz.prog 14 #[.pointer (some ⟨b, 0, none⟩), .int .u64 keep, .int .i64 tear] w fun e w' => ∃ G, e = .returned (.tuple #[]) ∧ DS w0 w' b G n (M.crash P keep tear) lost ∧ Ch w F w' G := by
 rcases h.x with ⟨rfl, g, vl, ls, rfl, hd⟩ | ⟨rfl, rfl, rfl, hl⟩
 ·refine (crash_any _ b g vl n P ls keep tear w hd hk).mono ?_
  rintro e w' ⟨vl', ls', h1, h2, h3⟩
  exact ⟨_, h1, ⟨.inl ⟨rfl, g, vl', ls', rfl, h2⟩, h.ch h3⟩, h3⟩
 ·refine (crash_lost _ b n keep tear w hl).mono ?_
  rintro e w' ⟨h1, h2, h3⟩
  exact ⟨_, h1, ⟨.inr ⟨rfl, rfl, rfl, h2⟩, h.ch h3⟩, h3⟩
theorem DS.loose (h : DS w0 w b F n P lost) : Calls Tryz.prog 48 #[.pointer (some ⟨b, 0, none⟩)] w fun e w' => ∃ a cap, e = .returned (.slice a (M.lo P).length cap) ∧ AtO w' F a (IC (M.zs (M.lo P))) ∧ (∀ k, blk a k → w.heap.size ≤ k) ∧ Below w.heap.size w w' ∧ DS w0 w' b F n P lost := by
 rcases h.x with ⟨rfl, g, vl, ls, rfl, hd⟩ | ⟨rfl, rfl, rfl, hl⟩
 ·refine (loose_any _ b g vl n P ls w hd).mono ?_
  rintro e w' ⟨v, h1, h2, h3⟩
  obtain ⟨a, cap, rfl, hat, hbl, _⟩ := owns_at h2
  exact ⟨a, cap, h1, ⟨hat, fun k hk => ⟨fun hF => by have := (h.own k hF).2; have := (hbl k hk).1; omega, (hbl k hk).2.2⟩⟩, fun k hk => (hbl k hk).1, h3, h.keep h3⟩
 ·refine (loose_lost _ b n w hl).mono ?_
  rintro e w' ⟨v, h1, h2, h3⟩
  obtain ⟨a, cap, rfl, hat, hbl, _⟩ := owns_at h2
  exact ⟨a, cap, h1, ⟨hat, fun k hk => ⟨fun hF => by have := (h.own k hF).2; have := (hbl k hk).1; omega, (hbl k hk).2.2⟩⟩, fun k hk => (hbl k hk).1, h3, h.keep h3⟩
end
end Go.Proofs.YtlnedgjikkhplaaGreat.Ns
