/-
  The document's Get.
-/
import Derived.Test.YtpfmdchmgaaakaaU
namespace Go.Proofs.Ytpfmdchmgaaakaa
open Go.RowKit
set_option linter.unusedVariables false
open M (K)

theorem res_cell_tmp2 {fn : Func} {p u z : Tmp} (h : fn.results = #[.cell p 29, .tmp u, .tmp z]) (tmps : Array Value) (w : World) (g : Nat) (v0 v1 : Value) (hp : tmps.getD p undef = .pointer (some ⟨g, 0, none⟩)) (hg : w.heap[g]? = some (.cells #[v0, v1] 29 (0, 0))) :
    (results fn tmps).run Try.prog w = .ok (.tuple #[.agg #[v0, v1], tmps.getD u undef, tmps.getD z undef]) w := by
  have hp' : tmps[p]?.getD undef = .pointer (some ⟨g, 0, none⟩) := by simpa using hp
  simp only [results, h]
  simp [Result.andThen, asAddr, hp', run_loadVar_row w g 29 29 #[v0, v1] (0, 0) _ hg Try.underlying29 rfl Try.size29]
def GtR (w : World) (mo : Int) (a : Option Addr) (cap : Nat) (l l' : List K) (s : ByteArray) (r : Bool) (x : Ending) (w' : World) : Prop := ∃ v', x = .returned (.tuple #[.agg #[.int .i64 mo, v'], .string s, .bool r]) ∧ XRes w w' a cap v' l l' ∧ Below w.heap.size w w'
theorem GtR.drew {w : World} {mo : Int} {a : Option Addr} {cap : Nat} {l l' : List K} {s : ByteArray} {r : Bool} {x : Ending} {w' : World} (h : GtR w mo a cap l l' s r x w') : GtR w mo a cap l l' s r x w'.drew := by
  obtain ⟨v', h1, h2, h3⟩ := h
  exact ⟨v', h1, h2, ⟨h3.os, h3.tape, h3.output, h3.size, h3.block⟩⟩
theorem f14_res : Try.f14.results = #[.cell 4 29, .tmp 5, .tmp 6] := rfl
theorem row3 {w : World} {k : Nat} {v0 v1 v2 : Value} {t : TypeId} (h : w.heap[k]? = some (.cells #[v0, v1, v2] t (0, 0))) :
    w.cell? ⟨k, 0, none⟩ = some v0 ∧ w.cell? ⟨k, 1, none⟩ = some v1 ∧ w.cell? ⟨k, 2, none⟩ = some v2 :=
  ⟨by rw [cell_of_row w k 0 _ _ _ h]; rfl, by rw [cell_of_row w k 1 _ _ _ h]; rfl, by rw [cell_of_row w k 2 _ _ _ h]; rfl⟩
theorem at_one {w : World} {b : Nat} {x : K} (h : w.heap[b]? = some (.cells #[.int .i64 x.key, .string x.val, .bool x.pin] 60 (0, 0))) : AtE w (some ⟨b, 0, none⟩) [x] := by
  intro j hj
  match j, hj with
  | 0, _ =>
    obtain ⟨h0, h1, h2⟩ := row3 h
    exact ⟨b, 0, rfl, h0, h1, h2⟩
/-- What is left to do when the row is made: it is laid into the box, and the box into the result. -/
theorem get_fin {w w7 : World} {mo : Int} {a : Option Addr} {cap : Nat} {l L : List K} {u0 : Value} {x : K} {eb base a7 c7 n7} (hB : Below w.heap.size w w7) (h0 : w7.heap[w.heap.size]? = some (.cells #[.int .i64 mo, u0] 29 (0, 0))) (h1 : w7.heap[w.heap.size + 1]? = some (.cells #[.int .i64 0, .slice none 0 0] 29 (0, 0)))
    (he : w7.heap[eb]? = some (.cells #[.int .i64 x.key, .string x.val, .bool x.pin] 60 (0, 0))) (ho : OwnE w7 base (.slice a7 n7 c7) L) (hb : w.heap.size + 2 ≤ base) (heb : w.heap.size + 2 ≤ eb) :
    (w7.cell? ⟨w.heap.size, 1, none⟩ = some u0 ∧ w7.frozen? ⟨w.heap.size, 1, none⟩ = false) ∧
    ((w7.setCell ⟨w.heap.size, 1, none⟩ (.slice a7 n7 c7)).cell? ⟨w.heap.size, 0, none⟩ = some (.int .i64 mo) ∧ (w7.setCell ⟨w.heap.size, 1, none⟩ (.slice a7 n7 c7)).cell? ⟨w.heap.size, 1, none⟩ = some (.slice a7 n7 c7) ∧ (w7.setCell ⟨w.heap.size, 1, none⟩ (.slice a7 n7 c7)).cell? ⟨eb, 1, none⟩ = some (.string x.val) ∧
      (w7.setCell ⟨w.heap.size, 1, none⟩ (.slice a7 n7 c7)).cell? ⟨w.heap.size + 1, 0, none⟩ = some (.int .i64 0) ∧ (w7.setCell ⟨w.heap.size, 1, none⟩ (.slice a7 n7 c7)).cell? ⟨w.heap.size + 1, 1, none⟩ = some (.slice none 0 0) ∧ (w7.setCell ⟨w.heap.size, 1, none⟩ (.slice a7 n7 c7)).frozen? ⟨w.heap.size + 1, 0, none⟩ = false ∧ (w7.setCell ⟨w.heap.size, 1, none⟩ (.slice a7 n7 c7)).frozen? ⟨w.heap.size + 1, 1, none⟩ = false) ∧
    Hid ((((w7.setCell ⟨w.heap.size, 1, none⟩ (.slice a7 n7 c7)).setCell ⟨w.heap.size + 1, 0, none⟩ (.int .i64 mo)).setCell ⟨w.heap.size + 1, 1, none⟩ (.slice a7 n7 c7)).heap[w.heap.size + 1]? = some (.cells #[.int .i64 mo, .slice a7 n7 c7] 29 (0, 0)) ∧ GtR w mo a cap l L x.val true (.returned (.tuple #[.agg #[.int .i64 mo, .slice a7 n7 c7], .string x.val, .bool true])) (((w7.setCell ⟨w.heap.size, 1, none⟩ (.slice a7 n7 c7)).setCell ⟨w.heap.size + 1, 0, none⟩ (.int .i64 mo)).setCell ⟨w.heap.size + 1, 1, none⟩ (.slice a7 n7 c7))) := by
  obtain ⟨W8, hW8⟩ : ∃ W8, w7.setCell ⟨w.heap.size, 1, none⟩ (.slice a7 n7 c7) = W8 := ⟨_, rfl⟩
  have k8 : ∀ k, k ≠ w.heap.size → W8.heap[k]? = w7.heap[k]? := fun k hk => by rw [← hW8]; exact heap_setCell_other w7 ⟨w.heap.size, 1, none⟩ k _ hk
  have h08 : W8.heap[w.heap.size]? = some (.cells #[.int .i64 mo, .slice a7 n7 c7] 29 (0, 0)) := by rw [← hW8]; exact heap_setCell_same w7 _ 1 _ _ _ h0
  have h18 := (k8 (w.heap.size + 1) (by omega)).trans h1
  have he8 := (k8 eb (by omega)).trans he
  have o8 : OwnE W8 base (.slice a7 n7 c7) L := ho.keepBut fun k hk hv => k8 k (by have := (ho.lt hv).1; omega)
  have b8 : Below w.heap.size w W8 := by rw [← hW8]; exact hB.setCell (Nat.le_refl _) _
  obtain ⟨⟨c0, c1⟩, cf⟩ := row2 h0
  obtain ⟨⟨d0, d1⟩, df⟩ := row2 h08
  obtain ⟨⟨e0, e1⟩, ef⟩ := row2 h18
  obtain ⟨f0, f1, f2⟩ := row3 he8
  obtain ⟨q1, q2, q3⟩ := laid2 (v0 := .int .i64 mo) (v1 := .slice a7 n7 c7) h18 b8 (by omega)
  rw [hW8]
  refine ⟨⟨c1, cf 1⟩, ⟨d0, d1, f1, e0, e1, ef 0, ef 1⟩, q1, _, rfl, .inr (OwnE.low (o8.keepBut fun k hk hv => q3 k (by have := (o8.lt hv).1; omega)) (by omega)), q2⟩
set_option maxRecDepth 100000 in
set_option maxHeartbeats 4000000 in
theorem rget_any (mo : Int) (a : Option Addr) (cap : Nat) (l : List K) (k : Int) (w : World) (hl : l.length ≤ 1000000) (hx : XE w a cap l) :
    Calls Try.prog 14 #[.agg #[.int .i64 mo, .slice a l.length cap], .int .i64 k] w (GtR w mo a cap l (M.got l k) (M.val l k) (M.has l k)) := by
  obtain ⟨W1, HW1, B1, hs1, hfr⟩ := hx.boxed mo
  have HFR := Hid_of hfr
  have hfind := rfind_any mo a cap l k W1 hl (hfr W1 (Below.refl _ _)).2.2.1.at'
  obtain ⟨⟨c0, c1⟩, cf⟩ := row2 (hfr W1 (Below.refl _ _)).1
  clear hfr hx B1
  cases hh : M.has l k
  · rw [fi_no hh] at hfind
    rw [(M.got_no _ _ (M.has_false hh)).1, (M.got_no _ _ (M.has_false hh)).2]
    clear hh
    go_enter Try.func14, Try.ntmps14
    go_wp2_with fail
    rw [HW1.out]
    refine hfind.mono ?_
    rintro x w2 ⟨rfl, B2⟩
    obtain ⟨h0, h1, hX, hB⟩ := HFR.out w2 B2
    obtain ⟨⟨d0, d1⟩, df⟩ := row2 h0
    obtain ⟨⟨e0, e1⟩, ef⟩ := row2 h1
    have ef0 := ef 0
    have ef1 := ef 1
    obtain ⟨q1, q2, _⟩ := laid2 (v0 := .int .i64 mo) (v1 := .slice a l.length cap) h1 hB (by omega)
    have HQ1 := Hid_of q1
    have HK : Hid (GtR w mo a cap l l ByteArray.empty false (.returned (.tuple #[.agg #[.int .i64 mo, .slice a l.length cap], .string ByteArray.empty, .bool false])) ((w2.setCell ⟨w.heap.size + 1, 0, none⟩ (.int .i64 mo)).setCell ⟨w.heap.size + 1, 1, none⟩ (.slice a l.length cap))) := ⟨_, rfl, .inl ⟨rfl, rfl⟩, q2⟩
    clear hfind HFR c0 c1 cf h0 h1 hX hB df ef q1 q2 HW1 B2
    go_wp2
    refine bodyPost_ret (v := .tuple #[.agg #[.int .i64 mo, .slice a l.length cap], .string ByteArray.empty, .bool false]) ?_ rfl HK.out
    exact res_cell_tmp2 f14_res _ _ (w.heap.size + 1) _ _ rfl HQ1.out
  · obtain ⟨hfi, hil⟩ := fi_yes hh
    rw [hfi] at hfind
    have HG : Hid (M.got l k = l.eraseIdx (M.fnd l k) ++ [l[M.fnd l k]] ∧ M.val l k = l[M.fnd l k].val) := by
      unfold M.got M.val
      rw [List.getElem?_eq_getElem hil]
      exact ⟨rfl, rfl⟩
    rw [HG.out.1, HG.out.2]
    generalize M.fnd l k = i at *
    clear hfi hh HG
    go_enter Try.func14, Try.ntmps14
    go_wp2_with fail
    rw [HW1.out]
    refine hfind.mono ?_
    rintro x w2 ⟨rfl, B2⟩
    obtain ⟨h0, h1, hX, hB⟩ := HFR.out w2 B2
    obtain ⟨⟨d0, d1⟩, df⟩ := row2 h0
    obtain ⟨bb, off, rfl, g0, g1, g2⟩ := hX.at' i hil
    have hs2 : w.heap.size + 2 ≤ w2.heap.size := by have := B2.size; omega
    obtain ⟨W3, HW3⟩ : ∃ W3, Hid (w2.alloc (.cells #[.int .i64 l[i].key, .string l[i].val, .bool l[i].pin] 60) = W3) := ⟨_, Hid_of rfl⟩
    have b3 : Below w2.heap.size w2 W3 := by rw [← HW3.out]; exact bel1 w2 _
    have he3 : W3.heap[w2.heap.size]? = some (.cells #[.int .i64 l[i].key, .string l[i].val, .bool l[i].pin] 60 (0, 0)) := by rw [← HW3.out]; exact heap_alloc_last w2 _
    have hs3 : W3.heap.size = w2.heap.size + 1 := by rw [← HW3.out]; simp
    have h03 := (b3.block _ (by omega)).trans h0
    have h13 := (b3.block _ (by omega)).trans h1
    obtain ⟨⟨m0, m1⟩, mf⟩ := row2 h03
    rw [← HW3.out] at m0 m1
    have hwo := rwithout_any mo (some ⟨bb, off, none⟩) cap l i W3 hl hil (hX.keep b3)
    have HR3 : Hid (W3.heap[w.heap.size]? = some (.cells #[.int .i64 mo, .slice (some ⟨bb, off, none⟩) l.length cap] 29 (0, 0)) ∧ W3.heap[w.heap.size + 1]? = some (.cells #[.int .i64 0, .slice none 0 0] 29 (0, 0)) ∧ W3.heap[w2.heap.size]? = some (.cells #[.int .i64 l[i].key, .string l[i].val, .bool l[i].pin] 60 (0, 0)) ∧ Below w.heap.size w W3) := ⟨h03, h13, he3, bel_up hB b3 (Nat.le_refl _)⟩
    clear hfind HFR c0 c1 cf h0 h1 hX hB df HW1 B2 b3 he3 h03 h13 mf
    go_wp2_with fail
    rw [HW3.out]
    refine hwo.mono ?_
    rintro x w4 ⟨v4, rfl, o4, b4⟩
    obtain ⟨a4, c4, rfl, X4, bl4⟩ := o4.at
    obtain ⟨r0, r1, r2, r3⟩ := HR3.out
    have h04 := (b4.block _ (by omega)).trans r0
    have h14 := (b4.block _ (by omega)).trans r1
    have he4 := (b4.block _ (by omega)).trans r2
    have hB4 := bel_up r3 b4 (Nat.le_refl _)
    obtain ⟨⟨n0, n1⟩, nf⟩ := row2 h04
    have nf0 := nf 0
    have nf1 := nf 1
    obtain ⟨h05, b5, k5⟩ := laid2 (v0 := .int .i64 mo) (v1 := .slice a4 (l.eraseIdx i).length c4) h04 hB4 (Nat.le_refl _)
    obtain ⟨W5, HW5⟩ : ∃ W5, Hid ((w4.setCell ⟨w.heap.size, 0, none⟩ (.int .i64 mo)).setCell ⟨w.heap.size, 1, none⟩ (.slice a4 (l.eraseIdx i).length c4) = W5) := ⟨_, rfl⟩
    rw [HW5.out] at h05 b5 k5
    have h15 := (k5 (w.heap.size + 1) (by omega)).trans h14
    have he5 := (k5 w2.heap.size (by omega)).trans he4
    have hs5 : W5.heap.size = w4.heap.size := by rw [← HW5.out]; simp
    have hs4 := b4.size
    have hsd : W5.drew.heap.size = W5.heap.size := rfl
    have X5 : XE W5 a4 c4 (l.eraseIdx i) := X4.keepBut fun k hk hb => k5 k (by have := (bl4 k hb).1; omega)
    have hle : (l.eraseIdx i).length ≤ 1000000 := by rw [List.length_eraseIdx]; split <;> omega
    -- order A
    have X5d : XE W5.drew a4 c4 (l.eraseIdx i) := X5.keepBut fun _ _ _ => rfl
    obtain ⟨aA, cA, wA, runA, oA, bA⟩ := run_copy W5.drew 27 a4 c4 (l.eraseIdx i) X5d hle
    have hsA := bA.size
    have heA1 : (wA.alloc (.cells #[.int .i64 l[i].key, .string l[i].val, .bool l[i].pin] 60)).heap[wA.heap.size]? = some (.cells #[.int .i64 l[i].key, .string l[i].val, .bool l[i].pin] 60 (0, 0)) := heap_alloc_last wA _
    obtain ⟨aA2, cA2, wA2, runA2, oA2, rwA2⟩ := run_app (wA.alloc (.cells #[.int .i64 l[i].key, .string l[i].val, .bool l[i].pin] 60)) 27 W5.drew.heap.size (.slice aA (l.eraseIdx i).length cA) (l.eraseIdx i) [l[i]] wA.heap.size 0 1 1 (oA.keep (bel1 wA _)) (at_one heA1) rfl (by simp; omega) (by simp; omega)
    have bA0 := rwA2.below (B := W5.drew.heap.size) (fun q hq => (oA.lt hq).1) (by simp; omega)
    have bA2 : Below W5.heap.size W5 wA2 := by
      have := (bA.alloc hsA (.cells #[.int .i64 l[i].key, .string l[i].val, .bool l[i].pin] 60)).trans bA0
      exact ⟨this.os, this.tape, this.output, this.size, this.block⟩
    have finA := get_fin (l := l) (a := some ⟨bb, off, none⟩) (cap := cap) (bel_up b5 bA2 (Nat.le_refl _)) ((bA2.block _ (by omega)).trans h05) ((bA2.block _ (by omega)).trans h15) ((bA2.block _ (by omega)).trans he5) oA2 (show w.heap.size + 2 ≤ W5.heap.size by omega) hs2
    -- order B
    have heB0 : (W5.drew.alloc (.cells #[.int .i64 l[i].key, .string l[i].val, .bool l[i].pin] 60)).heap[W5.heap.size]? = some (.cells #[.int .i64 l[i].key, .string l[i].val, .bool l[i].pin] 60 (0, 0)) := heap_alloc_last W5.drew _
    obtain ⟨aB, cB, wB, runB, oB, bB⟩ := run_copy (W5.drew.alloc (.cells #[.int .i64 l[i].key, .string l[i].val, .bool l[i].pin] 60)) 27 a4 c4 (l.eraseIdx i) (X5d.keep (bel1 W5.drew _)) hle
    have hsB := bB.size
    have hsBs : (W5.drew.alloc (.cells #[.int .i64 l[i].key, .string l[i].val, .bool l[i].pin] 60)).heap.size = W5.heap.size + 1 := by simp
    have hsB' : W5.heap.size + 1 ≤ wB.heap.size := by omega
    obtain ⟨aB2, cB2, wB2, runB2, oB2, rwB2⟩ := run_app wB 27 (W5.drew.alloc (.cells #[.int .i64 l[i].key, .string l[i].val, .bool l[i].pin] 60)).heap.size (.slice aB (l.eraseIdx i).length cB) (l.eraseIdx i) [l[i]] W5.heap.size 0 1 1 oB (at_one ((bB.block W5.heap.size (by simp)).trans heB0)) rfl hsB (by simp; omega)
    have bB0 := rwB2.below (B := W5.heap.size) (fun q hq => by have := (oB.lt hq).1; simp at this; omega) (by omega)
    have bB2 : Below W5.heap.size W5 wB2 := by
      have h1 : Below W5.heap.size W5 wB := by
        have := (bel1 W5.drew (.cells #[.int .i64 l[i].key, .string l[i].val, .bool l[i].pin] 60)).trans (bB.mono (show W5.drew.heap.size ≤ _ by simp))
        exact ⟨this.os, this.tape, this.output, this.size, this.block⟩
      exact h1.trans bB0
    have finB := get_fin (l := l) (a := some ⟨bb, off, none⟩) (cap := cap) (bel_up b5 bB2 (Nat.le_refl _)) ((bB2.block _ (by omega)).trans h05) ((bB2.block _ (by omega)).trans h15) ((bB2.block _ (by omega)).trans he5) oB2 (show w.heap.size + 2 ≤ _ by simp; omega) hs2
    obtain ⟨⟨A0, A1⟩, ⟨A2, A3, A4, A5, A6, A7, A8⟩, HA⟩ := finA
    obtain ⟨⟨B0, B1⟩, ⟨B2, B3, B4, B5, B6, B7, B8⟩, HBB⟩ := finB
    -- the cells ahead of the appends
    obtain ⟨⟨s0, s1'⟩, sf⟩ := row2 h05
    obtain ⟨t0, t1, t2⟩ := row3 he5
    have wAbox := (bA.block w.heap.size (by show _ < W5.heap.size; omega)).trans h05
    have wAe := (bA.block w2.heap.size (by show _ < W5.heap.size; omega)).trans he5
    obtain ⟨⟨z0, z1⟩, zf⟩ := row2 wAbox
    obtain ⟨y0, y1, y2⟩ := row3 wAe
    have dB := bel1 W5.drew (.cells #[.int .i64 l[i].key, .string l[i].val, .bool l[i].pin] 60)
    obtain ⟨⟨j0, j1⟩, jf⟩ := row2 ((dB.block w.heap.size (by show _ < W5.heap.size; omega)).trans h05)
    simp only [List.length_singleton] at runA2 runB2 oA2 oB2 A2 A3 A4 A5 A6 A7 A8 B2 B3 B4 B5 B6 B7 B8 HA HBB
    clear hwo o4 b4 X4 bl4 r0 r1 r2 r3 h04 h14 he4 hB4 nf h05 b5 k5 h15 he5 X5 X5d oA bA heA1 oA2 rwA2 bA0 bA2 heB0 oB bB oB2 rwB2 bB0 bB2 sf wAbox wAe zf dB jf HR3 hsB hsB' hsA hsBs hs5 hsd hs3 hs4
    have eB : W5.drew.alloc (.cells #[.int .i64 l[i].key, .string l[i].val, .bool l[i].pin] 60) = (W5.alloc (.cells #[.int .i64 l[i].key, .string l[i].val, .bool l[i].pin] 60)).drew := rfl
    rw [eB] at runB j0 j1
    replace j0 : (W5.alloc (.cells #[.int .i64 l[i].key, .string l[i].val, .bool l[i].pin] 60)).cell? ⟨w.heap.size, 0, none⟩ = _ := j0
    replace j1 : (W5.alloc (.cells #[.int .i64 l[i].key, .string l[i].val, .bool l[i].pin] 60)).cell? ⟨w.heap.size, 1, none⟩ = _ := j1
    clear eB
    generalize (l.eraseIdx i).length = nl at *
    go_wp2_with fail
    rw [HW5.out]
    clear HW5 n0 n1 nf0 nf1 m0 m1 d0 d1 g0 g1 g2
    go_region_law (first
      | (refine step_append_run rfl (.const (.slice none 0 0)) (.tmp 24) 27 rfl _ _ (by simp [Act.eval]) (by simp [Act.eval]) _ _ runA ?_)
      | (refine step_append_run rfl (.const (.slice none 0 0)) (.tmp 24) 27 rfl _ _ (by simp [Act.eval]) (by simp [Act.eval]) _ _ runB ?_)
      | (refine step_append_run rfl (.tmp 25) (.tmp 27) 27 rfl _ _ (by simp [Act.eval]) (by simp [Act.eval]) _ _ runA2 ?_)
      | (refine step_append_run rfl (.tmp 25) (.tmp 27) 27 rfl _ _ (by simp [Act.eval]) (by simp [Act.eval]) _ _ runB2 ?_))
    all_goals
      clear runA runA2 runB runB2 s0 t0 t1 t2 z0 y0 y1 y2 j0 s1' z1 j1 A0 A1 B0 B1
      go_wp2_with fail
      go_region
      all_goals
        go_wp2
        first
          | (refine bodyPost_ret (v := .tuple #[.agg #[.int .i64 mo, .slice aA2 (nl + 1) cA2], .string l[i].val, .bool true]) ?_ rfl HA.out.2; exact res_cell_tmp2 f14_res _ _ (w.heap.size + 1) _ _ rfl HA.out.1)
          | (refine bodyPost_ret (v := .tuple #[.agg #[.int .i64 mo, .slice aA2 (nl + 1) cA2], .string l[i].val, .bool true]) ?_ rfl HA.out.2.drew; exact res_cell_tmp2 f14_res _ _ (w.heap.size + 1) _ _ rfl HA.out.1)
          | (refine bodyPost_ret (v := .tuple #[.agg #[.int .i64 mo, .slice aB2 (nl + 1) cB2], .string l[i].val, .bool true]) ?_ rfl HBB.out.2; exact res_cell_tmp2 f14_res _ _ (w.heap.size + 1) _ _ rfl HBB.out.1)
          | (refine bodyPost_ret (v := .tuple #[.agg #[.int .i64 mo, .slice aB2 (nl + 1) cB2], .string l[i].val, .bool true]) ?_ rfl HBB.out.2.drew; exact res_cell_tmp2 f14_res _ _ (w.heap.size + 1) _ _ rfl HBB.out.1)
end Go.Proofs.Ytpfmdchmgaaakaa
