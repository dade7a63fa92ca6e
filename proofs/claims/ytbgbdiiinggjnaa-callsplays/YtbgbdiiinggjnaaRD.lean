/-
  The document's calls: one is forgotten, one is answered.
-/
import Derived.Test.YtbgbdiiinggjnaaRC
namespace Go.Proofs.Ytbgbdiiinggjnaa
open Go.RowKit
set_option linter.unusedVariables false
open M (E)
open Cl (K W Ms fup Rel)

/-- What such a call leaves. -/
def RFOut (w : World) (a : Option Addr) (me next : Int) (L : List K) (r : Value) (e : Ending) (w' : World) : Prop := ∃ a' cap', e = .returned (.tuple #[.agg #[.int .i64 me, .int .i64 next, .slice a' L.length cap'], r]) ∧ XL kl w' a' cap' L ∧ Lie w a w' a' ∧ Below w.heap.size w w'
/-- A new row is laid into the calls, and they into their result's box. -/
theorem ref_fin {w w2 w5 : World} {p r : Nat} {me next : Int} {v2 : Value} {a a' : Option Addr} {nl c' : Nat} {L' : List K} {z0 z1 z2 : Value} (q1 : w2.heap[p]? = some (.cells #[.int .i64 me, .int .i64 next, v2] 29 (0, 0))) (q2 : w2.heap[r]? = some (.cells #[z0, z1, z2] 29 (0, 0))) (qB : Below w.heap.size w w2) (hpr : p ≠ r) (hp : w.heap.size ≤ p) (hr : w.heap.size ≤ r) (hb5 : Below w2.heap.size w2 w5) (ho : OwnL kl 68 w5 w2.heap.size (.slice a' nl c') L') (hnl : nl = L'.length) :
    (w5.cell? ⟨p, 2, none⟩ = some v2 ∧ w5.frozen? ⟨p, 2, none⟩ = false) ∧ ∃ W6, w5.setCell ⟨p, 2, none⟩ (.slice a' nl c') = W6 ∧ (W6.cell? ⟨p, 0, none⟩ = some (.int .i64 me) ∧ W6.cell? ⟨p, 1, none⟩ = some (.int .i64 next) ∧ W6.cell? ⟨p, 2, none⟩ = some (.slice a' nl c')) ∧ ((W6.cell? ⟨r, 0, none⟩ = some z0 ∧ W6.cell? ⟨r, 1, none⟩ = some z1 ∧ W6.cell? ⟨r, 2, none⟩ = some z2) ∧ (W6.frozen? ⟨r, 0, none⟩ = false ∧ W6.frozen? ⟨r, 1, none⟩ = false ∧ W6.frozen? ⟨r, 2, none⟩ = false)) ∧
    (put3 W6 r (.int .i64 me) (.int .i64 next) (.slice a' nl c')).heap[r]? = some (.cells #[.int .i64 me, .int .i64 next, .slice a' nl c'] 29 (0, 0)) ∧ XL kl (put3 W6 r (.int .i64 me) (.int .i64 next) (.slice a' nl c')) a' c' L' ∧ Lie w a (put3 W6 r (.int .i64 me) (.int .i64 next) (.slice a' nl c')) a' ∧ Below w.heap.size w (put3 W6 r (.int .i64 me) (.int .i64 next) (.slice a' nl c')) ∧ ∀ k, k ≠ p → k ≠ r → (put3 W6 r (.int .i64 me) (.int .i64 next) (.slice a' nl c')).heap[k]? = w5.heap[k]? := by
  subst hnl
  have p1 := (hb5.block _ (Array.getElem?_eq_some_iff.1 q1).1).trans q1
  have p2 := (hb5.block _ (Array.getElem?_eq_some_iff.1 q2).1).trans q2
  have hl1 := (Array.getElem?_eq_some_iff.1 q1).1
  have hl2 := (Array.getElem?_eq_some_iff.1 q2).1
  obtain ⟨⟨x0, x1, x2⟩, xf⟩ := rw3 p1
  obtain ⟨W6, hW6⟩ : ∃ W6, w5.setCell ⟨p, 2, none⟩ (.slice a' L'.length c') = W6 := ⟨_, rfl⟩
  have p6 : W6.heap[p]? = some (.cells #[.int .i64 me, .int .i64 next, .slice a' L'.length c'] 29 (0, 0)) := by rw [← hW6]; exact heap_setCell_same w5 _ 2 _ _ _ p1
  have o6 : ∀ k, k ≠ p → W6.heap[k]? = w5.heap[k]? := fun k hk => by rw [← hW6]; exact heap_setCell_other w5 ⟨p, 2, none⟩ k _ hk
  have b6 : Below w.heap.size w W6 := by rw [← hW6]; exact (bel_up qB hb5 (Nat.le_refl _)).setCell (p := ⟨p, 2, none⟩) hp _
  have r6 := (o6 r (fun e => hpr e.symm)).trans p2
  obtain ⟨⟨k1, k2⟩, j2, j3, j4⟩ := ref_lay (x := .int .i64 me) (v1 := .int .i64 next) (v2 := .slice a' L'.length c') b6 r6 hr
  have hoth : ∀ k, k ≠ p → k ≠ r → (put3 W6 r (.int .i64 me) (.int .i64 next) (.slice a' L'.length c')).heap[k]? = w5.heap[k]? := fun k h1 h2 => (j4 k h2).trans (o6 k h1)
  have ho8 := ho.keepBut (w1 := put3 W6 r (.int .i64 me) (.int .i64 next) (.slice a' L'.length c')) fun k hk hu => by
    have := (ho.lt hu).1
    exact hoth k (by omega) (by omega)
  obtain ⟨a8, c8, hv8, hx8, hbl8⟩ := ho8.at
  cases hv8
  refine ⟨⟨x2, xf 2⟩, W6, hW6, (rw3 p6).1, ⟨k1, k2⟩, j2, hx8, ⟨fun k hk => .inr ?_⟩, j3, hoth⟩
  obtain ⟨t1, t2, t3⟩ := hbl8 k hk
  have := qB.size
  exact ⟨by omega, t3⟩
theorem f18_res : Try.f18.results = #[.cell 4 29, .tmp 5] := rfl
theorem f16_res : Try.f16.results = #[.cell 4 29, .tmp 5] := rfl
theorem fgt_no {L : List K} {i : Int} (h : (Cl.en L i).isSome = false) : Cl.fgt L i = L := by unfold Cl.fgt; rw [h]; rfl
theorem fgt_yes {L : List K} (hu : Cl.Up L) {j : Nat} (hj : j < L.length) {i : Int} (hid : L[j].id = i) (hst : L[j].st ≠ 1) : (Cl.en L i).isSome = true ∧ Cl.fgt L i = L.take j ++ L.drop (j + 1) := by
  have hg : Cl.get L i = some L[j] := by rw [← hid]; exact Cl.get_mem hu (List.getElem_mem hj)
  have he : (Cl.en L i).isSome = true := by unfold Cl.en Cl.op; rw [hg]; simp [hst]
  refine ⟨he, ?_⟩
  unfold Cl.fgt
  rw [he]
  exact Cl.ne_at hu hj hid
set_option maxRecDepth 100000 in
set_option maxHeartbeats 2000000 in
theorem rforget_any {w : World} {a : Option Addr} {cap : Nat} {L : List K} (h : RN w a cap L) (hu : Cl.Up L) (me next i : Int) :
    Calls Try.prog 18 #[.agg #[.int .i64 me, .int .i64 next, .slice a L.length cap], .int .i64 i] w (RFOut w a me next (Cl.fgt L i) (.bool (Cl.en L i).isSome)) := by
  obtain ⟨W1, HW1⟩ : ∃ W1, Hid ((w.alloc (.cells #[.int .i64 me, .int .i64 next, .slice a L.length cap] 29)).alloc (.cells #[.int .i64 0, .int .i64 0, .slice none 0 0] 29) = W1) := ⟨_, rfl⟩
  have HB1 : Hid (Below w.heap.size w W1) := by rw [← HW1.out]; exact bel_up (bel1 w _) (bel1 _ _) (Nat.le_refl _)
  obtain ⟨hr1, hr2⟩ : W1.heap[w.heap.size]? = some (.cells #[.int .i64 me, .int .i64 next, .slice a L.length cap] 29 (0, 0)) ∧ W1.heap[w.heap.size + 1]? = some (.cells #[.int .i64 0, .int .i64 0, .slice none 0 0] 29 (0, 0)) := by
    rw [← HW1.out]
    refine ⟨(Below.heap_alloc _ _ _ (by simp)).trans (heap_alloc_last w _), ?_⟩
    have := heap_alloc_last (w.alloc (.cells #[.int .i64 me, .int .i64 next, .slice a L.length cap] 29)) (.cells #[.int .i64 0, .int .i64 0, .slice none 0 0] 29)
    simpa using this
  have HROW : Hid (∀ W, Below W1.heap.size W1 W → W.heap[w.heap.size]? = some (.cells #[.int .i64 me, .int .i64 next, .slice a L.length cap] 29 (0, 0)) ∧ W.heap[w.heap.size + 1]? = some (.cells #[.int .i64 0, .int .i64 0, .slice none 0 0] 29 (0, 0)) ∧ Below w.heap.size w W) := fun W hW => ⟨(hW.block _ (Array.getElem?_eq_some_iff.1 hr1).1).trans hr1, (hW.block _ (Array.getElem?_eq_some_iff.1 hr2).1).trans hr2, bel_up HB1.out hW (Nat.le_refl _)⟩
  have HRN := Hid_of h
  have hn := h.n
  have hf := find_any (h.keep HB1.out) me next i
  obtain ⟨⟨n0, n1, n2⟩, _⟩ := rw3 hr1
  clear h hr1 hr2
  go_enter Try.func18, Try.ntmps18
  go_upto_region 1 with fail
  rw [HW1.out]
  go_wp2_with fail
  refine hf.mono ?_
  rintro e w2 ⟨r, rfl, hfi, hb2⟩
  obtain ⟨r1, r2, rB⟩ := HROW.out w2 hb2
  have hrn := HRN.out.keep rB
  clear n0 n1 n2 hf hb2 HROW
  obtain ⟨⟨n0, n1, n2⟩, _⟩ := rw3 r1
  rcases hfi.get hu with ⟨rfl, hg⟩ | ⟨j, hj, rfl, hid, hg⟩
  · have he : (Cl.en L i).isSome = false := by unfold Cl.en; rw [hg]; rfl
    have HE := Hid_of (And.intro he (fgt_no he))
    obtain ⟨j1, j2, j3, _⟩ := ref_lay (x := .int .i64 me) (v1 := .int .i64 next) (v2 := .slice a L.length cap) rB r2 (by omega)
    obtain ⟨⟨y0, y1, y2⟩, yf0, yf1, yf2⟩ := j1
    have HQ1 := Hid_of j2
    have HQ2 : Hid (RFOut w a me next L (.bool false) (.returned (.tuple #[.agg #[.int .i64 me, .int .i64 next, .slice a L.length cap], .bool false])) (put3 w2 (w.heap.size + 1) (.int .i64 me) (.int .i64 next) (.slice a L.length cap))) := ⟨a, cap, rfl, (HRN.out.keep j3).x, Lie.same _ _ _, j3⟩
    clear j2 j3 r1 r2 rB hrn HRN hg hfi he
    go_wp2
    refine bodyPost_ret (v := .tuple #[.agg #[.int .i64 me, .int .i64 next, .slice a L.length cap], .bool false]) ?_ rfl ?_
    · exact res3 f18_res _ _ (w.heap.size + 1) _ _ _ rfl HQ1.out
    · rw [HE.out.1, HE.out.2]; exact HQ2.out
  · obtain ⟨b0, off, rfl, d0, d1, d2, d3, d4, d5, d6⟩ := hrn.x.at'.getK j hj
    have hji : (j : Int) < (L.length : Int) := by omega
    by_cases hst : L[j].st = 1
    · have he : (Cl.en L i).isSome = false := by unfold Cl.en Cl.op; rw [hg]; simp [hst]
      have HE := Hid_of (And.intro he (fgt_no he))
      rw [hst] at d2
      obtain ⟨j1, j2, j3, _⟩ := ref_lay (x := .int .i64 me) (v1 := .int .i64 next) (v2 := .slice (some ⟨b0, off, none⟩) L.length cap) rB r2 (by omega)
      obtain ⟨⟨y0, y1, y2⟩, yf0, yf1, yf2⟩ := j1
      have HQ1 := Hid_of j2
      have HQ2 : Hid (RFOut w (some ⟨b0, off, none⟩) me next L (.bool false) (.returned (.tuple #[.agg #[.int .i64 me, .int .i64 next, .slice (some ⟨b0, off, none⟩) L.length cap], .bool false])) (put3 w2 (w.heap.size + 1) (.int .i64 me) (.int .i64 next) (.slice (some ⟨b0, off, none⟩) L.length cap))) := ⟨some ⟨b0, off, none⟩, cap, rfl, (HRN.out.keep j3).x, Lie.same _ _ _, j3⟩
      clear j2 j3 r1 r2 rB hrn HRN hg hfi he hst
      go_wp2
      refine bodyPost_ret (v := .tuple #[.agg #[.int .i64 me, .int .i64 next, .slice (some ⟨b0, off, none⟩) L.length cap], .bool false]) ?_ rfl ?_
      · exact res3 f18_res _ _ (w.heap.size + 1) _ _ _ rfl HQ1.out
      · rw [HE.out.1, HE.out.2]; exact HQ2.out
    · have dst : (L[j].st == 1) = false := by simpa using hst
      have HE := Hid_of (fgt_yes hu hj hid hst)
      obtain ⟨wd, hwd⟩ : ∃ wd, w2.drew = wd := ⟨_, rfl⟩
      have bd : Below w2.heap.size w2 wd := by rw [← hwd]; exact (Below.refl _ _).drew
      have hsd : wd.heap.size = w2.heap.size := by rw [← hwd]; rfl
      have hxd := (hrn.keep bd).x
      have hcap := hxd.le
      have hmx : cap ≤ 9223372036854775807 := by have := hxd.mx; unfold maxLen at this; omega
      have hlt : (L.take j).length = j := by rw [List.length_take]; omega
      obtain ⟨a3, c3, w3, hrun1, o3, b3⟩ := run_copyL tiK wd 27 (some ⟨b0, off, none⟩) cap (L.take j) ⟨hxd.at'.take j, by rw [hlt]; omega, hxd.mx, fun e => by cases e⟩ (by rw [hlt]; omega)
      rw [hlt] at hrun1 o3
      replace hrun1 : ∀ ty, (Builtin.append_ #[27, 27] ty #[.slice none 0 0, .slice (some ⟨b0, off, none⟩) j cap]).run Try.prog wd = .ok (.slice a3 j c3) w3 := fun ty => (append_ty _ _ _ ty 27).trans hrun1
      have b3' : Below w2.heap.size w2 w3 := bel_up bd b3 (Nat.le_refl _)
      have hx3 := (hxd.keep b3).at'
      have o3' := o3.low (base' := w2.heap.size) (by omega)
      obtain ⟨nl, hnl⟩ : ∃ nl, L.length - 1 = nl := ⟨_, rfl⟩
      obtain ⟨a4, c4, w4, hr4, o4, rr4⟩ : ∃ a4 c4 w4, ((cap = j + 1 → ∀ ty, (Builtin.append_ #[27, 27] ty #[.slice a3 j c3, .slice (some ⟨b0, off, none⟩) 0 0]).run Try.prog w3 = .ok (.slice a4 nl c4) w4) ∧ (cap ≠ j + 1 → ∀ ty, (Builtin.append_ #[27, 27] ty #[.slice a3 j c3, .slice (some ⟨b0, off + (j + 1) * 7, none⟩) (L.length - (j + 1)) (cap - (j + 1))]).run Try.prog w3 = .ok (.slice a4 nl c4) w4)) ∧ OwnL kl 68 w4 w2.heap.size (.slice a4 nl c4) (L.take j ++ L.drop (j + 1)) ∧ Rw w3 (.slice a3 j c3) w4 (.slice a4 nl c4) := by
        by_cases hct : cap = j + 1
        · have hdn : L.drop (j + 1) = [] := List.drop_eq_nil_of_le (by omega)
          obtain ⟨a4, c4, w4, h1, h2, h3⟩ := run_appL_ty tiK w3 w2.heap.size (.slice a3 j c3) (L.take j) [] b0 off 0 0 o3' (AtL.nil _ _) rfl b3'.size (by rw [hlt]; simp; omega)
          rw [hlt, List.length_nil, Nat.add_zero] at h1 h2 h3
          have hjn : j = nl := by omega
          subst hjn
          refine ⟨a4, c4, w4, ⟨fun _ => h1, fun e => absurd hct e⟩, ?_, h3⟩
          rw [hdn]
          exact h2
        · have hld : (L.drop (j + 1)).length = L.length - (j + 1) := List.length_drop
          obtain ⟨a4, c4, w4, h1, h2, h3⟩ := run_appL_ty tiK w3 w2.heap.size (.slice a3 j c3) (L.take j) (L.drop (j + 1)) b0 (off + (j + 1) * 7) (cap - (j + 1)) _ o3' (hx3.drop (j + 1)) hld.symm b3'.size (by rw [hlt, hld]; omega)
          rw [hlt, hld, show j + (L.length - (j + 1)) = nl by omega] at h1 h2 h3
          exact ⟨a4, c4, w4, ⟨fun e => absurd e hct, fun _ => h1⟩, h2, h3⟩
      have b4' : Below w2.heap.size w2 w4 := Below.trans b3' (rr4.below (fun k hk => by have := (o3.lt hk).1; omega) b3'.size)
      obtain ⟨⟨u2, uf2⟩, W6, hW6, ⟨v0, v1, v2⟩, ⟨⟨z0, z1, z2⟩, zf0, zf1, zf2⟩, lq, hx6, hli, hb6, _⟩ := ref_fin (a := some ⟨b0, off, none⟩) r1 r2 rB (by omega) (Nat.le_refl _) (by omega) b4' o4 (by simp; omega)
      have HW6 := Hid_of hW6
      have HQ1 := Hid_of lq
      have HQ2 : Hid (RFOut w (some ⟨b0, off, none⟩) me next (Cl.fgt L i) (.bool (Cl.en L i).isSome) (.returned (.tuple #[.agg #[.int .i64 me, .int .i64 next, .slice a4 nl c4], .bool true])) (put3 W6 (w.heap.size + 1) (.int .i64 me) (.int .i64 next) (.slice a4 nl c4))) := by
        rw [HE.out.1, HE.out.2]
        have hln : (L.take j ++ L.drop (j + 1)).length = nl := by simp; omega
        exact ⟨a4, c4, by rw [hln], hx6, hli, hb6⟩
      have ncell : ∀ W, Below w2.heap.size w2 W → W.cell? ⟨w.heap.size, 2, none⟩ = some (.slice (some ⟨b0, off, none⟩) L.length cap) := fun W hW => (rw3 ((hW.block _ (Array.getElem?_eq_some_iff.1 r1).1).trans r1)).1.2.2
      have nd := ncell wd bd
      have n3 := ncell w3 b3'
      have n4 := ncell w4 b4'
      have hadd : IntKind.i64.wrap ((j : Int) + 1) = (j : Int) + 1 := by rw [IntKind.wrap_i64]; omega
      have hb1 : (0 : Int) ≤ (j : Int) + 1 := by omega
      have hb2 : (j : Int) + 1 ≤ (L.length : Int) := by omega
      have hb3 : ((j : Int) + 1).toNat = j + 1 := by omega
      have hb4 : j ≤ L.length := by omega
      have hb5 : j + 1 ≤ L.length := by omega
      have hb6' : j ≤ cap := by omega
      have hb7 : j + 1 ≤ cap := by omega
      have hb8 : (j : Int) ≤ (cap : Int) := by omega
      have hb9 : (j : Int) + 1 ≤ (cap : Int) := by omega
      have hb10 : (L.length : Int) ≤ (cap : Int) := by omega
      clear hxd o3 b3 b3' o3' hx3 rr4 o4 b4' bd hsd hrn r1 r2 rB hg hfi HRN ncell lq hx6 hli hb6 hW6 d0 d1 d3 d4 d5 d6 hlt hnl HE hid hst
      generalize L[j].st = st at *
      generalize L.length = ln at *
      by_cases hct : cap = j + 1
      · have hrun2 := hr4.1 hct
        clear hr4
        have hll : ln = j + 1 := by omega
        subst hct
        subst hll
        have hb12 : (j : Int) ≤ (j : Int) + 1 := by omega
        go_upto_region 4 with fail
        refine wp_region_held_drew (S := fun _ => True) (by kernel_rfl) trivial (fun hHeld => ?_)
        rw [hwd]
        clear hwd
        refine wpAnyH_take (i := 0) (oi := ?p0x1a) (v := ?v0x1a) ?o0x1a (by kernel_rfl) (by kernel_rfl) (by kernel_rfl) ?q0x1a ?y0x1a hHeld ?r0x1a
        case o0x1a => (simp only [List.getElem?_toArray, List.getElem?_cons_zero]; try rfl)
        case q0x1a => exact fun _ _ _ h => h
        case y0x1a => (refine Or.inl ⟨rfl, ?_⟩; intro wq hq; go_simp; try with_reducible rfl)
        simp only [Act.put, List.setIfInBounds_toArray, List.set_cons_zero, List.set_cons_succ]
        refine wpAnyH_take (i := 2) (oi := ?p2x2a) (v := ?v2x2a) ?o2x2a (by kernel_rfl) (by kernel_rfl) (by kernel_rfl) ?q2x2a ?y2x2a hHeld ?r2x2a
        case o2x2a => (simp only [List.getElem?_toArray, List.getElem?_cons_succ, List.getElem?_cons_zero]; try rfl)
        case q2x2a => exact fun _ _ _ h => h
        case y2x2a => (refine Or.inl ⟨rfl, ?_⟩; intro wq hq; go_simp; try with_reducible rfl)
        simp only [Act.put, List.setIfInBounds_toArray, List.set_cons_zero, List.set_cons_succ]
        refine wpAnyH_take (i := 5) (oi := ?p5x3a) (v := ?v5x3a) ?o5x3a (by kernel_rfl) (by kernel_rfl) (by kernel_rfl) ?q5x3a ?y5x3a hHeld ?r5x3a
        case o5x3a => (simp only [List.getElem?_toArray, List.getElem?_cons_succ, List.getElem?_cons_zero]; try rfl)
        case q5x3a => exact fun _ _ _ h => h
        case y5x3a => (refine Or.inl ⟨rfl, ?_⟩; intro wq hq; go_simp; try with_reducible rfl)
        simp only [Act.put, List.setIfInBounds_toArray, List.set_cons_zero, List.set_cons_succ]
        refine wpAnyH_take (i := 7) (oi := ?p7x4a) (v := ?v7x4a) ?o7x4a (by kernel_rfl) (by kernel_rfl) (by kernel_rfl) ?q7x4a ?y7x4a hHeld ?r7x4a
        case o7x4a => (simp only [List.getElem?_toArray, List.getElem?_cons_succ, List.getElem?_cons_zero]; try rfl)
        case q7x4a => exact fun _ _ _ h => h
        case y7x4a => (refine Or.inl ⟨rfl, ?_⟩; intro wq hq; go_simp; try with_reducible rfl)
        simp only [Act.put, List.setIfInBounds_toArray, List.set_cons_zero, List.set_cons_succ]
        refine wpAnyH_take (i := 8) (oi := ?p8x5a) (v := ?v8x5a) ?o8x5a (by kernel_rfl) (by kernel_rfl) (by kernel_rfl) ?q8x5a ?y8x5a hHeld ?r8x5a
        case o8x5a => (simp only [List.getElem?_toArray, List.getElem?_cons_succ, List.getElem?_cons_zero]; try rfl)
        case q8x5a => exact fun _ _ _ h => h
        case y8x5a => (refine Or.inl ⟨rfl, ?_⟩; intro wq hq; go_simp; try with_reducible rfl)
        simp only [Act.put, List.setIfInBounds_toArray, List.set_cons_zero, List.set_cons_succ]
        refine wpAnyH_ready (rs := [1, 6]) (by kernel_rfl) (by simp) ?_
        refine (AllReadyH.cons (o := ?p1x6a) ?o1x6a ?s1x6a (AllReadyH.cons (o := ?p6x6a) ?o6x6a ?s6x6a AllReadyH.nil))
        case o1x6a => (simp only [List.getElem?_toArray, List.getElem?_cons_succ, List.getElem?_cons_zero]; try rfl)
        case o6x6a => (simp only [List.getElem?_toArray, List.getElem?_cons_succ, List.getElem?_cons_zero]; try rfl)
        case s1x6a =>
          intro Kk hK
          go_simp
          refine hK.out _ _ trivial (fun hHeld => ?_)
          clear hK Kk
          refine wpAnyH_take (i := 3) (oi := ?p3x7a) (v := ?v3x7a) ?o3x7a (by kernel_rfl) (by kernel_rfl) (by kernel_rfl) ?q3x7a ?y3x7a hHeld ?r3x7a
          case o3x7a => (simp only [List.getElem?_toArray, List.getElem?_cons_succ, List.getElem?_cons_zero]; try rfl)
          case q3x7a => exact fun _ _ _ h => h
          case y3x7a => (refine Or.inl ⟨rfl, ?_⟩; intro wq hq; go_simp; try with_reducible rfl)
          simp only [Act.put, List.setIfInBounds_toArray, List.set_cons_zero, List.set_cons_succ]
          refine wpAnyH_ready (rs := [4, 6]) (by kernel_rfl) (by simp) ?_
          refine (AllReadyH.cons (o := ?p4x8a) ?o4x8a ?s4x8a (AllReadyH.cons (o := ?p6x8a) ?o6x8a ?s6x8a AllReadyH.nil))
          case o4x8a => (simp only [List.getElem?_toArray, List.getElem?_cons_succ, List.getElem?_cons_zero]; try rfl)
          case o6x8a => (simp only [List.getElem?_toArray, List.getElem?_cons_succ, List.getElem?_cons_zero]; try rfl)
          case s4x8a =>
            intro Kk hK
            refine step_append_known rfl (.const (.slice none 0 0)) (.tmp 25) 27 rfl _ _ rfl rfl _ _ (hrun1 _) ?_
            refine hK.out _ _ trivial (fun hHeld => ?_)
            clear hK Kk
            simp only [Act.put, List.setIfInBounds_toArray, List.set_cons_zero, List.set_cons_succ]
            refine wpAnyH_ready (rs := [6]) (by kernel_rfl) (by simp) ?_
            refine (AllReadyH.cons (o := ?p6x9a) ?o6x9a ?s6x9a AllReadyH.nil)
            case o6x9a => (simp only [List.getElem?_toArray, List.getElem?_cons_succ, List.getElem?_cons_zero]; try rfl)
            intro Kk hK
            go_simp
            refine hK.out _ _ trivial (fun hHeld => ?_)
            clear hK Kk
            refine wpAnyH_take (i := 9) (oi := ?p9x10a) (v := ?v9x10a) ?o9x10a (by kernel_rfl) (by kernel_rfl) (by kernel_rfl) ?q9x10a ?y9x10a hHeld ?r9x10a
            case o9x10a => (simp only [List.getElem?_toArray, List.getElem?_cons_succ, List.getElem?_cons_zero]; try rfl)
            case q9x10a => exact fun _ _ _ h => h
            case y9x10a => (refine Or.inl ⟨rfl, ?_⟩; intro wq hq; go_simp; try with_reducible rfl)
            simp only [Act.put, List.setIfInBounds_toArray, List.set_cons_zero, List.set_cons_succ]
            refine wpAnyH_ready (rs := [10]) (by kernel_rfl) (by simp) ?_
            refine (AllReadyH.cons (o := ?p10x11a) ?o10x11a ?s10x11a AllReadyH.nil)
            case o10x11a => (simp only [List.getElem?_toArray, List.getElem?_cons_succ, List.getElem?_cons_zero]; try rfl)
            intro Kk hK
            refine step_append_known rfl (.tmp 26) (.tmp 31) 27 rfl _ _ rfl rfl _ _ (hrun2 _) ?_
            refine hK.out _ _ trivial (fun hHeld => ?_)
            clear hK Kk
            simp only [Act.put, List.setIfInBounds_toArray, List.set_cons_zero, List.set_cons_succ]
            refine wpAnyH_take (i := 11) (oi := ?p11x12a) (v := ?v11x12a) ?o11x12a (by kernel_rfl) (by kernel_rfl) (by kernel_rfl) ?q11x12a ?y11x12a hHeld ?r11x12a
            case o11x12a => (simp only [List.getElem?_toArray, List.getElem?_cons_succ, List.getElem?_cons_zero]; try rfl)
            case q11x12a => exact fun _ _ _ h => h
            case y11x12a => (refine Or.inl ⟨rfl, ?_⟩; intro wq hq; go_simp; try with_reducible rfl)
            simp only [Act.put, List.setIfInBounds_toArray, List.set_cons_zero, List.set_cons_succ]
            refine wpAnyH_ready (rs := [12]) (by kernel_rfl) (by simp) ?_
            refine (AllReadyH.cons (o := ?p12x13a) ?o12x13a ?s12x13a AllReadyH.nil)
            case o12x13a => (simp only [List.getElem?_toArray, List.getElem?_cons_succ, List.getElem?_cons_zero]; try rfl)
            intro Kk hK
            go_simp
            refine hK.out _ _ trivial (fun hHeld => ?_)
            clear hK Kk
            refine wpAnyH_done (by kernel_rfl) ?_ _
            rw [HW6.out]
            go_wp2
            refine bodyPost_ret (v := .tuple #[.agg #[.int .i64 me, .int .i64 next, .slice a4 nl c4], .bool true]) ?_ rfl HQ2.out
            exact res3 f18_res _ _ (w.heap.size + 1) _ _ _ rfl HQ1.out
          case s6x8a =>
            intro Kk hK
            go_simp
            refine hK.out _ _ trivial (fun hHeld => ?_)
            clear hK Kk
            refine wpAnyH_take (i := 9) (oi := ?p9x14a) (v := ?v9x14a) ?o9x14a (by kernel_rfl) (by kernel_rfl) (by kernel_rfl) ?q9x14a ?y9x14a hHeld ?r9x14a
            case o9x14a => (simp only [List.getElem?_toArray, List.getElem?_cons_succ, List.getElem?_cons_zero]; try rfl)
            case q9x14a => exact fun _ _ _ h => h
            case y9x14a => (refine Or.inl ⟨rfl, ?_⟩; intro wq hq; go_simp; try with_reducible rfl)
            simp only [Act.put, List.setIfInBounds_toArray, List.set_cons_zero, List.set_cons_succ]
            refine wpAnyH_ready (rs := [4]) (by kernel_rfl) (by simp) ?_
            refine (AllReadyH.cons (o := ?p4x15a) ?o4x15a ?s4x15a AllReadyH.nil)
            case o4x15a => (simp only [List.getElem?_toArray, List.getElem?_cons_succ, List.getElem?_cons_zero]; try rfl)
            intro Kk hK
            refine step_append_known rfl (.const (.slice none 0 0)) (.tmp 25) 27 rfl _ _ rfl rfl _ _ (hrun1 _) ?_
            refine hK.out _ _ trivial (fun hHeld => ?_)
            clear hK Kk
            simp only [Act.put, List.setIfInBounds_toArray, List.set_cons_zero, List.set_cons_succ]
            refine wpAnyH_ready (rs := [10]) (by kernel_rfl) (by simp) ?_
            refine (AllReadyH.cons (o := ?p10x16a) ?o10x16a ?s10x16a AllReadyH.nil)
            case o10x16a => (simp only [List.getElem?_toArray, List.getElem?_cons_succ, List.getElem?_cons_zero]; try rfl)
            intro Kk hK
            refine step_append_known rfl (.tmp 26) (.tmp 31) 27 rfl _ _ rfl rfl _ _ (hrun2 _) ?_
            refine hK.out _ _ trivial (fun hHeld => ?_)
            clear hK Kk
            simp only [Act.put, List.setIfInBounds_toArray, List.set_cons_zero, List.set_cons_succ]
            refine wpAnyH_take (i := 11) (oi := ?p11x17a) (v := ?v11x17a) ?o11x17a (by kernel_rfl) (by kernel_rfl) (by kernel_rfl) ?q11x17a ?y11x17a hHeld ?r11x17a
            case o11x17a => (simp only [List.getElem?_toArray, List.getElem?_cons_succ, List.getElem?_cons_zero]; try rfl)
            case q11x17a => exact fun _ _ _ h => h
            case y11x17a => (refine Or.inl ⟨rfl, ?_⟩; intro wq hq; go_simp; try with_reducible rfl)
            simp only [Act.put, List.setIfInBounds_toArray, List.set_cons_zero, List.set_cons_succ]
            refine wpAnyH_ready (rs := [12]) (by kernel_rfl) (by simp) ?_
            refine (AllReadyH.cons (o := ?p12x18a) ?o12x18a ?s12x18a AllReadyH.nil)
            case o12x18a => (simp only [List.getElem?_toArray, List.getElem?_cons_succ, List.getElem?_cons_zero]; try rfl)
            intro Kk hK
            go_simp
            refine hK.out _ _ trivial (fun hHeld => ?_)
            clear hK Kk
            refine wpAnyH_done (by kernel_rfl) ?_ _
            rw [HW6.out]
            go_wp2
            refine bodyPost_ret (v := .tuple #[.agg #[.int .i64 me, .int .i64 next, .slice a4 nl c4], .bool true]) ?_ rfl HQ2.out
            exact res3 f18_res _ _ (w.heap.size + 1) _ _ _ rfl HQ1.out
        case s6x6a =>
          intro Kk hK
          go_simp
          refine hK.out _ _ trivial (fun hHeld => ?_)
          clear hK Kk
          refine wpAnyH_take (i := 9) (oi := ?p9x19a) (v := ?v9x19a) ?o9x19a (by kernel_rfl) (by kernel_rfl) (by kernel_rfl) ?q9x19a ?y9x19a hHeld ?r9x19a
          case o9x19a => (simp only [List.getElem?_toArray, List.getElem?_cons_succ, List.getElem?_cons_zero]; try rfl)
          case q9x19a => exact fun _ _ _ h => h
          case y9x19a => (refine Or.inl ⟨rfl, ?_⟩; intro wq hq; go_simp; try with_reducible rfl)
          simp only [Act.put, List.setIfInBounds_toArray, List.set_cons_zero, List.set_cons_succ]
          refine wpAnyH_ready (rs := [1]) (by kernel_rfl) (by simp) ?_
          refine (AllReadyH.cons (o := ?p1x20a) ?o1x20a ?s1x20a AllReadyH.nil)
          case o1x20a => (simp only [List.getElem?_toArray, List.getElem?_cons_succ, List.getElem?_cons_zero]; try rfl)
          intro Kk hK
          go_simp
          refine hK.out _ _ trivial (fun hHeld => ?_)
          clear hK Kk
          refine wpAnyH_take (i := 3) (oi := ?p3x21a) (v := ?v3x21a) ?o3x21a (by kernel_rfl) (by kernel_rfl) (by kernel_rfl) ?q3x21a ?y3x21a hHeld ?r3x21a
          case o3x21a => (simp only [List.getElem?_toArray, List.getElem?_cons_succ, List.getElem?_cons_zero]; try rfl)
          case q3x21a => exact fun _ _ _ h => h
          case y3x21a => (refine Or.inl ⟨rfl, ?_⟩; intro wq hq; go_simp; try with_reducible rfl)
          simp only [Act.put, List.setIfInBounds_toArray, List.set_cons_zero, List.set_cons_succ]
          refine wpAnyH_ready (rs := [4]) (by kernel_rfl) (by simp) ?_
          refine (AllReadyH.cons (o := ?p4x22a) ?o4x22a ?s4x22a AllReadyH.nil)
          case o4x22a => (simp only [List.getElem?_toArray, List.getElem?_cons_succ, List.getElem?_cons_zero]; try rfl)
          intro Kk hK
          refine step_append_known rfl (.const (.slice none 0 0)) (.tmp 25) 27 rfl _ _ rfl rfl _ _ (hrun1 _) ?_
          refine hK.out _ _ trivial (fun hHeld => ?_)
          clear hK Kk
          simp only [Act.put, List.setIfInBounds_toArray, List.set_cons_zero, List.set_cons_succ]
          refine wpAnyH_ready (rs := [10]) (by kernel_rfl) (by simp) ?_
          refine (AllReadyH.cons (o := ?p10x23a) ?o10x23a ?s10x23a AllReadyH.nil)
          case o10x23a => (simp only [List.getElem?_toArray, List.getElem?_cons_succ, List.getElem?_cons_zero]; try rfl)
          intro Kk hK
          refine step_append_known rfl (.tmp 26) (.tmp 31) 27 rfl _ _ rfl rfl _ _ (hrun2 _) ?_
          refine hK.out _ _ trivial (fun hHeld => ?_)
          clear hK Kk
          simp only [Act.put, List.setIfInBounds_toArray, List.set_cons_zero, List.set_cons_succ]
          refine wpAnyH_take (i := 11) (oi := ?p11x24a) (v := ?v11x24a) ?o11x24a (by kernel_rfl) (by kernel_rfl) (by kernel_rfl) ?q11x24a ?y11x24a hHeld ?r11x24a
          case o11x24a => (simp only [List.getElem?_toArray, List.getElem?_cons_succ, List.getElem?_cons_zero]; try rfl)
          case q11x24a => exact fun _ _ _ h => h
          case y11x24a => (refine Or.inl ⟨rfl, ?_⟩; intro wq hq; go_simp; try with_reducible rfl)
          simp only [Act.put, List.setIfInBounds_toArray, List.set_cons_zero, List.set_cons_succ]
          refine wpAnyH_ready (rs := [12]) (by kernel_rfl) (by simp) ?_
          refine (AllReadyH.cons (o := ?p12x25a) ?o12x25a ?s12x25a AllReadyH.nil)
          case o12x25a => (simp only [List.getElem?_toArray, List.getElem?_cons_succ, List.getElem?_cons_zero]; try rfl)
          intro Kk hK
          go_simp
          refine hK.out _ _ trivial (fun hHeld => ?_)
          clear hK Kk
          refine wpAnyH_done (by kernel_rfl) ?_ _
          rw [HW6.out]
          go_wp2
          refine bodyPost_ret (v := .tuple #[.agg #[.int .i64 me, .int .i64 next, .slice a4 nl c4], .bool true]) ?_ rfl HQ2.out
          exact res3 f18_res _ _ (w.heap.size + 1) _ _ _ rfl HQ1.out
      · have hrun2 := hr4.2 hct
        clear hr4
        have hct2 : ¬ (cap = j + 1) := hct
        go_upto_region 4 with fail
        refine wp_region_held_drew (S := fun _ => True) (by kernel_rfl) trivial (fun hHeld => ?_)
        rw [hwd]
        clear hwd
        refine wpAnyH_take (i := 0) (oi := ?p0x1b) (v := ?v0x1b) ?o0x1b (by kernel_rfl) (by kernel_rfl) (by kernel_rfl) ?q0x1b ?y0x1b hHeld ?r0x1b
        case o0x1b => (simp only [List.getElem?_toArray, List.getElem?_cons_zero]; try rfl)
        case q0x1b => exact fun _ _ _ h => h
        case y0x1b => (refine Or.inl ⟨rfl, ?_⟩; intro wq hq; go_simp; try with_reducible rfl)
        simp only [Act.put, List.setIfInBounds_toArray, List.set_cons_zero, List.set_cons_succ]
        refine wpAnyH_take (i := 2) (oi := ?p2x2b) (v := ?v2x2b) ?o2x2b (by kernel_rfl) (by kernel_rfl) (by kernel_rfl) ?q2x2b ?y2x2b hHeld ?r2x2b
        case o2x2b => (simp only [List.getElem?_toArray, List.getElem?_cons_succ, List.getElem?_cons_zero]; try rfl)
        case q2x2b => exact fun _ _ _ h => h
        case y2x2b => (refine Or.inl ⟨rfl, ?_⟩; intro wq hq; go_simp; try with_reducible rfl)
        simp only [Act.put, List.setIfInBounds_toArray, List.set_cons_zero, List.set_cons_succ]
        refine wpAnyH_take (i := 5) (oi := ?p5x3b) (v := ?v5x3b) ?o5x3b (by kernel_rfl) (by kernel_rfl) (by kernel_rfl) ?q5x3b ?y5x3b hHeld ?r5x3b
        case o5x3b => (simp only [List.getElem?_toArray, List.getElem?_cons_succ, List.getElem?_cons_zero]; try rfl)
        case q5x3b => exact fun _ _ _ h => h
        case y5x3b => (refine Or.inl ⟨rfl, ?_⟩; intro wq hq; go_simp; try with_reducible rfl)
        simp only [Act.put, List.setIfInBounds_toArray, List.set_cons_zero, List.set_cons_succ]
        refine wpAnyH_take (i := 7) (oi := ?p7x4b) (v := ?v7x4b) ?o7x4b (by kernel_rfl) (by kernel_rfl) (by kernel_rfl) ?q7x4b ?y7x4b hHeld ?r7x4b
        case o7x4b => (simp only [List.getElem?_toArray, List.getElem?_cons_succ, List.getElem?_cons_zero]; try rfl)
        case q7x4b => exact fun _ _ _ h => h
        case y7x4b => (refine Or.inl ⟨rfl, ?_⟩; intro wq hq; go_simp; try with_reducible rfl)
        simp only [Act.put, List.setIfInBounds_toArray, List.set_cons_zero, List.set_cons_succ]
        refine wpAnyH_take (i := 8) (oi := ?p8x5b) (v := ?v8x5b) ?o8x5b (by kernel_rfl) (by kernel_rfl) (by kernel_rfl) ?q8x5b ?y8x5b hHeld ?r8x5b
        case o8x5b => (simp only [List.getElem?_toArray, List.getElem?_cons_succ, List.getElem?_cons_zero]; try rfl)
        case q8x5b => exact fun _ _ _ h => h
        case y8x5b => (refine Or.inl ⟨rfl, ?_⟩; intro wq hq; go_simp; try with_reducible rfl)
        simp only [Act.put, List.setIfInBounds_toArray, List.set_cons_zero, List.set_cons_succ]
        refine wpAnyH_ready (rs := [1, 6]) (by kernel_rfl) (by simp) ?_
        refine (AllReadyH.cons (o := ?p1x6b) ?o1x6b ?s1x6b (AllReadyH.cons (o := ?p6x6b) ?o6x6b ?s6x6b AllReadyH.nil))
        case o1x6b => (simp only [List.getElem?_toArray, List.getElem?_cons_succ, List.getElem?_cons_zero]; try rfl)
        case o6x6b => (simp only [List.getElem?_toArray, List.getElem?_cons_succ, List.getElem?_cons_zero]; try rfl)
        case s1x6b =>
          intro Kk hK
          go_simp
          refine hK.out _ _ trivial (fun hHeld => ?_)
          clear hK Kk
          refine wpAnyH_take (i := 3) (oi := ?p3x7b) (v := ?v3x7b) ?o3x7b (by kernel_rfl) (by kernel_rfl) (by kernel_rfl) ?q3x7b ?y3x7b hHeld ?r3x7b
          case o3x7b => (simp only [List.getElem?_toArray, List.getElem?_cons_succ, List.getElem?_cons_zero]; try rfl)
          case q3x7b => exact fun _ _ _ h => h
          case y3x7b => (refine Or.inl ⟨rfl, ?_⟩; intro wq hq; go_simp; try with_reducible rfl)
          simp only [Act.put, List.setIfInBounds_toArray, List.set_cons_zero, List.set_cons_succ]
          refine wpAnyH_ready (rs := [4, 6]) (by kernel_rfl) (by simp) ?_
          refine (AllReadyH.cons (o := ?p4x8b) ?o4x8b ?s4x8b (AllReadyH.cons (o := ?p6x8b) ?o6x8b ?s6x8b AllReadyH.nil))
          case o4x8b => (simp only [List.getElem?_toArray, List.getElem?_cons_succ, List.getElem?_cons_zero]; try rfl)
          case o6x8b => (simp only [List.getElem?_toArray, List.getElem?_cons_succ, List.getElem?_cons_zero]; try rfl)
          case s4x8b =>
            intro Kk hK
            refine step_append_known rfl (.const (.slice none 0 0)) (.tmp 25) 27 rfl _ _ rfl rfl _ _ (hrun1 _) ?_
            refine hK.out _ _ trivial (fun hHeld => ?_)
            clear hK Kk
            simp only [Act.put, List.setIfInBounds_toArray, List.set_cons_zero, List.set_cons_succ]
            refine wpAnyH_ready (rs := [6]) (by kernel_rfl) (by simp) ?_
            refine (AllReadyH.cons (o := ?p6x9b) ?o6x9b ?s6x9b AllReadyH.nil)
            case o6x9b => (simp only [List.getElem?_toArray, List.getElem?_cons_succ, List.getElem?_cons_zero]; try rfl)
            intro Kk hK
            go_simp
            refine hK.out _ _ trivial (fun hHeld => ?_)
            clear hK Kk
            refine wpAnyH_take (i := 9) (oi := ?p9x10b) (v := ?v9x10b) ?o9x10b (by kernel_rfl) (by kernel_rfl) (by kernel_rfl) ?q9x10b ?y9x10b hHeld ?r9x10b
            case o9x10b => (simp only [List.getElem?_toArray, List.getElem?_cons_succ, List.getElem?_cons_zero]; try rfl)
            case q9x10b => exact fun _ _ _ h => h
            case y9x10b => (refine Or.inl ⟨rfl, ?_⟩; intro wq hq; go_simp; try with_reducible rfl)
            simp only [Act.put, List.setIfInBounds_toArray, List.set_cons_zero, List.set_cons_succ]
            refine wpAnyH_ready (rs := [10]) (by kernel_rfl) (by simp) ?_
            refine (AllReadyH.cons (o := ?p10x11b) ?o10x11b ?s10x11b AllReadyH.nil)
            case o10x11b => (simp only [List.getElem?_toArray, List.getElem?_cons_succ, List.getElem?_cons_zero]; try rfl)
            intro Kk hK
            refine step_append_known rfl (.tmp 26) (.tmp 31) 27 rfl _ _ rfl rfl _ _ (hrun2 _) ?_
            refine hK.out _ _ trivial (fun hHeld => ?_)
            clear hK Kk
            simp only [Act.put, List.setIfInBounds_toArray, List.set_cons_zero, List.set_cons_succ]
            refine wpAnyH_take (i := 11) (oi := ?p11x12b) (v := ?v11x12b) ?o11x12b (by kernel_rfl) (by kernel_rfl) (by kernel_rfl) ?q11x12b ?y11x12b hHeld ?r11x12b
            case o11x12b => (simp only [List.getElem?_toArray, List.getElem?_cons_succ, List.getElem?_cons_zero]; try rfl)
            case q11x12b => exact fun _ _ _ h => h
            case y11x12b => (refine Or.inl ⟨rfl, ?_⟩; intro wq hq; go_simp; try with_reducible rfl)
            simp only [Act.put, List.setIfInBounds_toArray, List.set_cons_zero, List.set_cons_succ]
            refine wpAnyH_ready (rs := [12]) (by kernel_rfl) (by simp) ?_
            refine (AllReadyH.cons (o := ?p12x13b) ?o12x13b ?s12x13b AllReadyH.nil)
            case o12x13b => (simp only [List.getElem?_toArray, List.getElem?_cons_succ, List.getElem?_cons_zero]; try rfl)
            intro Kk hK
            go_simp
            refine hK.out _ _ trivial (fun hHeld => ?_)
            clear hK Kk
            refine wpAnyH_done (by kernel_rfl) ?_ _
            rw [HW6.out]
            go_wp2
            refine bodyPost_ret (v := .tuple #[.agg #[.int .i64 me, .int .i64 next, .slice a4 nl c4], .bool true]) ?_ rfl HQ2.out
            exact res3 f18_res _ _ (w.heap.size + 1) _ _ _ rfl HQ1.out
          case s6x8b =>
            intro Kk hK
            go_simp
            refine hK.out _ _ trivial (fun hHeld => ?_)
            clear hK Kk
            refine wpAnyH_take (i := 9) (oi := ?p9x14b) (v := ?v9x14b) ?o9x14b (by kernel_rfl) (by kernel_rfl) (by kernel_rfl) ?q9x14b ?y9x14b hHeld ?r9x14b
            case o9x14b => (simp only [List.getElem?_toArray, List.getElem?_cons_succ, List.getElem?_cons_zero]; try rfl)
            case q9x14b => exact fun _ _ _ h => h
            case y9x14b => (refine Or.inl ⟨rfl, ?_⟩; intro wq hq; go_simp; try with_reducible rfl)
            simp only [Act.put, List.setIfInBounds_toArray, List.set_cons_zero, List.set_cons_succ]
            refine wpAnyH_ready (rs := [4]) (by kernel_rfl) (by simp) ?_
            refine (AllReadyH.cons (o := ?p4x15b) ?o4x15b ?s4x15b AllReadyH.nil)
            case o4x15b => (simp only [List.getElem?_toArray, List.getElem?_cons_succ, List.getElem?_cons_zero]; try rfl)
            intro Kk hK
            refine step_append_known rfl (.const (.slice none 0 0)) (.tmp 25) 27 rfl _ _ rfl rfl _ _ (hrun1 _) ?_
            refine hK.out _ _ trivial (fun hHeld => ?_)
            clear hK Kk
            simp only [Act.put, List.setIfInBounds_toArray, List.set_cons_zero, List.set_cons_succ]
            refine wpAnyH_ready (rs := [10]) (by kernel_rfl) (by simp) ?_
            refine (AllReadyH.cons (o := ?p10x16b) ?o10x16b ?s10x16b AllReadyH.nil)
            case o10x16b => (simp only [List.getElem?_toArray, List.getElem?_cons_succ, List.getElem?_cons_zero]; try rfl)
            intro Kk hK
            refine step_append_known rfl (.tmp 26) (.tmp 31) 27 rfl _ _ rfl rfl _ _ (hrun2 _) ?_
            refine hK.out _ _ trivial (fun hHeld => ?_)
            clear hK Kk
            simp only [Act.put, List.setIfInBounds_toArray, List.set_cons_zero, List.set_cons_succ]
            refine wpAnyH_take (i := 11) (oi := ?p11x17b) (v := ?v11x17b) ?o11x17b (by kernel_rfl) (by kernel_rfl) (by kernel_rfl) ?q11x17b ?y11x17b hHeld ?r11x17b
            case o11x17b => (simp only [List.getElem?_toArray, List.getElem?_cons_succ, List.getElem?_cons_zero]; try rfl)
            case q11x17b => exact fun _ _ _ h => h
            case y11x17b => (refine Or.inl ⟨rfl, ?_⟩; intro wq hq; go_simp; try with_reducible rfl)
            simp only [Act.put, List.setIfInBounds_toArray, List.set_cons_zero, List.set_cons_succ]
            refine wpAnyH_ready (rs := [12]) (by kernel_rfl) (by simp) ?_
            refine (AllReadyH.cons (o := ?p12x18b) ?o12x18b ?s12x18b AllReadyH.nil)
            case o12x18b => (simp only [List.getElem?_toArray, List.getElem?_cons_succ, List.getElem?_cons_zero]; try rfl)
            intro Kk hK
            go_simp
            refine hK.out _ _ trivial (fun hHeld => ?_)
            clear hK Kk
            refine wpAnyH_done (by kernel_rfl) ?_ _
            rw [HW6.out]
            go_wp2
            refine bodyPost_ret (v := .tuple #[.agg #[.int .i64 me, .int .i64 next, .slice a4 nl c4], .bool true]) ?_ rfl HQ2.out
            exact res3 f18_res _ _ (w.heap.size + 1) _ _ _ rfl HQ1.out
        case s6x6b =>
          intro Kk hK
          go_simp
          refine hK.out _ _ trivial (fun hHeld => ?_)
          clear hK Kk
          refine wpAnyH_take (i := 9) (oi := ?p9x19b) (v := ?v9x19b) ?o9x19b (by kernel_rfl) (by kernel_rfl) (by kernel_rfl) ?q9x19b ?y9x19b hHeld ?r9x19b
          case o9x19b => (simp only [List.getElem?_toArray, List.getElem?_cons_succ, List.getElem?_cons_zero]; try rfl)
          case q9x19b => exact fun _ _ _ h => h
          case y9x19b => (refine Or.inl ⟨rfl, ?_⟩; intro wq hq; go_simp; try with_reducible rfl)
          simp only [Act.put, List.setIfInBounds_toArray, List.set_cons_zero, List.set_cons_succ]
          refine wpAnyH_ready (rs := [1]) (by kernel_rfl) (by simp) ?_
          refine (AllReadyH.cons (o := ?p1x20b) ?o1x20b ?s1x20b AllReadyH.nil)
          case o1x20b => (simp only [List.getElem?_toArray, List.getElem?_cons_succ, List.getElem?_cons_zero]; try rfl)
          intro Kk hK
          go_simp
          refine hK.out _ _ trivial (fun hHeld => ?_)
          clear hK Kk
          refine wpAnyH_take (i := 3) (oi := ?p3x21b) (v := ?v3x21b) ?o3x21b (by kernel_rfl) (by kernel_rfl) (by kernel_rfl) ?q3x21b ?y3x21b hHeld ?r3x21b
          case o3x21b => (simp only [List.getElem?_toArray, List.getElem?_cons_succ, List.getElem?_cons_zero]; try rfl)
          case q3x21b => exact fun _ _ _ h => h
          case y3x21b => (refine Or.inl ⟨rfl, ?_⟩; intro wq hq; go_simp; try with_reducible rfl)
          simp only [Act.put, List.setIfInBounds_toArray, List.set_cons_zero, List.set_cons_succ]
          refine wpAnyH_ready (rs := [4]) (by kernel_rfl) (by simp) ?_
          refine (AllReadyH.cons (o := ?p4x22b) ?o4x22b ?s4x22b AllReadyH.nil)
          case o4x22b => (simp only [List.getElem?_toArray, List.getElem?_cons_succ, List.getElem?_cons_zero]; try rfl)
          intro Kk hK
          refine step_append_known rfl (.const (.slice none 0 0)) (.tmp 25) 27 rfl _ _ rfl rfl _ _ (hrun1 _) ?_
          refine hK.out _ _ trivial (fun hHeld => ?_)
          clear hK Kk
          simp only [Act.put, List.setIfInBounds_toArray, List.set_cons_zero, List.set_cons_succ]
          refine wpAnyH_ready (rs := [10]) (by kernel_rfl) (by simp) ?_
          refine (AllReadyH.cons (o := ?p10x23b) ?o10x23b ?s10x23b AllReadyH.nil)
          case o10x23b => (simp only [List.getElem?_toArray, List.getElem?_cons_succ, List.getElem?_cons_zero]; try rfl)
          intro Kk hK
          refine step_append_known rfl (.tmp 26) (.tmp 31) 27 rfl _ _ rfl rfl _ _ (hrun2 _) ?_
          refine hK.out _ _ trivial (fun hHeld => ?_)
          clear hK Kk
          simp only [Act.put, List.setIfInBounds_toArray, List.set_cons_zero, List.set_cons_succ]
          refine wpAnyH_take (i := 11) (oi := ?p11x24b) (v := ?v11x24b) ?o11x24b (by kernel_rfl) (by kernel_rfl) (by kernel_rfl) ?q11x24b ?y11x24b hHeld ?r11x24b
          case o11x24b => (simp only [List.getElem?_toArray, List.getElem?_cons_succ, List.getElem?_cons_zero]; try rfl)
          case q11x24b => exact fun _ _ _ h => h
          case y11x24b => (refine Or.inl ⟨rfl, ?_⟩; intro wq hq; go_simp; try with_reducible rfl)
          simp only [Act.put, List.setIfInBounds_toArray, List.set_cons_zero, List.set_cons_succ]
          refine wpAnyH_ready (rs := [12]) (by kernel_rfl) (by simp) ?_
          refine (AllReadyH.cons (o := ?p12x25b) ?o12x25b ?s12x25b AllReadyH.nil)
          case o12x25b => (simp only [List.getElem?_toArray, List.getElem?_cons_succ, List.getElem?_cons_zero]; try rfl)
          intro Kk hK
          go_simp
          refine hK.out _ _ trivial (fun hHeld => ?_)
          clear hK Kk
          refine wpAnyH_done (by kernel_rfl) ?_ _
          rw [HW6.out]
          go_wp2
          refine bodyPost_ret (v := .tuple #[.agg #[.int .i64 me, .int .i64 next, .slice a4 nl c4], .bool true]) ?_ rfl HQ2.out
          exact res3 f18_res _ _ (w.heap.size + 1) _ _ _ rfl HQ1.out
end Go.Proofs.Ytbgbdiiinggjnaa
