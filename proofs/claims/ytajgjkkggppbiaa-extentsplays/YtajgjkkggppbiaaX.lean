/-
  The document's Cut, Hole and Move.
-/
import Derived.Test.YtajgjkkggppbiaaW
namespace Go.Proofs.Ytajgjkkggppbiaa
open Go.RowKit
set_option linter.unusedVariables false
open M (E)

theorem BC_take : ∀ (l : List (Int × Int)) (k : Nat), (BC l).take (k * 2) = BC (l.take k)
  | l, 0 => by simp [BC]
  | [], k + 1 => by simp [BC]
  | p :: r, k + 1 => by
    rw [BC, show (k + 1) * 2 = k * 2 + 1 + 1 by omega]
    simp only [List.take_succ_cons, BC, BC_take r k]
/-- How many bytes a cut leaves. -/
def cutN (L : List (Int × Int)) (a : Int) : Nat := (min (max a 0) L.length).toNat
set_option maxRecDepth 100000 in
set_option maxHeartbeats 4000000 in
theorem refCut_any (L : List (Int × Int)) (a : Option Addr) (cap : Nat) (c : Int) (w : World) (hl : L.length ≤ 16384) (ha : XB w a cap L) :
    Calls Try.prog 23 #[.agg #[.slice a L.length cap], .int .i64 c] w (GrowR w (L.take (cutN L c))) := by
  obtain ⟨W1, HW1⟩ : ∃ W1, Hid ((w.alloc (.cells #[.slice a L.length cap] 28)).alloc (.cells #[.slice none 0 0] 28) = W1) := ⟨_, rfl⟩
  have HB1 : Hid (Below w.heap.size w W1) := by rw [← HW1.out]; exact (bel1 w _).alloc (by simp) _
  have hs1 : W1.heap.size = w.heap.size + 2 := by rw [← HW1.out]; simp
  have hA1 := (ha.keep HB1.out).at'
  have hr0 : W1.heap[w.heap.size]? = some (.cells #[.slice a L.length cap] 28 (0, 0)) := by rw [← HW1.out]; exact heap_alloc2_old w _ _
  have hr1 : W1.heap[w.heap.size + 1]? = some (.cells #[.slice none 0 0] 28 (0, 0)) := by rw [← HW1.out]; exact heap_alloc2_new w _ _
  have c0 : ((w.alloc (.cells #[.slice a L.length cap] 28)).alloc (.cells #[.slice none 0 0] 28)).cell? ⟨w.heap.size, 0, none⟩ = some (.slice a L.length cap) := by rw [HW1.out]; exact (row1 hr0).1
  have c1 : W1.cell? ⟨w.heap.size, 0, none⟩ = some (.slice a L.length cap) := (row1 hr0).1
  obtain ⟨mx, hmx⟩ : ∃ mx, max c 0 = mx := ⟨_, rfl⟩
  obtain ⟨m, hm⟩ : ∃ m, cutN L c = m := ⟨_, rfl⟩
  have hmm : min mx (L.length : Int) = (m : Int) := by rw [← hm, ← hmx]; unfold cutN; omega
  have hml : m ≤ L.length := by omega
  rw [hm]
  have HFIN : Hid (∀ v3 w3, OwnB w3 W1.heap.size v3 (L.take m) → Below W1.heap.size W1 w3 → w3.heap[w.heap.size + 1]? = some (.cells #[.slice none 0 0] 28 (0, 0)) ∧ GrowR w (L.take m) (.returned (.agg #[v3])) (w3.setCell ⟨w.heap.size + 1, 0, none⟩ v3)) := by
    intro v3 w3 hown hbel
    refine ⟨(hbel.block _ (by omega)).trans hr1, v3, rfl, ?_, (bel_up HB1.out hbel (Nat.le_refl _)).setCell (by simp) _⟩
    refine OwnB.low (World.ownsRow.kept (row := some (w.heap.size + 1)) hown ⟨rfl, rfl, rfl, by simp, fun k hk hne => heap_setCell_other w3 ⟨w.heap.size + 1, 0, none⟩ k _ (fun e => hne (by rw [e]))⟩ ?_) (show w.heap.size ≤ W1.heap.size by omega)
    cases hv : v3.ownBlock with
    | none => exact .inl rfl
    | some k =>
      right
      intro e
      have := (World.ownsRow.lt hown k hv).1
      simp at e
      omega
  have hle := ha.le
  have hmx63 : cap ≤ 9223372036854775807 := by have := ha.mx; unfold maxLen at this; omega
  have HNIL := Hid_of ha.nil
  clear ha hr0 hr1 hm
  by_cases h0 : m = 0
  · subst h0
    have HK : Hid (GrowR w (L.take 0) (.returned (.agg #[.slice none 0 0])) ((w.alloc (.cells #[.slice a L.length cap] 28)).alloc (.cells #[.slice none 0 0] 28))) := ⟨_, rfl, by rw [List.take_zero]; exact World.ownsRow_nil _ _ _ _, (bel1 w _).alloc (by simp) _⟩
    have HR := Hid_of (heap_alloc2_new w (.cells #[.slice a L.length cap] 28) (.cells #[.slice none 0 0] 28))
    generalize L.take 0 = LT at *
    clear HFIN hA1 c1 HW1 HB1
    cases a with
    | none =>
      obtain rfl := HNIL.out rfl
      have hL0 : L.length = 0 := by omega
      rw [hL0] at c0 hmm HK HR ⊢
      have hmm0 : min mx (0 : Int) = 0 := by omega
      have hap := fun ty => run_append_nil0 ((w.alloc (.cells #[.slice none 0 0] 28)).alloc (.cells #[.slice none 0 0] 28)) ty none 0
      clear hmm HNIL hL0
      go_enter Try.func23, Try.ntmps23
      go_wp2_with (at_builtin; refine Lib.wpList_append_run _ rfl _ _ _ _ rfl _ _ rfl rfl _ _ (hap _) ?_)
      refine bodyPost_ret (v := .agg #[.slice none 0 0]) ?_ rfl HK.out
      exact results_cell_row f23_res _ _ (w.heap.size + 1) 28 _ (0, 0) _ rfl HR.out Try.underlying28 rfl Try.size28
    | some ad =>
      have hap := fun ty => run_append_nil0 ((w.alloc (.cells #[.slice (some ad) L.length cap] 28)).alloc (.cells #[.slice none 0 0] 28)) ty (some ad) cap
      have hmm0 : min mx (L.length : Int) = 0 := by omega
      clear hmm HNIL
      go_enter Try.func23, Try.ntmps23
      go_wp2_with (at_builtin; refine Lib.wpList_append_run _ rfl _ _ _ _ rfl _ _ rfl rfl _ _ (hap _) ?_)
      refine bodyPost_ret (v := .agg #[.slice none 0 0]) ?_ rfl HK.out
      exact results_cell_row f23_res _ _ (w.heap.size + 1) 28 _ (0, 0) _ rfl HR.out Try.underlying28 rfl Try.size28
  · obtain ⟨b, off, rfl, _, _⟩ := hA1 0 (by omega)
    have hAt : AtB W1 (some ⟨b, off, none⟩) (L.take m) := by
      intro j hj
      simp only [List.length_take] at hj
      rw [List.getElem_take]
      exact hA1 j (by omega)
    have HN : Hid (∀ j u, (BC (L.take m))[j]? = some u → W1.cell? ((⟨b, off, none⟩ : Addr).add j) = some u) := atB_cells hAt
    have htl : (L.take m).length = m := by simp; omega
    have HL : Hid ((BC (L.take m)).length = m * 2) := by show _ = _; rw [BC_len, htl]
    have H1 : Hid (∀ u ∈ BC (L.take m), u.oneCell' = true) := BC_one _
    have HTL := Hid_of htl
    have hmn : (m : Int) ≤ (cap : Int) := by omega
    have hmc : m ≤ cap := by omega
    clear hA1 hAt htl HNIL
    generalize L.take m = LT at *
    go_enter Try.func23, Try.ntmps23
    go_upto_region 2 with fail
    rw [HW1.out]
    clear HW1 c0
    go_wp2_with (at_builtin; refine wpList_append_lies _ rfl _ _ 26 rfl W1.heap.size 62 Try.t62 _ 2 16 Try.underlying26 hi62 hz62 hs62 hb62 rfl (by decide) _ 0 [] rfl (World.ownsRow_nil _ _ _ _) ⟨b, off, none⟩ m cap (BC LT) rfl HL.out HN.out H1.out (by omega) (by unfold maxLen; omega) (by omega) (Nat.le_refl _) _ rfl ?_; intro g3 cp w3 hown3 hgrow hat hlt; have hrw := rw_lies (v := .slice none 0 0) (n := 0 + m) (cp := cp) hgrow hat rfl; have hbel := hrw.below (B := W1.heap.size) (fun k hk => by simp [Value.ownBlock] at hk) (Nat.le_refl _); obtain ⟨e1, hk3⟩ := HFIN.out (.slice (some ⟨g3, 0, none⟩) m cp) w3 (by unfold OwnB; have h3 := hown3; rw [Nat.zero_add, List.nil_append] at h3; rw [HTL.out]; exact h3) hbel; obtain ⟨q0, q1⟩ := row1 e1; have HRR := Hid_of (heap_setCell_same w3 (w.heap.size + 1) 0 _ _ (.slice (some ⟨g3, 0, none⟩) m cp) e1); have HK := Hid_of hk3; clear hgrow hat hrw hown3 hbel hk3 e1 HFIN)
    refine bodyPost_ret (v := .agg #[.slice (some ⟨g3, 0, none⟩) m cp]) ?_ rfl HK.out
    exact results_cell_row f23_res _ _ (w.heap.size + 1) 28 _ (0, 0) _ rfl HRR.out Try.underlying28 rfl Try.size28

/-- The first bytes have been gone over. -/
theorem over_step (L Lk : List (Int × Int)) (F : Nat → Int × Int) (k : Nat) (hk : k < Lk.length) (h : ∀ i : Nat, Lk.getD i (-1, 0) = if i < k then F i else L.getD i (-1, 0)) :
    ∀ i : Nat, (Lk.set k (F k)).getD i (-1, 0) = if i < k + 1 then F i else L.getD i (-1, 0) := by
  intro i
  rw [List.getD_eq_getElem?_getD, List.getElem?_set]
  by_cases he : k = i
  · rw [if_pos he, if_pos (by omega), if_pos (by omega), he]
    rfl
  · rw [if_neg he, ← List.getD_eq_getElem?_getD, h]
    by_cases hi : i < k
    · rw [if_pos hi, if_pos (by omega)]
    · rw [if_neg hi, if_neg (by omega)]
theorem over_skip (L Lk : List (Int × Int)) (F : Nat → Int × Int) (k : Nat) (hF : F k = L.getD k (-1, 0)) (h : ∀ i : Nat, Lk.getD i (-1, 0) = if i < k then F i else L.getD i (-1, 0)) :
    ∀ i : Nat, Lk.getD i (-1, 0) = if i < k + 1 then F i else L.getD i (-1, 0) := by
  intro i
  rw [h]
  by_cases he : i = k
  · subst he; rw [if_neg (by omega), if_pos (by omega), hF]
  · by_cases hi : i < k
    · rw [if_pos hi, if_pos (by omega)]
    · rw [if_neg hi, if_neg (by omega)]
theorem grw_zero (L : List (Int × Int)) : grw L 0 = L := by unfold grw; simp
/-- What the document's Hole leaves. -/
def HolR (w : World) (L : List (Int × Int)) (c n : Int) (x : Ending) (w' : World) : Prop := ∃ L', GrowR w L' x w' ∧ L'.length = L.length ∧ ∀ i : Nat, L'.getD i (-1, 0) = if i < L.length ∧ inn i c n = true then (-1, 0) else L.getD i (-1, 0)
set_option maxRecDepth 100000 in
set_option maxHeartbeats 4000000 in
theorem refHole_any (L : List (Int × Int)) (a : Option Addr) (cap : Nat) (c n : Int) (w : World) (hl : L.length ≤ 16384) (ha : XB w a cap L) (hn : n ≤ 9223372036854775807) :
    Calls Try.prog 25 #[.agg #[.slice a L.length cap], .int .i64 c, .int .i64 n] w (HolR w L c n) := by
  obtain ⟨W1, HW1⟩ : ∃ W1, Hid ((w.alloc (.cells #[.slice a L.length cap] 28)).alloc (.cells #[.slice none 0 0] 28) = W1) := ⟨_, rfl⟩
  have HB1 : Hid (Below w.heap.size w W1) := by rw [← HW1.out]; exact (bel1 w _).alloc (by simp) _
  have hs1 : W1.heap.size = w.heap.size + 2 := by rw [← HW1.out]; simp
  have hr0 : W1.heap[w.heap.size]? = some (.cells #[.slice a L.length cap] 28 (0, 0)) := by rw [← HW1.out]; exact heap_alloc2_old w _ _
  have hr1 : W1.heap[w.heap.size + 1]? = some (.cells #[.slice none 0 0] 28 (0, 0)) := by rw [← HW1.out]; exact heap_alloc2_new w _ _
  have c0 : ((w.alloc (.cells #[.slice a L.length cap] 28)).alloc (.cells #[.slice none 0 0] 28)).cell? ⟨w.heap.size, 0, none⟩ = some (.slice a L.length cap) := by rw [HW1.out]; exact (row1 hr0).1
  have hgc := grown_any L a cap 0 W1 hl (by omega) (ha.keep HB1.out)
  rw [grw_zero] at hgc
  have hin := fun (k : Nat) (w' : World) (hk : k < 16384) => in_any (k : Int) c n w' (by omega) (by omega) hn
  clear ha hn
  go_enter Try.func25, Try.ntmps25
  go_wp2_with fail
  rw [HW1.out]
  refine hgc.mono ?_
  rintro x w2 hx
  obtain ⟨v2, rfl, own2, B2⟩ := hx
  obtain ⟨a2, cp2, rfl, _, _⟩ := ownB_at own2
  have hb0 := (B2.block _ (by omega)).trans hr0
  have hb1 := (B2.block _ (by omega)).trans hr1
  obtain ⟨q0, q1⟩ := row1 hb0
  clear HW1 hgc c0
  obtain ⟨W3, hW3⟩ : ∃ W3, w2.setCell ⟨w.heap.size, 0, none⟩ (.slice a2 L.length cp2) = W3 := ⟨_, rfl⟩
  have HOW : Hid (OwnB W3 W1.heap.size (.slice a2 L.length cp2) L) := by
    rw [← hW3]
    refine World.ownsRow.kept (row := some w.heap.size) own2 ⟨rfl, rfl, rfl, by simp, fun k hk hne => heap_setCell_other w2 ⟨w.heap.size, 0, none⟩ k _ (fun e => hne (by rw [e]))⟩ ?_
    cases hv : (Value.slice a2 L.length cp2).ownBlock with
    | none => exact .inl rfl
    | some k =>
      right
      intro e
      have := (World.ownsRow.lt own2 k hv).1
      simp at e
      omega
  have HB3 : Hid (Below w.heap.size w W3) := by rw [← hW3]; exact (bel_up HB1.out B2 (Nat.le_refl _)).setCell (Nat.le_refl _) _
  have hr0' : W3.heap[w.heap.size]? = some (.cells #[.slice a2 L.length cp2] 28 (0, 0)) := by rw [← hW3]; exact heap_setCell_same w2 _ 0 _ _ _ hb0
  have hr1' : W3.heap[w.heap.size + 1]? = some (.cells #[.slice none 0 0] 28 (0, 0)) := by rw [← hW3]; exact (heap_setCell_other w2 _ _ _ (by simp)).trans hb1
  have HRW : Hid (∀ w', Below W1.heap.size W3 w' → w'.heap[w.heap.size]? = some (.cells #[.slice a2 L.length cp2] 28 (0, 0)) ∧ w'.heap[w.heap.size + 1]? = some (.cells #[.slice none 0 0] 28 (0, 0))) := fun w' hb' => ⟨(hb'.block _ (by omega)).trans hr0', (hb'.block _ (by omega)).trans hr1'⟩
  clear own2 B2 hr0 hr1 hr0' hr1' hb0 hb1
  obtain ⟨nn, hnn⟩ : ∃ nn : Nat, L.length = nn := ⟨_, rfl⟩
  have HNN := Hid_of hnn
  rw [hnn] at HOW HRW hW3 hl
  have HEND : Hid (∀ v' w' L', OwnB w' w.heap.size v' L' → L'.length = nn → (∀ i : Nat, L'.getD i (-1, 0) = if i < nn then (if inn i c n = true then (-1, 0) else L.getD i (-1, 0)) else L.getD i (-1, 0)) → Below w.heap.size w w' → HolR w L c n (.returned (.agg #[v'])) w') := by
    intro v' w' L' h1 h2 h3 h4
    refine ⟨L', ⟨v', rfl, h1, h4⟩, by rw [h2, HNN.out], fun i => ?_⟩
    rw [h3, HNN.out]
    by_cases hi : i < nn
    · rw [if_pos hi]
      by_cases hq : inn i c n = true
      · rw [if_pos hq, if_pos ⟨hi, hq⟩]
      · rw [if_neg hq, if_neg (fun h => hq h.2)]
    · rw [if_neg hi, if_neg (fun h => hi h.1)]
  go_wp2
  try rw [hW3]
  clear hW3 q0 q1
  try rw [hnn]
  go_loopw [7] (fun i wr => ∃ (k : Nat) (Lk : List (Int × Int)), k ≤ nn ∧ i = .int .i64 k ∧ OwnB wr W1.heap.size (.slice a2 nn cp2) Lk ∧ Lk.length = nn ∧ Below W1.heap.size W3 wr ∧ Hid (∀ i : Nat, Lk.getD i (-1, 0) = if i < k then (if inn i c n = true then (-1, 0) else L.getD i (-1, 0)) else L.getD i (-1, 0))) (fun i _ => nn - (intOf i).toNat)
  case atStart => exact ⟨0, L, by omega, rfl, HOW.out, hnn, Below.refl _ _, fun i => by rw [if_neg (by omega)]⟩
  case round =>
    obtain ⟨k, Lk, hk, rfl, hown, hlk, hbel, HF⟩ := hrel
    clear HOW hnn
    obtain ⟨hr0, hr1⟩ := HRW.out wr hbel
    obtain ⟨x0, x1⟩ := row1 hr0
    obtain ⟨z0, z1⟩ := row1 hr1
    by_cases hlt : k < nn
    · have hink := hin k wr (by omega)
      obtain ⟨g, cp, hv, hbg, hgw, ⟨c0, c1⟩, hfr, hset, hset0⟩ := ownB_set hown k (by omega)
      simp only [Value.slice.injEq] at hv
      obtain ⟨rfl, hlx, rfl⟩ := hv
      clear hlx hset0
      have f0 := hfr (k * 2)
      have f1 := hfr (k * 2 + 1)
      have HOWN := Hid_of hown
      have HBEL := Hid_of hbel
      have HLKL := Hid_of hlk
      have hbd : k < Lk.length := by omega
      generalize Lk[k].1 = o1 at c0
      generalize Lk[k].2 = o2 at c1
      cases hq : inn k c n
      · rw [hq] at hink
        have HST : Hid _ := over_skip L Lk (fun i => if inn i c n = true then (-1, 0) else L.getD i (-1, 0)) k (by simp [hq]) HF.out
        clear HF hset hfr hown hbel hr0 hr1 z0 z1 hlk hq hin hbd
        go_wp2_with fail
        refine hink.mono ?_
        rintro x w4 ⟨rfl, rfl⟩
        go_wp2
        go_roundw
        case rel => exact ⟨k + 1, Lk, by omega, by go_num, HOWN.out, HLKL.out, HBEL.out, HST.out⟩
        case measure => simp [intOf]; omega
      · rw [hq] at hink
        have HST : Hid _ := over_step L Lk (fun i => if inn i c n = true then (-1, 0) else L.getD i (-1, 0)) k hbd HF.out
        have HVK : Hid ((if inn k c n = true then ((-1, 0) : Int × Int) else L.getD k (-1, 0)) = (-1, 0)) := by show _ = _; simp [hq]
        rw [HVK.out] at HST
        have HOS := Hid_of (hset (-1, 0))
        have HBS : Hid (Below W1.heap.size W3 ((wr.setCell ⟨g, k * 2, none⟩ (.int .i64 (-1))).setCell ⟨g, k * 2 + 1, none⟩ (.int .i64 0))) := (hbel.setCell hbg _).setCell hbg _
        have HLS : Hid ((Lk.set k ((-1, 0) : Int × Int)).length = nn) := by show _ = _; simp; omega
        clear HF hset hfr hown hbel hr0 hr1 z0 z1 hlk hq hin hbd
        go_wp2_with fail
        refine hink.mono ?_
        rintro x w4 ⟨rfl, rfl⟩
        go_wp2
        go_roundw
        case rel => exact ⟨k + 1, _, by omega, by go_num, HOS.out, HLS.out, HBS.out, HST.out⟩
        case measure => simp [intOf]; omega
    · have hkp : k = nn := by omega
      subst hkp
      have HRR := Hid_of (heap_setCell_same wr (w.heap.size + 1) 0 _ _ (.slice a2 k cp2) hr1)
      have HK : Hid (HolR w L c n (.returned (.agg #[.slice a2 k cp2])) (wr.setCell ⟨w.heap.size + 1, 0, none⟩ (.slice a2 k cp2))) := by
        refine HEND.out _ _ Lk ?_ hlk HF.out ?_
        · refine OwnB.low (World.ownsRow.kept (row := some (w.heap.size + 1)) hown ⟨rfl, rfl, rfl, by simp, fun k hk hne => heap_setCell_other wr ⟨w.heap.size + 1, 0, none⟩ k _ (fun e => hne (by rw [e]))⟩ ?_) (show w.heap.size ≤ W1.heap.size by omega)
          cases hv : (Value.slice a2 k cp2).ownBlock with
          | none => exact .inl rfl
          | some k =>
            right
            intro e
            have := (World.ownsRow.lt hown k hv).1
            simp at e
            omega
        · exact (HB3.out.trans (hbel.mono (by omega))).setCell (by simp) _
      clear HF hown hbel hr0 hr1 HEND hlk hin
      go_wp2
      refine bodyPost_ret (v := .agg #[.slice a2 k cp2]) ?_ rfl HK.out
      exact results_cell_row f25_res _ _ (w.heap.size + 1) 28 _ (0, 0) _ rfl HRR.out Try.underlying28 rfl Try.size28
end Go.Proofs.Ytajgjkkggppbiaa
