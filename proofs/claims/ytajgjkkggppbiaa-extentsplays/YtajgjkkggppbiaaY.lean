/-
  The document's Move.
-/
import Derived.Test.YtajgjkkggppbiaaX
namespace Go.Proofs.Ytajgjkkggppbiaa
open Go.RowKit
set_option linter.unusedVariables false
open M (E)

/-- Which bytes the document's Move moves, and what it leaves. -/
def movQ (L : List (Int × Int)) (id c n tg : Int) (j : Nat) : Bool := decide (0 ≤ id) && decide (0 ≤ tg) && ((L.getD j (-1, 0)).1 == id) && inn (L.getD j (-1, 0)).2 c n
def movG (L : List (Int × Int)) (id c n tg : Int) (j : Nat) : Int × Int := if movQ L id c n tg j = true then (tg, (L.getD j (-1, 0)).2) else L.getD j (-1, 0)
def MovR (w : World) (L : List (Int × Int)) (id c n tg : Int) (x : Ending) (w' : World) : Prop :=
  ∃ v' L', x = .returned (.tuple #[.agg #[v'], .int .i64 (M.cnt (movQ L id c n tg) L.length)]) ∧ OwnB w' w.heap.size v' L' ∧ L'.length = L.length ∧ (∀ i : Nat, L'.getD i (-1, 0) = if i < L.length then movG L id c n tg i else L.getD i (-1, 0)) ∧ Below w.heap.size w w'
set_option maxRecDepth 100000 in
set_option maxHeartbeats 4000000 in
theorem refMove_any (L : List (Int × Int)) (a : Option Addr) (cap : Nat) (id c n tg : Int) (w : World) (hl : L.length ≤ 16384) (ha : XB w a cap L) (hn : n ≤ 9223372036854775807) (hfb : ∀ j (h : j < L.length), 0 ≤ L[j].1 → 0 ≤ L[j].2 ∧ L[j].2 ≤ 1099511627776) :
    Calls Try.prog 26 #[.agg #[.slice a L.length cap], .int .i64 id, .int .i64 c, .int .i64 n, .int .i64 tg] w (MovR w L id c n tg) := by
  obtain ⟨W1, HW1⟩ : ∃ W1, Hid ((w.alloc (.cells #[.slice a L.length cap] 28)).alloc (.cells #[.slice none 0 0] 28) = W1) := ⟨_, rfl⟩
  have HB1 : Hid (Below w.heap.size w W1) := by rw [← HW1.out]; exact (bel1 w _).alloc (by simp) _
  have hs1 : W1.heap.size = w.heap.size + 2 := by rw [← HW1.out]; simp
  have hr0 : W1.heap[w.heap.size]? = some (.cells #[.slice a L.length cap] 28 (0, 0)) := by rw [← HW1.out]; exact heap_alloc2_old w _ _
  have hr1 : W1.heap[w.heap.size + 1]? = some (.cells #[.slice none 0 0] 28 (0, 0)) := by rw [← HW1.out]; exact heap_alloc2_new w _ _
  have c0 : ((w.alloc (.cells #[.slice a L.length cap] 28)).alloc (.cells #[.slice none 0 0] 28)).cell? ⟨w.heap.size, 0, none⟩ = some (.slice a L.length cap) := by rw [HW1.out]; exact (row1 hr0).1
  have hgc := grown_any L a cap 0 W1 hl (by omega) (ha.keep HB1.out)
  rw [grw_zero] at hgc
  have hin := fun (f : Int) (w' : World) (h1 : 0 ≤ f) (h2 : f ≤ 1099511627776) => in_any f c n w' h1 h2 hn
  clear ha hn
  go_enter Try.func26, Try.ntmps26
  go_wp2_with fail
  rw [HW1.out]
  refine hgc.mono ?_
  rintro x w2 hx
  obtain ⟨v2, rfl, own2, B2⟩ := hx
  obtain ⟨a2, cp2, rfl, _, _⟩ := ownB_at own2
  have hb0 := (B2.block _ (by omega)).trans hr0
  have hb1 := (B2.block _ (by omega)).trans hr1
  obtain ⟨q0, q1⟩ := row1 hb0
  clear HW1 hgc c0
  obtain ⟨W3, hW3⟩ : ∃ W3, w2.setCell ⟨w.heap.size, 0, none⟩ (.slice a2 L.length cp2) = W3 := ⟨_, rfl⟩
  have HOW : Hid (OwnB W3 W1.heap.size (.slice a2 L.length cp2) L) := by
    rw [← hW3]
    refine World.ownsRow.kept (row := some w.heap.size) own2 ⟨rfl, rfl, rfl, by simp, fun k hk hne => heap_setCell_other w2 ⟨w.heap.size, 0, none⟩ k _ (fun e => hne (by rw [e]))⟩ ?_
    cases hv : (Value.slice a2 L.length cp2).ownBlock with
    | none => exact .inl rfl
    | some k =>
      right
      intro e
      have := (World.ownsRow.lt own2 k hv).1
      simp at e
      omega
  have HB3 : Hid (Below w.heap.size w W3) := by rw [← hW3]; exact (bel_up HB1.out B2 (Nat.le_refl _)).setCell (Nat.le_refl _) _
  have hr0' : W3.heap[w.heap.size]? = some (.cells #[.slice a2 L.length cp2] 28 (0, 0)) := by rw [← hW3]; exact heap_setCell_same w2 _ 0 _ _ _ hb0
  have hr1' : W3.heap[w.heap.size + 1]? = some (.cells #[.slice none 0 0] 28 (0, 0)) := by rw [← hW3]; exact (heap_setCell_other w2 _ _ _ (by simp)).trans hb1
  have HRW : Hid (∀ w', Below W1.heap.size W3 w' → w'.heap[w.heap.size]? = some (.cells #[.slice a2 L.length cp2] 28 (0, 0)) ∧ w'.heap[w.heap.size + 1]? = some (.cells #[.slice none 0 0] 28 (0, 0))) := fun w' hb' => ⟨(hb'.block _ (by omega)).trans hr0', (hb'.block _ (by omega)).trans hr1'⟩
  clear own2 B2 hr0 hr1 hr0' hr1' hb0 hb1
  have HEND : Hid (∀ v' w' L', OwnB w' w.heap.size v' L' → L'.length = L.length → (∀ i : Nat, L'.getD i (-1, 0) = if i < L.length then movG L id c n tg i else L.getD i (-1, 0)) → Below w.heap.size w w' → MovR w L id c n tg (.returned (.tuple #[.agg #[v'], .int .i64 (M.cnt (movQ L id c n tg) L.length)])) w') := fun v' w' L' h1 h2 h3 h4 => ⟨v', L', rfl, h1, h2, h3, h4⟩
  go_wp2
  try rw [hW3]
  clear hW3 q0 q1
  go_loopw [12, 13] (fun cc i wr => ∃ (k : Nat) (Lk : List (Int × Int)), k ≤ L.length ∧ i = .int .i64 k ∧ cc = .int .i64 (M.cnt (movQ L id c n tg) k) ∧ OwnB wr W1.heap.size (.slice a2 L.length cp2) Lk ∧ Lk.length = L.length ∧ Below W1.heap.size W3 wr ∧ Hid (∀ i : Nat, Lk.getD i (-1, 0) = if i < k then movG L id c n tg i else L.getD i (-1, 0))) (fun _ i _ => L.length - (intOf i).toNat)
  case atStart => exact ⟨0, L, by omega, rfl, rfl, HOW.out, rfl, Below.refl _ _, fun i => by rw [if_neg (by omega)]⟩
  case round =>
    obtain ⟨k, Lk, hk, rfl, rfl, hown, hlk, hbel, HF⟩ := hrel
    clear HOW
    obtain ⟨hr0, hr1⟩ := HRW.out wr hbel
    obtain ⟨x0, x1⟩ := row1 hr0
    obtain ⟨z0, z1⟩ := row1 hr1
    by_cases hlt : k < L.length
    · obtain ⟨g, cp, hv, hbg, hgw, ⟨c0, c1⟩, hfr, hset, hset0⟩ := ownB_set hown k (by omega)
      simp only [Value.slice.injEq] at hv
      obtain ⟨rfl, hlx, rfl⟩ := hv
      clear hlx hset
      have hLk : Lk[k]'(by omega) = L[k] := by
        have := HF.out k
        rw [if_neg (by omega), getD_in Lk k (by omega), getD_in L k hlt] at this
        exact this
      rw [hLk] at c0 c1 hset0
      have f0 := hfr (k * 2)
      have hfk := hfb k hlt
      have HQ : Hid (movQ L id c n tg k = (decide (0 ≤ id) && decide (0 ≤ tg) && (L[k].1 == id) && inn L[k].2 c n)) := by show _ = _; unfold movQ; rw [getD_in L k hlt]
      have HC : Hid (M.cnt (movQ L id c n tg) (k + 1) = M.cnt (movQ L id c n tg) k + if movQ L id c n tg k then 1 else 0) := by show _ = _; rw [M.cnt]
      have HG : Hid (movG L id c n tg k = if movQ L id c n tg k = true then (tg, L[k].2) else L[k]) := by show _ = _; unfold movG; rw [getD_in L k hlt]
      have hbd := M.cnt_bd (movQ L id c n tg) k
      have hw1 : IntKind.i64.wrap (M.cnt (movQ L id c n tg) k + 1) = M.cnt (movQ L id c n tg) k + 1 := by rw [IntKind.wrap_i64]; omega
      have HNO : Hid (movQ L id c n tg k = false → OwnB wr W1.heap.size (.slice (some ⟨g, 0, none⟩) L.length cp2) Lk ∧ Lk.length = L.length ∧ Below W1.heap.size W3 wr ∧ (∀ i : Nat, Lk.getD i (-1, 0) = if i < k + 1 then movG L id c n tg i else L.getD i (-1, 0))) := by
        intro hq
        refine ⟨hown, hlk, hbel, over_skip L Lk (movG L id c n tg) k ?_ HF.out⟩
        rw [HG.out, hq, getD_in L k hlt]
        simp
      have HYES : Hid (movQ L id c n tg k = true → OwnB (wr.setCell ⟨g, k * 2, none⟩ (.int .i64 tg)) W1.heap.size (.slice (some ⟨g, 0, none⟩) L.length cp2) (Lk.set k (tg, L[k].2)) ∧ (Lk.set k (tg, L[k].2)).length = L.length ∧ Below W1.heap.size W3 (wr.setCell ⟨g, k * 2, none⟩ (.int .i64 tg)) ∧ (∀ i : Nat, (Lk.set k (tg, L[k].2)).getD i (-1, 0) = if i < k + 1 then movG L id c n tg i else L.getD i (-1, 0))) := by
        intro hq
        have hg : movG L id c n tg k = (tg, L[k].2) := by rw [HG.out, if_pos hq]
        refine ⟨hset0 tg, by simp; omega, hbel.setCell hbg _, ?_⟩
        rw [← hg]
        exact over_step L Lk (movG L id c n tg) k (by omega) HF.out
      have HYS : Hid (movQ L id c n tg k = true → ∃ L2, OwnB (wr.setCell ⟨g, k * 2, none⟩ (.int .i64 tg)) W1.heap.size (.slice (some ⟨g, 0, none⟩) L.length cp2) L2 ∧ L2.length = L.length ∧ Below W1.heap.size W3 (wr.setCell ⟨g, k * 2, none⟩ (.int .i64 tg)) ∧ (∀ i : Nat, L2.getD i (-1, 0) = if i < k + 1 then movG L id c n tg i else L.getD i (-1, 0))) := fun hq => ⟨_, HYES.out hq⟩
      clear HYES HG hset0 hLk hfr hown hbel HF hlk hr0 hr1 z0 z1 hfb hbd
      generalize L[k].1 = d at *
      generalize L[k].2 = f at *
      generalize movQ L id c n tg k = qk at *
      generalize M.cnt (movQ L id c n tg) k = ck at *
      cases e1 : decide (0 ≤ id)
      · rw [e1] at HQ
        obtain rfl : qk = false := by rw [HQ.out]; rfl
        have HN := Hid_of (HNO.out rfl)
        clear HNO HYS hin hfk HQ
        go_wp2
        go_roundw
        case rel => exact ⟨k + 1, Lk, by omega, by go_num, by rw [HC.out]; simp, HN.out.1, HN.out.2.1, HN.out.2.2.1, HN.out.2.2.2⟩
        case measure => simp [intOf]; omega
      rw [e1] at HQ
      cases e2 : decide (0 ≤ tg)
      · rw [e2] at HQ
        obtain rfl : qk = false := by rw [HQ.out]; rfl
        have HN := Hid_of (HNO.out rfl)
        clear HNO HYS hin hfk HQ
        go_wp2
        go_roundw
        case rel => exact ⟨k + 1, Lk, by omega, by go_num, by rw [HC.out]; simp, HN.out.1, HN.out.2.1, HN.out.2.2.1, HN.out.2.2.2⟩
        case measure => simp [intOf]; omega
      rw [e2] at HQ
      cases e3 : (d == id)
      · rw [e3] at HQ
        obtain rfl : qk = false := by rw [HQ.out]; rfl
        have HN := Hid_of (HNO.out rfl)
        clear HNO HYS hin hfk HQ
        go_wp2
        go_roundw
        case rel => exact ⟨k + 1, Lk, by omega, by go_num, by rw [HC.out]; simp, HN.out.1, HN.out.2.1, HN.out.2.2.1, HN.out.2.2.2⟩
        case measure => simp [intOf]; omega
      rw [e3] at HQ
      have hf := hfk (by simp at e1 e3; omega)
      have hink := hin f wr hf.1 hf.2
      clear hfk hin hf
      cases e4 : inn f c n
      · rw [e4] at HQ hink
        obtain rfl : qk = false := by rw [HQ.out]; rfl
        have HN := Hid_of (HNO.out rfl)
        clear HNO HYS HQ e4
        go_wp2_with fail
        refine hink.mono ?_
        rintro x w4 ⟨rfl, rfl⟩
        go_wp2
        go_roundw
        case rel => exact ⟨k + 1, Lk, by omega, by go_num, by rw [HC.out]; simp, HN.out.1, HN.out.2.1, HN.out.2.2.1, HN.out.2.2.2⟩
        case measure => simp [intOf]; omega
      · rw [e4] at HQ hink
        obtain rfl : qk = true := by rw [HQ.out]; rfl
        obtain ⟨L2, hy⟩ := HYS.out rfl
        have HN := Hid_of hy
        clear HNO HYS HQ e4 hy
        go_wp2_with fail
        refine hink.mono ?_
        rintro x w4 ⟨rfl, rfl⟩
        go_wp2
        go_roundw
        case rel => exact ⟨k + 1, L2, by omega, by go_num, by rw [HC.out]; simp, HN.out.1, HN.out.2.1, HN.out.2.2.1, HN.out.2.2.2⟩
        case measure => simp [intOf]; omega
    · have hkp : k = L.length := by omega
      subst hkp
      have HRR := Hid_of (heap_setCell_same wr (w.heap.size + 1) 0 _ _ (.slice a2 L.length cp2) hr1)
      have HK : Hid (MovR w L id c n tg (.returned (.tuple #[.agg #[.slice a2 L.length cp2], .int .i64 (M.cnt (movQ L id c n tg) L.length)])) (wr.setCell ⟨w.heap.size + 1, 0, none⟩ (.slice a2 L.length cp2))) := by
        refine HEND.out _ _ Lk ?_ hlk HF.out ?_
        · refine OwnB.low (World.ownsRow.kept (row := some (w.heap.size + 1)) hown ⟨rfl, rfl, rfl, by simp, fun k hk hne => heap_setCell_other wr ⟨w.heap.size + 1, 0, none⟩ k _ (fun e => hne (by rw [e]))⟩ ?_) (show w.heap.size ≤ W1.heap.size by omega)
          cases hv : (Value.slice a2 L.length cp2).ownBlock with
          | none => exact .inl rfl
          | some k =>
            right
            intro e
            have := (World.ownsRow.lt hown k hv).1
            simp at e
            omega
        · exact (HB3.out.trans (hbel.mono (by omega))).setCell (by simp) _
      clear HF hown hbel hr0 hr1 HEND hlk hin hfb
      generalize M.cnt (movQ L id c n tg) L.length = ck at *
      go_wp2
      refine bodyPost_ret (v := .tuple #[.agg #[.slice a2 L.length cp2], .int .i64 ck]) ?_ rfl HK.out
      exact res_cell_tmp f26_res _ _ (w.heap.size + 1) _ rfl HRR.out
end Go.Proofs.Ytajgjkkggppbiaa
