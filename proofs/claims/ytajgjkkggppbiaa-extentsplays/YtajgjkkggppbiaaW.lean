/-
  The document's Put and Cut.
-/
import Derived.Test.YtajgjkkggppbiaaV
import Derived.Test.YtajgjkkggppbiaaQ
import Derived.Laws.ResultCell
namespace Go.Proofs.Ytajgjkkggppbiaa
open Go.RowKit
set_option linter.unusedVariables false
open M (E)

theorem res_cell_tmp {fn : Func} {p u : Tmp} (h : fn.results = #[.cell p 28, .tmp u]) (tmps : Array Value) (w : World) (g : Nat) (v : Value) (hp : tmps.getD p undef = .pointer (some ⟨g, 0, none⟩)) (hg : w.heap[g]? = some (.cells #[v] 28 (0, 0))) :
    (results fn tmps).run Try.prog w = .ok (.tuple #[.agg #[v], tmps.getD u undef]) w := by
  have hp' : tmps[p]?.getD undef = .pointer (some ⟨g, 0, none⟩) := by simpa using hp
  rw [results_cell_tmp h]
  simp [asAddr, hp', run_loadVar_row w g 28 28 #[v] (0, 0) _ hg Try.underlying28 rfl Try.size28]
/-- What a call leaves of a file: the file itself, or a new one. -/
def XRes (w w' : World) (a : Option Addr) (cap : Nat) (v' : Value) (L L' : List (Int × Int)) : Prop := (v' = .slice a L.length cap ∧ L' = L) ∨ OwnB w' w.heap.size v' L'
def putG (L : List (Int × Int)) (e : E) (i : Nat) : Int × Int := if prp e = true ∧ e.a ≤ (i : Int) ∧ (i : Int) < e.a + e.n then (e.d, e.f + ((i : Int) - e.a)) else L.getD i (-1, 0)
def PutR (w : World) (a : Option Addr) (cap : Nat) (L : List (Int × Int)) (e : E) (x : Ending) (w' : World) : Prop :=
  ∃ v' L', x = .returned (.tuple #[.agg #[v'], .int .i64 (if prp e then 0 else 1)]) ∧ XRes w w' a cap v' L L' ∧ L'.length ≤ 16384 ∧ (∀ i : Nat, L'.getD i (-1, 0) = putG L e i) ∧ Below w.heap.size w w'
theorem f20_res : Try.f20.results = #[.cell 4 28, .tmp 5] := rfl
theorem f26_res : Try.f26.results = #[.cell 10 28, .tmp 11] := rfl
theorem f25_res : Try.f25.results = #[.cell 6 28] := rfl
theorem f23_res : Try.f23.results = #[.cell 4 28] := rfl
theorem alloc3 (w : World) (A B C : Obj) : (((w.alloc A).alloc B).alloc C).heap[w.heap.size]? = some A ∧ (((w.alloc A).alloc B).alloc C).heap[w.heap.size + 1]? = some B ∧ (((w.alloc A).alloc B).alloc C).heap[w.heap.size + 2]? = some C := by
  have h := heap_alloc_last ((w.alloc A).alloc B) C
  rw [show ((w.alloc A).alloc B).heap.size = w.heap.size + 2 by simp] at h
  exact ⟨(Below.heap_alloc _ C _ (by simp; omega)).trans (heap_alloc2_old w A B), (Below.heap_alloc _ C _ (by simp)).trans (heap_alloc2_new w A B), h⟩
set_option maxRecDepth 100000 in
set_option maxHeartbeats 4000000 in
theorem refPut_no (L : List (Int × Int)) (a : Option Addr) (cap : Nat) (e : E) (w : World) (hl : L.length ≤ 16384) (hp : prp e = false) (ha : e.a ≤ 9223372036854775807) :
    Calls Try.prog 20 #[.agg #[.slice a L.length cap], EV e] w (PutR w a cap L e) := by
  have hEV : EV e = .agg #[.int .i64 e.a, .int .i64 e.n, .int .i64 e.d, .int .i64 e.f] := rfl
  rw [hEV]
  obtain ⟨W1, HW1⟩ : ∃ W1, Hid (((w.alloc (.cells #[.slice a L.length cap] 28)).alloc (.cells #[.int .i64 e.a, .int .i64 e.n, .int .i64 e.d, .int .i64 e.f] 32)).alloc (.cells #[.slice a L.length cap] 28) = W1) := ⟨_, rfl⟩
  have HK : Hid (PutR w a cap L e (.returned (.tuple #[.agg #[.slice a L.length cap], .int .i64 1])) (((w.alloc (.cells #[.slice a L.length cap] 28)).alloc (.cells #[.int .i64 e.a, .int .i64 e.n, .int .i64 e.d, .int .i64 e.f] 32)).alloc (.cells #[.slice a L.length cap] 28))) := by
    refine ⟨_, L, by rw [hp]; rfl, .inl ⟨rfl, rfl⟩, hl, fun i => ?_, ((bel1 w _).alloc (by simp) _).alloc (by simp; omega) _⟩
    unfold putG
    rw [hp]
    simp
  have HR := Hid_of (alloc3 w (.cells #[.slice a L.length cap] 28) (.cells #[.int .i64 e.a, .int .i64 e.n, .int .i64 e.d, .int .i64 e.f] 32) (.cells #[.slice a L.length cap] 28)).2.2
  clear hEV HW1
  have hp' : ¬ (0 ≤ e.a ∧ 1 ≤ e.n ∧ e.n ≤ 16384 - e.a ∧ 0 ≤ e.d ∧ 0 ≤ e.f ∧ e.f ≤ 1073741824) := by
    intro h
    have : prp e = true := by unfold prp; simp; omega
    rw [hp] at this
    cases this
  clear hp
  generalize e.a = pa at *
  generalize e.n = pn at *
  generalize e.d = pd at *
  generalize e.f = pf at *
  by_cases c0 : pa < 0
  · have k0 : decide (pa < 0) = true := by simpa using c0
    clear hp'
    go_enter Try.func20, Try.ntmps20
    go_wp2
    refine bodyPost_ret (v := .tuple #[.agg #[.slice a L.length cap], .int .i64 1]) ?_ rfl HK.out
    exact res_cell_tmp f20_res _ _ (w.heap.size + 2) _ rfl HR.out
  have k0 : decide (pa < 0) = false := by simpa using c0
  by_cases c1 : pn < 1
  · have k1 : decide (pn < 1) = true := by simpa using c1
    clear hp'
    go_enter Try.func20, Try.ntmps20
    go_wp2
    refine bodyPost_ret (v := .tuple #[.agg #[.slice a L.length cap], .int .i64 1]) ?_ rfl HK.out
    exact res_cell_tmp f20_res _ _ (w.heap.size + 2) _ rfl HR.out
  have k1 : decide (pn < 1) = false := by simpa using c1
  by_cases c2 : 16384 < pa
  · have k2 : decide (16384 < pa) = true := by simpa using c2
    clear hp'
    go_enter Try.func20, Try.ntmps20
    go_wp2
    refine bodyPost_ret (v := .tuple #[.agg #[.slice a L.length cap], .int .i64 1]) ?_ rfl HK.out
    exact res_cell_tmp f20_res _ _ (w.heap.size + 2) _ rfl HR.out
  have k2 : decide (16384 < pa) = false := by simpa using c2
  have hw : IntKind.i64.wrap (16384 - pa) = 16384 - pa := by rw [IntKind.wrap_i64]; omega
  by_cases c3 : 16384 - pa < pn
  · have k3 : decide (16384 - pa < pn) = true := by simpa using c3
    clear hp'
    go_enter Try.func20, Try.ntmps20
    go_wp2
    refine bodyPost_ret (v := .tuple #[.agg #[.slice a L.length cap], .int .i64 1]) ?_ rfl HK.out
    exact res_cell_tmp f20_res _ _ (w.heap.size + 2) _ rfl HR.out
  have k3 : decide (16384 - pa < pn) = false := by simpa using c3
  by_cases c4 : pd < 0
  · have k4 : decide (pd < 0) = true := by simpa using c4
    clear hp'
    go_enter Try.func20, Try.ntmps20
    go_wp2
    refine bodyPost_ret (v := .tuple #[.agg #[.slice a L.length cap], .int .i64 1]) ?_ rfl HK.out
    exact res_cell_tmp f20_res _ _ (w.heap.size + 2) _ rfl HR.out
  have k4 : decide (pd < 0) = false := by simpa using c4
  by_cases c5 : pf < 0
  · have k5 : decide (pf < 0) = true := by simpa using c5
    clear hp'
    go_enter Try.func20, Try.ntmps20
    go_wp2
    refine bodyPost_ret (v := .tuple #[.agg #[.slice a L.length cap], .int .i64 1]) ?_ rfl HK.out
    exact res_cell_tmp f20_res _ _ (w.heap.size + 2) _ rfl HR.out
  have k5 : decide (pf < 0) = false := by simpa using c5
  by_cases c6 : 1073741824 < pf
  · have k6 : decide (1073741824 < pf) = true := by simpa using c6
    clear hp'
    go_enter Try.func20, Try.ntmps20
    go_wp2
    refine bodyPost_ret (v := .tuple #[.agg #[.slice a L.length cap], .int .i64 1]) ?_ rfl HK.out
    exact res_cell_tmp f20_res _ _ (w.heap.size + 2) _ rfl HR.out
  have k6 : decide (1073741824 < pf) = false := by simpa using c6
  exact absurd ⟨by omega, by omega, by omega, by omega, by omega, by omega⟩ hp'

theorem putG_step (L Lk : List (Int × Int)) (a n d f : Int) (k : Nat) (ha : 0 ≤ a) (hk : (a + k).toNat < Lk.length) (h : ∀ i : Nat, Lk.getD i (-1, 0) = if a ≤ (i : Int) ∧ (i : Int) < a + k then (d, f + ((i : Int) - a)) else L.getD i (-1, 0)) :
    ∀ i : Nat, (Lk.set (a + k).toNat (d, f + k)).getD i (-1, 0) = if a ≤ (i : Int) ∧ (i : Int) < a + (k + 1 : Nat) then (d, f + ((i : Int) - a)) else L.getD i (-1, 0) := by
  intro i
  rw [List.getD_eq_getElem?_getD, List.getElem?_set]
  by_cases he : (a + k).toNat = i
  · rw [if_pos he, if_pos (by omega)]
    rw [if_pos (by omega)]
    simp only [Option.getD_some, Prod.mk.injEq, true_and]
    omega
  · rw [if_neg he, ← List.getD_eq_getElem?_getD, h]
    by_cases hi : a ≤ (i : Int) ∧ (i : Int) < a + k
    · rw [if_pos hi, if_pos (by omega)]
    · rw [if_neg hi, if_neg (by omega)]
set_option maxRecDepth 100000 in
set_option maxHeartbeats 4000000 in
theorem refPut_yes (L : List (Int × Int)) (a : Option Addr) (cap : Nat) (e : E) (w : World) (hl : L.length ≤ 16384) (hp : prp e = true) (ha : XB w a cap L) :
    Calls Try.prog 20 #[.agg #[.slice a L.length cap], EV e] w (PutR w a cap L e) := by
  have hEV : EV e = .agg #[.int .i64 e.a, .int .i64 e.n, .int .i64 e.d, .int .i64 e.f] := rfl
  rw [hEV]
  obtain ⟨hok, hf30⟩ := prp_ok hp
  obtain ⟨o1, o2, o3, o4, o5, o6⟩ := hok
  obtain ⟨pt, hpt⟩ : ∃ pt : Nat, e.a + e.n = (pt : Int) := ⟨(e.a + e.n).toNat, by omega⟩
  obtain ⟨W1, HW1⟩ : ∃ W1, Hid (((w.alloc (.cells #[.slice a L.length cap] 28)).alloc (.cells #[.int .i64 e.a, .int .i64 e.n, .int .i64 e.d, .int .i64 e.f] 32)).alloc (.cells #[.slice none 0 0] 28) = W1) := ⟨_, rfl⟩
  have HB1 : Hid (Below w.heap.size w W1) := by rw [← HW1.out]; exact ((bel1 w _).alloc (by simp) _).alloc (by simp; omega) _
  have hs1 : W1.heap.size = w.heap.size + 3 := by rw [← HW1.out]; simp
  have hrs := alloc3 w (.cells #[.slice a L.length cap] 28) (.cells #[.int .i64 e.a, .int .i64 e.n, .int .i64 e.d, .int .i64 e.f] 32) (.cells #[.slice none 0 0] 28)
  rw [HW1.out] at hrs
  obtain ⟨hr0, hr1, hr2⟩ := hrs
  have hgc := grown_any L a cap pt W1 hl (by omega) (ha.keep HB1.out)
  have HPG : Hid (∀ L' : List (Int × Int), (∀ i : Nat, L'.getD i (-1, 0) = if e.a ≤ (i : Int) ∧ (i : Int) < e.a + e.n then (e.d, e.f + ((i : Int) - e.a)) else L.getD i (-1, 0)) → ∀ i : Nat, L'.getD i (-1, 0) = putG L e i) := by
    intro L' h i
    rw [h]
    unfold putG
    by_cases hi : e.a ≤ (i : Int) ∧ (i : Int) < e.a + e.n
    · rw [if_pos hi, if_pos ⟨hp, hi⟩]
    · rw [if_neg hi, if_neg (fun hh => hi hh.2)]
  have HP : Hid (prp e = true) := hp
  have HBX : Hid (∀ w', Below W1.heap.size W1 w' → w'.heap[w.heap.size]? = some (.cells #[.slice a L.length cap] 28 (0, 0)) ∧ w'.heap[w.heap.size + 1]? = some (.cells #[.int .i64 e.a, .int .i64 e.n, .int .i64 e.d, .int .i64 e.f] 32 (0, 0)) ∧ w'.heap[w.heap.size + 2]? = some (.cells #[.slice none 0 0] 28 (0, 0))) := fun w' hb' => ⟨(hb'.block _ (by omega)).trans hr0, (hb'.block _ (by omega)).trans hr1, (hb'.block _ (by omega)).trans hr2⟩
  have k0 : decide (e.a < 0) = false := by simp; omega
  have k1 : decide (e.n < 1) = false := by simp; omega
  have k2 : decide (16384 < e.a) = false := by simp; omega
  have k3 : decide (16384 - e.a < e.n) = false := by simp; omega
  have k4 : decide (e.d < 0) = false := by simp; omega
  have k5 : decide (e.f < 0) = false := by simp; omega
  have k6 : decide (1073741824 < e.f) = false := by simp; omega
  have hw : IntKind.i64.wrap (16384 - e.a) = 16384 - e.a := by rw [IntKind.wrap_i64]; omega
  have hw2 : IntKind.i64.wrap (e.a + e.n) = (pt : Int) := by rw [IntKind.wrap_i64]; omega
  have hgl : (grw L pt).length ≤ 16384 ∧ pt ≤ (grw L pt).length := by rw [grw_len]; omega
  have HGG : Hid (∀ i, (grw L pt).getD i (-1, 0) = L.getD i (-1, 0)) := fun i => grw_get L pt i
  obtain ⟨LG, hLG⟩ : ∃ LG, grw L pt = LG := ⟨_, rfl⟩
  rw [hLG] at hgc hgl HGG
  clear hEV hp ha hr0 hr1 hr2 hLG
  have hb30 : e.f ≤ 1073741824 := hf30
  have HBD : Hid (0 ≤ e.a ∧ 1 ≤ e.n ∧ e.a + e.n ≤ 16384 ∧ 0 ≤ e.f ∧ e.f ≤ 1073741824) := ⟨o1, o2, o3, o5, hf30⟩
  clear o1 o2 o3 o4 o5 o6 hf30
  obtain ⟨pp, hpp⟩ : ∃ pp, prp e = pp := ⟨_, rfl⟩
  have HPUT : Hid (∀ v' w' L', OwnB w' w.heap.size v' L' → L'.length ≤ 16384 → (∀ i : Nat, L'.getD i (-1, 0) = if e.a ≤ (i : Int) ∧ (i : Int) < e.a + e.n then (e.d, e.f + ((i : Int) - e.a)) else L.getD i (-1, 0)) → Below w.heap.size w w' → PutR w a cap L e (.returned (.tuple #[.agg #[v'], .int .i64 0])) w') := by
    intro v' w' L' h1 h2 h3 h4
    exact ⟨v', L', by rw [HP.out]; rfl, .inr h1, h2, HPG.out L' h3, h4⟩
  clear HPG HP hpp
  generalize PutR w a cap L e = PP at *
  generalize e.a = pa at *
  generalize e.n = pn at *
  generalize e.d = pd at *
  generalize e.f = pf at *
  go_enter Try.func20, Try.ntmps20
  go_wp2_with fail
  rw [HW1.out]
  refine hgc.mono ?_
  rintro x w2 hx
  obtain ⟨v2, rfl, own2, B2⟩ := hx
  obtain ⟨a2, cp2, rfl, _, _⟩ := ownB_at own2
  obtain ⟨hb0, hb1, hb2⟩ := HBX.out w2 B2
  obtain ⟨q0, q1⟩ := row1 hb0
  clear HW1 hgc
  obtain ⟨W3, hW3⟩ : ∃ W3, w2.setCell ⟨w.heap.size, 0, none⟩ (.slice a2 LG.length cp2) = W3 := ⟨_, rfl⟩
  have HOW : Hid (OwnB W3 W1.heap.size (.slice a2 LG.length cp2) LG) := by
    rw [← hW3]
    refine World.ownsRow.kept (row := some w.heap.size) own2 ⟨rfl, rfl, rfl, by simp, fun k hk hne => heap_setCell_other w2 ⟨w.heap.size, 0, none⟩ k _ (fun e => hne (by rw [e]))⟩ ?_
    cases hv : (Value.slice a2 LG.length cp2).ownBlock with
    | none => exact .inl rfl
    | some k =>
      right
      intro e
      have := (World.ownsRow.lt own2 k hv).1
      simp at e
      omega
  have HB3 : Hid (Below w.heap.size w W3) := by rw [← hW3]; exact (bel_up HB1.out B2 (Nat.le_refl _)).setCell (Nat.le_refl _) _
  have hr0 : W3.heap[w.heap.size]? = some (.cells #[.slice a2 LG.length cp2] 28 (0, 0)) := by rw [← hW3]; exact heap_setCell_same w2 _ 0 _ _ _ hb0
  have hr1 : W3.heap[w.heap.size + 1]? = some (.cells #[.int .i64 pa, .int .i64 pn, .int .i64 pd, .int .i64 pf] 32 (0, 0)) := by rw [← hW3]; exact (heap_setCell_other w2 _ _ _ (by simp)).trans hb1
  have hr2 : W3.heap[w.heap.size + 2]? = some (.cells #[.slice none 0 0] 28 (0, 0)) := by rw [← hW3]; exact (heap_setCell_other w2 _ _ _ (by simp)).trans hb2
  have hs3 : W1.heap.size ≤ W3.heap.size := by rw [← hW3]; have := B2.size; simpa using this
  have HRW : Hid (∀ w', Below W1.heap.size W3 w' → w'.heap[w.heap.size]? = some (.cells #[.slice a2 LG.length cp2] 28 (0, 0)) ∧ w'.heap[w.heap.size + 1]? = some (.cells #[.int .i64 pa, .int .i64 pn, .int .i64 pd, .int .i64 pf] 32 (0, 0)) ∧ w'.heap[w.heap.size + 2]? = some (.cells #[.slice none 0 0] 28 (0, 0))) := fun w' hb' => ⟨(hb'.block _ (by omega)).trans hr0, (hb'.block _ (by omega)).trans hr1, (hb'.block _ (by omega)).trans hr2⟩
  clear own2 B2 hr0 hr1 hr2 HBX hb0 hb1 hb2
  go_wp2
  try rw [hW3]
  clear hW3 q0 q1
  go_loopw [6] (fun i wr => ∃ (k : Nat) (Lk : List (Int × Int)), (k : Int) ≤ pn ∧ i = .int .i64 k ∧ OwnB wr W1.heap.size (.slice a2 LG.length cp2) Lk ∧ Lk.length = LG.length ∧ Below W1.heap.size W3 wr ∧ Hid (∀ i : Nat, Lk.getD i (-1, 0) = if pa ≤ (i : Int) ∧ (i : Int) < pa + k then (pd, pf + ((i : Int) - pa)) else L.getD i (-1, 0))) (fun i _ => pn.toNat - (intOf i).toNat)
  case atStart => exact ⟨0, LG, by have := HBD.out; omega, rfl, HOW.out, rfl, Below.refl _ _, fun i => by rw [HGG.out, if_neg (by omega)]⟩
  case round =>
    obtain ⟨k, Lk, hk, rfl, hown, hlk, hbel, HF⟩ := hrel
    clear HOW HGG
    obtain ⟨hr0, hr1, hr2⟩ := HRW.out wr hbel
    obtain ⟨x0, x1⟩ := row1 hr0
    obtain ⟨y0, y1, y2, y3⟩ := row4 hr1
    obtain ⟨z0, z1⟩ := row1 hr2
    by_cases hlt : (k : Int) < pn
    · have hdd : decide ((k : Int) < pn) = true := by simpa using hlt
      obtain ⟨m, hm⟩ : ∃ m : Nat, pa + k = (m : Int) := ⟨(pa + k).toNat, by have := HBD.out; omega⟩
      have hml : m < Lk.length := by have := HBD.out; omega
      obtain ⟨g, cp, hv, hbg, hgw, ⟨c0, c1⟩, hfr, hset, hset0⟩ := ownB_set hown m hml
      clear hset0
      simp only [Value.slice.injEq] at hv
      obtain ⟨rfl, hlx, rfl⟩ := hv
      clear hlx
      have f0 := hfr (m * 2)
      have f1 := hfr (m * 2 + 1)
      have HST : Hid _ := putG_step L Lk pa pn pd pf k (by have := HBD.out; omega) (by omega) HF.out
      have HOS := Hid_of (hset (pd, pf + k))
      have HBS : Hid (Below W1.heap.size W3 ((wr.setCell ⟨g, m * 2, none⟩ (.int .i64 pd)).setCell ⟨g, m * 2 + 1, none⟩ (.int .i64 (pf + k)))) := (hbel.setCell hbg _).setCell hbg _
      have HMM : Hid ((pa + (k : Int)).toNat = m) := by show _ = _; omega
      rw [HMM.out] at HST
      have hw3 : IntKind.i64.wrap (pf + (k : Int)) = pf + (k : Int) := by rw [IntKind.wrap_i64]; have := HBD.out; omega
      have hw4 : IntKind.i64.wrap (pa + (k : Int)) = (m : Int) := by rw [IntKind.wrap_i64]; omega
      have hml2 : m < LG.length := by omega
      have hk16 : k < 16384 := by have := HBD.out; omega
      have HLS : Hid ((Lk.set m (pd, pf + (k : Int))).length = LG.length) := by show _ = _; simp; omega
      generalize Lk[m].1 = o1 at c0
      generalize Lk[m].2 = o2 at c1
      clear HF hset hfr hown hbel hm hr0 hr1 hr2 z0 z1 hlk
      go_wp2
      go_roundw
      case rel => exact ⟨k + 1, _, by omega, by go_num, HOS.out, HLS.out, HBS.out, HST.out⟩
      case measure => simp [intOf]; omega
    · have hdd : decide ((k : Int) < pn) = false := by simpa using hlt
      have hkp : (k : Int) = pn := by omega
      have HRR := Hid_of (heap_setCell_same wr (w.heap.size + 2) 0 _ _ (.slice a2 LG.length cp2) hr2)
      have HK : Hid (PP (.returned (.tuple #[.agg #[.slice a2 LG.length cp2], .int .i64 0])) (wr.setCell ⟨w.heap.size + 2, 0, none⟩ (.slice a2 LG.length cp2))) := by
        refine HPUT.out _ _ Lk ?_ (by omega) (fun i => by rw [HF.out, hkp]) ?_
        · refine OwnB.low (World.ownsRow.kept (row := some (w.heap.size + 2)) hown ⟨rfl, rfl, rfl, by simp, fun k hk hne => heap_setCell_other wr ⟨w.heap.size + 2, 0, none⟩ k _ (fun e => hne (by rw [e]))⟩ ?_) (show w.heap.size ≤ W1.heap.size by omega)
          cases hv : (Value.slice a2 LG.length cp2).ownBlock with
          | none => exact .inl rfl
          | some k =>
            right
            intro e
            have := (World.ownsRow.lt hown k hv).1
            simp at e
            omega
        · exact (HB3.out.trans (hbel.mono (by omega))).setCell (by simp) _
      clear HF hown hbel hr0 hr1 hr2 HPUT
      go_wp2
      refine bodyPost_ret (v := .tuple #[.agg #[.slice a2 LG.length cp2], .int .i64 0]) ?_ rfl HK.out
      exact res_cell_tmp f20_res _ _ (w.heap.size + 2) _ rfl HRR.out
theorem refPut_any (L : List (Int × Int)) (a : Option Addr) (cap : Nat) (e : E) (w : World) (hl : L.length ≤ 16384) (ha : XB w a cap L) (h63 : e.a ≤ 9223372036854775807) :
    Calls Try.prog 20 #[.agg #[.slice a L.length cap], EV e] w (PutR w a cap L e) := by
  cases hp : prp e
  · exact refPut_no L a cap e w hl hp h63
  · exact refPut_yes L a cap e w hl hp ha
end Go.Proofs.Ytajgjkkggppbiaa
