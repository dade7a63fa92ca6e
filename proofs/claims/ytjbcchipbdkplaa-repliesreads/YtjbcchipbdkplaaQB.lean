/-
  The document's Take.
-/
import Derived.Test.YtjbcchipbdkplaaQA
import Derived.Deep.CutRange
namespace Go.Proofs.Ytjbcchipbdkplaa
open Go.RowKit Go.Maps
set_option linter.unusedVariables false
open Rp (C fup)

theorem results_cell_tmps {fn : Func} {p u u' : Tmp} {ty : TypeId} (h : fn.results = #[.cell p ty, .tmp u, .tmp u']) (tmps : Array Value) (P : Program) (w : World) :
    (results fn tmps).run P w = ((asAddr (tmps.getD p undef)).run P w).andThen fun a w₁ => ((loadVar ty a).run P w₁).andThen fun v w₂ => .ok (.tuple #[v, tmps.getD u undef, tmps.getD u' undef]) w₂ := by
  simp only [results, h]
  simp [Sem.run_bind, Result.andThen]
theorem res30_2 {fn : Func} {p u : Tmp} (h : fn.results = #[.cell p 30, .tmp u]) (tmps : Array Value) (w : World) (g : Nat) (room : Int) (dv : Nat → Value) (hp : tmps.getD p undef = .pointer (some ⟨g, 0, none⟩)) (hg : w.heap[g]? = some (.cells (DA room dv) 30 (0, 0))) :
    (results fn tmps).run Try.prog w = .ok (.tuple #[.agg (DA room dv), tmps.getD u undef]) w := by
  have hp' : tmps[p]?.getD undef = .pointer (some ⟨g, 0, none⟩) := by simpa using hp
  rw [results_cell_tmp h]
  simp [asAddr, hp', run_loadVar_row w g 30 30 (DA room dv) (0, 0) _ hg Try.underlying30 rfl (size30 room dv)]
theorem res30_3 {fn : Func} {p u u' : Tmp} (h : fn.results = #[.cell p 30, .tmp u, .tmp u']) (tmps : Array Value) (w : World) (g : Nat) (room : Int) (dv : Nat → Value) (hp : tmps.getD p undef = .pointer (some ⟨g, 0, none⟩)) (hg : w.heap[g]? = some (.cells (DA room dv) 30 (0, 0))) :
    (results fn tmps).run Try.prog w = .ok (.tuple #[.agg (DA room dv), tmps.getD u undef, tmps.getD u' undef]) w := by
  have hp' : tmps[p]?.getD undef = .pointer (some ⟨g, 0, none⟩) := by simpa using hp
  rw [results_cell_tmps h]
  simp [asAddr, hp', run_loadVar_row w g 30 30 (DA room dv) (0, 0) _ hg Try.underlying30 rfl (size30 room dv)]
/-- The document's rows in memory. -/
structure DR (w : World) (T : Int → List C) (dv : Nat → Value) : Prop where
  row : ∀ c : Nat, ∃ a cap, dv c = .slice a (T c).length cap ∧ XL cl w a cap (T c)
  non : ∀ c : Nat, T c = [] → dv c = .slice none 0 0
theorem DR.sl {w : World} {T : Int → List C} {dv : Nat → Value} (h : DR w T dv) : Sl dv := fun k => by
  obtain ⟨a, cap, e, _⟩ := h.row k
  exact ⟨_, _, _, e⟩
theorem DR.keep {w w' : World} {T : Int → List C} {dv : Nat → Value} (h : DR w T dv) (hb : Below w.heap.size w w') : DR w' T dv :=
  ⟨fun c => by obtain ⟨a, cap, e, hx⟩ := h.row c; exact ⟨a, cap, e, hx.keep hb⟩, h.non⟩
theorem DR.none (w : World) : DR w Rp.non nodv := ⟨fun c => ⟨_, _, rfl, XL.emp w⟩, fun c _ => rfl⟩
theorem DR.up {w : World} {T : Int → List C} {dv : Nat → Value} (h : DR w T dv) (c : Nat) (l : List C) (a : Option Addr) (cap : Nat) (hx : XL cl w a cap l) (hl : l ≠ []) : DR w (fup T c l) (dvup dv c (.slice a l.length cap)) := by
  refine ⟨fun d => ?_, fun d hd => ?_⟩
  · unfold dvup
    by_cases e : d = c
    · subst e
      rw [if_pos rfl, Rp.fup_same]
      exact ⟨a, cap, rfl, hx⟩
    · rw [if_neg e, Rp.fup_other _ _ (by omega)]
      exact h.row d
  · unfold dvup
    by_cases e : d = c
    · subst e
      rw [Rp.fup_same] at hd
      exact absurd hd hl
    · rw [if_neg e]
      rw [Rp.fup_other _ _ (by omega)] at hd
      exact h.non d hd
/-- An append of nothing. -/
theorem run_app_none {α : Type} {Y : Ly α} {T t : TypeId} (hT : Ti Y T t) (w : World) (ty : TypeId) (g k cap : Nat) (h : k ≤ cap) (sp : Option Addr) (c : Nat) : (Builtin.append_ #[T, T] ty #[.slice (some ⟨g, 0, none⟩) k cap, .slice sp 0 c]).run Try.prog w = .ok (.slice (some ⟨g, 0, none⟩) k cap) w := by
  obtain ⟨inf, z, hi, hz, hsz, hby, hzs⟩ := hT.i
  cases sp with
  | none => simp [Builtin.append_, run_underlying hT.u, sizeOf, typeInfo, hi, Builtin.lenOf, Builtin.firstCells, h, storeCells]
  | some ad =>
    have hl := run_loadCells_list (P := Try.prog) w ad [] (by simp)
    simp at hl
    simp [Builtin.append_, run_underlying hT.u, sizeOf, typeInfo, hi, Builtin.lenOf, Builtin.firstCells, hl, h, storeCells]
/-- What stands behind a place: nothing, or a slice. -/
def Src (w : World) (v : Value) (l : List C) : Prop := (l = [] ∧ ∃ sp c, v = .slice sp 0 c) ∨ ∃ b off c, v = .slice (some ⟨b, off, none⟩) l.length c ∧ AtL cl w (some ⟨b, off, none⟩) l
theorem Src.keep {w w' : World} {v : Value} {l : List C} (h : Src w v l) (hb : Below w.heap.size w w') : Src w' v l := by
  rcases h with h | ⟨b, off, c, e, h⟩
  · exact .inl h
  · exact .inr ⟨b, off, c, e, h.keep hb⟩
/-- The last two appends of three. -/
theorem app2 (w : World) (base : Nat) (v : Value) (P : List C) (x : C) (bx : Nat) (hb : base ≤ w.heap.size) (ho : OwnL cl 62 w base v P) (hx : AtL cl w (some ⟨bx, 0, none⟩) [x]) (src : Value) (q : List C) (hs : Src w src q) (hbx : v.ownBlock ≠ some bx) (hq : ∀ k, (∃ a n c, src = .slice a n c ∧ blk a k) → v.ownBlock ≠ some k) (hl : P.length + q.length ≤ 1000) :
    ∃ a2 c2 w2, (∀ ty, (Builtin.append_ #[27, 27] ty #[v, .slice (some ⟨bx, 0, none⟩) 1 1]).run Try.prog w = .ok (.slice a2 (P.length + 1) c2) w2) ∧ ∃ g3 c3 w3, (∀ ty, (Builtin.append_ #[27, 27] ty #[.slice a2 (P.length + 1) c2, src]).run Try.prog w2 = .ok (.slice (some ⟨g3, 0, none⟩) (P.length + 1 + q.length) c3) w3) ∧ OwnL cl 62 w3 base (.slice (some ⟨g3, 0, none⟩) (P.length + 1 + q.length) c3) (P ++ [x] ++ q) ∧ Rw w v w3 (.slice (some ⟨g3, 0, none⟩) (P.length + 1 + q.length) c3) := by
  obtain ⟨a2, c2, w2, hr2, ho2, hR2⟩ := run_appL_ty tiK w base v P [x] bx 0 1 1 ho hx rfl hb (by simp; omega)
  simp only [List.length_cons, List.length_nil, Nat.zero_add] at hr2 ho2 hR2
  refine ⟨a2, c2, w2, hr2, ?_⟩
  have hb2 : base ≤ w2.heap.size := Nat.le_trans hb hR2.g.size
  have hne : P ++ [x] ≠ [] := by simp
  have hPl : (P ++ [x]).length = P.length + 1 := by simp
  rcases ho2.2 with ⟨hv, hz⟩ | ⟨g2, cap2, cur2, hv, _, _, hc2, _⟩
  · rw [hPl] at hz; omega
  rw [hPl] at hv hc2
  simp only [Value.slice.injEq, true_and] at hv
  obtain ⟨rfl, rfl⟩ := hv
  rcases hs with ⟨rfl, sp, c, rfl⟩ | ⟨b, off, c, rfl, hat⟩
  · refine ⟨g2, c2, w2, fun ty => run_app_none tiK w2 ty g2 (P.length + 1) c2 hc2 sp c, ?_, hR2⟩
    rw [List.append_nil]
    exact ho2
  · have hat2 : AtL cl w2 (some ⟨b, off, none⟩) q := hat.keepBut (fun k hk hbk => hR2.g.block k hk (fun e => hq k ⟨_, _, _, rfl, hbk⟩ e.symm))
    obtain ⟨a3, c3, w3, hr3, ho3, hR3⟩ := run_appL_ty tiK w2 base (.slice (some ⟨g2, 0, none⟩) (P.length + 1) c2) (P ++ [x]) q b off c q.length ho2 hat2 rfl hb2 (by rw [hPl]; omega)
    rw [hPl] at hr3 ho3 hR3
    rcases ho3.2 with ⟨hv, hz⟩ | ⟨g3, cap3, cur3, hv, _⟩
    · simp at hz
    simp only [Value.slice.injEq] at hv
    obtain ⟨rfl, _, rfl⟩ := hv
    exact ⟨g3, c3, w3, hr3, ho3, hR2.trans hR3⟩
/-- Three appends: what stands ahead of a place, one more, what stands behind: both orders in which the memory is made. -/
def InsRun (wd : World) (l : List C) (p : Nat) (k : Int) (v0 src : Value) : Prop :=
  (∃ a1 c1 w1, (∀ ty, (Builtin.append_ #[27, 27] ty #[.slice none 0 0, v0]).run Try.prog wd = .ok (.slice a1 p c1) w1) ∧ ∃ a2 c2 w2, (∀ ty, (Builtin.append_ #[27, 27] ty #[.slice a1 p c1, .slice (some ⟨w1.heap.size, 0, none⟩) 1 1]).run Try.prog (w1.alloc (.cells #[.int .i64 k, .bool true, .string ⟨#[]⟩] 62)) = .ok (.slice a2 (p + 1) c2) w2) ∧ ∃ g3 c3 w3, (∀ ty, (Builtin.append_ #[27, 27] ty #[.slice a2 (p + 1) c2, src]).run Try.prog w2 = .ok (.slice (some ⟨g3, 0, none⟩) (l.length + 1) c3) w3) ∧ OwnL cl 62 w3 wd.heap.size (.slice (some ⟨g3, 0, none⟩) (l.length + 1) c3) (Rp.ins l p k) ∧ Below wd.heap.size wd w3) ∧
  (∃ a1 c1 w1, (∀ ty, (Builtin.append_ #[27, 27] ty #[.slice none 0 0, v0]).run Try.prog (wd.alloc (.cells #[.int .i64 k, .bool true, .string ⟨#[]⟩] 62)) = .ok (.slice a1 p c1) w1) ∧ ∃ a2 c2 w2, (∀ ty, (Builtin.append_ #[27, 27] ty #[.slice a1 p c1, .slice (some ⟨wd.heap.size, 0, none⟩) 1 1]).run Try.prog w1 = .ok (.slice a2 (p + 1) c2) w2) ∧ ∃ g3 c3 w3, (∀ ty, (Builtin.append_ #[27, 27] ty #[.slice a2 (p + 1) c2, src]).run Try.prog w2 = .ok (.slice (some ⟨g3, 0, none⟩) (l.length + 1) c3) w3) ∧ OwnL cl 62 w3 wd.heap.size (.slice (some ⟨g3, 0, none⟩) (l.length + 1) c3) (Rp.ins l p k) ∧ Below wd.heap.size wd w3)
theorem ins_run (wd : World) (l : List C) (p : Nat) (hp : p ≤ l.length) (k : Int) (a : Option Addr) (cap : Nat) (hx : XL cl wd a cap (l.take p)) (src : Value) (hs : Src wd src (l.drop p)) (hsb : ∀ q, (∃ a n c, src = .slice a n c ∧ blk a q) → q < wd.heap.size) (hl : l.length ≤ 100) : InsRun wd l p k (.slice a p cap) src := by
  have htl : (l.take p).length = p := by rw [List.length_take]; omega
  have hdl : p + 1 + (l.drop p).length = l.length + 1 := by rw [List.length_drop]; omega
  have hone : ∀ W : World, AtL cl (W.alloc (.cells #[.int .i64 k, .bool true, .string ⟨#[]⟩] 62)) (some ⟨W.heap.size, 0, none⟩) [(⟨k, true, []⟩ : C)] := fun W => atL_one (t := 62) (heap_alloc_last W _)
  constructor
  · obtain ⟨a1, c1, w1, hr1, ho1, hb1⟩ := run_copyL tiK wd 0 a cap (l.take p) hx (by omega)
    rw [htl] at hr1 ho1
    refine ⟨a1, c1, w1, fun ty => (append_ty _ _ _ ty 0).trans hr1, ?_⟩
    have hbx := bel1 w1 (.cells #[.int .i64 k, .bool true, .string ⟨#[]⟩] 62)
    obtain ⟨a2, c2, w2, hr2, g3, c3, w3, hr3, ho3, hR⟩ := app2 (w1.alloc (.cells #[.int .i64 k, .bool true, .string ⟨#[]⟩] 62)) wd.heap.size (.slice a1 p c1) (l.take p) ⟨k, true, []⟩ w1.heap.size (by have := hb1.size; simp; omega) (ho1.keep hbx) (hone w1) src (l.drop p) ((hs.keep hb1).keep hbx) (fun e => by have := (ho1.lt e).2; omega) (fun q hq e => by have := hsb q hq; have := (ho1.lt e).1; omega) (by rw [htl, List.length_drop]; omega)
    rw [htl] at hr2
    rw [htl, hdl] at hr3 ho3 hR
    refine ⟨a2, c2, w2, hr2, g3, c3, w3, hr3, ho3, ?_⟩
    exact (bel_up hb1 hbx (Nat.le_refl _)).trans (hR.below (fun q hq => (ho1.lt hq).1) (by have := hb1.size; simp; omega))
  · have hbx := bel1 wd (.cells #[.int .i64 k, .bool true, .string ⟨#[]⟩] 62)
    obtain ⟨a1, c1, w1, hr1, ho1, hb1⟩ := run_copyL tiK (wd.alloc (.cells #[.int .i64 k, .bool true, .string ⟨#[]⟩] 62)) 0 a cap (l.take p) (hx.keep hbx) (by omega)
    rw [htl] at hr1 ho1
    refine ⟨a1, c1, w1, fun ty => (append_ty _ _ _ ty 0).trans hr1, ?_⟩
    have hbw := bel_up hbx hb1 (Nat.le_refl _)
    have hsz : (wd.alloc (.cells #[.int .i64 k, .bool true, .string ⟨#[]⟩] 62)).heap.size = wd.heap.size + 1 := by simp
    obtain ⟨a2, c2, w2, hr2, g3, c3, w3, hr3, ho3, hR⟩ := app2 w1 wd.heap.size (.slice a1 p c1) (l.take p) ⟨k, true, []⟩ wd.heap.size hbw.size (ho1.low (by omega)) ((hone wd).keep hb1) src (l.drop p) (hs.keep hbw) (fun e => by have := (ho1.lt e).1; omega) (fun q hq e => by have := hsb q hq; have := (ho1.lt e).1; omega) (by rw [htl, List.length_drop]; omega)
    rw [htl] at hr2
    rw [htl, hdl] at hr3 ho3 hR
    refine ⟨a2, c2, w2, hr2, g3, c3, w3, hr3, ho3, ?_⟩
    exact hbw.trans (hR.below (fun q hq => by have := (ho1.lt hq).1; omega) hbw.size)
/-- Rows that are the old ones, or new. -/
def New (w : World) (dv dv' : Nat → Value) : Prop := ∀ c, dv' c = dv c ∨ ∃ a n cap, dv' c = .slice a n cap ∧ ∀ q, blk a q → w.heap.size ≤ q
theorem New.refl (w : World) (dv : Nat → Value) : New w dv dv := fun _ => .inl rfl
theorem New.up {w : World} {dv : Nat → Value} (k : Nat) {a : Option Addr} {n cap : Nat} (h : ∀ q, blk a q → w.heap.size ≤ q) : New w dv (dvup dv k (.slice a n cap)) := fun c => by
  unfold dvup
  split
  · exact .inr ⟨a, n, cap, rfl, h⟩
  · exact .inl rfl
/-- What the document's Take leaves. -/
def DTk (w : World) (room : Nat) (T : Int → List C) (dv : Nat → Value) (c k : Int) (e : Ending) (w' : World) : Prop := ∃ dv', e = .returned (.tuple #[.agg (DA room dv'), .int .i64 (Rp.code room T c k), .string (ofL (Rp.told T c k))]) ∧ DR w' (Rp.take room T c k) dv' ∧ Below w.heap.size w w' ∧ New w dv dv'
theorem f14_res : Try.f14.results = #[.cell 6 30, .tmp 7, .tmp 8] := rfl
set_option maxRecDepth 100000 in
set_option maxHeartbeats 1000000 in
theorem dtk_no {w : World} {T : Int → List C} {dv : Nat → Value} (room : Nat) (h : DR w T dv) (ok : Rp.Ok room T) (c k : Int) (hm : Rp.may c k = false) : Calls Try.prog 14 #[.agg (DA room dv), .int .i64 c, .int .i64 k] w (DTk w room T dv c k) := by
  obtain ⟨W1, HW1⟩ : ∃ W1, Hid ((w.alloc (.cells (DA room dv) 30)).alloc (.cells (DA 0 nodv) 30) = W1) := ⟨_, Hid_of rfl⟩
  have HB1 : Hid (Below w.heap.size w W1) := by rw [← HW1.out]; exact bel_up (bel1 w _) (bel1 _ _) (Nat.le_refl _)
  have hr1 := heap_alloc2_old w (.cells (DA room dv) 30) (.cells (DA 0 nodv) 30)
  have hr2 := heap_alloc2_new w (.cells (DA room dv) 30) (.cells (DA 0 nodv) 30)
  rw [HW1.out] at hr1 hr2
  have HROW : Hid (∀ W, Below W1.heap.size W1 W → W.heap[w.heap.size]? = some (.cells (DA room dv) 30 (0, 0)) ∧ W.heap[w.heap.size + 1]? = some (.cells (DA 0 nodv) 30 (0, 0)) ∧ Below w.heap.size w W) := fun W hW => ⟨(hW.block _ (Array.getElem?_eq_some_iff.1 hr1).1).trans hr1, (hW.block _ (Array.getElem?_eq_some_iff.1 hr2).1).trans hr2, bel_up HB1.out hW (Nat.le_refl _)⟩
  have HFIN : Hid (∀ W dv', W.heap[w.heap.size + 1]? = some (.cells (DA 0 nodv) 30 (0, 0)) → Sl dv' → Below w.heap.size w W → (st30 ⟨w.heap.size + 1, 0, none⟩ (DA room dv')).run Try.prog W = .ok () (W.setRow (w.heap.size + 1) (DA room dv')) ∧ (W.setRow (w.heap.size + 1) (DA room dv')).heap[w.heap.size + 1]? = some (.cells (DA room dv') 30 (0, 0)) ∧ Below w.heap.size w (W.setRow (w.heap.size + 1) (DA room dv')) ∧ ∀ q, q ≠ w.heap.size + 1 → (W.setRow (w.heap.size + 1) (DA room dv')).heap[q]? = W.heap[q]?) := fun W dv' h1 h2 h3 => ⟨store30_row W _ _ _ _ _ h2 h1, setRow_heap W _ _ _ _ _ h1, below_setRow h3 (by omega) _, fun q hq => setRow_other W _ q _ hq⟩
  have hmy := may_any c k
  rw [hm] at hmy
  obtain ⟨r1, r2, rB⟩ := HROW.out W1 (Below.refl _ _)
  have hld := load30_row W1 w.heap.size room dv r1
  obtain ⟨f1, f2, f3, f4⟩ := HFIN.out W1 dv r2 h.sl rB
  have HQ1 := Hid_of f2
  have HQ2 : Hid (DTk w room T dv c k (.returned (.tuple #[.agg (DA room dv), .int .i64 0, .string ⟨#[]⟩])) (W1.setRow (w.heap.size + 1) (DA room dv))) := ⟨dv, by unfold Rp.code Rp.told; rw [hm]; rfl, by unfold Rp.take; rw [hm]; exact h.keep f3, f3, New.refl _ _⟩
  clear h ok hr1 hr2 HROW HFIN HB1 r1 r2 rB f2 f3 f4 hm
  go_enter Try.func14, Try.ntmps14
  go_upto_region 1 with fail
  rw [HW1.out]
  go_wp2_with fail
  refine (hmy _).mono ?_
  rintro e w2 ⟨rfl, rfl⟩
  go_wp2
  refine bodyPost_ret (v := .tuple #[.agg (DA room dv), .int .i64 0, .string ⟨#[]⟩]) ?_ rfl HQ2.out
  exact res30_3 f14_res _ _ (w.heap.size + 1) _ _ rfl HQ1.out
set_option maxRecDepth 100000 in
set_option maxHeartbeats 2000000 in
theorem dtk_busy {w : World} {T : Int → List C} {dv : Nat → Value} (room : Nat) (h : DR w T dv) (ok : Rp.Ok room T) (cn : Nat) (k : Int) (hm : Rp.may cn k = true) (x : C) (hP : Rp.fnd (T cn) k = some x) (hb : x.busy = true) : Calls Try.prog 14 #[.agg (DA room dv), .int .i64 cn, .int .i64 k] w (DTk w room T dv cn k) := by
  have hcn : cn ≤ 63 := by
    have : Rp.mayC cn = true := by unfold Rp.may at hm; simp only [Bool.and_eq_true] at hm; exact hm.1
    have := Rp.mayC_yes this
    omega
  obtain ⟨W1, HW1⟩ : ∃ W1, Hid ((w.alloc (.cells (DA room dv) 30)).alloc (.cells (DA 0 nodv) 30) = W1) := ⟨_, Hid_of rfl⟩
  have HB1 : Hid (Below w.heap.size w W1) := by rw [← HW1.out]; exact bel_up (bel1 w _) (bel1 _ _) (Nat.le_refl _)
  have hr1 := heap_alloc2_old w (.cells (DA room dv) 30) (.cells (DA 0 nodv) 30)
  have hr2 := heap_alloc2_new w (.cells (DA room dv) 30) (.cells (DA 0 nodv) 30)
  rw [HW1.out] at hr1 hr2
  have HROW : Hid (∀ W, Below W1.heap.size W1 W → W.heap[w.heap.size]? = some (.cells (DA room dv) 30 (0, 0)) ∧ W.heap[w.heap.size + 1]? = some (.cells (DA 0 nodv) 30 (0, 0)) ∧ Below w.heap.size w W) := fun W hW => ⟨(hW.block _ (Array.getElem?_eq_some_iff.1 hr1).1).trans hr1, (hW.block _ (Array.getElem?_eq_some_iff.1 hr2).1).trans hr2, bel_up HB1.out hW (Nat.le_refl _)⟩
  have HFIN : Hid (∀ W dv', W.heap[w.heap.size + 1]? = some (.cells (DA 0 nodv) 30 (0, 0)) → Sl dv' → Below w.heap.size w W → (st30 ⟨w.heap.size + 1, 0, none⟩ (DA room dv')).run Try.prog W = .ok () (W.setRow (w.heap.size + 1) (DA room dv')) ∧ (W.setRow (w.heap.size + 1) (DA room dv')).heap[w.heap.size + 1]? = some (.cells (DA room dv') 30 (0, 0)) ∧ Below w.heap.size w (W.setRow (w.heap.size + 1) (DA room dv')) ∧ ∀ q, q ≠ w.heap.size + 1 → (W.setRow (w.heap.size + 1) (DA room dv')).heap[q]? = W.heap[q]?) := fun W dv' h1 h2 h3 => ⟨store30_row W _ _ _ _ _ h2 h1, setRow_heap W _ _ _ _ _ h1, below_setRow h3 (by omega) _, fun q hq => setRow_other W _ q _ hq⟩
  have hmy := may_any cn k
  rw [hm] at hmy
  have HE : Hid (Rp.code room T cn k = Rp.tkc room (T cn) k ∧ Rp.told T cn k = Rp.tkr (T cn) k ∧ Rp.take room T cn k = fup T cn (Rp.tkl room (T cn) k)) := by
    unfold Rp.code Rp.told Rp.take; rw [hm]; exact ⟨rfl, rfl, rfl⟩
  obtain ⟨a, cap, hdv, hx⟩ := h.row cn
  obtain ⟨r1, r2, rB⟩ := HROW.out W1 (Below.refl _ _)
  have hcc : W1.cell? ⟨w.heap.size, 1 + cn, none⟩ = some (.slice a (T cn).length cap) := by rw [cell_of_row W1 _ _ _ _ _ r1, DA_get _ _ _ (by omega), hdv]
  have hl16 := (ok.l cn).le
  have h16 := ok.r16
  have h01 := ok.r1
  have hu := (ok.l cn).up
  have hfd := find_any a cap (T cn) k W1 (by omega) (hx.keep HB1.out).at' hu
  have HDR := Hid_of h
  have HX := Hid_of hx
  have HDV := Hid_of hdv
  have HU := Hid_of hu
  have HM := Hid_of hm
  have hple := Rp.plc_le (T cn) k
  have HSR := Hid_of (Rp.plc_sr k hu)
  clear h ok hr1 hr2 HB1 r1 r2 rB hx hdv hu hm
  obtain ⟨t1, t2, t3⟩ := Rp.tk_of (room := room) hP
  rw [t1, t2, t3, hb, Rp.fup_self] at HE
  rw [hP] at hfd HSR
  have HXB := Hid_of (And.intro hP hb)
  clear t1 t2 t3 hb hP
  go_enter Try.func14, Try.ntmps14
  go_upto_region 1 with fail
  rw [HW1.out]
  go_wp2_with fail
  refine (hmy _).mono ?_
  rintro e w2 ⟨rfl, rfl⟩
  go_wp2_with fail
  refine hfd.mono ?_
  rintro e w3 ⟨rfl, hb3⟩
  obtain ⟨r1, r2, rB⟩ := HROW.out w3 hb3
  have HX3 := Hid_of (HX.out.keep rB)
  have HDR3 := Hid_of (HDR.out.keep rB)
  clear hfd hcc hmy HROW hb3
  obtain ⟨hr, hid⟩ := HSR.out.yes rfl
  obtain ⟨g0, off, rfl, q0, q1, q2⟩ := HX3.out.at'.getC _ hr
  have hxb : (T cn)[Rp.plc (T cn) k].busy = true := by
    have := Rp.fnd_some HU.out (List.getElem_mem hr) hid
    rw [HXB.out.1] at this
    cases this
    exact HXB.out.2
  rw [hxb] at q1
  have hrl : (Rp.plc (T cn) k : Int) < ((T cn).length : Int) := by omega
  have hld := load30_row w3 w.heap.size room dv r1
  obtain ⟨f1, f2, f3, f4⟩ := HFIN.out w3 dv r2 HDR.out.sl rB
  have HQ1 := Hid_of f2
  have HQ2 : Hid (DTk w room T dv cn k (.returned (.tuple #[.agg (DA room dv), .int .i64 3, .string ⟨#[]⟩])) (w3.setRow (w.heap.size + 1) (DA room dv))) := ⟨dv, by rw [HE.out.1, HE.out.2.1]; rfl, by rw [HE.out.2.2]; exact HDR.out.keep f3, f3, New.refl _ _⟩
  clear r1 r2 rB f2 f3 f4 HFIN HDR HX3 HX HDR3 HSR hid hxb HXB q0 q2
  generalize Rp.plc (T cn) k = p at *
  generalize (T cn).length = L at *
  go_wp2
  refine bodyPost_ret (v := .tuple #[.agg (DA room dv), .int .i64 3, .string ⟨#[]⟩]) ?_ rfl HQ2.out
  exact res30_3 f14_res _ _ (w.heap.size + 1) _ _ rfl HQ1.out
set_option maxRecDepth 100000 in
set_option maxHeartbeats 2000000 in
theorem dtk_old {w : World} {T : Int → List C} {dv : Nat → Value} (room : Nat) (h : DR w T dv) (ok : Rp.Ok room T) (cn : Nat) (k : Int) (hm : Rp.may cn k = true) (hP : Rp.fnd (T cn) k = none) (hfull : room ≤ (T cn).length) (hpz : Rp.plc (T cn) k = 0) : Calls Try.prog 14 #[.agg (DA room dv), .int .i64 cn, .int .i64 k] w (DTk w room T dv cn k) := by
  have hcn : cn ≤ 63 := by
    have : Rp.mayC cn = true := by unfold Rp.may at hm; simp only [Bool.and_eq_true] at hm; exact hm.1
    have := Rp.mayC_yes this
    omega
  obtain ⟨W1, HW1⟩ : ∃ W1, Hid ((w.alloc (.cells (DA room dv) 30)).alloc (.cells (DA 0 nodv) 30) = W1) := ⟨_, Hid_of rfl⟩
  have HB1 : Hid (Below w.heap.size w W1) := by rw [← HW1.out]; exact bel_up (bel1 w _) (bel1 _ _) (Nat.le_refl _)
  have hr1 := heap_alloc2_old w (.cells (DA room dv) 30) (.cells (DA 0 nodv) 30)
  have hr2 := heap_alloc2_new w (.cells (DA room dv) 30) (.cells (DA 0 nodv) 30)
  rw [HW1.out] at hr1 hr2
  have HROW : Hid (∀ W, Below W1.heap.size W1 W → W.heap[w.heap.size]? = some (.cells (DA room dv) 30 (0, 0)) ∧ W.heap[w.heap.size + 1]? = some (.cells (DA 0 nodv) 30 (0, 0)) ∧ Below w.heap.size w W) := fun W hW => ⟨(hW.block _ (Array.getElem?_eq_some_iff.1 hr1).1).trans hr1, (hW.block _ (Array.getElem?_eq_some_iff.1 hr2).1).trans hr2, bel_up HB1.out hW (Nat.le_refl _)⟩
  have HFIN : Hid (∀ W dv', W.heap[w.heap.size + 1]? = some (.cells (DA 0 nodv) 30 (0, 0)) → Sl dv' → Below w.heap.size w W → (st30 ⟨w.heap.size + 1, 0, none⟩ (DA room dv')).run Try.prog W = .ok () (W.setRow (w.heap.size + 1) (DA room dv')) ∧ (W.setRow (w.heap.size + 1) (DA room dv')).heap[w.heap.size + 1]? = some (.cells (DA room dv') 30 (0, 0)) ∧ Below w.heap.size w (W.setRow (w.heap.size + 1) (DA room dv')) ∧ ∀ q, q ≠ w.heap.size + 1 → (W.setRow (w.heap.size + 1) (DA room dv')).heap[q]? = W.heap[q]?) := fun W dv' h1 h2 h3 => ⟨store30_row W _ _ _ _ _ h2 h1, setRow_heap W _ _ _ _ _ h1, below_setRow h3 (by omega) _, fun q hq => setRow_other W _ q _ hq⟩
  have hmy := may_any cn k
  rw [hm] at hmy
  have HE : Hid (Rp.code room T cn k = Rp.tkc room (T cn) k ∧ Rp.told T cn k = Rp.tkr (T cn) k ∧ Rp.take room T cn k = fup T cn (Rp.tkl room (T cn) k)) := by
    unfold Rp.code Rp.told Rp.take; rw [hm]; exact ⟨rfl, rfl, rfl⟩
  obtain ⟨a, cap, hdv, hx⟩ := h.row cn
  obtain ⟨r1, r2, rB⟩ := HROW.out W1 (Below.refl _ _)
  have hcc : W1.cell? ⟨w.heap.size, 1 + cn, none⟩ = some (.slice a (T cn).length cap) := by rw [cell_of_row W1 _ _ _ _ _ r1, DA_get _ _ _ (by omega), hdv]
  have hl16 := (ok.l cn).le
  have h16 := ok.r16
  have h01 := ok.r1
  have hu := (ok.l cn).up
  have hfd := find_any a cap (T cn) k W1 (by omega) (hx.keep HB1.out).at' hu
  have HDR := Hid_of h
  have HX := Hid_of hx
  have HDV := Hid_of hdv
  have HU := Hid_of hu
  have HM := Hid_of hm
  have hple := Rp.plc_le (T cn) k
  have HSR := Hid_of (Rp.plc_sr k hu)
  clear h ok hr1 hr2 HB1 r1 r2 rB hx hdv hu hm
  have HFU := Hid_of (And.intro hP (And.intro hfull hpz))
  rw [hP, hpz] at hfd
  clear hfull hP hpz
  go_enter Try.func14, Try.ntmps14
  go_upto_region 1 with fail
  rw [HW1.out]
  go_wp2_with fail
  refine (hmy _).mono ?_
  rintro e w2 ⟨rfl, rfl⟩
  go_wp2_with fail
  refine hfd.mono ?_
  rintro e w3 ⟨rfl, hb3⟩
  obtain ⟨r1, r2, rB⟩ := HROW.out w3 hb3
  have HX3 := Hid_of (HX.out.keep rB)
  have HDR3 := Hid_of (HDR.out.keep rB)
  clear hfd hcc hmy HROW hb3
  have hld := load30_row w3 w.heap.size room dv r1
  have hc0 : w3.cell? ⟨w.heap.size, 0, none⟩ = some (.int .i64 room) := by rw [cell_of_row w3 _ _ _ _ _ r1, DA_zero]
  obtain ⟨f1, f2, f3, f4⟩ := HFIN.out w3 dv r2 HDR.out.sl rB
  have hge : decide ((room : Int) ≤ ((T cn).length : Int)) = true := decide_eq_true (by have := HFU.out.2.1; omega)
  have hge2 : decide (room ≤ (T cn).length) = true := decide_eq_true HFU.out.2.1
  have hge3 : room ≤ (T cn).length := HFU.out.2.1
  have HQ1 := Hid_of f2
  have HQ2 : Hid (DTk w room T dv cn k (.returned (.tuple #[.agg (DA room dv), .int .i64 4, .string ⟨#[]⟩])) (w3.setRow (w.heap.size + 1) (DA room dv))) := by
    have hcond : room ≤ (T cn).length ∧ Rp.plc (T cn) k = 0 := HFU.out.2
    refine ⟨dv, ?_, ?_, f3, New.refl _ _⟩
    · rw [HE.out.1, HE.out.2.1]; unfold Rp.tkc Rp.tkr; rw [HFU.out.1]; simp only; rw [if_pos hcond]; rfl
    · rw [HE.out.2.2]; unfold Rp.tkl; rw [HFU.out.1]; simp only; rw [if_pos hcond, Rp.fup_self]; exact HDR.out.keep f3
  clear r1 r2 rB f2 f3 f4 HFIN HDR HX3 HX HDR3 HSR HFU
  generalize (T cn).length = L at *
  go_wp2
  refine bodyPost_ret (v := .tuple #[.agg (DA room dv), .int .i64 4, .string ⟨#[]⟩]) ?_ rfl HQ2.out
  exact res30_3 f14_res _ _ (w.heap.size + 1) _ _ rfl HQ1.out
set_option maxRecDepth 100000 in
set_option maxHeartbeats 2000000 in
theorem dtk_reply {w : World} {T : Int → List C} {dv : Nat → Value} (room : Nat) (h : DR w T dv) (ok : Rp.Ok room T) (cn : Nat) (k : Int) (hm : Rp.may cn k = true) (x : C) (hP : Rp.fnd (T cn) k = some x) (hb : x.busy = false) : Calls Try.prog 14 #[.agg (DA room dv), .int .i64 cn, .int .i64 k] w (DTk w room T dv cn k) := by
  have hcn : cn ≤ 63 := by
    have : Rp.mayC cn = true := by unfold Rp.may at hm; simp only [Bool.and_eq_true] at hm; exact hm.1
    have := Rp.mayC_yes this
    omega
  obtain ⟨W1, HW1⟩ : ∃ W1, Hid ((w.alloc (.cells (DA room dv) 30)).alloc (.cells (DA 0 nodv) 30) = W1) := ⟨_, Hid_of rfl⟩
  have HB1 : Hid (Below w.heap.size w W1) := by rw [← HW1.out]; exact bel_up (bel1 w _) (bel1 _ _) (Nat.le_refl _)
  have hr1 := heap_alloc2_old w (.cells (DA room dv) 30) (.cells (DA 0 nodv) 30)
  have hr2 := heap_alloc2_new w (.cells (DA room dv) 30) (.cells (DA 0 nodv) 30)
  rw [HW1.out] at hr1 hr2
  have HROW : Hid (∀ W, Below W1.heap.size W1 W → W.heap[w.heap.size]? = some (.cells (DA room dv) 30 (0, 0)) ∧ W.heap[w.heap.size + 1]? = some (.cells (DA 0 nodv) 30 (0, 0)) ∧ Below w.heap.size w W) := fun W hW => ⟨(hW.block _ (Array.getElem?_eq_some_iff.1 hr1).1).trans hr1, (hW.block _ (Array.getElem?_eq_some_iff.1 hr2).1).trans hr2, bel_up HB1.out hW (Nat.le_refl _)⟩
  have HFIN : Hid (∀ W dv', W.heap[w.heap.size + 1]? = some (.cells (DA 0 nodv) 30 (0, 0)) → Sl dv' → Below w.heap.size w W → (st30 ⟨w.heap.size + 1, 0, none⟩ (DA room dv')).run Try.prog W = .ok () (W.setRow (w.heap.size + 1) (DA room dv')) ∧ (W.setRow (w.heap.size + 1) (DA room dv')).heap[w.heap.size + 1]? = some (.cells (DA room dv') 30 (0, 0)) ∧ Below w.heap.size w (W.setRow (w.heap.size + 1) (DA room dv')) ∧ ∀ q, q ≠ w.heap.size + 1 → (W.setRow (w.heap.size + 1) (DA room dv')).heap[q]? = W.heap[q]?) := fun W dv' h1 h2 h3 => ⟨store30_row W _ _ _ _ _ h2 h1, setRow_heap W _ _ _ _ _ h1, below_setRow h3 (by omega) _, fun q hq => setRow_other W _ q _ hq⟩
  have hmy := may_any cn k
  rw [hm] at hmy
  have HE : Hid (Rp.code room T cn k = Rp.tkc room (T cn) k ∧ Rp.told T cn k = Rp.tkr (T cn) k ∧ Rp.take room T cn k = fup T cn (Rp.tkl room (T cn) k)) := by
    unfold Rp.code Rp.told Rp.take; rw [hm]; exact ⟨rfl, rfl, rfl⟩
  obtain ⟨a, cap, hdv, hx⟩ := h.row cn
  obtain ⟨r1, r2, rB⟩ := HROW.out W1 (Below.refl _ _)
  have hcc : W1.cell? ⟨w.heap.size, 1 + cn, none⟩ = some (.slice a (T cn).length cap) := by rw [cell_of_row W1 _ _ _ _ _ r1, DA_get _ _ _ (by omega), hdv]
  have hl16 := (ok.l cn).le
  have h16 := ok.r16
  have h01 := ok.r1
  have hu := (ok.l cn).up
  have hfd := find_any a cap (T cn) k W1 (by omega) (hx.keep HB1.out).at' hu
  have HDR := Hid_of h
  have HX := Hid_of hx
  have HDV := Hid_of hdv
  have HU := Hid_of hu
  have HM := Hid_of hm
  have hple := Rp.plc_le (T cn) k
  have HSR := Hid_of (Rp.plc_sr k hu)
  clear h ok hr1 hr2 HB1 r1 r2 rB hx hdv hu hm
  obtain ⟨t1, t2, t3⟩ := Rp.tk_of (room := room) hP
  rw [t1, t2, t3, hb, Rp.fup_self] at HE
  rw [hP] at hfd HSR
  have HXB := Hid_of (And.intro hP hb)
  clear t1 t2 t3 hb hP
  go_enter Try.func14, Try.ntmps14
  go_upto_region 1 with fail
  rw [HW1.out]
  go_wp2_with fail
  refine (hmy _).mono ?_
  rintro e w2 ⟨rfl, rfl⟩
  go_wp2_with fail
  refine hfd.mono ?_
  rintro e w3 ⟨rfl, hb3⟩
  obtain ⟨r1, r2, rB⟩ := HROW.out w3 hb3
  have HX3 := Hid_of (HX.out.keep rB)
  have HDR3 := Hid_of (HDR.out.keep rB)
  clear hfd hcc hmy HROW hb3
  obtain ⟨hr, hid⟩ := HSR.out.yes rfl
  obtain ⟨g0, off, rfl, q0, q1, q2⟩ := HX3.out.at'.getC _ hr
  have hxb : (T cn)[Rp.plc (T cn) k].busy = false ∧ (T cn)[Rp.plc (T cn) k].reply = x.reply := by
    have := Rp.fnd_some HU.out (List.getElem_mem hr) hid
    rw [HXB.out.1] at this
    cases this
    exact ⟨HXB.out.2, rfl⟩
  rw [hxb.1] at q1
  rw [hxb.2] at q2
  have hrl : (Rp.plc (T cn) k : Int) < ((T cn).length : Int) := by omega
  have r1d : w3.drew.heap[w.heap.size]? = some (.cells (DA room dv) 30 (0, 0)) := r1
  have r2d : w3.drew.heap[w.heap.size + 1]? = some (.cells (DA 0 nodv) 30 (0, 0)) := r2
  have hld := load30_row w3.drew w.heap.size room dv r1d
  obtain ⟨f1, f2, f3, f4⟩ := HFIN.out w3.drew dv r2d HDR.out.sl rB.drew
  have HQ1 := Hid_of f2
  have HQ2 : Hid (DTk w room T dv cn k (.returned (.tuple #[.agg (DA room dv), .int .i64 2, .string (ofL x.reply)])) (w3.drew.setRow (w.heap.size + 1) (DA room dv))) := ⟨dv, by rw [HE.out.1, HE.out.2.1]; rfl, by rw [HE.out.2.2]; exact HDR.out.keep f3, f3, New.refl _ _⟩
  have hg0 : g0 < w.heap.size := by
    obtain ⟨g1, off1, e1, y0, _, _⟩ := HX.out.at'.getC _ hr
    cases e1
    exact World.block_lt_of_cell? w _ y0
  have q2' : (w3.drew.setRow (w.heap.size + 1) (DA room dv)).cell? ⟨g0, off + Rp.plc (T cn) k * 3 + 2, none⟩ = some (.string (ofL x.reply)) := (World.cell?_of_block (w := w3.drew) (a := ⟨g0, off + Rp.plc (T cn) k * 3 + 2, none⟩) (f4 g0 (by omega))).trans q2
  clear r1 r2 r1d r2d rB f2 f3 f4 HFIN HDR HX3 HX HDR3 HSR hid hxb HXB q0 hg0
  generalize x.reply = rp at *
  generalize Rp.plc (T cn) k = p at *
  generalize (T cn).length = L at *
  go_wp2_with fail
  go_region
  all_goals
    go_wp2
    refine bodyPost_ret (v := .tuple #[.agg (DA room dv), .int .i64 2, .string (ofL rp)]) ?_ rfl HQ2.out
    exact res30_3 f14_res _ _ (w.heap.size + 1) _ _ rfl HQ1.out
end Go.Proofs.Ytjbcchipbdkplaa
