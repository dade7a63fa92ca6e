/-
  The document's acceptor: which ballots it may follow, its votes, a trim.
-/
import Derived.Test.YtbbadfebajpeaaaK
namespace Go.Proofs.Ytbbadfebajpeaaa
open Go.RowKit
set_option linter.unusedVariables false
open M (E V)

/-- The document's acceptor as a value. -/
abbrev aV (a : M.S) (ad : Option Addr) (c : Nat) : Value := .agg #[.int .i64 a.p.i, .int .i64 a.p.t, .int .i64 a.base, .slice ad a.l.length c]
theorem Try.size31 : (Try.prog.info? 31).map (·.size) = some 4 := by kernel_rfl
theorem res31 {fn : Func} {p u : Tmp} (h : fn.results = #[.cell p 31, .tmp u]) (tmps : Array Value) (w : World) (g : Nat) (v0 v1 v2 v3 : Value) (hp : tmps.getD p undef = .pointer (some ⟨g, 0, none⟩)) (hg : w.heap[g]? = some (.cells #[v0, v1, v2, v3] 31 (0, 0))) :
    (results fn tmps).run Try.prog w = .ok (.tuple #[.agg #[v0, v1, v2, v3], tmps.getD u undef]) w := by
  have hp' : tmps[p]?.getD undef = .pointer (some ⟨g, 0, none⟩) := by simpa using hp
  rw [results_cell_tmp h]
  simp [asAddr, hp', run_loadVar_row w g 31 31 #[v0, v1, v2, v3] (0, 0) _ hg Try.underlying31 rfl Try.size31]
theorem results_cell_tmps {fn : Func} {p u u' : Tmp} {ty : TypeId} (h : fn.results = #[.cell p ty, .tmp u, .tmp u']) (tmps : Array Value) (P : Program) (w : World) :
    (results fn tmps).run P w = ((asAddr (tmps.getD p undef)).run P w).andThen fun a w₁ => ((loadVar ty a).run P w₁).andThen fun v w₂ => .ok (.tuple #[v, tmps.getD u undef, tmps.getD u' undef]) w₂ := by
  simp only [results, h]
  simp [Sem.run_bind, Result.andThen]
theorem res31_3 {fn : Func} {p u u' : Tmp} (h : fn.results = #[.cell p 31, .tmp u, .tmp u']) (tmps : Array Value) (w : World) (g : Nat) (v0 v1 v2 v3 : Value) (hp : tmps.getD p undef = .pointer (some ⟨g, 0, none⟩)) (hg : w.heap[g]? = some (.cells #[v0, v1, v2, v3] 31 (0, 0))) :
    (results fn tmps).run Try.prog w = .ok (.tuple #[.agg #[v0, v1, v2, v3], tmps.getD u undef, tmps.getD u' undef]) w := by
  have hp' : tmps[p]?.getD undef = .pointer (some ⟨g, 0, none⟩) := by simpa using hp
  rw [results_cell_tmps h]
  simp [asAddr, hp', run_loadVar_row w g 31 31 #[v0, v1, v2, v3] (0, 0) _ hg Try.underlying31 rfl Try.size31]
set_option maxHeartbeats 1000000 in
theorem rmay_any (a : M.S) (ad : Option Addr) (c : Nat) (x : E) (w : World) : Calls Try.prog 22 #[aV a ad c, bV x] w fun e w' => e = .returned (.bool (M.may a x)) ∧ Below w.heap.size w w' := by
  have HM : Hid (M.may a x = (M.vld x && decide (0 ≤ M.cmpE x a.p))) := rfl
  rw [HM.out]
  clear HM
  obtain ⟨W1, HW1⟩ : ∃ W1, Hid ((w.alloc (.cells #[.int .i64 a.p.i, .int .i64 a.p.t, .int .i64 a.base, .slice ad a.l.length c] 31)).alloc (.cells #[.int .i64 x.i, .int .i64 x.t] 28) = W1) := ⟨_, rfl⟩
  have HB1 : Hid (Below w.heap.size w W1) := by rw [← HW1.out]; exact bel2 w _ _
  have hr1 : W1.heap[w.heap.size]? = some (.cells #[.int .i64 a.p.i, .int .i64 a.p.t, .int .i64 a.base, .slice ad a.l.length c] 31 (0, 0)) := by rw [← HW1.out]; exact heap_alloc2_old w _ _
  have hr2 : W1.heap[w.heap.size + 1]? = some (.cells #[.int .i64 x.i, .int .i64 x.t] 28 (0, 0)) := by rw [← HW1.out]; exact heap_alloc2_new w _ _
  have HR1 := Hid_of hr1
  have HR2 := Hid_of hr2
  obtain ⟨⟨z0, z1, z2, z3⟩, _⟩ := row4 hr1
  obtain ⟨⟨y0, y1⟩, _⟩ := row2 hr2
  have hv := rvalid_any x W1
  clear hr1 hr2
  cases hx : M.vld x with
  | true =>
    rw [hx] at hv
    rw [Bool.true_and]
    clear hx
    go_enter Try.func22, Try.ntmps22
    go_upto_region 1 with fail
    rw [HW1.out]
    go_wp2_with fail
    refine hv.mono ?_
    rintro e w2 ⟨rfl, hb2⟩
    obtain ⟨⟨x0, x1, x2, x3⟩, _⟩ := row4 (bel_row HR1.out hb2)
    obtain ⟨⟨u0, u1⟩, _⟩ := row2 (bel_row HR2.out hb2)
    have HB2 := Hid_of (bel_up HB1.out hb2 (Nat.le_refl _))
    clear hb2 hv z0 z1 z2 z3 y0 y1
    go_wp2_with fail
    refine (rcmp_any x a.p _).mono ?_
    rintro e w3 ⟨rfl, hb3⟩
    have HB3 := Hid_of (bel_up HB2.out hb3 (Nat.le_refl _))
    clear hb3
    go_wp2
    go_ret
    exact ⟨rfl, HB3.out⟩
  | false =>
    rw [hx] at hv
    rw [Bool.false_and]
    clear hx
    go_enter Try.func22, Try.ntmps22
    go_upto_region 1 with fail
    rw [HW1.out]
    go_wp2_with fail
    refine hv.mono ?_
    rintro e w2 ⟨rfl, hb2⟩
    have HB2 := Hid_of (bel_up HB1.out hb2 (Nat.le_refl _))
    clear hb2 hv
    go_wp2
    go_ret
    exact ⟨rfl, HB2.out⟩
set_option maxRecDepth 100000 in
set_option maxHeartbeats 1000000 in
theorem rvotes_any (a : M.S) (ad : Option Addr) (c : Nat) (kk : Int) (w : World) (hx : XL vl w ad c a.l) (hl : a.l.length ≤ 1024) : Calls Try.prog 20 #[aV a ad c, .int .i64 kk] w (RV w (M.vts a.l kk)) := by
  obtain ⟨W1, HW1⟩ : ∃ W1, Hid (w.alloc (.cells #[.int .i64 a.p.i, .int .i64 a.p.t, .int .i64 a.base, .slice ad a.l.length c] 31) = W1) := ⟨_, rfl⟩
  have hb1 : Below w.heap.size w W1 := by rw [← HW1.out]; exact bel1 w _
  have hr1 : W1.heap[w.heap.size]? = some (.cells #[.int .i64 a.p.i, .int .i64 a.p.t, .int .i64 a.base, .slice ad a.l.length c] 31 (0, 0)) := by rw [← HW1.out]; exact heap_alloc_last w _
  have HB1 := Hid_of hb1
  have HR1 := Hid_of hr1
  have HAT := Hid_of (hx.at'.keep hb1)
  clear hb1 hr1 hx
  go_enter Try.func20, Try.ntmps20
  go_wp2
  rw [HW1.out]
  clear HW1
  go_loopw [6, 5] (fun i u wr => ∃ k : Nat, k ≤ a.l.length ∧ i = .int .i64 k ∧ OwnL vl 33 wr W1.heap.size u (M.vts (a.l.take k) kk) ∧ Below W1.heap.size W1 wr) (fun i u _ => a.l.length - (intOf i).toNat)
  case atStart => exact ⟨0, Nat.zero_le _, rfl, OwnL.nil _ _ _, Below.refl _ _⟩
  case round =>
    obtain ⟨k, hk, rfl, ho, hbl⟩ := hrel
    obtain ⟨⟨z0, z1, z2, z3⟩, _⟩ := row4 (bel_row HR1.out hbl)
    obtain ⟨a1, cap1, rfl, hx1, _⟩ := ho.at
    have hlm : (M.vts (a.l.take k) kk).length ≤ 1024 := Nat.le_trans (M.vts_le _ _) (by simp; omega)
    by_cases hlt : k < a.l.length
    · obtain ⟨g0, off0, rfl, q0, q1, q2, q3⟩ := (HAT.out.keep hbl).getV k hlt
      have HT := Hid_of (M.vts_snoc a.l kk k hlt)
      have hki : (k : Int) < (a.l.length : Int) := by omega
      generalize M.vts (a.l.take k) kk = O at *
      by_cases hge : kk ≤ a.l[k].s
      · obtain ⟨a', c', w4, hrun, ho4, hr4⟩ := app1 a.l[k] ho (by have := hbl.size; omega) (by omega)
        have HB4 : Hid (Below W1.heap.size W1 w4) := hbl.trans (hr4.below (fun j hj => (ho.lt hj).1) hbl.size)
        have HO4 := Hid_of ho4
        rw [if_pos hge] at HT
        have dge : decide (kk ≤ a.l[k].s) = true := decide_eq_true hge
        clear ho hbl hx1 ho4 hr4 hge
        generalize a.l[k] = x at *
        go_wp2_with (at_builtin; refine wpList_append_known rfl _ _ 29 rfl _ _ rfl rfl _ _ (hrun _) ?_)
        go_roundw
        case rel => exact ⟨k + 1, by omega, by go_num, by rw [HT.out]; exact HO4.out, HB4.out⟩
        case measure => simp [intOf]; omega
      · have HB4 := Hid_of hbl
        have HO4 := Hid_of ho
        rw [if_neg hge] at HT
        have dge : decide (kk ≤ a.l[k].s) = false := decide_eq_false hge
        clear ho hbl hx1 hge
        generalize a.l[k] = x at *
        go_wp2
        go_roundw
        case rel => exact ⟨k + 1, by omega, by go_num, by rw [HT.out]; exact HO4.out, HB4.out⟩
        case measure => simp [intOf]; omega
    · obtain rfl : k = a.l.length := by omega
      have HQ : Hid (RV w (M.vts a.l kk) (.returned (.slice a1 (M.vts (a.l.take a.l.length) kk).length cap1)) wr) := ⟨_, rfl, by rw [List.take_length] at ho ⊢; exact ho.low HB1.out.size, bel_up HB1.out hbl (Nat.le_refl _)⟩
      clear ho hbl hx1
      go_wp2
      go_ret
      exact HQ.out
/-- What the document's acceptor is, behind a deed. -/
def DS (w : World) (a : M.S) (v : Value) (w' : World) : Prop := ∃ ad c, v = aV a ad c ∧ XL vl w' ad c a.l ∧ (∀ j, blk ad j → w.heap.size ≤ j ∧ j < w'.heap.size) ∧ Below w.heap.size w w'
theorem ds_of {w w2 w' : World} {a2 : Option Addr} {c2 m : Nat} {l : List V} {G : Nat → Prop} (hb : Below w.heap.size w w2) (hx : XL vl w2 a2 c2 l) (hbk : ∀ j, blk a2 j → m ≤ j ∧ j < w2.heap.size) (hF : Fr w2 G w' G) (hG : ∀ k, G k → w.heap.size ≤ k ∧ k < m) (hm : w.heap.size ≤ m := by omega) :
    XL vl w' a2 c2 l ∧ (∀ j, blk a2 j → w.heap.size ≤ j ∧ j < w'.heap.size) ∧ Below w.heap.size w w' :=
  ⟨hx.keepBut fun k _ hk => hF.block k (hbk k hk).2 (fun hg => by have := (hG k hg).2; have := (hbk k hk).1; omega), fun j hj => ⟨by have := (hbk j hj).1; omega, Nat.lt_of_lt_of_le (hbk j hj).2 hF.size⟩, hb.trans (hF.below (fun k hk => (hG k hk).1) hb.size)⟩
theorem f15_res : Try.f15.results = #[.cell 4 31, .tmp 5] := rfl
set_option maxRecDepth 100000 in
set_option maxHeartbeats 1000000 in
theorem rtrim_any (a : M.S) (ad : Option Addr) (c : Nat) (u : Int) (w : World) (hx : XL vl w ad c a.l) (hl : a.l.length ≤ 1024) : Calls Try.prog 15 #[aV a ad c, .int .i64 u] w fun e w' => ∃ v, e = .returned (.tuple #[v, .int .i64 (M.trn a u : Nat)]) ∧ DS w (M.trs a u) v w' := by
  obtain ⟨mu, HMU⟩ : ∃ mu, Hid (min u 1024 = mu) := ⟨_, Hid_of rfl⟩
  obtain ⟨W1, HW1⟩ : ∃ W1, Hid ((w.alloc (.cells #[.int .i64 a.p.i, .int .i64 a.p.t, .int .i64 a.base, .slice ad a.l.length c] 31)).alloc (.cells #[.int .i64 0, .int .i64 0, .int .i64 0, .slice none 0 0] 31) = W1) := ⟨_, rfl⟩
  have hb1 : Below w.heap.size w W1 := by rw [← HW1.out]; exact bel2 w _ _
  have hr1 : W1.heap[w.heap.size]? = some (.cells #[.int .i64 a.p.i, .int .i64 a.p.t, .int .i64 a.base, .slice ad a.l.length c] 31 (0, 0)) := by rw [← HW1.out]; exact heap_alloc2_old w _ _
  have hr2 : W1.heap[w.heap.size + 1]? = some (.cells #[.int .i64 0, .int .i64 0, .int .i64 0, .slice none 0 0] 31 (0, 0)) := by rw [← HW1.out]; exact heap_alloc2_new w _ _
  have hv := rvotes_any a ad c mu W1 (hx.keep hb1) hl
  have HB1 := Hid_of hb1
  have HR1 := Hid_of hr1
  have HR2 := Hid_of hr2
  obtain ⟨⟨z0, z1, z2, z3⟩, _⟩ := row4 hr1
  clear hb1 hr1 hr2 hx
  go_enter Try.func15, Try.ntmps15
  go_upto_region 1 with fail
  rw [HW1.out]
  go_wp2_with fail
  rw [HMU.out]
  refine hv.mono ?_
  rintro e w2 ⟨v2, rfl, ho2, hb2⟩
  obtain ⟨a2, c2, rfl, hx2, hbk2⟩ := ho2.at
  have hR1 := bel_row HR1.out hb2
  have hR2 := bel_row HR2.out hb2
  have hb02 := bel_up HB1.out hb2 (Nat.le_refl _)
  obtain ⟨⟨x0, x1, x2, x3⟩, xf⟩ := row4 hR1
  obtain ⟨⟨y0, y1, y2, y3⟩, yf⟩ := row4 hR2
  have xf2 := xf 2
  have xf3 := xf 3
  have yf0 := yf 0
  have yf1 := yf 1
  have yf2 := yf 2
  have yf3 := yf 3
  have hlv := M.vts_le a.l mu
  have hw : IntKind.i64.wrap ((a.l.length : Int) - ((M.vts a.l mu).length : Int)) = ((M.trn a u : Nat) : Int) := by
    unfold M.trn
    rw [HMU.out, IntKind.wrap_i64]
    omega
  have hW1 : w.heap.size + 1 < W1.heap.size := (Array.getElem?_eq_some_iff.1 HR2.out).1
  have hrow3 : (put4 ((w2.setCell ⟨w.heap.size, 3, none⟩ (.slice a2 (M.vts a.l mu).length c2)).setCell ⟨w.heap.size, 2, none⟩ (.int .i64 (max a.base mu))) (w.heap.size + 1) (.int .i64 a.p.i) (.int .i64 a.p.t) (.int .i64 (max a.base mu)) (.slice a2 (M.vts a.l mu).length c2)).heap[w.heap.size + 1]? = some (.cells #[.int .i64 a.p.i, .int .i64 a.p.t, .int .i64 (max a.base mu), .slice a2 (M.vts a.l mu).length c2] 31 (0, 0)) :=
    put4_row (((heap_setCell_other _ ⟨w.heap.size, 2, none⟩ _ _ (by simp)).trans (heap_setCell_other _ ⟨w.heap.size, 3, none⟩ _ _ (by simp))).trans hR2) _ _ _ _
  have HROW := Hid_of hrow3
  have HDS : Hid (DS w (M.trs a u) (.agg #[.int .i64 a.p.i, .int .i64 a.p.t, .int .i64 (max a.base mu), .slice a2 (M.vts a.l mu).length c2]) (put4 ((w2.setCell ⟨w.heap.size, 3, none⟩ (.slice a2 (M.vts a.l mu).length c2)).setCell ⟨w.heap.size, 2, none⟩ (.int .i64 (max a.base mu))) (w.heap.size + 1) (.int .i64 a.p.i) (.int .i64 a.p.t) (.int .i64 (max a.base mu)) (.slice a2 (M.vts a.l mu).length c2))) := by
    have hg0 : (fun k => k = w.heap.size ∨ k = w.heap.size + 1) w.heap.size := .inl rfl
    have hg1 : (fun k => k = w.heap.size ∨ k = w.heap.size + 1) (w.heap.size + 1) := .inr rfl
    have hF := fr_set (fr_set (fr_set (fr_set (fr_set (fr_set (Fr.refl w2 fun k => k = w.heap.size ∨ k = w.heap.size + 1) hg0 3 (.slice a2 (M.vts a.l mu).length c2)) hg0 2 (.int .i64 (max a.base mu))) hg1 0 (.int .i64 a.p.i)) hg1 1 (.int .i64 a.p.t)) hg1 2 (.int .i64 (max a.base mu))) hg1 3 (.slice a2 (M.vts a.l mu).length c2)
    have e : M.trs a u = ⟨a.p, max a.base mu, M.vts a.l mu⟩ := by unfold M.trs; rw [HMU.out]
    obtain ⟨q1, q2, q3⟩ := ds_of hb02 hx2 (fun j hj => ⟨(hbk2 j hj).1, (hbk2 j hj).2.2⟩) hF (fun k hk => by rcases hk with rfl | rfl <;> omega)
    rw [e]
    exact ⟨a2, c2, rfl, q1, q2, q3⟩
  clear hb2 ho2 hx2 hbk2 hR1 hR2 hb02 xf yf hlv hW1 hrow3 hv HB1 HR1 HR2 z0 z1 z2 z3 HMU HW1
  obtain ⟨tn, HTN⟩ : ∃ tn, Hid (M.trn a u = tn) := ⟨_, Hid_of rfl⟩
  rw [HTN.out] at hw
  generalize (M.vts a.l mu).length = n2 at *
  go_wp2
  refine bodyPost_ret (v := .tuple #[.agg #[.int .i64 a.p.i, .int .i64 a.p.t, .int .i64 (max a.base mu), .slice a2 n2 c2], .int .i64 tn]) ?_ rfl ⟨_, by rw [HTN.out], HDS.out⟩
  exact res31 f15_res _ _ (w.heap.size + 1) _ _ _ _ rfl HROW.out
end Go.Proofs.Ytbbadfebajpeaaa
