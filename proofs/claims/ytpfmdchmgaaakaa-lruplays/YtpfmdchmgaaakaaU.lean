/-
  The document's keys; a key dropped, a key pinned.
-/
import Derived.Test.YtpfmdchmgaaakaaT
namespace Go.Proofs.Ytpfmdchmgaaakaa
open Go.RowKit
set_option linter.unusedVariables false
open M (K)

theorem res_cell_tmp {fn : Func} {p u : Tmp} (h : fn.results = #[.cell p 29, .tmp u]) (tmps : Array Value) (w : World) (g : Nat) (v0 v1 : Value) (hp : tmps.getD p undef = .pointer (some ⟨g, 0, none⟩)) (hg : w.heap[g]? = some (.cells #[v0, v1] 29 (0, 0))) :
    (results fn tmps).run Try.prog w = .ok (.tuple #[.agg #[v0, v1], tmps.getD u undef]) w := by
  have hp' : tmps[p]?.getD undef = .pointer (some ⟨g, 0, none⟩) := by simpa using hp
  rw [results_cell_tmp h]
  simp [asAddr, hp', run_loadVar_row w g 29 29 #[v0, v1] (0, 0) _ hg Try.underlying29 rfl Try.size29]
/-- An append whose run is known, in a plain region. -/
theorem wpList_append_known {P : Program} {w : World} {ops : Array Oper} {rest : List Oper} {o : Oper} {a : Act} {Q : Exit → Act → World → Prop} (hgd : o.guard = none) (s x : Operand) (t : TypeId)
    (ho : o.op = .call { callee := .builtin .append, args := #[s, x], argTypes := #[t, t] }) (v sv : Value) (hs : a.eval s = v) (hx : a.eval x = sv) (v' : Value) (w' : World)
    (hr : (Builtin.append_ #[t, t] o.type #[v, sv]).run P w = .ok v' w') (h : wpList P ops Q rest (a.put o.dst v') w') : wpList P ops Q (o :: rest) a w := by
  refine wpList_plain hgd fun K' hK' => ?_
  unfold Oper.wp execOp
  simp only [ho, resolve, invoke, builtin, Sem.run_bind, Sem.run_pure, Result.andThen_ok, List.map_toArray, List.map_cons, List.map_nil, hs, hx, hr]
  exact hK' _ _ h
/-- What a call leaves of a row: the row itself, or a new one. -/
def XRes (w w' : World) (a : Option Addr) (cap : Nat) (v' : Value) (l l' : List K) : Prop := (v' = .slice a l.length cap ∧ l' = l) ∨ OwnE w' w.heap.size v' l'
def DpR (w : World) (mo : Int) (a : Option Addr) (cap : Nat) (l l' : List K) (r : Value) (x : Ending) (w' : World) : Prop := ∃ v', x = .returned (.tuple #[.agg #[.int .i64 mo, v'], r]) ∧ XRes w w' a cap v' l l' ∧ Below w.heap.size w w'
set_option maxRecDepth 100000 in
set_option maxHeartbeats 1000000 in
theorem rkeys_any (mo : Int) (a : Option Addr) (cap : Nat) (l : List K) (w : World) (hl : l.length ≤ 1000000) (ha : AtE w a l) :
    Calls Try.prog 21 #[.agg #[.int .i64 mo, .slice a l.length cap]] w (KyOut w (l.map (·.key))) := by
  obtain ⟨W1, HW1⟩ : ∃ W1, Hid (w.alloc (.cells #[.int .i64 mo, .slice a l.length cap] 29) = W1) := ⟨_, rfl⟩
  have HB : Hid (Below w.heap.size w W1) := by rw [← HW1.out]; exact bel1 w _
  have hs1 : W1.heap.size = w.heap.size + 1 := by rw [← HW1.out]; simp
  have HR : Hid (∀ W, Below W1.heap.size W1 W → W.heap[w.heap.size]? = some (.cells #[.int .i64 mo, .slice a l.length cap] 29 (0, 0))) := fun W hW => (hW.block _ (by omega)).trans (by rw [← HW1.out]; exact heap_alloc_last w _)
  have HA := Hid_of (ha.keep HB.out)
  obtain ⟨⟨c0, c1⟩, _⟩ := row2 (HR.out W1 (Below.refl _ _))
  clear ha
  go_enter Try.func21, Try.ntmps21
  go_wp2
  rw [HW1.out]
  clear HW1 c0 c1
  go_loopw [3, 4] (fun x i wr => ∃ q : Nat, q ≤ l.length ∧ i = .int .i64 q ∧ OwnI wr W1.heap.size x ((l.take q).map (·.key)) ∧ Below W1.heap.size W1 wr) (fun _ i _ => l.length - (intOf i).toNat)
  case atStart => exact ⟨0, by omega, rfl, OwnI.nil _ _, Below.refl _ _⟩
  case round =>
    obtain ⟨q, hq, rfl, hown, hbel⟩ := hrel
    obtain ⟨⟨c0, c1⟩, _⟩ := row2 (HR.out wr hbel)
    by_cases hlt : q < l.length
    · obtain ⟨b, off, rfl, d0, d1, d2⟩ := (HA.out.keep hbel) q hlt
      have htk : l.take (q + 1) = l.take q ++ [l[q]] := by rw [List.take_succ_eq_append_getElem hlt]
      obtain ⟨ax, cx, rfl⟩ := hown.slice
      have hlq : ((l.take q).map (·.key)).length = q := by simp; omega
      have HE : Hid (((l.take (q + 1)).map (·.key)).map (Value.int .i64) = ((l.take q).map (·.key)).map (Value.int .i64) ++ [.int .i64 l[q].key] ∧ ((l.take (q + 1)).map (·.key)).length = q + 1) := by rw [htk]; exact ⟨by rw [List.map_append, List.map_append]; rfl, by simp; omega⟩
      have HO : Hid (wr.ownsRow W1.heap.size 3 1 (.slice ax q cx) q (((l.take q).map (·.key)).map (Value.int .i64))) := by
        have := hown
        unfold OwnI at this
        rw [hlq] at this
        exact this
      rw [hlq]
      have HBb := Hid_of hbel
      have hsz := hbel.size
      generalize l[q].key = x at *
      clear hown hbel htk HA d1 d2 HR hlq
      generalize ((l.take q).map (·.key)).map (Value.int .i64) = xs at *
      go_wp2_with (at_builtin; refine wpList_append_lies _ rfl _ _ 33 rfl W1.heap.size 3 Try.t3 _ 1 8 Try.underlying33 hi3 hz3 hs3 hb3 rfl (by decide) _ _ _ rfl (HO.out.alloc _) ⟨wr.heap.size, 0, none⟩ 1 1 [.int .i64 x] rfl rfl (cell_one _ _ _ _ (heap_alloc_last _ _)) (by simp; rfl) (by decide) (by unfold maxLen; omega) (by omega) (by simp; omega) _ rfl ?_; intro g3 cp w3 hown3 hgrow hat hlt3; have hrw := rw_lies (v := .slice ax q cx) (n := q + 1) (cp := cp) hgrow hat rfl; have HB5 : Hid (Below W1.heap.size W1 w3) := (HBb.out.alloc hsz _).trans (hrw.below (fun k hk => (World.ownsRow.lt HO.out k hk).1) (by simp; omega)); clear hrw hgrow hat)
      go_roundw
      case rel =>
        refine ⟨q + 1, by omega, by go_num, ?_, HB5.out⟩
        unfold OwnI
        rw [HE.out.1, HE.out.2]
        exact hown3
      case measure => simp [intOf]; omega
    · have hqn : q = l.length := by omega
      subst hqn
      have HK : Hid (KyOut w (l.map (·.key)) (.returned u3) wr) := ⟨u3, rfl, by rw [List.take_length] at hown; exact hown.low (by omega), bel_up HB.out hbel (Nat.le_refl _)⟩
      clear hown hbel HR HA
      go_wp2
      go_ret
      exact HK.out
theorem f18_res : Try.f18.results = #[.cell 4 29, .tmp 5] := rfl
theorem f16_res : Try.f16.results = #[.cell 6 29, .tmp 7] := rfl
theorem fi_yes {l : List K} {k : Int} (h : M.has l k = true) : fi l k = (M.fnd l k : Int) ∧ M.fnd l k < l.length := by
  refine ⟨by unfold fi; rw [h]; rfl, by unfold M.has at h; exact of_decide_eq_true h⟩
theorem fi_no {l : List K} {k : Int} (h : M.has l k = false) : fi l k = -1 := by unfold fi; rw [h]; rfl
theorem XE.boxed {w : World} {a : Option Addr} {cap : Nat} {l : List K} (mo : Int) (h : XE w a cap l) :
    ∃ W1, Hid ((w.alloc (.cells #[.int .i64 mo, .slice a l.length cap] 29)).alloc (.cells #[.int .i64 0, .slice none 0 0] 29) = W1) ∧ Below w.heap.size w W1 ∧ W1.heap.size = w.heap.size + 2 ∧ (∀ W, Below W1.heap.size W1 W → W.heap[w.heap.size]? = some (.cells #[.int .i64 mo, .slice a l.length cap] 29 (0, 0)) ∧ W.heap[w.heap.size + 1]? = some (.cells #[.int .i64 0, .slice none 0 0] 29 (0, 0)) ∧ XE W a cap l ∧ Below w.heap.size w W) := by
  refine ⟨_, rfl, (bel1 w _).alloc (by simp) _, by simp, fun W hW => ⟨(hW.block _ (by simp; omega)).trans (heap_alloc2_old w _ _), (hW.block _ (by simp)).trans (heap_alloc2_new w _ _), (h.keep ((bel1 w _).alloc (by simp) _)).keep hW, bel_up ((bel1 w _).alloc (by simp) _) hW (Nat.le_refl _)⟩⟩
/-- A result laid into its block. -/
theorem laid2 {w0 w : World} {g : Nat} {u0 u1 v0 v1 : Value} (h : w.heap[g]? = some (.cells #[u0, u1] 29 (0, 0))) (hb : Below w0.heap.size w0 w) (hg : w0.heap.size ≤ g) :
    ((w.setCell ⟨g, 0, none⟩ v0).setCell ⟨g, 1, none⟩ v1).heap[g]? = some (.cells #[v0, v1] 29 (0, 0)) ∧ Below w0.heap.size w0 ((w.setCell ⟨g, 0, none⟩ v0).setCell ⟨g, 1, none⟩ v1) ∧ ∀ k, k ≠ g → ((w.setCell ⟨g, 0, none⟩ v0).setCell ⟨g, 1, none⟩ v1).heap[k]? = w.heap[k]? :=
  ⟨heap_setCell_same _ g 1 _ _ _ (heap_setCell_same w g 0 _ _ _ h), (hb.setCell hg _).setCell hg _, fun k hk => (heap_setCell_other _ ⟨g, 1, none⟩ k _ hk).trans (heap_setCell_other _ ⟨g, 0, none⟩ k _ hk)⟩
set_option maxRecDepth 100000 in
set_option maxHeartbeats 2000000 in
theorem rdrop_any (mo : Int) (a : Option Addr) (cap : Nat) (l : List K) (k : Int) (w : World) (hl : l.length ≤ 1000000) (hx : XE w a cap l) :
    Calls Try.prog 18 #[.agg #[.int .i64 mo, .slice a l.length cap], .int .i64 k] w (DpR w mo a cap l (M.drp l k) (.bool (M.has l k))) := by
  obtain ⟨W1, HW1, B1, hs1, hfr⟩ := hx.boxed mo
  have HFR := Hid_of hfr
  have hfind := rfind_any mo a cap l k W1 hl (hfr W1 (Below.refl _ _)).2.2.1.at'
  obtain ⟨⟨c0, c1⟩, cf⟩ := row2 (hfr W1 (Below.refl _ _)).1
  clear hfr hx B1
  cases hh : M.has l k
  · rw [fi_no hh] at hfind
    rw [M.drp_no _ _ (M.has_false hh)]
    clear hh
    go_enter Try.func18, Try.ntmps18
    go_wp2_with fail
    rw [HW1.out]
    refine hfind.mono ?_
    rintro x w2 ⟨rfl, B2⟩
    obtain ⟨h0, h1, hX, hB⟩ := HFR.out w2 B2
    obtain ⟨⟨d0, d1⟩, df⟩ := row2 h0
    obtain ⟨⟨e0, e1⟩, ef⟩ := row2 h1
    have ef0 := ef 0
    have ef1 := ef 1
    obtain ⟨q1, q2, _⟩ := laid2 (v0 := .int .i64 mo) (v1 := .slice a l.length cap) h1 hB (by omega)
    have HQ1 := Hid_of q1
    have HK : Hid (DpR w mo a cap l l (.bool false) (.returned (.tuple #[.agg #[.int .i64 mo, .slice a l.length cap], .bool false])) ((w2.setCell ⟨w.heap.size + 1, 0, none⟩ (.int .i64 mo)).setCell ⟨w.heap.size + 1, 1, none⟩ (.slice a l.length cap))) := ⟨_, rfl, .inl ⟨rfl, rfl⟩, q2⟩
    clear hfind HFR c0 c1 cf h0 h1 hX hB df ef q1 q2 HW1 B2
    go_wp2
    refine bodyPost_ret (v := .tuple #[.agg #[.int .i64 mo, .slice a l.length cap], .bool false]) ?_ rfl HK.out
    exact res_cell_tmp f18_res _ _ (w.heap.size + 1) _ _ rfl HQ1.out
  · obtain ⟨hfi, hil⟩ := fi_yes hh
    rw [hfi] at hfind
    have HD : Hid (M.drp l k = l.eraseIdx (M.fnd l k)) := rfl
    rw [HD.out]
    generalize M.fnd l k = i at *
    clear hfi hh HD
    go_enter Try.func18, Try.ntmps18
    go_wp2_with fail
    rw [HW1.out]
    refine hfind.mono ?_
    rintro x w2 ⟨rfl, B2⟩
    obtain ⟨h0, h1, hX, hB⟩ := HFR.out w2 B2
    obtain ⟨⟨d0, d1⟩, df⟩ := row2 h0
    have hwo := rwithout_any mo a cap l i w2 hl hil hX
    have HH1 := Hid_of h1
    have HB := Hid_of hB
    clear hfind HFR c0 c1 cf h0 h1 hX hB df HW1 B2
    go_wp2_with fail
    refine hwo.mono ?_
    rintro x w3 ⟨v3, rfl, o3, b3⟩
    obtain ⟨a3, c3, rfl, _, _⟩ := o3.at
    have h1' := (b3.block _ (Array.getElem?_eq_some_iff.1 HH1.out).1).trans HH1.out
    obtain ⟨⟨e0, e1⟩, ef⟩ := row2 h1'
    have ef0 := ef 0
    have ef1 := ef 1
    obtain ⟨q1, q2, q3⟩ := laid2 (v0 := .int .i64 mo) (v1 := .slice a3 (l.eraseIdx i).length c3) h1' (bel_up HB.out b3 (Nat.le_refl _)) (by omega)
    have HQ1 := Hid_of q1
    have HK : Hid (DpR w mo a cap l (l.eraseIdx i) (.bool true) (.returned (.tuple #[.agg #[.int .i64 mo, .slice a3 (l.eraseIdx i).length c3], .bool true])) ((w3.setCell ⟨w.heap.size + 1, 0, none⟩ (.int .i64 mo)).setCell ⟨w.heap.size + 1, 1, none⟩ (.slice a3 (l.eraseIdx i).length c3))) := by
      refine ⟨_, rfl, .inr (OwnE.low (o3.keepBut fun k hk hv => q3 k ?_) HB.out.size), q2⟩
      have := (o3.lt hv).1
      have := (Array.getElem?_eq_some_iff.1 HH1.out).1
      omega
    clear hwo o3 b3 h1' ef q1 q2 q3 d0 d1 HH1 HB
    generalize (l.eraseIdx i).length = nl at *
    go_wp2
    refine bodyPost_ret (v := .tuple #[.agg #[.int .i64 mo, .slice a3 nl c3], .bool true]) ?_ rfl HK.out
    exact res_cell_tmp f18_res _ _ (w.heap.size + 1) _ _ rfl HQ1.out
theorem EC_set2 : ∀ (l : List K) (i : Nat) (h : i < l.length) (on : Bool), (EC l).set (i * 3 + 2) (.bool on) = EC (l.set i ⟨l[i].key, l[i].val, on⟩)
  | [], i, h, on => by simp at h
  | e :: r, 0, h, on => by simp [EC]
  | e :: r, i + 1, h, on => by
    have := EC_set2 r i (by simpa using h) on
    rw [EC, show (i + 1) * 3 + 2 = i * 3 + 2 + 1 + 1 + 1 by omega]
    simp only [List.set_cons_succ, this, List.getElem_cons_succ, EC]
theorem OwnE.set {w : World} {base : Nat} {v : Value} {l : List K} (h : OwnE w base v l) (i : Nat) (hi : i < l.length) :
    ∃ g cap, v = .slice (some ⟨g, 0, none⟩) l.length cap ∧ base ≤ g ∧ g < w.heap.size ∧ w.cell? ⟨g, i * 3 + 2, none⟩ = some (.bool l[i].pin) ∧ w.frozen? ⟨g, i * 3 + 2, none⟩ = false ∧ ∀ on : Bool, OwnE (w.setCell ⟨g, i * 3 + 2, none⟩ (.bool on)) base v (l.set i ⟨l[i].key, l[i].val, on⟩) := by
  have hlt := fun b hb => h.lt (b := b) hb
  unfold OwnE at h
  rcases h.2 with ⟨rfl, h0⟩ | ⟨g, cap, cur, hv, hb', hh, hc, hm, hs, ht⟩
  · omega
  · have key : ∀ (i : Nat) (u : Value), (EC l)[i]? = some u → w.cell? ⟨g, i, none⟩ = some u := fun i u hu => by
      have := World.ownsRow.cells h (g := g) (by rw [hv]; rfl) i u hu
      rwa [show ((⟨g, 0, none⟩ : Addr).add i) = ⟨g, i, none⟩ by unfold Addr.add; split <;> simp_all] at this
    refine ⟨g, cap, hv, hb', (hlt g (by rw [hv]; rfl)).2, key _ _ (EC_get l i hi).2.2, frozen_of_row w g _ _ _ hh, fun on => ⟨by rw [EC_len], .inr ⟨g, cap, _, by rw [hv]; simp, hb', heap_setCell_same w g _ _ _ _ hh, by simp; omega, hm, by simp; omega, ?_⟩⟩⟩
    rw [Array.toList_setIfInBounds, List.take_set, List.length_set, ht, EC_set2 l i hi]
theorem pnd_yes {l : List K} {k : Int} {on : Bool} (h : M.has l k = true) : ∀ hh : M.fnd l k < l.length, M.pnd l k on = l.set (M.fnd l k) ⟨l[M.fnd l k].key, l[M.fnd l k].val, on⟩ := by
  intro hh
  unfold M.pnd
  rw [List.getElem?_eq_getElem hh]
set_option maxRecDepth 100000 in
set_option maxHeartbeats 2000000 in
theorem rpin_any (mo : Int) (a : Option Addr) (cap : Nat) (l : List K) (k : Int) (on : Bool) (w : World) (hl : l.length ≤ 1000000) (hx : XE w a cap l) :
    Calls Try.prog 16 #[.agg #[.int .i64 mo, .slice a l.length cap], .int .i64 k, .bool on] w (DpR w mo a cap l (M.pnd l k on) (.bool (M.has l k))) := by
  obtain ⟨W1, HW1, B1, hs1, hfr⟩ := hx.boxed mo
  have HFR := Hid_of hfr
  have hfind := rfind_any mo a cap l k W1 hl (hfr W1 (Below.refl _ _)).2.2.1.at'
  obtain ⟨⟨c0, c1⟩, cf⟩ := row2 (hfr W1 (Below.refl _ _)).1
  clear hfr hx B1
  cases hh : M.has l k
  · rw [fi_no hh] at hfind
    rw [M.pnd_no _ _ _ (M.has_false hh)]
    clear hh
    go_enter Try.func16, Try.ntmps16
    go_wp2_with fail
    rw [HW1.out]
    refine hfind.mono ?_
    rintro x w2 ⟨rfl, B2⟩
    obtain ⟨h0, h1, hX, hB⟩ := HFR.out w2 B2
    obtain ⟨⟨d0, d1⟩, df⟩ := row2 h0
    obtain ⟨⟨e0, e1⟩, ef⟩ := row2 h1
    have ef0 := ef 0
    have ef1 := ef 1
    obtain ⟨q1, q2, _⟩ := laid2 (v0 := .int .i64 mo) (v1 := .slice a l.length cap) h1 hB (by omega)
    have HQ1 := Hid_of q1
    have HK : Hid (DpR w mo a cap l l (.bool false) (.returned (.tuple #[.agg #[.int .i64 mo, .slice a l.length cap], .bool false])) ((w2.setCell ⟨w.heap.size + 1, 0, none⟩ (.int .i64 mo)).setCell ⟨w.heap.size + 1, 1, none⟩ (.slice a l.length cap))) := ⟨_, rfl, .inl ⟨rfl, rfl⟩, q2⟩
    clear hfind HFR c0 c1 cf h0 h1 hX hB df ef q1 q2 HW1 B2
    go_wp2
    refine bodyPost_ret (v := .tuple #[.agg #[.int .i64 mo, .slice a l.length cap], .bool false]) ?_ rfl HK.out
    exact res_cell_tmp f16_res _ _ (w.heap.size + 1) _ _ rfl HQ1.out
  · obtain ⟨hfi, hil⟩ := fi_yes hh
    rw [hfi] at hfind
    rw [pnd_yes hh hil]
    generalize M.fnd l k = i at *
    clear hfi hh
    go_enter Try.func16, Try.ntmps16
    go_wp2_with fail
    rw [HW1.out]
    refine hfind.mono ?_
    rintro x w2 ⟨rfl, B2⟩
    obtain ⟨h0, h1, hX, hB⟩ := HFR.out w2 B2
    obtain ⟨⟨d0, d1⟩, df⟩ := row2 h0
    obtain ⟨a3, c3, w3, hrun, o3, b3⟩ := run_copy w2 27 a cap l hX hl
    have hs2 : w.heap.size + 2 ≤ w2.heap.size := by have := B2.size; omega
    have h03 := (b3.block _ (by omega)).trans h0
    have h13 := (b3.block _ (by omega)).trans h1
    obtain ⟨g, cg, hv, hbg, hgw, gc, gf, gset⟩ := o3.set i hil
    simp only [Value.slice.injEq, true_and] at hv
    obtain ⟨rfl, rfl⟩ := hv
    obtain ⟨W4, HW4⟩ : ∃ W4, Hid (w3.setCell ⟨g, i * 3 + 2, none⟩ (.bool on) = W4) := ⟨_, rfl⟩
    have h04 : W4.heap[w.heap.size]? = some (.cells #[.int .i64 mo, .slice a l.length cap] 29 (0, 0)) := by rw [← HW4.out]; exact (heap_setCell_other w3 ⟨g, i * 3 + 2, none⟩ _ _ (by show w.heap.size ≠ g; omega)).trans h03
    have h14 : W4.heap[w.heap.size + 1]? = some (.cells #[.int .i64 0, .slice none 0 0] 29 (0, 0)) := by rw [← HW4.out]; exact (heap_setCell_other w3 ⟨g, i * 3 + 2, none⟩ _ _ (by show w.heap.size + 1 ≠ g; omega)).trans h13
    have o4 : OwnE W4 w2.heap.size (.slice (some ⟨g, 0, none⟩) l.length c3) (l.set i ⟨l[i].key, l[i].val, on⟩) := by rw [← HW4.out]; exact gset on
    have b4 : Below w.heap.size w W4 := by rw [← HW4.out]; exact (bel_up hB b3 (Nat.le_refl _)).setCell (by show w.heap.size ≤ g; omega) _
    obtain ⟨W5, HW5⟩ : ∃ W5, Hid (W4.setCell ⟨w.heap.size, 1, none⟩ (.slice (some ⟨g, 0, none⟩) l.length c3) = W5) := ⟨_, rfl⟩
    have h05 : W5.heap[w.heap.size]? = some (.cells #[.int .i64 mo, .slice (some ⟨g, 0, none⟩) l.length c3] 29 (0, 0)) := by rw [← HW5.out]; exact heap_setCell_same W4 _ 1 _ _ _ h04
    have h15 : W5.heap[w.heap.size + 1]? = some (.cells #[.int .i64 0, .slice none 0 0] 29 (0, 0)) := by rw [← HW5.out]; exact (heap_setCell_other W4 ⟨w.heap.size, 1, none⟩ _ _ (by show w.heap.size + 1 ≠ w.heap.size; omega)).trans h14
    have b5 : Below w.heap.size w W5 := by rw [← HW5.out]; exact b4.setCell (Nat.le_refl _) _
    have o5 : OwnE W5 w2.heap.size (.slice (some ⟨g, 0, none⟩) l.length c3) (l.set i ⟨l[i].key, l[i].val, on⟩) := by
      rw [← HW5.out]
      exact o4.keepBut fun k hk hv => heap_setCell_other W4 ⟨w.heap.size, 1, none⟩ k _ (by have := (o4.lt hv).1; show k ≠ w.heap.size; omega)
    obtain ⟨⟨p0, p1⟩, pf⟩ := row2 h04
    obtain ⟨⟨e0, e1⟩, ef⟩ := row2 h05
    obtain ⟨⟨f0, f1⟩, ff⟩ := row2 h15
    have pf1 := pf 1
    have ff0 := ff 0
    have ff1 := ff 1
    obtain ⟨q1, q2, q3⟩ := laid2 (v0 := .int .i64 mo) (v1 := .slice (some ⟨g, 0, none⟩) l.length c3) h15 b5 (by omega)
    have HQ1 := Hid_of q1
    have HK : Hid (DpR w mo a cap l (l.set i ⟨l[i].key, l[i].val, on⟩) (.bool true) (.returned (.tuple #[.agg #[.int .i64 mo, .slice (some ⟨g, 0, none⟩) l.length c3], .bool true])) ((W5.setCell ⟨w.heap.size + 1, 0, none⟩ (.int .i64 mo)).setCell ⟨w.heap.size + 1, 1, none⟩ (.slice (some ⟨g, 0, none⟩) l.length c3))) := by
      refine ⟨_, rfl, .inr (OwnE.low (o5.keepBut fun k hk hv => q3 k ?_) (by omega)), q2⟩
      have := (o5.lt hv).1
      omega
    generalize l[i].pin = pn at *
    clear hfind HFR c0 c1 cf h0 h1 hX hB df o3 b3 h03 h13 gset h04 h14 o4 b4 h05 h15 b5 o5 pf ef ff q1 q2 q3 HW1 B2
    rw [← HW5.out, ← HW4.out] at e0 e1 f0 f1 ff0 ff1 HK HQ1
    rw [← HW4.out] at p0 p1 pf1
    clear HW4 HW5
    go_wp2_with (at_builtin; refine wpList_append_known rfl _ _ 27 rfl _ _ rfl rfl _ _ hrun ?_)
    refine bodyPost_ret (v := .tuple #[.agg #[.int .i64 mo, .slice (some ⟨g, 0, none⟩) l.length c3], .bool true]) ?_ rfl HK.out
    exact res_cell_tmp f16_res _ _ (w.heap.size + 1) _ _ rfl HQ1.out
end Go.Proofs.Ytpfmdchmgaaakaa
