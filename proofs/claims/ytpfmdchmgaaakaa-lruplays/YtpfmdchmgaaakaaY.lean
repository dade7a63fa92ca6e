/-
  The document's Put.
-/
import Derived.Test.YtpfmdchmgaaakaaV
import Derived.Deep.RegionHeld3
namespace Go.Proofs.Ytpfmdchmgaaakaa
open Go.RowKit
set_option linter.unusedVariables false
open M (K)

theorem f11_res : Try.f11.results = #[.cell 6 29, .tmp 7] := rfl
/-- What the box holds while a value is put. -/
structure PS (w W1 wr : World) (mo : Int) (a0 : Option Addr) (cap0 : Nat) (l0 : List K) (v : Value) (cur : List K) : Prop where
  bel : Below w.heap.size w wr
  box : wr.heap[w.heap.size]? = some (.cells #[.int .i64 mo, v] 29 (0, 0))
  res : wr.heap[w.heap.size + 1]? = some (.cells #[.int .i64 0, .slice none 0 0] 29 (0, 0))
  cur : (v = .slice a0 l0.length cap0 ∧ cur = l0) ∨ OwnE wr W1.heap.size v cur
  siz : W1.heap.size ≤ wr.heap.size
  s1 : W1.heap.size = w.heap.size + 2
  x0 : XE w a0 cap0 l0
section
variable {w W1 wr wr' : World} {mo : Int} {a0 : Option Addr} {cap0 : Nat} {l0 cur cur' : List K} {v v' : Value}
theorem PS.keepBut (h : PS w W1 wr mo a0 cap0 l0 v cur) (hb : Below W1.heap.size wr wr') (hv : ∀ k, k < wr.heap.size → v.ownBlock = some k → wr'.heap[k]? = wr.heap[k]?) : PS w W1 wr' mo a0 cap0 l0 v cur := by
  have hs := h.s1
  have hz := h.siz
  refine ⟨h.bel.trans (hb.mono (by omega)), (hb.block _ (by omega)).trans h.box, (hb.block _ (by omega)).trans h.res, ?_, Nat.le_trans hz hb.size, hs, h.x0⟩
  rcases h.cur with h' | h'
  · exact .inl h'
  · exact .inr (h'.keepBut hv)
theorem PS.keep (h : PS w W1 wr mo a0 cap0 l0 v cur) (hb : Below wr.heap.size wr wr') : PS w W1 wr' mo a0 cap0 l0 v cur := h.keepBut (hb.mono h.siz) fun k hk _ => hb.block k hk
theorem PS.xe (h : PS w W1 wr mo a0 cap0 l0 v cur) : ∃ a c, v = .slice a cur.length c ∧ XE wr a c cur := by
  rcases h.cur with ⟨rfl, rfl⟩ | h'
  · exact ⟨a0, cap0, rfl, h.x0.keep h.bel⟩
  · obtain ⟨a, c, hv, hx, _⟩ := h'.at
    exact ⟨a, c, hv, hx⟩
/-- A new row in the box. -/
theorem PS.put (h : PS w W1 wr mo a0 cap0 l0 v cur) (ho : OwnE wr W1.heap.size v' cur') : PS w W1 ((wr.setCell ⟨w.heap.size, 0, none⟩ (.int .i64 mo)).setCell ⟨w.heap.size, 1, none⟩ v') mo a0 cap0 l0 v' cur' := by
  obtain ⟨q1, q2, q3⟩ := laid2 (w0 := w) (v0 := .int .i64 mo) (v1 := v') h.box h.bel (Nat.le_refl _)
  have hs := h.s1
  exact ⟨q2, q1, (q3 _ (by omega)).trans h.res, .inr (ho.keepBut fun k hk hv => q3 k (by have := (ho.lt hv).1; omega)), by have := h.siz; simpa using this, hs, h.x0⟩
/-- The row's last store into the box. -/
theorem PS.put1 (h : PS w W1 wr mo a0 cap0 l0 v cur) (ho : OwnE wr W1.heap.size v' cur') : PS w W1 (wr.setCell ⟨w.heap.size, 1, none⟩ v') mo a0 cap0 l0 v' cur' := by
  have hs := h.s1
  have hz := h.siz
  have k1 : ∀ k, k ≠ w.heap.size → (wr.setCell ⟨w.heap.size, 1, none⟩ v').heap[k]? = wr.heap[k]? := fun k hk => heap_setCell_other wr ⟨w.heap.size, 1, none⟩ k _ hk
  exact ⟨h.bel.setCell (Nat.le_refl _) _, heap_setCell_same wr _ 1 _ _ _ h.box, (k1 _ (by omega)).trans h.res, .inr (ho.keepBut fun k hk hv => k1 k (by have := (ho.lt hv).1; omega)), by simpa using hz, hs, h.x0⟩
theorem OwnI.keepH {w w1 : World} {base : Nat} {v : Value} {l : List Int} (h : OwnI w base v l) (hb : ∀ k, k < w.heap.size → v.ownBlock = some k → w1.heap[k]? = w.heap[k]?) : OwnI w1 base v l := by
  refine ⟨h.1, ?_⟩
  rcases h.2 with h' | ⟨g, cap, cur, hv, hg, hh, rest⟩
  · exact .inl h'
  · refine .inr ⟨g, cap, cur, hv, hg, ?_, rest⟩
    rw [hb g (Array.getElem?_eq_some_iff.1 hh).1 (by rw [hv]; rfl)]
    exact hh
def PutR (w : World) (mo : Int) (a : Option Addr) (cap : Nat) (l : List K) (q : List K × List Int) (x : Ending) (w' : World) : Prop := ∃ v' u, x = .returned (.tuple #[.agg #[.int .i64 mo, v'], u]) ∧ XRes w w' a cap v' l q.1 ∧ OwnI w' w.heap.size u q.2 ∧ Below w.heap.size w w'
theorem PS.fin (h : PS w W1 wr mo a0 cap0 l0 v cur) {u : Value} {outl : List Int} (hu : OwnI wr W1.heap.size u outl) :
    Hid (((wr.setCell ⟨w.heap.size + 1, 0, none⟩ (.int .i64 mo)).setCell ⟨w.heap.size + 1, 1, none⟩ v).heap[w.heap.size + 1]? = some (.cells #[.int .i64 mo, v] 29 (0, 0)) ∧ PutR w mo a0 cap0 l0 (cur, outl) (.returned (.tuple #[.agg #[.int .i64 mo, v], u])) ((wr.setCell ⟨w.heap.size + 1, 0, none⟩ (.int .i64 mo)).setCell ⟨w.heap.size + 1, 1, none⟩ v)) := by
  obtain ⟨q1, q2, q3⟩ := laid2 (w0 := w) (v0 := .int .i64 mo) (v1 := v) h.res h.bel (by omega)
  have hs := h.s1
  refine ⟨q1, v, u, rfl, ?_, OwnI.low (hu.keepH fun k hk hv => q3 k ?_) (by omega), q2⟩
  · rcases h.cur with h' | h'
    · exact .inl h'
    · exact .inr (OwnE.low (h'.keepBut fun k hk hv => q3 k (by have := (h'.lt hv).1; omega)) (by omega))
  · have := (hu.lt hv).1
    omega
end
/-- The loop's relation: what is left of the row, and the keys that went. -/
structure PL (w W1 wr : World) (mo lm : Int) (a0 : Option Addr) (cap0 : Nat) (l0 l1 cur : List K) (v u : Value) (outl : List Int) : Prop where
  ps : PS w W1 wr mo a0 cap0 l0 v cur
  own : OwnI wr W1.heap.size u outl
  ap : ∀ b, u.ownBlock = some b → v.ownBlock ≠ some b
  wl : M.wlk lm l1 (M.bytes l1) = ((M.wlk lm cur (M.bytes cur)).1, outl ++ (M.wlk lm cur (M.bytes cur)).2)
  len : outl.length + cur.length = l1.length
  by' : M.bytes cur ≤ 65536
theorem PL.keep {w W1 wr wr' : World} {mo lm : Int} {a0 : Option Addr} {cap0 : Nat} {l0 l1 cur : List K} {v u : Value} {outl : List Int} (h : PL w W1 wr mo lm a0 cap0 l0 l1 cur v u outl) (hb : Below wr.heap.size wr wr') : PL w W1 wr' mo lm a0 cap0 l0 l1 cur v u outl :=
  ⟨h.ps.keep hb, h.own.keep hb, h.ap, h.wl, h.len, h.by'⟩
theorem li_yes {l : List K} (h : lse l < l.length) : li l = (lse l : Int) := by unfold li; rw [if_pos h]
theorem li_no {l : List K} (h : ¬ lse l < l.length) : li l = -1 := by unfold li; rw [if_neg h]
set_option maxRecDepth 100000 in
set_option maxHeartbeats 8000000 in
theorem rput_any (mo : Int) (a : Option Addr) (cap : Nat) (l : List K) (k : Int) (s : ByteArray) (w : World) (hl : l.length ≤ 1000000) (hx : XE w a cap l) (h0 : 0 ≤ mo) (hmo : mo ≤ 65536) (hby : M.bytes l ≤ 65536) (hss : s.size ≤ maxLen) :
    Calls Try.prog 11 #[.agg #[.int .i64 mo, .slice a l.length cap], .int .i64 k, .string s] w (PutR w mo a cap l (M.put mo l k s)) := by
  obtain ⟨W1, HW1, B1, hs1, hfr⟩ := hx.boxed mo
  have HP1 : Hid (PS w W1 W1 mo a cap l (.slice a l.length cap) l) := by
    obtain ⟨p0, p1, p2, p3⟩ := hfr W1 (Below.refl _ _)
    exact ⟨p3, p0, p1, .inl ⟨rfl, rfl⟩, Nat.le_refl _, hs1, hx⟩
  have hdrop := rdrop_any mo a cap l k W1 hl (hfr W1 (Below.refl _ _)).2.2.1
  obtain ⟨⟨c0, c1⟩, cf⟩ := row2 HP1.out.box
  have hdl := M.drp_len l k
  have hdb : M.bytes (M.drp l k) ≤ 65536 := by
    have : ∀ {q l : List K}, q.Sublist l → M.bytes q ≤ M.bytes l := by
      intro q l hs
      induction hs with
      | slnil => exact Nat.le_refl _
      | cons a _ ih => rw [M.bytes]; omega
      | cons_cons a _ ih => rw [M.bytes, M.bytes]; omega
    have := this (M.drp_sub l k)
    omega
  have HPL : Hid (mo < (s.size : Int) → M.put mo l k s = (M.drp l k, [])) := fun h => M.put_long mo l k s h
  have HPY : Hid (¬ mo < (s.size : Int) → M.put mo l k s = if (M.bytes (M.wlk (mo - s.size) (M.drp l k) (M.bytes (M.drp l k))).1 : Int) ≤ mo - s.size then ((M.wlk (mo - s.size) (M.drp l k) (M.bytes (M.drp l k))).1 ++ [⟨k, s, false⟩], (M.wlk (mo - s.size) (M.drp l k) (M.bytes (M.drp l k))).2) else M.wlk (mo - s.size) (M.drp l k) (M.bytes (M.drp l k))) := fun h => by unfold M.put; rw [if_neg h]
  generalize M.put mo l k s = pq at *
  have hss' : (s.size : Int) ≤ 9223372036854775807 := by unfold maxLen at hss; omega
  clear hfr hx B1 hby
  generalize hhas : M.has l k = hb at *
  clear hhas
  generalize hl1 : M.drp l k = l1 at *
  clear hl1
  go_enter Try.func11, Try.ntmps11
  go_wp2_with fail
  rw [HW1.out]
  refine hdrop.mono ?_
  rintro x w2 ⟨v2, rfl, hxr, b2⟩
  have HP2 := Hid_of (HP1.out.keep b2)
  obtain ⟨⟨d0, d1⟩, df⟩ := row2 HP2.out.box
  have df0 := df 0
  have df1 := df 1
  -- the box behind the drop
  have HP3 : Hid (PS w W1 ((w2.setCell ⟨w.heap.size, 0, none⟩ (.int .i64 mo)).setCell ⟨w.heap.size, 1, none⟩ v2) mo a cap l v2 l1) := by
    rcases hxr with ⟨rfl, rfl⟩ | ho
    · obtain ⟨q1, q2, q3⟩ := laid2 (w0 := w) (v0 := .int .i64 mo) (v1 := .slice a l1.length cap) HP2.out.box HP2.out.bel (Nat.le_refl _)
      exact ⟨q2, q1, (q3 _ (by omega)).trans HP2.out.res, .inl ⟨rfl, rfl⟩, by have := HP2.out.siz; simpa using this, hs1, HP2.out.x0⟩
    · exact HP2.out.put ho
  obtain ⟨a2, c2, rfl, _⟩ := HP3.out.xe
  obtain ⟨⟨e0, e1⟩, ef⟩ := row2 HP3.out.box
  obtain ⟨⟨f0, f1⟩, ff⟩ := row2 HP3.out.res
  have ff0 := ff 0
  have ff1 := ff 1
  clear hdrop hxr b2 HP1 HP2 cf df ef ff c0 c1 HW1
  obtain ⟨W3, HW3⟩ : ∃ W3, Hid ((w2.setCell ⟨w.heap.size, 0, none⟩ (.int .i64 mo)).setCell ⟨w.heap.size, 1, none⟩ (.slice a2 l1.length c2) = W3) := ⟨_, rfl⟩
  by_cases hlong : mo < (s.size : Int)
  · have hd : decide (mo < (s.size : Int)) = true := by simpa using hlong
    have hfin := HP3.out.fin (u := .slice none 0 0) (outl := []) (OwnI.nil _ _)
    have HPQ := Hid_of (HPL.out hlong)
    clear HPL HPY HP3 hlong
    go_wp2
    refine bodyPost_ret (v := .tuple #[.agg #[.int .i64 mo, .slice a2 l1.length c2], .slice none 0 0]) ?_ rfl (by rw [HPQ.out]; exact hfin.out.2)
    exact res_cell_tmp f11_res _ _ (w.heap.size + 1) _ _ rfl hfin.out.1
  · have hd : decide (mo < (s.size : Int)) = false := by simpa using hlong
    have HPQ := Hid_of (HPY.out (by first | exact hlong | omega))
    have hw : IntKind.i64.wrap (mo - (s.size : Int)) = mo - (s.size : Int) := by rw [IntKind.wrap_i64]; omega
    have H0 : Hid (PL w W1 W3 mo (mo - s.size) a cap l l1 l1 (.slice a2 l1.length c2) (.slice none 0 0) []) := by
      rw [HW3.out] at HP3
      exact ⟨HP3.out, OwnI.nil _ _, by simp [Value.ownBlock], rfl, by simp, hdb⟩
    have hsz : (s.size : Int) ≤ mo := by omega
    clear HPL HPY HP3
    obtain ⟨lm, hlm⟩ : ∃ lm, mo - (s.size : Int) = lm := ⟨_, rfl⟩
    rw [hlm] at hw H0 HPQ
    have HLM := Hid_of hlm
    clear hlong
    go_wp2
    rw [HW3.out]
    clear HW3 d0 d1 df0 df1 e0 e1 f0 f1 ff0 ff1
    go_loopw [8] (fun u wr => ∃ (cur : List K) (v : Value) (outl : List Int), PL w W1 wr mo lm a cap l l1 cur v u outl) (fun u _ => l1.length - sl u)
    case atStart => exact ⟨_, _, _, H0.out⟩
    case round =>
      obtain ⟨cur, v, outl, R⟩ := hrel
      clear H0
      obtain ⟨ac, cc, rfl, XC⟩ := R.ps.xe
      obtain ⟨au, cu, rfl⟩ := R.own.slice
      have hcl : cur.length ≤ 1000000 := by have := R.len; omega
      have HR := Hid_of R
      have HS : Hid (∀ w', Below wr.heap.size wr w' → w'.cell? ⟨w.heap.size, 0, none⟩ = some (.int .i64 mo) ∧ w'.cell? ⟨w.heap.size, 1, none⟩ = some (.slice ac cur.length cc)) := fun w' hb' => (row2 (R.keep hb').ps.box).1
      have HBY : Hid (∀ w', Below wr.heap.size wr w' → Calls Try.prog 23 #[.agg #[.int .i64 mo, .slice ac cur.length cc]] w' fun e w'' => e = .returned (.int .i64 (M.bytes cur)) ∧ Below w'.heap.size w' w'') := fun w' hb' => rbytes_any mo ac cc cur w' hcl R.by' (XC.keep hb').at'
      have HLO : Hid (∀ w', Below wr.heap.size wr w' → Calls Try.prog 26 #[.agg #[.int .i64 mo, .slice ac cur.length cc]] w' fun e w'' => e = .returned (.int .i64 (li cur)) ∧ Below w'.heap.size w' w'') := fun w' hb' => rloose_any mo ac cc cur w' hcl (XC.keep hb').at'
      have HXC := Hid_of XC
      clear R XC
      obtain ⟨s0, s1'⟩ := HS.out wr (Below.refl _ _)
      by_cases hrm : (M.bytes cur : Int) ≤ lm
      · have hg : decide (lm < (M.bytes cur : Int)) = false := by simpa using hrm
        have hgl : decide ((M.bytes cur : Int) ≤ lm) = true := by simpa using hrm
        have HWL : Hid (M.wlk lm l1 (M.bytes l1) = (cur, outl)) := by
          have := HR.out.wl
          rw [M.wlk_room _ _ _ hrm, List.append_nil] at this
          exact this
        have HPQ2 : Hid (pq = (cur ++ [⟨k, s, false⟩], outl)) := by
          have := HPQ.out
          rw [HWL.out] at this
          show _ = _
          rw [this, if_pos hrm]
        clear HLO HPQ HWL hrm
        go_wp2_with fail
        refine wp_region_held_drew (S := fun wq => Below (wr).heap.size (wr) wq) (by kernel_rfl) (Below.drew (Below.refl _ _)) (fun hHeld => ?_)
        refine wpAnyH_take (i := 0) (oi := ?p0a) (v := ?v0a) ?o0a (by kernel_rfl) (by kernel_rfl) (by kernel_rfl) ?q0a ?y0a hHeld ?r0a
        case o0a => simp only [List.getElem?_toArray, List.getElem?_cons_zero]; rfl
        case q0a => exact fun _ _ _ h => h
        case y0a => (refine Or.inl ⟨rfl, ?_⟩; intro wq hq; obtain ⟨s0, s1'⟩ := HS.out wq hq; go_simp; try with_reducible rfl)
        simp only [Act.put, List.setIfInBounds_toArray, List.set_cons_zero, List.set_cons_succ]
        refine wpAnyH_take (i := 2) (oi := ?p2a) (v := ?v2a) ?o2a (by kernel_rfl) (by kernel_rfl) (by kernel_rfl) ?q2a ?y2a hHeld ?r2a
        case o2a => simp only [List.getElem?_toArray, List.getElem?_cons_succ, List.getElem?_cons_zero]; rfl
        case q2a => exact fun _ _ _ h => h
        case y2a => (refine Or.inl ⟨rfl, ?_⟩; intro wq hq; obtain ⟨s0, s1'⟩ := HS.out wq hq; go_simp; try with_reducible rfl)
        simp only [Act.put, List.setIfInBounds_toArray, List.set_cons_zero, List.set_cons_succ]
        refine wpAnyH_take (i := 3) (oi := ?p3a) (v := ?v3a) ?o3a (by kernel_rfl) (by kernel_rfl) (by kernel_rfl) ?q3a ?y3a hHeld ?r3a
        case o3a => simp only [List.getElem?_toArray, List.getElem?_cons_succ, List.getElem?_cons_zero]; rfl
        case q3a => exact fun _ _ _ h => h
        case y3a => (refine Or.inl ⟨rfl, ?_⟩; intro wq hq; obtain ⟨s0, s1'⟩ := HS.out wq hq; go_simp; try with_reducible rfl)
        simp only [Act.put, List.setIfInBounds_toArray, List.set_cons_zero, List.set_cons_succ]
        refine wpAnyH_take (i := 4) (oi := ?p4a) (v := ?v4a) ?o4a (by kernel_rfl) (by kernel_rfl) (by kernel_rfl) ?q4a ?y4a hHeld ?r4a
        case o4a => simp only [List.getElem?_toArray, List.getElem?_cons_succ, List.getElem?_cons_zero]; rfl
        case q4a => exact fun _ _ _ h => h
        case y4a => (refine Or.inl ⟨rfl, ?_⟩; intro wq hq; obtain ⟨s0, s1'⟩ := HS.out wq hq; go_simp; try with_reducible rfl)
        simp only [Act.put, List.setIfInBounds_toArray, List.set_cons_zero, List.set_cons_succ]
        refine wpAnyH_take (i := 5) (oi := ?p5a) (v := ?v5a) ?o5a (by kernel_rfl) (by kernel_rfl) (by kernel_rfl) ?q5a ?y5a hHeld ?r5a
        case o5a => simp only [List.getElem?_toArray, List.getElem?_cons_succ, List.getElem?_cons_zero]; rfl
        case q5a => exact fun _ _ _ h => h
        case y5a => (refine Or.inl ⟨rfl, ?_⟩; intro wq hq; obtain ⟨s0, s1'⟩ := HS.out wq hq; go_simp; try with_reducible rfl)
        simp only [Act.put, List.setIfInBounds_toArray, List.set_cons_zero, List.set_cons_succ]
        refine wpAnyH_take (i := 6) (oi := ?p6a) (v := ?v6a) ?o6a (by kernel_rfl) (by kernel_rfl) (by kernel_rfl) ?q6a ?y6a hHeld ?r6a
        case o6a => simp only [List.getElem?_toArray, List.getElem?_cons_succ, List.getElem?_cons_zero]; rfl
        case q6a => exact fun _ _ _ h => h
        case y6a => (refine Or.inl ⟨rfl, ?_⟩; intro wq hq; obtain ⟨s0, s1'⟩ := HS.out wq hq; go_simp; try with_reducible rfl)
        simp only [Act.put, List.setIfInBounds_toArray, List.set_cons_zero, List.set_cons_succ]
        refine wpAnyH_ready (rs := [1]) (by kernel_rfl) (by simp) ?_
        refine AllReadyH.cons (o := ?p1a) ?o1a ?s1a AllReadyH.nil
        case o1a => simp only [List.getElem?_toArray, List.getElem?_cons_succ, List.getElem?_cons_zero]; rfl
        intro K hK
        go_simp
        refine (HBY.out _ hHeld).mono ?_
        rintro x w3 ⟨rfl, hb⟩
        have B3 : Below wr.heap.size wr w3 := bel_up hHeld hb (Nat.le_refl _)
        clear hb
        refine hK.out _ _ B3 (fun hHeld => ?_)
        clear hK K
        refine wpAnyH_take (i := 7) (oi := ?p7a) (v := ?v7a) ?o7a (by kernel_rfl) (by kernel_rfl) (by kernel_rfl) ?q7a ?y7a hHeld ?r7a
        case o7a => simp only [List.getElem?_toArray, List.getElem?_cons_succ, List.getElem?_cons_zero]; rfl
        case q7a => exact fun _ _ _ h => h
        case y7a => (refine Or.inl ⟨rfl, ?_⟩; intro wq hq; obtain ⟨s0, s1'⟩ := HS.out wq hq; go_simp; try with_reducible rfl)
        simp only [Act.put, List.setIfInBounds_toArray, List.set_cons_zero, List.set_cons_succ]
        refine wpAnyH_take (i := 8) (oi := ?p8a) (v := ?v8a) ?o8a (by kernel_rfl) (by kernel_rfl) (by kernel_rfl) ?q8a ?y8a hHeld ?r8a
        case o8a => simp only [List.getElem?_toArray, List.getElem?_cons_succ, List.getElem?_cons_zero]; rfl
        case q8a => exact fun _ _ _ h => h
        case y8a => (refine Or.inl ⟨rfl, ?_⟩; intro wq hq; obtain ⟨s0, s1'⟩ := HS.out wq hq; go_simp; try with_reducible rfl)
        simp only [Act.put, List.setIfInBounds_toArray, List.set_cons_zero, List.set_cons_succ]
        refine wpAnyH_take (i := 9) (oi := ?p9a) (v := undef) ?o9a (by kernel_rfl) (by kernel_rfl) (by kernel_rfl) ?q9a ?y9a hHeld ?r9a
        case o9a => simp only [List.getElem?_toArray, List.getElem?_cons_succ, List.getElem?_cons_zero]; rfl
        case q9a => exact fun _ _ _ h => h
        case y9a => exact Or.inr ⟨rfl, rfl⟩
        simp only [Act.put, List.setIfInBounds_toArray, List.set_cons_zero, List.set_cons_succ]
        refine wpAnyH_take (i := 10) (oi := ?p10a) (v := undef) ?o10a (by kernel_rfl) (by kernel_rfl) (by kernel_rfl) ?q10a ?y10a hHeld ?r10a
        case o10a => simp only [List.getElem?_toArray, List.getElem?_cons_succ, List.getElem?_cons_zero]; rfl
        case q10a => exact fun _ _ _ h => h
        case y10a => exact Or.inr ⟨rfl, rfl⟩
        simp only [Act.put, List.setIfInBounds_toArray, List.set_cons_zero, List.set_cons_succ]
        refine wpAnyH_take (i := 11) (oi := ?p11a) (v := undef) ?o11a (by kernel_rfl) (by kernel_rfl) (by kernel_rfl) ?q11a ?y11a hHeld ?r11a
        case o11a => simp only [List.getElem?_toArray, List.getElem?_cons_succ, List.getElem?_cons_zero]; rfl
        case q11a => exact fun _ _ _ h => h
        case y11a => exact Or.inr ⟨rfl, rfl⟩
        simp only [Act.put, List.setIfInBounds_toArray, List.set_cons_zero, List.set_cons_succ]
        refine wpAnyH_take (i := 12) (oi := ?p12a) (v := ?v12a) ?o12a (by kernel_rfl) (by kernel_rfl) (by kernel_rfl) ?q12a ?y12a hHeld ?r12a
        case o12a => simp only [List.getElem?_toArray, List.getElem?_cons_succ, List.getElem?_cons_zero]; rfl
        case q12a => exact fun _ _ _ h => h
        case y12a => (refine Or.inl ⟨rfl, ?_⟩; intro wq hq; obtain ⟨s0, s1'⟩ := HS.out wq hq; go_simp; try with_reducible rfl)
        simp only [Act.put, List.setIfInBounds_toArray, List.set_cons_zero, List.set_cons_succ]
        refine wpAnyH_done (by kernel_rfl) ?_ _
        clear HS HBY hHeld
        have HR3 := Hid_of (HR.out.keep B3)
        have HS : Hid (∀ w', Below w3.heap.size w3 w' → w'.cell? ⟨w.heap.size, 0, none⟩ = some (.int .i64 mo) ∧ w'.cell? ⟨w.heap.size, 1, none⟩ = some (.slice ac cur.length cc)) := fun w' hb' => (row2 (HR3.out.keep hb').ps.box).1
        have HXC3 := Hid_of (HXC.out.keep B3)
        have HBY : Hid (∀ w', Below w3.heap.size w3 w' → Calls Try.prog 23 #[.agg #[.int .i64 mo, .slice ac cur.length cc]] w' fun e w'' => e = .returned (.int .i64 (M.bytes cur)) ∧ Below w'.heap.size w' w'') := fun w' hb' => rbytes_any mo ac cc cur w' hcl HR3.out.by' (HXC3.out.keep hb').at'
        clear HR HXC B3 s0 s1'
        go_wp2_with fail
        refine wp_region_held_drew (S := fun wq => Below (w3).heap.size (w3) wq) (by kernel_rfl) (Below.drew (Below.refl _ _)) (fun hHeld => ?_)
        refine wpAnyH_take (i := 0) (oi := ?p0b) (v := ?v0b) ?o0b (by kernel_rfl) (by kernel_rfl) (by kernel_rfl) ?q0b ?y0b hHeld ?r0b
        case o0b => simp only [List.getElem?_toArray, List.getElem?_cons_zero]; rfl
        case q0b => exact fun _ _ _ h => h
        case y0b => (refine Or.inl ⟨rfl, ?_⟩; intro wq hq; obtain ⟨s0, s1'⟩ := HS.out wq hq; go_simp; try with_reducible rfl)
        simp only [Act.put, List.setIfInBounds_toArray, List.set_cons_zero, List.set_cons_succ]
        refine wpAnyH_take (i := 2) (oi := ?p2b) (v := ?v2b) ?o2b (by kernel_rfl) (by kernel_rfl) (by kernel_rfl) ?q2b ?y2b hHeld ?r2b
        case o2b => simp only [List.getElem?_toArray, List.getElem?_cons_succ, List.getElem?_cons_zero]; rfl
        case q2b => exact fun _ _ _ h => h
        case y2b => (refine Or.inl ⟨rfl, ?_⟩; intro wq hq; obtain ⟨s0, s1'⟩ := HS.out wq hq; go_simp; try with_reducible rfl)
        simp only [Act.put, List.setIfInBounds_toArray, List.set_cons_zero, List.set_cons_succ]
        refine wpAnyH_take (i := 3) (oi := ?p3b) (v := ?v3b) ?o3b (by kernel_rfl) (by kernel_rfl) (by kernel_rfl) ?q3b ?y3b hHeld ?r3b
        case o3b => simp only [List.getElem?_toArray, List.getElem?_cons_succ, List.getElem?_cons_zero]; rfl
        case q3b => exact fun _ _ _ h => h
        case y3b => (refine Or.inl ⟨rfl, ?_⟩; intro wq hq; obtain ⟨s0, s1'⟩ := HS.out wq hq; go_simp; try with_reducible rfl)
        simp only [Act.put, List.setIfInBounds_toArray, List.set_cons_zero, List.set_cons_succ]
        refine wpAnyH_take (i := 4) (oi := ?p4b) (v := ?v4b) ?o4b (by kernel_rfl) (by kernel_rfl) (by kernel_rfl) ?q4b ?y4b hHeld ?r4b
        case o4b => simp only [List.getElem?_toArray, List.getElem?_cons_succ, List.getElem?_cons_zero]; rfl
        case q4b => exact fun _ _ _ h => h
        case y4b => (refine Or.inl ⟨rfl, ?_⟩; intro wq hq; obtain ⟨s0, s1'⟩ := HS.out wq hq; go_simp; try with_reducible rfl)
        simp only [Act.put, List.setIfInBounds_toArray, List.set_cons_zero, List.set_cons_succ]
        refine wpAnyH_take (i := 5) (oi := ?p5b) (v := ?v5b) ?o5b (by kernel_rfl) (by kernel_rfl) (by kernel_rfl) ?q5b ?y5b hHeld ?r5b
        case o5b => simp only [List.getElem?_toArray, List.getElem?_cons_succ, List.getElem?_cons_zero]; rfl
        case q5b => exact fun _ _ _ h => h
        case y5b => (refine Or.inl ⟨rfl, ?_⟩; intro wq hq; obtain ⟨s0, s1'⟩ := HS.out wq hq; go_simp; try with_reducible rfl)
        simp only [Act.put, List.setIfInBounds_toArray, List.set_cons_zero, List.set_cons_succ]
        refine wpAnyH_take (i := 6) (oi := ?p6b) (v := ?v6b) ?o6b (by kernel_rfl) (by kernel_rfl) (by kernel_rfl) ?q6b ?y6b hHeld ?r6b
        case o6b => simp only [List.getElem?_toArray, List.getElem?_cons_succ, List.getElem?_cons_zero]; rfl
        case q6b => exact fun _ _ _ h => h
        case y6b => (refine Or.inl ⟨rfl, ?_⟩; intro wq hq; obtain ⟨s0, s1'⟩ := HS.out wq hq; go_simp; try with_reducible rfl)
        simp only [Act.put, List.setIfInBounds_toArray, List.set_cons_zero, List.set_cons_succ]
        refine wpAnyH_ready (rs := [1]) (by kernel_rfl) (by simp) ?_
        refine AllReadyH.cons (o := ?p1b) ?o1b ?s1b AllReadyH.nil
        case o1b => simp only [List.getElem?_toArray, List.getElem?_cons_succ, List.getElem?_cons_zero]; rfl
        intro K hK
        go_simp
        refine (HBY.out _ hHeld).mono ?_
        rintro x w4 ⟨rfl, hb⟩
        have B4 : Below w3.heap.size w3 w4 := bel_up hHeld hb (Nat.le_refl _)
        clear hb
        refine hK.out _ _ B4 (fun hHeld => ?_)
        clear hK K
        refine wpAnyH_take (i := 7) (oi := ?p7b) (v := ?v7b) ?o7b (by kernel_rfl) (by kernel_rfl) (by kernel_rfl) ?q7b ?y7b hHeld ?r7b
        case o7b => simp only [List.getElem?_toArray, List.getElem?_cons_succ, List.getElem?_cons_zero]; rfl
        case q7b => exact fun _ _ _ h => h
        case y7b => (refine Or.inl ⟨rfl, ?_⟩; intro wq hq; obtain ⟨s0, s1'⟩ := HS.out wq hq; go_simp; try with_reducible rfl)
        simp only [Act.put, List.setIfInBounds_toArray, List.set_cons_zero, List.set_cons_succ]
        refine wpAnyH_done (by kernel_rfl) ?_ _
        clear HS HBY hHeld
        have HR4 := Hid_of (HR3.out.keep B4)
        obtain ⟨⟨p0, p1⟩, pf⟩ := row2 HR4.out.ps.box
        obtain ⟨a5, c5, w5, run5, o5, b5⟩ := run_copy w4 27 ac cc cur (HXC3.out.keep B4) hcl
        have HR5 := Hid_of (HR4.out.keep b5)
        have hs5 := b5.size
        have he5 : (w5.alloc (.cells #[.int .i64 k, .string s, .bool false] 60)).heap[w5.heap.size]? = some (.cells #[.int .i64 k, .string s, .bool false] 60 (0, 0)) := heap_alloc_last w5 _
        obtain ⟨a6, c6, w6, run6, o6, rw6⟩ := run_app (w5.alloc (.cells #[.int .i64 k, .string s, .bool false] 60)) 27 w4.heap.size (.slice a5 cur.length c5) cur [⟨k, s, false⟩] w5.heap.size 0 1 1 (o5.keep (bel1 w5 _)) (at_one (x := ⟨k, s, false⟩) he5) rfl (by simp; omega) (by simp; omega)
        have b60 := rw6.below (B := w4.heap.size) (fun q hq => (o5.lt hq).1) (by simp; omega)
        have b6 : Below w4.heap.size w4 w6 := (b5.alloc hs5 _).trans b60
        have HR6 := Hid_of (HR4.out.keep b6)
        obtain ⟨⟨p2, p3⟩, pf6⟩ := row2 HR6.out.ps.box
        have pf61 := pf6 1
        have HP7 := Hid_of (HR6.out.ps.put1 (v' := .slice a6 (cur.length + 1) c6) (cur' := cur ++ [⟨k, s, false⟩]) (OwnE.low o6 HR4.out.ps.siz))
        have hu7 : OwnI (w6.setCell ⟨w.heap.size, 1, none⟩ (.slice a6 (cur.length + 1) c6)) W1.heap.size (.slice au outl.length cu) outl := HR6.out.own.keepH fun q hq hv => heap_setCell_other w6 ⟨w.heap.size, 1, none⟩ q _ (by have := (HR6.out.own.lt hv).1; show q ≠ w.heap.size; omega)
        have hfin := HP7.out.fin hu7
        obtain ⟨⟨e0, e1⟩, ef⟩ := row2 HP7.out.box
        obtain ⟨⟨f0, f1⟩, ff⟩ := row2 HP7.out.res
        have ff0 := ff 0
        have ff1 := ff 1
        simp only [List.length_singleton] at run6
        clear HR4 HR5 o5 b5 he5 o6 rw6 b60 b6 HR6 pf6 HP7 hu7 ef ff pf HR3 HXC3 B4 hs5
        go_wp2_with (first | (at_builtin; refine wpList_append_known rfl _ _ 27 rfl _ _ rfl rfl _ _ run5 ?_) | (at_builtin; refine wpList_append_known rfl _ _ 27 rfl _ _ rfl rfl _ _ run6 ?_))
        refine bodyPost_ret (v := .tuple #[.agg #[.int .i64 mo, .slice a6 (cur.length + 1) c6], .slice au outl.length cu]) ?_ rfl (by rw [HPQ2.out]; exact hfin.out.2)
        exact res_cell_tmp f11_res _ _ (w.heap.size + 1) _ _ rfl hfin.out.1
      · have hg : decide (lm < (M.bytes cur : Int)) = true := by simp; omega
        have hgl : decide ((M.bytes cur : Int) ≤ lm) = false := by simp; omega
        by_cases hlo : lse cur < cur.length
        · rw [li_yes hlo] at HLO
          obtain ⟨P, e, R, hcur, hPl, hP, he⟩ := (lse_split cur).1 hlo
          have HNX : Hid (M.wlk lm l1 (M.bytes l1) = ((M.wlk lm (cur.eraseIdx (lse cur)) (M.bytes (cur.eraseIdx (lse cur)))).1, (outl ++ [cur[lse cur].key]) ++ (M.wlk lm (cur.eraseIdx (lse cur)) (M.bytes (cur.eraseIdx (lse cur)))).2) ∧ (cur.eraseIdx (lse cur)).length + 1 = cur.length ∧ M.bytes (cur.eraseIdx (lse cur)) ≤ 65536) := by
            have hw := HR.out.wl
            have hb6 := HR.out.by'
            have hge : cur[lse cur]? = some e := by rw [← hPl, hcur]; simp
            have hge2 : cur[lse cur] = e := by
              have := List.getElem?_eq_getElem hlo
              rw [hge] at this
              exact (Option.some.inj this).symm
            have hpr : P ++ R = cur.eraseIdx (lse cur) := by
              rw [← hPl, hcur, List.eraseIdx_append_of_length_le (Nat.le_refl _)]
              simp
            rw [hge2, ← hpr]
            have hbs : (M.bytes cur : Int) - e.val.size = M.bytes (P ++ R) := by rw [hcur, M.bytes_mid]; omega
            refine ⟨?_, by rw [hcur]; simp; omega, by have := M.bytes_mid P R e; rw [← hcur] at this; omega⟩
            have hwl := M.wlk_loose lm P R e (M.bytes cur) hP he (by omega)
            rw [← hcur, hbs] at hwl
            rw [hw, hwl]
            simp
          generalize hls : lse cur = j at *
          clear hls hcur hPl hP he P e R hrm
          go_wp2_with fail
          refine wp_region_held_drew (S := fun wq => Below (wr).heap.size (wr) wq) (by kernel_rfl) (Below.drew (Below.refl _ _)) (fun hHeld => ?_)
          refine wpAnyH_take (i := 0) (oi := ?p0c) (v := ?v0c) ?o0c (by kernel_rfl) (by kernel_rfl) (by kernel_rfl) ?q0c ?y0c hHeld ?r0c
          case o0c => simp only [List.getElem?_toArray, List.getElem?_cons_zero]; rfl
          case q0c => exact fun _ _ _ h => h
          case y0c => (refine Or.inl ⟨rfl, ?_⟩; intro wq hq; obtain ⟨s0, s1'⟩ := HS.out wq hq; go_simp; try with_reducible rfl)
          simp only [Act.put, List.setIfInBounds_toArray, List.set_cons_zero, List.set_cons_succ]
          refine wpAnyH_take (i := 2) (oi := ?p2c) (v := ?v2c) ?o2c (by kernel_rfl) (by kernel_rfl) (by kernel_rfl) ?q2c ?y2c hHeld ?r2c
          case o2c => simp only [List.getElem?_toArray, List.getElem?_cons_succ, List.getElem?_cons_zero]; rfl
          case q2c => exact fun _ _ _ h => h
          case y2c => (refine Or.inl ⟨rfl, ?_⟩; intro wq hq; obtain ⟨s0, s1'⟩ := HS.out wq hq; go_simp; try with_reducible rfl)
          simp only [Act.put, List.setIfInBounds_toArray, List.set_cons_zero, List.set_cons_succ]
          refine wpAnyH_take (i := 3) (oi := ?p3c) (v := ?v3c) ?o3c (by kernel_rfl) (by kernel_rfl) (by kernel_rfl) ?q3c ?y3c hHeld ?r3c
          case o3c => simp only [List.getElem?_toArray, List.getElem?_cons_succ, List.getElem?_cons_zero]; rfl
          case q3c => exact fun _ _ _ h => h
          case y3c => (refine Or.inl ⟨rfl, ?_⟩; intro wq hq; obtain ⟨s0, s1'⟩ := HS.out wq hq; go_simp; try with_reducible rfl)
          simp only [Act.put, List.setIfInBounds_toArray, List.set_cons_zero, List.set_cons_succ]
          refine wpAnyH_take (i := 4) (oi := ?p4c) (v := ?v4c) ?o4c (by kernel_rfl) (by kernel_rfl) (by kernel_rfl) ?q4c ?y4c hHeld ?r4c
          case o4c => simp only [List.getElem?_toArray, List.getElem?_cons_succ, List.getElem?_cons_zero]; rfl
          case q4c => exact fun _ _ _ h => h
          case y4c => (refine Or.inl ⟨rfl, ?_⟩; intro wq hq; obtain ⟨s0, s1'⟩ := HS.out wq hq; go_simp; try with_reducible rfl)
          simp only [Act.put, List.setIfInBounds_toArray, List.set_cons_zero, List.set_cons_succ]
          refine wpAnyH_take (i := 5) (oi := ?p5c) (v := ?v5c) ?o5c (by kernel_rfl) (by kernel_rfl) (by kernel_rfl) ?q5c ?y5c hHeld ?r5c
          case o5c => simp only [List.getElem?_toArray, List.getElem?_cons_succ, List.getElem?_cons_zero]; rfl
          case q5c => exact fun _ _ _ h => h
          case y5c => (refine Or.inl ⟨rfl, ?_⟩; intro wq hq; obtain ⟨s0, s1'⟩ := HS.out wq hq; go_simp; try with_reducible rfl)
          simp only [Act.put, List.setIfInBounds_toArray, List.set_cons_zero, List.set_cons_succ]
          refine wpAnyH_take (i := 6) (oi := ?p6c) (v := ?v6c) ?o6c (by kernel_rfl) (by kernel_rfl) (by kernel_rfl) ?q6c ?y6c hHeld ?r6c
          case o6c => simp only [List.getElem?_toArray, List.getElem?_cons_succ, List.getElem?_cons_zero]; rfl
          case q6c => exact fun _ _ _ h => h
          case y6c => (refine Or.inl ⟨rfl, ?_⟩; intro wq hq; obtain ⟨s0, s1'⟩ := HS.out wq hq; go_simp; try with_reducible rfl)
          simp only [Act.put, List.setIfInBounds_toArray, List.set_cons_zero, List.set_cons_succ]
          refine wpAnyH_ready (rs := [1]) (by kernel_rfl) (by simp) ?_
          refine AllReadyH.cons (o := ?p1c) ?o1c ?s1c AllReadyH.nil
          case o1c => simp only [List.getElem?_toArray, List.getElem?_cons_succ, List.getElem?_cons_zero]; rfl
          intro K hK
          go_simp
          refine (HBY.out _ hHeld).mono ?_
          rintro x w3 ⟨rfl, hb⟩
          have B3 : Below wr.heap.size wr w3 := bel_up hHeld hb (Nat.le_refl _)
          clear hb
          refine hK.out _ _ B3 (fun hHeld => ?_)
          clear hK K
          refine wpAnyH_take (i := 7) (oi := ?p7c) (v := ?v7c) ?o7c (by kernel_rfl) (by kernel_rfl) (by kernel_rfl) ?q7c ?y7c hHeld ?r7c
          case o7c => simp only [List.getElem?_toArray, List.getElem?_cons_succ, List.getElem?_cons_zero]; rfl
          case q7c => exact fun _ _ _ h => h
          case y7c => (refine Or.inl ⟨rfl, ?_⟩; intro wq hq; obtain ⟨s0, s1'⟩ := HS.out wq hq; go_simp; try with_reducible rfl)
          simp only [Act.put, List.setIfInBounds_toArray, List.set_cons_zero, List.set_cons_succ]
          refine wpAnyH_take (i := 8) (oi := ?p8c) (v := ?v8c) ?o8c (by kernel_rfl) (by kernel_rfl) (by kernel_rfl) ?q8c ?y8c hHeld ?r8c
          case o8c => simp only [List.getElem?_toArray, List.getElem?_cons_succ, List.getElem?_cons_zero]; rfl
          case q8c => exact fun _ _ _ h => h
          case y8c => (refine Or.inl ⟨rfl, ?_⟩; intro wq hq; obtain ⟨s0, s1'⟩ := HS.out wq hq; go_simp; try with_reducible rfl)
          simp only [Act.put, List.setIfInBounds_toArray, List.set_cons_zero, List.set_cons_succ]
          refine wpAnyH_take (i := 9) (oi := ?p9c) (v := ?v9c) ?o9c (by kernel_rfl) (by kernel_rfl) (by kernel_rfl) ?q9c ?y9c hHeld ?r9c
          case o9c => simp only [List.getElem?_toArray, List.getElem?_cons_succ, List.getElem?_cons_zero]; rfl
          case q9c => exact fun _ _ _ h => h
          case y9c => (refine Or.inl ⟨rfl, ?_⟩; intro wq hq; obtain ⟨s0, s1'⟩ := HS.out wq hq; go_simp; try with_reducible rfl)
          simp only [Act.put, List.setIfInBounds_toArray, List.set_cons_zero, List.set_cons_succ]
          refine wpAnyH_ready (rs := [10]) (by kernel_rfl) (by simp) ?_
          refine AllReadyH.cons (o := ?p10c) ?o10c ?s10c AllReadyH.nil
          case o10c => simp only [List.getElem?_toArray, List.getElem?_cons_succ, List.getElem?_cons_zero]; rfl
          intro K hK
          go_simp
          refine (HLO.out _ hHeld).mono ?_
          rintro x w4 ⟨rfl, hb⟩
          have B4 : Below wr.heap.size wr w4 := bel_up hHeld hb (Nat.le_refl _)
          clear hb
          refine hK.out _ _ B4 (fun hHeld => ?_)
          clear hK K
          refine wpAnyH_take (i := 11) (oi := ?p11c) (v := ?v11c) ?o11c (by kernel_rfl) (by kernel_rfl) (by kernel_rfl) ?q11c ?y11c hHeld ?r11c
          case o11c => simp only [List.getElem?_toArray, List.getElem?_cons_succ, List.getElem?_cons_zero]; rfl
          case q11c => exact fun _ _ _ h => h
          case y11c => (refine Or.inl ⟨rfl, ?_⟩; intro wq hq; obtain ⟨s0, s1'⟩ := HS.out wq hq; go_simp; try with_reducible rfl)
          simp only [Act.put, List.setIfInBounds_toArray, List.set_cons_zero, List.set_cons_succ]
          refine wpAnyH_take (i := 12) (oi := ?p12c) (v := ?v12c) ?o12c (by kernel_rfl) (by kernel_rfl) (by kernel_rfl) ?q12c ?y12c hHeld ?r12c
          case o12c => simp only [List.getElem?_toArray, List.getElem?_cons_succ, List.getElem?_cons_zero]; rfl
          case q12c => exact fun _ _ _ h => h
          case y12c => (refine Or.inl ⟨rfl, ?_⟩; intro wq hq; obtain ⟨s0, s1'⟩ := HS.out wq hq; go_simp; try with_reducible rfl)
          simp only [Act.put, List.setIfInBounds_toArray, List.set_cons_zero, List.set_cons_succ]
          refine wpAnyH_done (by kernel_rfl) ?_ _
          have HR4 := Hid_of (HR.out.keep B4)
          have hlo4 := HLO.out w4 B4
          obtain ⟨⟨q0, q1⟩, qf⟩ := row2 HR4.out.ps.box
          have HXC4 := Hid_of (HXC.out.keep B4)
          clear HS HBY HLO hHeld HR HXC B3 B4 s0 s1' qf
          go_wp2_with fail
          refine hlo4.mono ?_
          rintro x w5 ⟨rfl, b5⟩
          have HR5 := Hid_of (HR4.out.keep b5)
          have HXC5 := Hid_of (HXC4.out.keep b5)
          clear hlo4 HR4 HXC4 b5 q0 q1
          obtain ⟨⟨q0, q1⟩, qf⟩ := row2 HR5.out.ps.box
          obtain ⟨bb, off, rfl, g0, g1, g2⟩ := HXC5.out.at' j hlo
          have HO5 : Hid (w5.ownsRow W1.heap.size 3 1 (.slice au outl.length cu) outl.length (outl.map (Value.int .i64))) := HR5.out.own
          have hsz5 := HR5.out.ps.siz
          have hol : outl.length ≤ 1000000 := by have := HR5.out.len; omega
          have HSL : Hid (sl (.slice au outl.length cu) = outl.length) := rfl
          have HAP := Hid_of HR5.out.ap
          generalize cur[j].key = kj at *
          clear g1 g2 qf
          have HNEXT : Hid (∀ w6 g cp, w6.ownsRow W1.heap.size 3 1 (.slice (some ⟨g, 0, none⟩) (outl.length + 1) cp) (outl.length + 1) (outl.map (Value.int .i64) ++ [.int .i64 kj]) → Rw (w5.alloc (.cells #[.int .i64 kj] 3)) (.slice au outl.length cu) w6 (.slice (some ⟨g, 0, none⟩) (outl.length + 1) cp) → PS w W1 w6 mo a cap l (.slice (some ⟨bb, off, none⟩) cur.length cc) cur ∧ OwnI w6 W1.heap.size (.slice (some ⟨g, 0, none⟩) (outl.length + 1) cp) (outl ++ [kj])) := by
            intro w6 g cp ho hr
            have hb6 := hr.below (B := W1.heap.size) (fun q hq => (HR5.out.own.lt hq).1) (by simp; omega)
            refine ⟨(HR5.out.ps.keep (bel1 w5 _)).keepBut hb6 (fun q hq hv => hr.g.block q hq (fun e => HAP.out q e.symm hv)), ?_⟩
            unfold OwnI
            rw [List.map_append, List.length_append, List.length_singleton]
            exact ho
          have HLEN := Hid_of HR5.out.len
          clear HR5 HXC5 HAP
          go_wp2_with (at_builtin; refine wpList_append_lies _ rfl _ _ 33 rfl W1.heap.size 3 Try.t3 _ 1 8 Try.underlying33 hi3 hz3 hs3 hb3 rfl (by decide) _ _ _ rfl (HO5.out.alloc _) ⟨w5.heap.size, 0, none⟩ 1 1 [.int .i64 kj] rfl rfl (cell_one _ _ _ _ (heap_alloc_last _ _)) (by simp; rfl) (by decide) (by unfold maxLen; omega) (by omega) (by simp; omega) _ rfl ?_; intro g3 cp w6 hown6 hgrow hat hlt6; have hrw := rw_lies (v := .slice au outl.length cu) (n := outl.length + 1) (cp := cp) hgrow hat rfl; obtain ⟨ps6, own6⟩ := HNEXT.out w6 g3 cp hown6 hrw; have HPS6 := Hid_of ps6; have HOW6 := Hid_of own6; obtain ⟨⟨t0, t1⟩, tf⟩ := row2 ps6.box; have hwo := rwithout_any mo (some ⟨bb, off, none⟩) cc cur j w6 hcl hlo (by obtain ⟨a', c', hv, hx'⟩ := ps6.xe; cases hv; exact hx'); clear hrw hgrow hat hown6 ps6 own6 tf HNEXT)
          refine hwo.mono ?_
          rintro x w7 ⟨v7, rfl, o7, b7⟩
          obtain ⟨a7, c7, rfl, _, _⟩ := o7.at
          have HPS7 := Hid_of (HPS6.out.keep b7)
          have HOW7 := Hid_of (HOW6.out.keep b7)
          obtain ⟨⟨y0, y1⟩, yf⟩ := row2 HPS7.out.box
          have yf0 := yf 0
          have yf1 := yf 1
          have HPL8 : Hid (PL w W1 ((w7.setCell ⟨w.heap.size, 0, none⟩ (.int .i64 mo)).setCell ⟨w.heap.size, 1, none⟩ (.slice a7 (cur.eraseIdx j).length c7)) mo lm a cap l l1 (cur.eraseIdx j) (.slice a7 (cur.eraseIdx j).length c7) (.slice (some ⟨g3, 0, none⟩) (outl.length + 1) cp) (outl ++ [kj])) := by
            have hk : ∀ q, q ≠ w.heap.size → ((w7.setCell ⟨w.heap.size, 0, none⟩ (.int .i64 mo)).setCell ⟨w.heap.size, 1, none⟩ (.slice a7 (cur.eraseIdx j).length c7)).heap[q]? = w7.heap[q]? := fun q hq => (heap_setCell_other _ ⟨w.heap.size, 1, none⟩ q _ hq).trans (heap_setCell_other _ ⟨w.heap.size, 0, none⟩ q _ hq)
            refine ⟨HPS7.out.put (OwnE.low o7 HPS6.out.siz), HOW7.out.keepH (fun q hq hv => hk q (by have := (HOW7.out.lt hv).1; omega)), fun q hq hv => ?_, HNX.out.1, ?_, HNX.out.2.2⟩
            · have h1 := (HOW6.out.lt hq).2
              have h2 := (o7.lt hv).1
              omega
            · have h1 := HLEN.out
              have h2 := HNX.out.2.1
              simp only [List.length_append, List.length_singleton]
              omega
          have hms : outl.length < l1.length := by have h1 := HLEN.out; omega
          clear hwo o7 b7 HPS6 HOW6 HPS7 HOW7 yf HNX HLEN t0 t1 g0 q0 q1 HO5
          generalize (cur.eraseIdx j).length = nl at *
          go_wp2
          go_roundw
          case rel => exact ⟨_, _, _, HPL8.out⟩
          case measure => simp [sl]; omega
        · rw [li_no hlo] at HLO
          have hall := (lse_split cur).2 hlo
          have HWL : Hid (M.wlk lm l1 (M.bytes l1) = (cur, outl)) := by
            have := HR.out.wl
            rw [M.wlk_all _ _ _ hall, List.append_nil] at this
            exact this
          have HPQ2 : Hid (pq = (cur, outl)) := by
            have := HPQ.out
            rw [HWL.out] at this
            show _ = _
            rw [this, if_neg hrm]
          clear HPQ HWL hrm hall hlo
          go_wp2_with fail
          refine wp_region_held_drew (S := fun wq => Below (wr).heap.size (wr) wq) (by kernel_rfl) (Below.drew (Below.refl _ _)) (fun hHeld => ?_)
          refine wpAnyH_take (i := 0) (oi := ?p0d) (v := ?v0d) ?o0d (by kernel_rfl) (by kernel_rfl) (by kernel_rfl) ?q0d ?y0d hHeld ?r0d
          case o0d => simp only [List.getElem?_toArray, List.getElem?_cons_zero]; rfl
          case q0d => exact fun _ _ _ h => h
          case y0d => (refine Or.inl ⟨rfl, ?_⟩; intro wq hq; obtain ⟨s0, s1'⟩ := HS.out wq hq; go_simp; try with_reducible rfl)
          simp only [Act.put, List.setIfInBounds_toArray, List.set_cons_zero, List.set_cons_succ]
          refine wpAnyH_take (i := 2) (oi := ?p2d) (v := ?v2d) ?o2d (by kernel_rfl) (by kernel_rfl) (by kernel_rfl) ?q2d ?y2d hHeld ?r2d
          case o2d => simp only [List.getElem?_toArray, List.getElem?_cons_succ, List.getElem?_cons_zero]; rfl
          case q2d => exact fun _ _ _ h => h
          case y2d => (refine Or.inl ⟨rfl, ?_⟩; intro wq hq; obtain ⟨s0, s1'⟩ := HS.out wq hq; go_simp; try with_reducible rfl)
          simp only [Act.put, List.setIfInBounds_toArray, List.set_cons_zero, List.set_cons_succ]
          refine wpAnyH_take (i := 3) (oi := ?p3d) (v := ?v3d) ?o3d (by kernel_rfl) (by kernel_rfl) (by kernel_rfl) ?q3d ?y3d hHeld ?r3d
          case o3d => simp only [List.getElem?_toArray, List.getElem?_cons_succ, List.getElem?_cons_zero]; rfl
          case q3d => exact fun _ _ _ h => h
          case y3d => (refine Or.inl ⟨rfl, ?_⟩; intro wq hq; obtain ⟨s0, s1'⟩ := HS.out wq hq; go_simp; try with_reducible rfl)
          simp only [Act.put, List.setIfInBounds_toArray, List.set_cons_zero, List.set_cons_succ]
          refine wpAnyH_take (i := 4) (oi := ?p4d) (v := ?v4d) ?o4d (by kernel_rfl) (by kernel_rfl) (by kernel_rfl) ?q4d ?y4d hHeld ?r4d
          case o4d => simp only [List.getElem?_toArray, List.getElem?_cons_succ, List.getElem?_cons_zero]; rfl
          case q4d => exact fun _ _ _ h => h
          case y4d => (refine Or.inl ⟨rfl, ?_⟩; intro wq hq; obtain ⟨s0, s1'⟩ := HS.out wq hq; go_simp; try with_reducible rfl)
          simp only [Act.put, List.setIfInBounds_toArray, List.set_cons_zero, List.set_cons_succ]
          refine wpAnyH_take (i := 5) (oi := ?p5d) (v := ?v5d) ?o5d (by kernel_rfl) (by kernel_rfl) (by kernel_rfl) ?q5d ?y5d hHeld ?r5d
          case o5d => simp only [List.getElem?_toArray, List.getElem?_cons_succ, List.getElem?_cons_zero]; rfl
          case q5d => exact fun _ _ _ h => h
          case y5d => (refine Or.inl ⟨rfl, ?_⟩; intro wq hq; obtain ⟨s0, s1'⟩ := HS.out wq hq; go_simp; try with_reducible rfl)
          simp only [Act.put, List.setIfInBounds_toArray, List.set_cons_zero, List.set_cons_succ]
          refine wpAnyH_take (i := 6) (oi := ?p6d) (v := ?v6d) ?o6d (by kernel_rfl) (by kernel_rfl) (by kernel_rfl) ?q6d ?y6d hHeld ?r6d
          case o6d => simp only [List.getElem?_toArray, List.getElem?_cons_succ, List.getElem?_cons_zero]; rfl
          case q6d => exact fun _ _ _ h => h
          case y6d => (refine Or.inl ⟨rfl, ?_⟩; intro wq hq; obtain ⟨s0, s1'⟩ := HS.out wq hq; go_simp; try with_reducible rfl)
          simp only [Act.put, List.setIfInBounds_toArray, List.set_cons_zero, List.set_cons_succ]
          refine wpAnyH_ready (rs := [1]) (by kernel_rfl) (by simp) ?_
          refine AllReadyH.cons (o := ?p1d) ?o1d ?s1d AllReadyH.nil
          case o1d => simp only [List.getElem?_toArray, List.getElem?_cons_succ, List.getElem?_cons_zero]; rfl
          intro K hK
          go_simp
          refine (HBY.out _ hHeld).mono ?_
          rintro x w3 ⟨rfl, hb⟩
          have B3 : Below wr.heap.size wr w3 := bel_up hHeld hb (Nat.le_refl _)
          clear hb
          refine hK.out _ _ B3 (fun hHeld => ?_)
          clear hK K
          refine wpAnyH_take (i := 7) (oi := ?p7d) (v := ?v7d) ?o7d (by kernel_rfl) (by kernel_rfl) (by kernel_rfl) ?q7d ?y7d hHeld ?r7d
          case o7d => simp only [List.getElem?_toArray, List.getElem?_cons_succ, List.getElem?_cons_zero]; rfl
          case q7d => exact fun _ _ _ h => h
          case y7d => (refine Or.inl ⟨rfl, ?_⟩; intro wq hq; obtain ⟨s0, s1'⟩ := HS.out wq hq; go_simp; try with_reducible rfl)
          simp only [Act.put, List.setIfInBounds_toArray, List.set_cons_zero, List.set_cons_succ]
          refine wpAnyH_take (i := 8) (oi := ?p8d) (v := ?v8d) ?o8d (by kernel_rfl) (by kernel_rfl) (by kernel_rfl) ?q8d ?y8d hHeld ?r8d
          case o8d => simp only [List.getElem?_toArray, List.getElem?_cons_succ, List.getElem?_cons_zero]; rfl
          case q8d => exact fun _ _ _ h => h
          case y8d => (refine Or.inl ⟨rfl, ?_⟩; intro wq hq; obtain ⟨s0, s1'⟩ := HS.out wq hq; go_simp; try with_reducible rfl)
          simp only [Act.put, List.setIfInBounds_toArray, List.set_cons_zero, List.set_cons_succ]
          refine wpAnyH_take (i := 9) (oi := ?p9d) (v := ?v9d) ?o9d (by kernel_rfl) (by kernel_rfl) (by kernel_rfl) ?q9d ?y9d hHeld ?r9d
          case o9d => simp only [List.getElem?_toArray, List.getElem?_cons_succ, List.getElem?_cons_zero]; rfl
          case q9d => exact fun _ _ _ h => h
          case y9d => (refine Or.inl ⟨rfl, ?_⟩; intro wq hq; obtain ⟨s0, s1'⟩ := HS.out wq hq; go_simp; try with_reducible rfl)
          simp only [Act.put, List.setIfInBounds_toArray, List.set_cons_zero, List.set_cons_succ]
          refine wpAnyH_ready (rs := [10]) (by kernel_rfl) (by simp) ?_
          refine AllReadyH.cons (o := ?p10d) ?o10d ?s10d AllReadyH.nil
          case o10d => simp only [List.getElem?_toArray, List.getElem?_cons_succ, List.getElem?_cons_zero]; rfl
          intro K hK
          go_simp
          refine (HLO.out _ hHeld).mono ?_
          rintro x w4 ⟨rfl, hb⟩
          have B4 : Below wr.heap.size wr w4 := bel_up hHeld hb (Nat.le_refl _)
          clear hb
          refine hK.out _ _ B4 (fun hHeld => ?_)
          clear hK K
          refine wpAnyH_take (i := 11) (oi := ?p11d) (v := ?v11d) ?o11d (by kernel_rfl) (by kernel_rfl) (by kernel_rfl) ?q11d ?y11d hHeld ?r11d
          case o11d => simp only [List.getElem?_toArray, List.getElem?_cons_succ, List.getElem?_cons_zero]; rfl
          case q11d => exact fun _ _ _ h => h
          case y11d => (refine Or.inl ⟨rfl, ?_⟩; intro wq hq; obtain ⟨s0, s1'⟩ := HS.out wq hq; go_simp; try with_reducible rfl)
          simp only [Act.put, List.setIfInBounds_toArray, List.set_cons_zero, List.set_cons_succ]
          refine wpAnyH_take (i := 12) (oi := ?p12d) (v := ?v12d) ?o12d (by kernel_rfl) (by kernel_rfl) (by kernel_rfl) ?q12d ?y12d hHeld ?r12d
          case o12d => simp only [List.getElem?_toArray, List.getElem?_cons_succ, List.getElem?_cons_zero]; rfl
          case q12d => exact fun _ _ _ h => h
          case y12d => (refine Or.inl ⟨rfl, ?_⟩; intro wq hq; obtain ⟨s0, s1'⟩ := HS.out wq hq; go_simp; try with_reducible rfl)
          simp only [Act.put, List.setIfInBounds_toArray, List.set_cons_zero, List.set_cons_succ]
          refine wpAnyH_done (by kernel_rfl) ?_ _
          clear HS HBY hHeld
          have HR3 := Hid_of (HR.out.keep B4)
          have HS : Hid (∀ w', Below w4.heap.size w4 w' → w'.cell? ⟨w.heap.size, 0, none⟩ = some (.int .i64 mo) ∧ w'.cell? ⟨w.heap.size, 1, none⟩ = some (.slice ac cur.length cc)) := fun w' hb' => (row2 (HR3.out.keep hb').ps.box).1
          have HBY : Hid (∀ w', Below w4.heap.size w4 w' → Calls Try.prog 23 #[.agg #[.int .i64 mo, .slice ac cur.length cc]] w' fun e w'' => e = .returned (.int .i64 (M.bytes cur)) ∧ Below w'.heap.size w' w'') := fun w' hb' => rbytes_any mo ac cc cur w' hcl HR3.out.by' ((HXC.out.keep B4).keep hb').at'
          clear HR s0 s1' HLO B3
          go_wp2_with fail
          refine wp_region_held_drew (S := fun wq => Below (w4).heap.size (w4) wq) (by kernel_rfl) (Below.drew (Below.refl _ _)) (fun hHeld => ?_)
          refine wpAnyH_take (i := 0) (oi := ?p0e) (v := ?v0e) ?o0e (by kernel_rfl) (by kernel_rfl) (by kernel_rfl) ?q0e ?y0e hHeld ?r0e
          case o0e => simp only [List.getElem?_toArray, List.getElem?_cons_zero]; rfl
          case q0e => exact fun _ _ _ h => h
          case y0e => (refine Or.inl ⟨rfl, ?_⟩; intro wq hq; obtain ⟨s0, s1'⟩ := HS.out wq hq; go_simp; try with_reducible rfl)
          simp only [Act.put, List.setIfInBounds_toArray, List.set_cons_zero, List.set_cons_succ]
          refine wpAnyH_take (i := 2) (oi := ?p2e) (v := ?v2e) ?o2e (by kernel_rfl) (by kernel_rfl) (by kernel_rfl) ?q2e ?y2e hHeld ?r2e
          case o2e => simp only [List.getElem?_toArray, List.getElem?_cons_succ, List.getElem?_cons_zero]; rfl
          case q2e => exact fun _ _ _ h => h
          case y2e => (refine Or.inl ⟨rfl, ?_⟩; intro wq hq; obtain ⟨s0, s1'⟩ := HS.out wq hq; go_simp; try with_reducible rfl)
          simp only [Act.put, List.setIfInBounds_toArray, List.set_cons_zero, List.set_cons_succ]
          refine wpAnyH_take (i := 3) (oi := ?p3e) (v := ?v3e) ?o3e (by kernel_rfl) (by kernel_rfl) (by kernel_rfl) ?q3e ?y3e hHeld ?r3e
          case o3e => simp only [List.getElem?_toArray, List.getElem?_cons_succ, List.getElem?_cons_zero]; rfl
          case q3e => exact fun _ _ _ h => h
          case y3e => (refine Or.inl ⟨rfl, ?_⟩; intro wq hq; obtain ⟨s0, s1'⟩ := HS.out wq hq; go_simp; try with_reducible rfl)
          simp only [Act.put, List.setIfInBounds_toArray, List.set_cons_zero, List.set_cons_succ]
          refine wpAnyH_take (i := 4) (oi := ?p4e) (v := ?v4e) ?o4e (by kernel_rfl) (by kernel_rfl) (by kernel_rfl) ?q4e ?y4e hHeld ?r4e
          case o4e => simp only [List.getElem?_toArray, List.getElem?_cons_succ, List.getElem?_cons_zero]; rfl
          case q4e => exact fun _ _ _ h => h
          case y4e => (refine Or.inl ⟨rfl, ?_⟩; intro wq hq; obtain ⟨s0, s1'⟩ := HS.out wq hq; go_simp; try with_reducible rfl)
          simp only [Act.put, List.setIfInBounds_toArray, List.set_cons_zero, List.set_cons_succ]
          refine wpAnyH_take (i := 5) (oi := ?p5e) (v := ?v5e) ?o5e (by kernel_rfl) (by kernel_rfl) (by kernel_rfl) ?q5e ?y5e hHeld ?r5e
          case o5e => simp only [List.getElem?_toArray, List.getElem?_cons_succ, List.getElem?_cons_zero]; rfl
          case q5e => exact fun _ _ _ h => h
          case y5e => (refine Or.inl ⟨rfl, ?_⟩; intro wq hq; obtain ⟨s0, s1'⟩ := HS.out wq hq; go_simp; try with_reducible rfl)
          simp only [Act.put, List.setIfInBounds_toArray, List.set_cons_zero, List.set_cons_succ]
          refine wpAnyH_take (i := 6) (oi := ?p6e) (v := ?v6e) ?o6e (by kernel_rfl) (by kernel_rfl) (by kernel_rfl) ?q6e ?y6e hHeld ?r6e
          case o6e => simp only [List.getElem?_toArray, List.getElem?_cons_succ, List.getElem?_cons_zero]; rfl
          case q6e => exact fun _ _ _ h => h
          case y6e => (refine Or.inl ⟨rfl, ?_⟩; intro wq hq; obtain ⟨s0, s1'⟩ := HS.out wq hq; go_simp; try with_reducible rfl)
          simp only [Act.put, List.setIfInBounds_toArray, List.set_cons_zero, List.set_cons_succ]
          refine wpAnyH_ready (rs := [1]) (by kernel_rfl) (by simp) ?_
          refine AllReadyH.cons (o := ?p1e) ?o1e ?s1e AllReadyH.nil
          case o1e => simp only [List.getElem?_toArray, List.getElem?_cons_succ, List.getElem?_cons_zero]; rfl
          intro K hK
          go_simp
          refine (HBY.out _ hHeld).mono ?_
          rintro x w5 ⟨rfl, hb⟩
          have B5 : Below w4.heap.size w4 w5 := bel_up hHeld hb (Nat.le_refl _)
          clear hb
          refine hK.out _ _ B5 (fun hHeld => ?_)
          clear hK K
          refine wpAnyH_take (i := 7) (oi := ?p7e) (v := ?v7e) ?o7e (by kernel_rfl) (by kernel_rfl) (by kernel_rfl) ?q7e ?y7e hHeld ?r7e
          case o7e => simp only [List.getElem?_toArray, List.getElem?_cons_succ, List.getElem?_cons_zero]; rfl
          case q7e => exact fun _ _ _ h => h
          case y7e => (refine Or.inl ⟨rfl, ?_⟩; intro wq hq; obtain ⟨s0, s1'⟩ := HS.out wq hq; go_simp; try with_reducible rfl)
          simp only [Act.put, List.setIfInBounds_toArray, List.set_cons_zero, List.set_cons_succ]
          refine wpAnyH_done (by kernel_rfl) ?_ _
          have HR5 := Hid_of (HR3.out.keep B5)
          have hfin := HR5.out.ps.fin HR5.out.own
          obtain ⟨⟨e0, e1⟩, ef⟩ := row2 HR5.out.ps.box
          obtain ⟨⟨f0, f1⟩, ff⟩ := row2 HR5.out.ps.res
          have ff0 := ff 0
          have ff1 := ff 1
          clear HS HBY hHeld HR3 HR5 ef ff B4 B5 HXC
          go_wp2
          refine bodyPost_ret (v := .tuple #[.agg #[.int .i64 mo, .slice ac cur.length cc], .slice au outl.length cu]) ?_ rfl (by rw [HPQ2.out]; exact hfin.out.2)
          exact res_cell_tmp f11_res _ _ (w.heap.size + 1) _ _ rfl hfin.out.1
end Go.Proofs.Ytpfmdchmgaaakaa
