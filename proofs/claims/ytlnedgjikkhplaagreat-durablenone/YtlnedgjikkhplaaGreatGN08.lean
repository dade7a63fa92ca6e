/-
  The place of a slot among votes.
  An acceptor in memory; its small methods.
-/
import Derived.Test.YtlnedgjikkhplaaGreatGN05
import Derived.Test.YtlnedgjikkhplaaGreatGN07
section
namespace Go.Proofs.YtlnedgjikkhplaaGreat.Na
open Go.RowKit
set_option linter.unusedVariables false
open M (E V)

set_option maxHeartbeats 400000 in
theorem key_any (id b0 b1 : Int) (r : ByteArray) (k : Int) (w : World) :
    Calls Tryz.prog 147 #[.agg #[.int .i64 id, .int .i64 b0, .int .i64 b1, .string r], .int .i64 k] w fun e w' => e = .returned (.int .i64 (M.cmp id k)) ∧ Below w.heap.size w w' := by
  have HB : Hid (Below w.heap.size w (w.alloc (.cells #[.int .i64 id, .int .i64 b0, .int .i64 b1, .string r] 48))) := bel1 w _
  go_enter Tryz.func147, Tryz.ntmps147
  go_wp2_with fail
  refine (compare_any _ _ _).mono ?_
  rintro e w1 ⟨rfl, rfl⟩
  go_wp2
  go_ret
  exact ⟨rfl, HB.out⟩
def SrOut (w : World) (l : List V) (k : Int) (e : Ending) (w' : World) : Prop := ∃ (r : Nat) (b : Bool), e = .returned (.tuple #[.int .i64 r, .bool b]) ∧ M.Sr l k r b ∧ Below w.heap.size w w'
set_option maxRecDepth 100000 in
set_option maxHeartbeats 2000000 in
theorem search_any (a : Option Addr) (cap : Nat) (l : List V) (k : Int) (w : World) (hl : l.length ≤ 1000000) (ha : AtL vl w a l) (hu : M.Up l) :
    Calls Tryz.prog 146 #[.slice a l.length cap, .int .i64 k, .func (.func 147) #[] #[]] w (SrOut w l k) := by
  have hm : ∀ i j (hi : i < l.length) (hj : j < l.length), i ≤ j → l[i].s ≤ l[j].s := fun i j hi hj hij => by
    rcases Nat.eq_or_lt_of_le hij with rfl | h
    · exact Int.le_refl _
    · have := List.pairwise_iff_getElem.1 hu i j hi hj h; omega
  go_enter Tryz.func146, Tryz.ntmps146
  go_wp2
  go_loopw [9, 10] (fun u v wr => ∃ p q : Nat, p ≤ q ∧ q ≤ l.length ∧ u = .int .i64 p ∧ v = .int .i64 q ∧ Below w.heap.size w wr ∧ Hid ((∀ j (h : j < l.length), j < p → l[j].s < k) ∧ (∀ j (h : j < l.length), q ≤ j → k ≤ l[j].s))) (fun u v _ => (intOf v).toNat - (intOf u).toNat)
  case atStart => exact ⟨0, l.length, by omega, by omega, rfl, rfl, Below.refl _ _, fun j h h' => by omega, fun j h h' => by omega⟩
  case round =>
    obtain ⟨p, q, hpq, hq, rfl, rfl, hbel, HI⟩ := hrel
    by_cases hlt : p < q
    · obtain ⟨m, hmm⟩ : ∃ m : Nat, m = (p + q) / 2 := ⟨_, rfl⟩
      have hml : m < l.length := by omega
      obtain ⟨b, off, rfl, c0, c1, c2, c3⟩ := (ha.keep hbel).getV m hml
      have H1 : Hid (l[m].s < k → ∀ j (h : j < l.length), j < m + 1 → l[j].s < k) := fun h j hj hj' => by have := hm j m hj hml (by omega); omega
      have H2 : Hid (k ≤ l[m].s → ∀ j (h : j < l.length), m ≤ j → k ≤ l[j].s) := fun h j hj hj' => by have := hm m j hml hj hj'; omega
      have HX : Hid (Below w.heap.size w wr) := hbel
      have hc := fun W => key_any l[m].s l[m].b.i l[m].b.t l[m].v k W
      generalize l[m].s = x2 at *
      generalize l[m].b.i = x3 at *
      generalize l[m].b.t = x5 at *
      generalize l[m].v = x4 at *
      have hsub : ((p : Int) + (q : Int)) / 2 = (m : Int) := by omega
      have hsub2 : IntKind.i64.wrap ((p : Int) + q) = (p : Int) + q := by rw [IntKind.wrap_i64]; omega
      have HM : Hid (p ≤ m ∧ m < q) := ⟨by omega, by omega⟩
      clear hm hmm hbel ha hu
      rcases M.cmp_three x2 k with ⟨hk, he⟩ | hk
      · have H1' := Hid_of (H1.out hk)
        rw [he] at hc
        clear hk H1 H2 he
        go_wp2_with fail
        refine (hc _).mono ?_
        rintro e w2 ⟨rfl, hb2⟩
        have HB2 : Hid (Below w.heap.size w w2) := bel_up HX.out hb2 (Nat.le_refl _)
        clear hb2 c0 c1 c2 c3 HX hc
        go_wp2
        go_roundw
        case rel => exact ⟨m + 1, q, by have := HM.out; omega, hq, by go_num, rfl, HB2.out, H1'.out, HI.out.2⟩
        case measure => have := HM.out; simp [intOf]; omega
      · have hx : k ≤ x2 ∧ ¬ M.cmp x2 k < 0 := by
          rcases hk with ⟨h1, h2⟩ | ⟨h1, h2⟩
          · exact ⟨by omega, by omega⟩
          · exact ⟨by omega, by omega⟩
        have H2' := Hid_of (H2.out hx.1)
        have hx2 := hx.2
        clear hk H1 H2 hx
        generalize M.cmp x2 k = cc at *
        go_wp2_with fail
        refine (hc _).mono ?_
        rintro e w2 ⟨rfl, hb2⟩
        have HB2 : Hid (Below w.heap.size w w2) := bel_up HX.out hb2 (Nat.le_refl _)
        clear hb2 c0 c1 c2 c3 HX hc
        go_wp2
        go_roundw
        case rel => exact ⟨p, m, by have := HM.out; omega, by have := HM.out; omega, rfl, rfl, HB2.out, HI.out.1, H2'.out⟩
        case measure => have := HM.out; simp [intOf]; omega
    · have hpq' : p = q := by omega
      subst hpq'
      have HX : Hid (Below w.heap.size w wr) := hbel
      have HSr := Hid_of (fun b hb => M.sr_of hq HI.out.1 HI.out.2 hu b hb)
      by_cases hpl : p < l.length
      · obtain ⟨b, off, rfl, c0, c1, c2, c3⟩ := (ha.keep hbel).getV p hpl
        have hc := fun W => key_any l[p].s l[p].b.i l[p].b.t l[p].v k W
        have HE : Hid ((M.cmp l[p].s k == 0) = true ↔ ∃ h : p < l.length, l[p].s = k) := by
          rcases M.cmp_three l[p].s k with ⟨h1, h2⟩ | ⟨h1, h2⟩ | ⟨h1, h2⟩
          · exact ⟨fun h => by rw [h2] at h; simp at h, fun ⟨_, h⟩ => by omega⟩
          · exact ⟨fun h => ⟨hpl, h1⟩, fun _ => by rw [h2]; rfl⟩
          · exact ⟨fun h => by rw [h2] at h; simp at h, fun ⟨_, h⟩ => by omega⟩
        have HS2 := Hid_of (HSr.out _ HE.out)
        generalize M.cmp l[p].s k = cc at *
        generalize l[p].s = x2 at *
        generalize l[p].b.i = x3 at *
        generalize l[p].b.t = x5 at *
        generalize l[p].v = x4 at *
        clear hm hbel hlt hpq HI ha hu HSr HE
        go_wp2_with fail
        refine (hc _).mono ?_
        rintro e w2 ⟨rfl, hb2⟩
        have HB2 : Hid (Below w.heap.size w w2) := bel_up HX.out hb2 (Nat.le_refl _)
        clear hb2 c0 c1 c2 c3 HX hc
        go_wp2
        go_ret2
        exact ⟨p, _, rfl, HS2.out, HB2.out⟩
      · have hd : decide ((p : Int) < (l.length : Int)) = false := by simp; omega
        have HS2 := Hid_of (HSr.out false ⟨fun h => (by cases h), fun ⟨h, _⟩ => (by omega)⟩)
        clear hm hbel hlt hpq HI ha hu HSr
        go_wp2
        go_ret2
        exact ⟨p, _, rfl, HS2.out, HX.out⟩
set_option maxHeartbeats 1000000 in
theorem place_any (a : Option Addr) (cap : Nat) (l : List V) (k : Int) (w : World) (hl : l.length ≤ 1000000) (ha : AtL vl w a l) (hu : M.Up l) :
    Calls Tryz.prog 105 #[.slice a l.length cap, .int .i64 k] w (SrOut w l k) := by
  have hc := search_any a cap l k w hl ha hu
  clear ha hu
  go_enter Tryz.func105, Tryz.ntmps105
  go_wp2_with fail
  refine hc.mono ?_
  rintro e w1 ⟨r, bb, rfl, hs, hb⟩
  have HQ := Hid_of (show SrOut w l k (.returned (.tuple #[.int .i64 r, .bool bb])) w1 from ⟨r, bb, rfl, hs, hb⟩)
  clear hs hb hc
  go_wp2
  go_ret2
  exact HQ.out
end Go.Proofs.YtlnedgjikkhplaaGreat.Na
end
section
namespace Go.Proofs.YtlnedgjikkhplaaGreat.Na
open Go.RowKit
set_option linter.unusedVariables false
open M (E V)

/-- Four cells of a block set. -/
def put4 (w : World) (g : Nat) (a b c d : Value) : World := (((w.setCell ⟨g, 0, none⟩ a).setCell ⟨g, 1, none⟩ b).setCell ⟨g, 2, none⟩ c).setCell ⟨g, 3, none⟩ d
theorem put4_row {w : World} {g : Nat} {t : TypeId} {v0 v1 v2 v3 : Value} (h : w.heap[g]? = some (.cells #[v0, v1, v2, v3] t (0, 0))) (a b c d : Value) : (put4 w g a b c d).heap[g]? = some (.cells #[a, b, c, d] t (0, 0)) :=
  heap_setCell_same _ g 3 _ _ _ (heap_setCell_same _ g 2 _ _ _ (heap_setCell_same _ g 1 _ _ _ (heap_setCell_same w g 0 _ _ _ h)))
theorem put4_bel {w0 w : World} {B g : Nat} (h : Below B w0 w) (hg : B ≤ g) (a b c d : Value) : Below B w0 (put4 w g a b c d) := (((h.setCell hg _).setCell hg _).setCell hg _).setCell hg _
theorem put4_oth {w : World} {g k : Nat} (h : k ≠ g) (a b c d : Value) : (put4 w g a b c d).heap[k]? = w.heap[k]? := by
  unfold put4
  rw [heap_setCell_other _ ⟨g, 3, none⟩ k _ h, heap_setCell_other _ ⟨g, 2, none⟩ k _ h, heap_setCell_other _ ⟨g, 1, none⟩ k _ h, heap_setCell_other _ ⟨g, 0, none⟩ k _ h]
/-- A vote, and a ballot, as values. -/
abbrev bV (x : E) : Value := .agg #[.int .i64 x.i, .int .i64 x.t]
abbrev vV (x : V) : Value := .agg #[.int .i64 x.s, .int .i64 x.b.i, .int .i64 x.b.t, .string x.v]
theorem alloc4 (w : World) (v0 v1 v2 v3 : Value) (t : TypeId) : (w.alloc (.cells #[v0, v1, v2, v3] t)).heap[w.heap.size]? = some (.cells #[v0, v1, v2, v3] t (0, 0)) := heap_alloc_last w _
theorem bel2 (w : World) (o o' : Obj) : Below w.heap.size w ((w.alloc o).alloc o') := bel_up (bel1 w o) (bel1 _ o') (Nat.le_refl _)
/-- What is an acceptor's own: its block, and its row's. -/
def fpa (b : Nat) (v : Value) (k : Nat) : Prop := k = b ∨ v.ownBlock = some k
/-- An acceptor at block b. -/
structure AI (w : World) (base b : Nat) (v : Value) (a : M.S) : Prop where
  row : w.heap[b]? = some (.cells #[.int .i64 a.p.i, .int .i64 a.p.t, .int .i64 a.base, v] 144 (0, 0))
  own : OwnL vl 48 w base v a.l
  ap : v.ownBlock ≠ some b
  lo : base ≤ b
section
variable {w w' : World} {base b : Nat} {v : Value} {a : M.S}
theorem AI.keepBut (h : AI w base b v a) (hb : ∀ k, k < w.heap.size → fpa b v k → w'.heap[k]? = w.heap[k]?) : AI w' base b v a :=
  ⟨(hb b (Array.getElem?_eq_some_iff.1 h.row).1 (.inl rfl)).trans h.row, h.own.keepBut (fun k hk e => hb k hk (.inr e)), h.ap, h.lo⟩
theorem AI.keep (h : AI w base b v a) (hb : Below w.heap.size w w') : AI w' base b v a := h.keepBut fun k hk _ => hb.block k hk
theorem AI.lt (h : AI w base b v a) : b < w.heap.size := (Array.getElem?_eq_some_iff.1 h.row).1
theorem AI.mine (h : AI w base b v a) : ∀ k, fpa b v k → base ≤ k ∧ k < w.heap.size := by
  rintro k (rfl | hk)
  · exact ⟨h.lo, h.lt⟩
  · exact h.own.lt hk
end
theorem new_any (w : World) : Calls Tryz.prog 34 #[] w fun e w' => ∃ b, e = .returned (.pointer (some ⟨b, 0, none⟩)) ∧ AI w' w.heap.size b (.slice none 0 0) M.S0 ∧ Below w.heap.size w w' ∧ w.heap.size ≤ b := by
  have HB := Hid_of (fun o => bel1 w o)
  have HR := Hid_of (fun v0 v1 v2 v3 => alloc4 w v0 v1 v2 v3 144)
  go_enter Tryz.func34, Tryz.ntmps34
  go_wp2
  go_ret
  exact ⟨w.heap.size, rfl, ⟨HR.out _ _ _ _, OwnL.nil _ _ _, by simp [Value.ownBlock], Nat.le_refl _⟩, HB.out _, Nat.le_refl _⟩
theorem f52_res : Tryz.f52.results = #[.cell 2 36] := rfl
theorem promised_any {w : World} {base b : Nat} {v : Value} {a : M.S} (h : AI w base b v a) : Calls Tryz.prog 52 #[.pointer (some ⟨b, 0, none⟩)] w fun e w' => e = .returned (bV a.p) ∧ Below w.heap.size w w' := by
  obtain ⟨⟨c0, c1, c2, c3⟩, _⟩ := row4 h.row
  have HB := Hid_of (bel1 w (.cells #[.int .i64 0, .int .i64 0] 36))
  obtain ⟨W1, HW1⟩ : ∃ W1, Hid (w.alloc (.cells #[.int .i64 0, .int .i64 0] 36) = W1) := ⟨_, Hid_of rfl⟩
  have hr := heap_alloc_last w (.cells #[.int .i64 0, .int .i64 0] 36)
  have hc := row4 (bel_row h.row HB.out)
  rw [HW1.out] at HB hr hc
  obtain ⟨⟨d0, d1, d2, d3⟩, _⟩ := hc
  obtain ⟨⟨x0, x1⟩, xf⟩ := row2 hr
  have f0 := xf 0
  have f1 := xf 1
  have HR := Hid_of hr
  clear h hr xf c0 c1 c2 c3
  go_enter Tryz.func52, Tryz.ntmps52
  go_upto_region 1 with fail
  rw [HW1.out]
  clear HW1
  go_wp2
  refine bodyPost_ret (v := bV a.p) ?_ rfl ⟨rfl, (HB.out.setCell (Nat.le_refl _) _).setCell (Nat.le_refl _) _⟩
  exact results_cell_row f52_res _ _ w.heap.size 36 _ (0, 0) _ rfl (heap_setCell_same _ w.heap.size 1 _ _ _ (heap_setCell_same W1 w.heap.size 0 _ _ _ HR.out)) Tryz.underlying36 rfl Tryz.size36
theorem base_any {w : World} {base b : Nat} {v : Value} {a : M.S} (h : AI w base b v a) : Calls Tryz.prog 53 #[.pointer (some ⟨b, 0, none⟩)] w fun e w' => e = .returned (.int .i64 a.base) ∧ w' = w := by
  obtain ⟨⟨c0, c1, c2, c3⟩, _⟩ := row4 h.row
  clear h
  go_enter Tryz.func53, Tryz.ntmps53
  go_wp2
  go_ret
  exact ⟨rfl, rfl⟩
theorem hasSlot_any {w : World} {base b : Nat} {v : Value} {a : M.S} (h : AI w base b v a) (s : Int) : Calls Tryz.prog 112 #[.pointer (some ⟨b, 0, none⟩), .int .i64 s] w fun e w' => e = .returned (.bool (decide (a.base ≤ s) && decide (s < 1024))) ∧ w' = w := by
  obtain ⟨⟨c0, c1, c2, c3⟩, _⟩ := row4 h.row
  clear h
  by_cases h0 : a.base ≤ s
  · have d0 : decide (a.base ≤ s) = true := decide_eq_true h0
    rw [d0]
    go_enter Tryz.func112, Tryz.ntmps112
    go_wp2
    go_ret
    exact ⟨rfl, rfl⟩
  · have d0 : decide (a.base ≤ s) = false := decide_eq_false h0
    rw [d0]
    go_enter Tryz.func112, Tryz.ntmps112
    go_wp2
    go_ret
    exact ⟨rfl, rfl⟩
theorem f106_res : Tryz.f106.results = #[.cell 2 48] := rfl
set_option maxRecDepth 100000 in
set_option maxHeartbeats 1000000 in
theorem own_any (x : V) (w : World) (hx : x.v.size ≤ 140737488351232) : Calls Tryz.prog 106 #[vV x] w fun e w' => e = .returned (vV x) ∧ Below w.heap.size w w' := by
  obtain ⟨s, ⟨i, t⟩, v⟩ := x
  simp only [vV] at hx ⊢
  obtain ⟨W1, HW1⟩ : ∃ W1, Hid ((w.alloc (.cells #[.int .i64 s, .int .i64 i, .int .i64 t, .string v] 48)).alloc (.cells #[.int .i64 0, .int .i64 0, .int .i64 0, .string ⟨#[]⟩] 48) = W1) := ⟨_, rfl⟩
  have HB1 : Hid (Below w.heap.size w W1) := by rw [← HW1.out]; exact bel2 w _ _
  have hs1 : W1.heap.size = w.heap.size + 2 := by rw [← HW1.out]; simp
  have hr1 : W1.heap[w.heap.size]? = some (.cells #[.int .i64 s, .int .i64 i, .int .i64 t, .string v] 48 (0, 0)) := by rw [← HW1.out]; exact heap_alloc2_old w _ _
  have hr2 : W1.heap[w.heap.size + 1]? = some (.cells #[.int .i64 0, .int .i64 0, .int .i64 0, .string ⟨#[]⟩] 48 (0, 0)) := by rw [← HW1.out]; exact heap_alloc2_new w _ _
  have HR1 := Hid_of hr1
  have HR2 := Hid_of hr2
  obtain ⟨⟨c0, c1, c2, c3⟩, _⟩ := row4 hr1
  clear hr1 hr2
  go_enter Tryz.func106, Tryz.ntmps106
  go_upto_region 1 with fail
  rw [HW1.out]
  clear HW1
  go_wp2_with fail
  refine (sclone_any v W1 hx).mono ?_
  rintro e w2 ⟨rfl, hb2⟩
  have HB2 := Hid_of (bel_up HB1.out hb2 (Nat.le_refl _))
  have hr1 := bel_row HR1.out hb2
  have hr2 := bel_row HR2.out hb2
  obtain ⟨⟨x0, x1, x2, x3⟩, xf⟩ := row4 hr1
  obtain ⟨⟨y0, y1, y2, y3⟩, yf⟩ := row4 hr2
  have f3 := xf 3
  have g0 := yf 0
  have g1 := yf 1
  have g2 := yf 2
  have g3 := yf 3
  have HY := Hid_of hr2
  clear xf yf HR1 HR2 HB1 hr1 hr2 hb2 c0 c1 c2 c3
  go_wp2
  refine bodyPost_ret (v := .agg #[.int .i64 s, .int .i64 i, .int .i64 t, .string v]) ?_ rfl ⟨rfl, put4_bel (HB2.out.setCell (Nat.le_refl _) _) (Nat.le_succ _) _ _ _ _⟩
  exact results_cell_row f106_res _ _ (w.heap.size + 1) 48 _ (0, 0) _ rfl (put4_row (w := w2.setCell ⟨w.heap.size, 3, none⟩ (.string v)) ((heap_setCell_other w2 ⟨w.heap.size, 3, none⟩ _ _ (by simp)).trans HY.out) _ _ _ _) Tryz.underlying48 rfl Tryz.size48
theorem res4 {fn : Func} {p u : Tmp} (h : fn.results = #[.cell p 48, .tmp u]) (tmps : Array Value) (w : World) (g : Nat) (v0 v1 v2 v3 : Value) (hp : tmps.getD p undef = .pointer (some ⟨g, 0, none⟩)) (hg : w.heap[g]? = some (.cells #[v0, v1, v2, v3] 48 (0, 0))) :
    (results fn tmps).run Tryz.prog w = .ok (.tuple #[.agg #[v0, v1, v2, v3], tmps.getD u undef]) w := by
  have hp' : tmps[p]?.getD undef = .pointer (some ⟨g, 0, none⟩) := by simpa using hp
  rw [results_cell_tmp h]
  simp [asAddr, hp', run_loadVar_row w g 48 48 #[v0, v1, v2, v3] (0, 0) _ hg Tryz.underlying48 rfl Tryz.size48]
end Go.Proofs.YtlnedgjikkhplaaGreat.Na
end
