/-
  The place of a slot among votes.
-/
import Derived.Test.YtgodnpngdbelhaaG03
import Derived.Test.YtgodnpngdbelhaaG01
import Derived.Test.YtgodnpngdbelhaaG02
import Derived.Test.YtgodnpngdbelhaaG14
namespace Go.Proofs.Ytgodnpngdbelhaa.Na
open Go.RowKit
set_option linter.unusedVariables false
open Go.Proofs.Ytgodnpngdbelhaa.M (E V)

set_option maxHeartbeats 400000 in
theorem key_any (id b0 b1 : Int) (r : ByteArray) (k : Int) (w : World) :
    Calls Try.prog 92 #[.agg #[.int .i64 id, .int .i64 b0, .int .i64 b1, .string r], .int .i64 k] w fun e w' => e = .returned (.int .i64 (M.cmp id k)) ∧ Below w.heap.size w w' := by
  have HB : Hid (Below w.heap.size w (w.alloc (.cells #[.int .i64 id, .int .i64 b0, .int .i64 b1, .string r] 84))) := bel1 w _
  go_enter Try.func92, Try.ntmps92
  go_wp2_with fail
  refine (compare_any _ _ _).mono ?_
  rintro e w1 ⟨rfl, rfl⟩
  go_wp2
  go_ret
  exact ⟨rfl, HB.out⟩
def SrOut (w : World) (l : List V) (k : Int) (e : Ending) (w' : World) : Prop := ∃ (r : Nat) (b : Bool), e = .returned (.tuple #[.int .i64 r, .bool b]) ∧ M.Sr l k r b ∧ Below w.heap.size w w'
set_option maxRecDepth 100000 in
set_option maxHeartbeats 2000000 in
theorem search_any (a : Option Addr) (cap : Nat) (l : List V) (k : Int) (w : World) (hl : l.length ≤ 1000000) (ha : AtL vl w a l) (hu : M.Up l) :
    Calls Try.prog 91 #[.slice a l.length cap, .int .i64 k, .func (.func 92) #[] #[]] w (SrOut w l k) := by
  have hm : ∀ i j (hi : i < l.length) (hj : j < l.length), i ≤ j → l[i].s ≤ l[j].s := fun i j hi hj hij => by
    rcases Nat.eq_or_lt_of_le hij with rfl | h
    · exact Int.le_refl _
    · have := List.pairwise_iff_getElem.1 hu i j hi hj h; omega
  go_enter Try.func91, Try.ntmps91
  go_wp2
  go_loopw [9, 10] (fun u v wr => ∃ p q : Nat, p ≤ q ∧ q ≤ l.length ∧ u = .int .i64 p ∧ v = .int .i64 q ∧ Below w.heap.size w wr ∧ Hid ((∀ j (h : j < l.length), j < p → l[j].s < k) ∧ (∀ j (h : j < l.length), q ≤ j → k ≤ l[j].s))) (fun u v _ => (intOf v).toNat - (intOf u).toNat)
  case atStart => exact ⟨0, l.length, by omega, by omega, rfl, rfl, Below.refl _ _, fun j h h' => by omega, fun j h h' => by omega⟩
  case round =>
    obtain ⟨p, q, hpq, hq, rfl, rfl, hbel, HI⟩ := hrel
    by_cases hlt : p < q
    · obtain ⟨m, hmm⟩ : ∃ m : Nat, m = (p + q) / 2 := ⟨_, rfl⟩
      have hml : m < l.length := by omega
      obtain ⟨b, off, rfl, c0, c1, c2, c3⟩ := (ha.keep hbel).getV m hml
      have H1 : Hid (l[m].s < k → ∀ j (h : j < l.length), j < m + 1 → l[j].s < k) := fun h j hj hj' => by have := hm j m hj hml (by omega); omega
      have H2 : Hid (k ≤ l[m].s → ∀ j (h : j < l.length), m ≤ j → k ≤ l[j].s) := fun h j hj hj' => by have := hm m j hml hj hj'; omega
      have HX : Hid (Below w.heap.size w wr) := hbel
      have hc := fun W => key_any l[m].s l[m].b.i l[m].b.t l[m].v k W
      generalize l[m].s = x2 at *
      generalize l[m].b.i = x3 at *
      generalize l[m].b.t = x5 at *
      generalize l[m].v = x4 at *
      have hsub : ((p : Int) + (q : Int)) / 2 = (m : Int) := by omega
      have hsub2 : IntKind.i64.wrap ((p : Int) + q) = (p : Int) + q := by rw [IntKind.wrap_i64]; omega
      have HM : Hid (p ≤ m ∧ m < q) := ⟨by omega, by omega⟩
      clear hm hmm hbel ha hu
      rcases M.cmp_three x2 k with ⟨hk, he⟩ | hk
      · have H1' := Hid_of (H1.out hk)
        rw [he] at hc
        clear hk H1 H2 he
        go_wp2_with fail
        refine (hc _).mono ?_
        rintro e w2 ⟨rfl, hb2⟩
        have HB2 : Hid (Below w.heap.size w w2) := bel_up HX.out hb2 (Nat.le_refl _)
        clear hb2 c0 c1 c2 c3 HX hc
        go_wp2
        go_roundw
        case rel => exact ⟨m + 1, q, by have := HM.out; omega, hq, by go_num, rfl, HB2.out, H1'.out, HI.out.2⟩
        case measure => have := HM.out; simp [intOf]; omega
      · have hx : k ≤ x2 ∧ ¬ M.cmp x2 k < 0 := by
          rcases hk with ⟨h1, h2⟩ | ⟨h1, h2⟩
          · exact ⟨by omega, by omega⟩
          · exact ⟨by omega, by omega⟩
        have H2' := Hid_of (H2.out hx.1)
        have hx2 := hx.2
        clear hk H1 H2 hx
        generalize M.cmp x2 k = cc at *
        go_wp2_with fail
        refine (hc _).mono ?_
        rintro e w2 ⟨rfl, hb2⟩
        have HB2 : Hid (Below w.heap.size w w2) := bel_up HX.out hb2 (Nat.le_refl _)
        clear hb2 c0 c1 c2 c3 HX hc
        go_wp2
        go_roundw
        case rel => exact ⟨p, m, by have := HM.out; omega, by have := HM.out; omega, rfl, rfl, HB2.out, HI.out.1, H2'.out⟩
        case measure => have := HM.out; simp [intOf]; omega
    · have hpq' : p = q := by omega
      subst hpq'
      have HX : Hid (Below w.heap.size w wr) := hbel
      have HSr := Hid_of (fun b hb => M.sr_of hq HI.out.1 HI.out.2 hu b hb)
      by_cases hpl : p < l.length
      · obtain ⟨b, off, rfl, c0, c1, c2, c3⟩ := (ha.keep hbel).getV p hpl
        have hc := fun W => key_any l[p].s l[p].b.i l[p].b.t l[p].v k W
        have HE : Hid ((M.cmp l[p].s k == 0) = true ↔ ∃ h : p < l.length, l[p].s = k) := by
          rcases M.cmp_three l[p].s k with ⟨h1, h2⟩ | ⟨h1, h2⟩ | ⟨h1, h2⟩
          · exact ⟨fun h => by rw [h2] at h; simp at h, fun ⟨_, h⟩ => by omega⟩
          · exact ⟨fun h => ⟨hpl, h1⟩, fun _ => by rw [h2]; rfl⟩
          · exact ⟨fun h => by rw [h2] at h; simp at h, fun ⟨_, h⟩ => by omega⟩
        have HS2 := Hid_of (HSr.out _ HE.out)
        generalize M.cmp l[p].s k = cc at *
        generalize l[p].s = x2 at *
        generalize l[p].b.i = x3 at *
        generalize l[p].b.t = x5 at *
        generalize l[p].v = x4 at *
        clear hm hbel hlt hpq HI ha hu HSr HE
        go_wp2_with fail
        refine (hc _).mono ?_
        rintro e w2 ⟨rfl, hb2⟩
        have HB2 : Hid (Below w.heap.size w w2) := bel_up HX.out hb2 (Nat.le_refl _)
        clear hb2 c0 c1 c2 c3 HX hc
        go_wp2
        go_ret2
        exact ⟨p, _, rfl, HS2.out, HB2.out⟩
      · have hd : decide ((p : Int) < (l.length : Int)) = false := by simp; omega
        have HS2 := Hid_of (HSr.out false ⟨fun h => (by cases h), fun ⟨h, _⟩ => (by omega)⟩)
        clear hm hbel hlt hpq HI ha hu HSr
        go_wp2
        go_ret2
        exact ⟨p, _, rfl, HS2.out, HX.out⟩
set_option maxHeartbeats 1000000 in
theorem place_any (a : Option Addr) (cap : Nat) (l : List V) (k : Int) (w : World) (hl : l.length ≤ 1000000) (ha : AtL vl w a l) (hu : M.Up l) :
    Calls Try.prog 80 #[.slice a l.length cap, .int .i64 k] w (SrOut w l k) := by
  have hc := search_any a cap l k w hl ha hu
  clear ha hu
  go_enter Try.func80, Try.ntmps80
  go_wp2_with fail
  refine hc.mono ?_
  rintro e w1 ⟨r, bb, rfl, hs, hb⟩
  have HQ := Hid_of (show SrOut w l k (.returned (.tuple #[.int .i64 r, .bool bb])) w1 from ⟨r, bb, rfl, hs, hb⟩)
  clear hs hb hc
  go_wp2
  go_ret2
  exact HQ.out
end Go.Proofs.Ytgodnpngdbelhaa.Na
namespace Go.Proofs.Ytgodnpngdbelhaa.Na
open Go.RowKit
set_option linter.unusedVariables false
open Go.Proofs.Ytgodnpngdbelhaa.M (E V)

/-- Four cells of a block set. -/
def put4 (w : World) (g : Nat) (a b c d : Value) : World := (((w.setCell ⟨g, 0, none⟩ a).setCell ⟨g, 1, none⟩ b).setCell ⟨g, 2, none⟩ c).setCell ⟨g, 3, none⟩ d
theorem put4_row {w : World} {g : Nat} {t : TypeId} {v0 v1 v2 v3 : Value} (h : w.heap[g]? = some (.cells #[v0, v1, v2, v3] t (0, 0))) (a b c d : Value) : (put4 w g a b c d).heap[g]? = some (.cells #[a, b, c, d] t (0, 0)) :=
  heap_setCell_same _ g 3 _ _ _ (heap_setCell_same _ g 2 _ _ _ (heap_setCell_same _ g 1 _ _ _ (heap_setCell_same w g 0 _ _ _ h)))
theorem put4_bel {w0 w : World} {B g : Nat} (h : Below B w0 w) (hg : B ≤ g) (a b c d : Value) : Below B w0 (put4 w g a b c d) := (((h.setCell hg _).setCell hg _).setCell hg _).setCell hg _
theorem put4_oth {w : World} {g k : Nat} (h : k ≠ g) (a b c d : Value) : (put4 w g a b c d).heap[k]? = w.heap[k]? := by
  unfold put4
  rw [heap_setCell_other _ ⟨g, 3, none⟩ k _ h, heap_setCell_other _ ⟨g, 2, none⟩ k _ h, heap_setCell_other _ ⟨g, 1, none⟩ k _ h, heap_setCell_other _ ⟨g, 0, none⟩ k _ h]
/-- A vote, and a ballot, as values. -/
abbrev bV (x : E) : Value := .agg #[.int .i64 x.i, .int .i64 x.t]
abbrev vV (x : V) : Value := .agg #[.int .i64 x.s, .int .i64 x.b.i, .int .i64 x.b.t, .string x.v]
theorem alloc4 (w : World) (v0 v1 v2 v3 : Value) (t : TypeId) : (w.alloc (.cells #[v0, v1, v2, v3] t)).heap[w.heap.size]? = some (.cells #[v0, v1, v2, v3] t (0, 0)) := heap_alloc_last w _
theorem bel2 (w : World) (o o' : Obj) : Below w.heap.size w ((w.alloc o).alloc o') := bel_up (bel1 w o) (bel1 _ o') (Nat.le_refl _)
/-- What is an acceptor's own: its block, and its row's. -/
def fpa (b : Nat) (v : Value) (k : Nat) : Prop := k = b ∨ v.ownBlock = some k
/-- An acceptor at block b. -/
structure AI (w : World) (base b : Nat) (v : Value) (a : M.S) : Prop where
  row : w.heap[b]? = some (.cells #[.int .i64 a.p.i, .int .i64 a.p.t, .int .i64 a.base, v] 93 (0, 0))
  own : OwnL vl 84 w base v a.l
  ap : v.ownBlock ≠ some b
  lo : base ≤ b
section
variable {w w' : World} {base b : Nat} {v : Value} {a : M.S}
theorem AI.keepBut (h : AI w base b v a) (hb : ∀ k, k < w.heap.size → fpa b v k → w'.heap[k]? = w.heap[k]?) : AI w' base b v a :=
  ⟨(hb b (Array.getElem?_eq_some_iff.1 h.row).1 (.inl rfl)).trans h.row, h.own.keepBut (fun k hk e => hb k hk (.inr e)), h.ap, h.lo⟩
theorem AI.keep (h : AI w base b v a) (hb : Below w.heap.size w w') : AI w' base b v a := h.keepBut fun k hk _ => hb.block k hk
theorem AI.lt (h : AI w base b v a) : b < w.heap.size := (Array.getElem?_eq_some_iff.1 h.row).1
theorem AI.mine (h : AI w base b v a) : ∀ k, fpa b v k → base ≤ k ∧ k < w.heap.size := by
  rintro k (rfl | hk)
  · exact ⟨h.lo, h.lt⟩
  · exact h.own.lt hk
end
theorem new_any (w : World) : Calls Try.prog 42 #[] w fun e w' => ∃ b, e = .returned (.pointer (some ⟨b, 0, none⟩)) ∧ AI w' w.heap.size b (.slice none 0 0) M.S0 ∧ Below w.heap.size w w' ∧ w.heap.size ≤ b := by
  have HB := Hid_of (fun o => bel1 w o)
  have HR := Hid_of (fun v0 v1 v2 v3 => alloc4 w v0 v1 v2 v3 93)
  go_enter Try.func42, Try.ntmps42
  go_wp2
  go_ret
  exact ⟨w.heap.size, rfl, ⟨HR.out _ _ _ _, OwnL.nil _ _ _, by simp [Value.ownBlock], Nat.le_refl _⟩, HB.out _, Nat.le_refl _⟩
theorem f49_res : Try.f49.results = #[.cell 2 60] := rfl
theorem promised_any {w : World} {base b : Nat} {v : Value} {a : M.S} (h : AI w base b v a) : Calls Try.prog 49 #[.pointer (some ⟨b, 0, none⟩)] w fun e w' => e = .returned (bV a.p) ∧ Below w.heap.size w w' := by
  obtain ⟨⟨c0, c1, c2, c3⟩, _⟩ := row4 h.row
  have HB := Hid_of (bel1 w (.cells #[.int .i64 0, .int .i64 0] 60))
  obtain ⟨W1, HW1⟩ : ∃ W1, Hid (w.alloc (.cells #[.int .i64 0, .int .i64 0] 60) = W1) := ⟨_, Hid_of rfl⟩
  have hr := heap_alloc_last w (.cells #[.int .i64 0, .int .i64 0] 60)
  have hc := row4 (bel_row h.row HB.out)
  rw [HW1.out] at HB hr hc
  obtain ⟨⟨d0, d1, d2, d3⟩, _⟩ := hc
  obtain ⟨⟨x0, x1⟩, xf⟩ := row2 hr
  have f0 := xf 0
  have f1 := xf 1
  have HR := Hid_of hr
  clear h hr xf c0 c1 c2 c3
  go_enter Try.func49, Try.ntmps49
  go_upto_region 1 with fail
  rw [HW1.out]
  clear HW1
  go_wp2
  refine bodyPost_ret (v := bV a.p) ?_ rfl ⟨rfl, (HB.out.setCell (Nat.le_refl _) _).setCell (Nat.le_refl _) _⟩
  exact results_cell_row f49_res _ _ w.heap.size 60 _ (0, 0) _ rfl (heap_setCell_same _ w.heap.size 1 _ _ _ (heap_setCell_same W1 w.heap.size 0 _ _ _ HR.out)) Try.underlying60 rfl Try.size60
theorem base_any {w : World} {base b : Nat} {v : Value} {a : M.S} (h : AI w base b v a) : Calls Try.prog 58 #[.pointer (some ⟨b, 0, none⟩)] w fun e w' => e = .returned (.int .i64 a.base) ∧ w' = w := by
  obtain ⟨⟨c0, c1, c2, c3⟩, _⟩ := row4 h.row
  clear h
  go_enter Try.func58, Try.ntmps58
  go_wp2
  go_ret
  exact ⟨rfl, rfl⟩
theorem hasSlot_any {w : World} {base b : Nat} {v : Value} {a : M.S} (h : AI w base b v a) (s : Int) : Calls Try.prog 96 #[.pointer (some ⟨b, 0, none⟩), .int .i64 s] w fun e w' => e = .returned (.bool (decide (a.base ≤ s) && decide (s < 1024))) ∧ w' = w := by
  obtain ⟨⟨c0, c1, c2, c3⟩, _⟩ := row4 h.row
  clear h
  by_cases h0 : a.base ≤ s
  · have d0 : decide (a.base ≤ s) = true := decide_eq_true h0
    rw [d0]
    go_enter Try.func96, Try.ntmps96
    go_wp2
    go_ret
    exact ⟨rfl, rfl⟩
  · have d0 : decide (a.base ≤ s) = false := decide_eq_false h0
    rw [d0]
    go_enter Try.func96, Try.ntmps96
    go_wp2
    go_ret
    exact ⟨rfl, rfl⟩
theorem f81_res : Try.f81.results = #[.cell 2 84] := rfl
set_option maxRecDepth 100000 in
set_option maxHeartbeats 1000000 in
theorem own_any (x : V) (w : World) (hx : x.v.size ≤ 140737488351232) : Calls Try.prog 81 #[vV x] w fun e w' => e = .returned (vV x) ∧ Below w.heap.size w w' := by
  obtain ⟨s, ⟨i, t⟩, v⟩ := x
  simp only [vV] at hx ⊢
  obtain ⟨W1, HW1⟩ : ∃ W1, Hid ((w.alloc (.cells #[.int .i64 s, .int .i64 i, .int .i64 t, .string v] 84)).alloc (.cells #[.int .i64 0, .int .i64 0, .int .i64 0, .string ⟨#[]⟩] 84) = W1) := ⟨_, rfl⟩
  have HB1 : Hid (Below w.heap.size w W1) := by rw [← HW1.out]; exact bel2 w _ _
  have hs1 : W1.heap.size = w.heap.size + 2 := by rw [← HW1.out]; simp
  have hr1 : W1.heap[w.heap.size]? = some (.cells #[.int .i64 s, .int .i64 i, .int .i64 t, .string v] 84 (0, 0)) := by rw [← HW1.out]; exact heap_alloc2_old w _ _
  have hr2 : W1.heap[w.heap.size + 1]? = some (.cells #[.int .i64 0, .int .i64 0, .int .i64 0, .string ⟨#[]⟩] 84 (0, 0)) := by rw [← HW1.out]; exact heap_alloc2_new w _ _
  have HR1 := Hid_of hr1
  have HR2 := Hid_of hr2
  obtain ⟨⟨c0, c1, c2, c3⟩, _⟩ := row4 hr1
  clear hr1 hr2
  go_enter Try.func81, Try.ntmps81
  go_upto_region 1 with fail
  rw [HW1.out]
  clear HW1
  go_wp2_with fail
  refine (sclone_any v W1 hx).mono ?_
  rintro e w2 ⟨rfl, hb2⟩
  have HB2 := Hid_of (bel_up HB1.out hb2 (Nat.le_refl _))
  have hr1 := bel_row HR1.out hb2
  have hr2 := bel_row HR2.out hb2
  obtain ⟨⟨x0, x1, x2, x3⟩, xf⟩ := row4 hr1
  obtain ⟨⟨y0, y1, y2, y3⟩, yf⟩ := row4 hr2
  have f3 := xf 3
  have g0 := yf 0
  have g1 := yf 1
  have g2 := yf 2
  have g3 := yf 3
  have HY := Hid_of hr2
  clear xf yf HR1 HR2 HB1 hr1 hr2 hb2 c0 c1 c2 c3
  go_wp2
  refine bodyPost_ret (v := .agg #[.int .i64 s, .int .i64 i, .int .i64 t, .string v]) ?_ rfl ⟨rfl, put4_bel (HB2.out.setCell (Nat.le_refl _) _) (Nat.le_succ _) _ _ _ _⟩
  exact results_cell_row f81_res _ _ (w.heap.size + 1) 84 _ (0, 0) _ rfl (put4_row (w := w2.setCell ⟨w.heap.size, 3, none⟩ (.string v)) ((heap_setCell_other w2 ⟨w.heap.size, 3, none⟩ _ _ (by simp)).trans HY.out) _ _ _ _) Try.underlying84 rfl Try.size84
theorem res4 {fn : Func} {p u : Tmp} (h : fn.results = #[.cell p 84, .tmp u]) (tmps : Array Value) (w : World) (g : Nat) (v0 v1 v2 v3 : Value) (hp : tmps.getD p undef = .pointer (some ⟨g, 0, none⟩)) (hg : w.heap[g]? = some (.cells #[v0, v1, v2, v3] 84 (0, 0))) :
    (results fn tmps).run Try.prog w = .ok (.tuple #[.agg #[v0, v1, v2, v3], tmps.getD u undef]) w := by
  have hp' : tmps[p]?.getD undef = .pointer (some ⟨g, 0, none⟩) := by simpa using hp
  rw [results_cell_tmp h]
  simp [asAddr, hp', run_loadVar_row w g 84 84 #[v0, v1, v2, v3] (0, 0) _ hg Try.underlying84 rfl Try.size84]
end Go.Proofs.Ytgodnpngdbelhaa.Na
namespace Go.Proofs.Ytgodnpngdbelhaa.Na
open Go.RowKit
set_option linter.unusedVariables false
open Go.Proofs.Ytgodnpngdbelhaa.M (E V)

set_option maxRecDepth 100000 in
set_option maxHeartbeats 1000000 in
theorem may_any {w : World} {base b : Nat} {v : Value} {a : M.S} (h : AI w base b v a) (x : E) : Calls Try.prog 66 #[.pointer (some ⟨b, 0, none⟩), bV x] w fun e w' => e = .returned (.bool (M.may a x)) ∧ Below w.heap.size w w' := by
  have HM : Hid (M.may a x = (M.vld x && decide (0 ≤ M.cmpE x a.p))) := rfl
  rw [HM.out]
  clear HM
  obtain ⟨W1, HW1⟩ : ∃ W1, Hid (w.alloc (.cells #[.int .i64 x.i, .int .i64 x.t] 60) = W1) := ⟨_, rfl⟩
  have HB1 : Hid (Below w.heap.size w W1) := by rw [← HW1.out]; exact bel1 w _
  have HS : Hid (∀ w', Below W1.heap.size W1 w' → (w'.cell? ⟨w.heap.size, 0, none⟩ = some (.int .i64 x.i) ∧ w'.cell? ⟨w.heap.size, 1, none⟩ = some (.int .i64 x.t)) ∧ (w'.cell? ⟨b, 0, none⟩ = some (.int .i64 a.p.i) ∧ w'.cell? ⟨b, 1, none⟩ = some (.int .i64 a.p.t) ∧ w'.cell? ⟨b, 2, none⟩ = some (.int .i64 a.base) ∧ w'.cell? ⟨b, 3, none⟩ = some v)) := by
    intro w' hb
    have h1 : W1.heap[w.heap.size]? = some (.cells #[.int .i64 x.i, .int .i64 x.t] 60 (0, 0)) := by rw [← HW1.out]; exact heap_alloc_last w _
    exact ⟨(row2 (bel_row h1 hb)).1, (row4 (bel_row (bel_row h.row HB1.out) hb)).1⟩
  have hv := fun W => valid_any x W
  clear h
  cases hx : M.vld x with
  | true =>
    rw [hx] at hv
    clear hx
    rw [Bool.true_and]
    go_enter Try.func66, Try.ntmps66
    go_wp2_with fail
    rw [HW1.out]
    clear HW1
    refine wp_region_held_drew (S := fun wq => Below (W1).heap.size (W1) wq) (by kernel_rfl) (Below.drew (Below.refl _ _)) (fun hHeld => ?_)
    refine wpAnyH_take (i := 0) (oi := ?p0a) (v := ?v0a) ?o0a (by kernel_rfl) (by kernel_rfl) (by kernel_rfl) ?q0a ?y0a hHeld ?r0a
    case o0a => simp only [List.getElem?_toArray, List.getElem?_cons_zero]; rfl
    case q0a => exact fun _ _ _ h => h
    case y0a => (refine Or.inl ⟨rfl, ?_⟩; intro wq hq; obtain ⟨⟨z0, z1⟩, ⟨y0, y1, y2, y3⟩⟩ := HS.out wq hq; go_simp; try with_reducible rfl)
    simp only [Act.put, List.setIfInBounds_toArray, List.set_cons_zero, List.set_cons_succ]
    refine wpAnyH_ready (rs := [1]) (by kernel_rfl) (by simp) ?_
    refine AllReadyH.cons (o := ?p1a) ?o1a ?s1a AllReadyH.nil
    case o1a => simp only [List.getElem?_toArray, List.getElem?_cons_succ, List.getElem?_cons_zero]; rfl
    intro K hK
    go_simp
    refine (hv _).mono ?_
    rintro e v1 ⟨rfl, hb⟩
    have B1 : Below W1.heap.size W1 v1 := hHeld.trans (hb.mono hHeld.size)
    clear hb
    refine hK.out _ _ B1 (fun hHeld => ?_)
    clear hK K
    refine wpAnyH_take (i := 2) (oi := ?p2a) (v := ?v2a) ?o2a (by kernel_rfl) (by kernel_rfl) (by kernel_rfl) ?q2a ?y2a hHeld ?r2a
    case o2a => simp only [List.getElem?_toArray, List.getElem?_cons_succ, List.getElem?_cons_zero]; rfl
    case q2a => exact fun _ _ _ h => h
    case y2a => (refine Or.inl ⟨rfl, ?_⟩; intro wq hq; obtain ⟨⟨z0, z1⟩, ⟨y0, y1, y2, y3⟩⟩ := HS.out wq hq; go_simp; try with_reducible rfl)
    simp only [Act.put, List.setIfInBounds_toArray, List.set_cons_zero, List.set_cons_succ]
    refine wpAnyH_take (i := 3) (oi := ?p3a) (v := ?v3a) ?o3a (by kernel_rfl) (by kernel_rfl) (by kernel_rfl) ?q3a ?y3a hHeld ?r3a
    case o3a => simp only [List.getElem?_toArray, List.getElem?_cons_succ, List.getElem?_cons_zero]; rfl
    case q3a => exact fun _ _ _ h => h
    case y3a => (refine Or.inl ⟨rfl, ?_⟩; intro wq hq; obtain ⟨⟨z0, z1⟩, ⟨y0, y1, y2, y3⟩⟩ := HS.out wq hq; go_simp; try with_reducible rfl)
    simp only [Act.put, List.setIfInBounds_toArray, List.set_cons_zero, List.set_cons_succ]
    refine wpAnyH_take (i := 4) (oi := ?p4a) (v := ?v4a) ?o4a (by kernel_rfl) (by kernel_rfl) (by kernel_rfl) ?q4a ?y4a hHeld ?r4a
    case o4a => simp only [List.getElem?_toArray, List.getElem?_cons_succ, List.getElem?_cons_zero]; rfl
    case q4a => exact fun _ _ _ h => h
    case y4a => (refine Or.inl ⟨rfl, ?_⟩; intro wq hq; obtain ⟨⟨z0, z1⟩, ⟨y0, y1, y2, y3⟩⟩ := HS.out wq hq; go_simp; try with_reducible rfl)
    simp only [Act.put, List.setIfInBounds_toArray, List.set_cons_zero, List.set_cons_succ]
    refine wpAnyH_take (i := 5) (oi := ?p5a) (v := ?v5a) ?o5a (by kernel_rfl) (by kernel_rfl) (by kernel_rfl) ?q5a ?y5a hHeld ?r5a
    case o5a => simp only [List.getElem?_toArray, List.getElem?_cons_succ, List.getElem?_cons_zero]; rfl
    case q5a => exact fun _ _ _ h => h
    case y5a => (refine Or.inl ⟨rfl, ?_⟩; intro wq hq; obtain ⟨⟨z0, z1⟩, ⟨y0, y1, y2, y3⟩⟩ := HS.out wq hq; go_simp; try with_reducible rfl)
    simp only [Act.put, List.setIfInBounds_toArray, List.set_cons_zero, List.set_cons_succ]
    refine wpAnyH_take (i := 6) (oi := ?p6a) (v := ?v6a) ?o6a (by kernel_rfl) (by kernel_rfl) (by kernel_rfl) ?q6a ?y6a hHeld ?r6a
    case o6a => simp only [List.getElem?_toArray, List.getElem?_cons_succ, List.getElem?_cons_zero]; rfl
    case q6a => exact fun _ _ _ h => h
    case y6a => (refine Or.inl ⟨rfl, ?_⟩; intro wq hq; obtain ⟨⟨z0, z1⟩, ⟨y0, y1, y2, y3⟩⟩ := HS.out wq hq; go_simp; try with_reducible rfl)
    simp only [Act.put, List.setIfInBounds_toArray, List.set_cons_zero, List.set_cons_succ]
    refine wpAnyH_take (i := 7) (oi := ?p7a) (v := ?v7a) ?o7a (by kernel_rfl) (by kernel_rfl) (by kernel_rfl) ?q7a ?y7a hHeld ?r7a
    case o7a => simp only [List.getElem?_toArray, List.getElem?_cons_succ, List.getElem?_cons_zero]; rfl
    case q7a => exact fun _ _ _ h => h
    case y7a => (refine Or.inl ⟨rfl, ?_⟩; intro wq hq; obtain ⟨⟨z0, z1⟩, ⟨y0, y1, y2, y3⟩⟩ := HS.out wq hq; go_simp; try with_reducible rfl)
    simp only [Act.put, List.setIfInBounds_toArray, List.set_cons_zero, List.set_cons_succ]
    refine wpAnyH_ready (rs := [8]) (by kernel_rfl) (by simp) ?_
    refine AllReadyH.cons (o := ?p8a) ?o8a ?s8a AllReadyH.nil
    case o8a => simp only [List.getElem?_toArray, List.getElem?_cons_succ, List.getElem?_cons_zero]; rfl
    intro K hK
    go_simp
    refine (cmp_any x a.p _).mono ?_
    rintro e v8 ⟨rfl, hb⟩
    have B8 : Below W1.heap.size W1 v8 := hHeld.trans (hb.mono hHeld.size)
    clear hb
    refine hK.out _ _ B8 (fun hHeld => ?_)
    clear hK K
    refine wpAnyH_take (i := 9) (oi := ?p9a) (v := ?v9a) ?o9a (by kernel_rfl) (by kernel_rfl) (by kernel_rfl) ?q9a ?y9a hHeld ?r9a
    case o9a => simp only [List.getElem?_toArray, List.getElem?_cons_succ, List.getElem?_cons_zero]; rfl
    case q9a => exact fun _ _ _ h => h
    case y9a => (refine Or.inl ⟨rfl, ?_⟩; intro wq hq; obtain ⟨⟨z0, z1⟩, ⟨y0, y1, y2, y3⟩⟩ := HS.out wq hq; go_simp; try with_reducible rfl)
    simp only [Act.put, List.setIfInBounds_toArray, List.set_cons_zero, List.set_cons_succ]
    refine wpAnyH_take (i := 10) (oi := ?p10a) (v := ?v10a) ?o10a (by kernel_rfl) (by kernel_rfl) (by kernel_rfl) ?q10a ?y10a hHeld ?r10a
    case o10a => simp only [List.getElem?_toArray, List.getElem?_cons_succ, List.getElem?_cons_zero]; rfl
    case q10a => exact fun _ _ _ h => h
    case y10a => (refine Or.inl ⟨rfl, ?_⟩; intro wq hq; obtain ⟨⟨z0, z1⟩, ⟨y0, y1, y2, y3⟩⟩ := HS.out wq hq; go_simp; try with_reducible rfl)
    simp only [Act.put, List.setIfInBounds_toArray, List.set_cons_zero, List.set_cons_succ]
    refine wpAnyH_take (i := 11) (oi := ?p11a) (v := ?v11a) ?o11a (by kernel_rfl) (by kernel_rfl) (by kernel_rfl) ?q11a ?y11a hHeld ?r11a
    case o11a => simp only [List.getElem?_toArray, List.getElem?_cons_succ, List.getElem?_cons_zero]; rfl
    case q11a => exact fun _ _ _ h => h
    case y11a => (refine Or.inl ⟨rfl, ?_⟩; intro wq hq; obtain ⟨⟨z0, z1⟩, ⟨y0, y1, y2, y3⟩⟩ := HS.out wq hq; go_simp; try with_reducible rfl)
    simp only [Act.put, List.setIfInBounds_toArray, List.set_cons_zero, List.set_cons_succ]
    refine wpAnyH_done (by kernel_rfl) ?_ _
    go_wp2
    go_ret
    exact ⟨rfl, bel_up HB1.out hHeld (Nat.le_refl _)⟩
  | false =>
    rw [hx] at hv
    clear hx
    rw [Bool.false_and]
    go_enter Try.func66, Try.ntmps66
    go_wp2_with fail
    rw [HW1.out]
    clear HW1
    refine wp_region_held_drew (S := fun wq => Below (W1).heap.size (W1) wq) (by kernel_rfl) (Below.drew (Below.refl _ _)) (fun hHeld => ?_)
    refine wpAnyH_take (i := 0) (oi := ?p0b) (v := ?v0b) ?o0b (by kernel_rfl) (by kernel_rfl) (by kernel_rfl) ?q0b ?y0b hHeld ?r0b
    case o0b => simp only [List.getElem?_toArray, List.getElem?_cons_zero]; rfl
    case q0b => exact fun _ _ _ h => h
    case y0b => (refine Or.inl ⟨rfl, ?_⟩; intro wq hq; obtain ⟨⟨z0, z1⟩, ⟨y0, y1, y2, y3⟩⟩ := HS.out wq hq; go_simp; try with_reducible rfl)
    simp only [Act.put, List.setIfInBounds_toArray, List.set_cons_zero, List.set_cons_succ]
    refine wpAnyH_ready (rs := [1]) (by kernel_rfl) (by simp) ?_
    refine AllReadyH.cons (o := ?p1b) ?o1b ?s1b AllReadyH.nil
    case o1b => simp only [List.getElem?_toArray, List.getElem?_cons_succ, List.getElem?_cons_zero]; rfl
    intro K hK
    go_simp
    refine (hv _).mono ?_
    rintro e v1 ⟨rfl, hb⟩
    have B1 : Below W1.heap.size W1 v1 := hHeld.trans (hb.mono hHeld.size)
    clear hb
    refine hK.out _ _ B1 (fun hHeld => ?_)
    clear hK K
    refine wpAnyH_take (i := 2) (oi := ?p2b) (v := ?v2b) ?o2b (by kernel_rfl) (by kernel_rfl) (by kernel_rfl) ?q2b ?y2b hHeld ?r2b
    case o2b => simp only [List.getElem?_toArray, List.getElem?_cons_succ, List.getElem?_cons_zero]; rfl
    case q2b => exact fun _ _ _ h => h
    case y2b => (refine Or.inl ⟨rfl, ?_⟩; intro wq hq; obtain ⟨⟨z0, z1⟩, ⟨y0, y1, y2, y3⟩⟩ := HS.out wq hq; go_simp; try with_reducible rfl)
    simp only [Act.put, List.setIfInBounds_toArray, List.set_cons_zero, List.set_cons_succ]
    refine wpAnyH_take (i := 3) (oi := ?p3b) (v := undef) ?o3b (by kernel_rfl) (by kernel_rfl) (by kernel_rfl) ?q3b ?y3b hHeld ?r3b
    case o3b => simp only [List.getElem?_toArray, List.getElem?_cons_succ, List.getElem?_cons_zero]; rfl
    case q3b => exact fun _ _ _ h => h
    case y3b => exact Or.inr ⟨rfl, rfl⟩
    simp only [Act.put, List.setIfInBounds_toArray, List.set_cons_zero, List.set_cons_succ]
    refine wpAnyH_take (i := 4) (oi := ?p4b) (v := undef) ?o4b (by kernel_rfl) (by kernel_rfl) (by kernel_rfl) ?q4b ?y4b hHeld ?r4b
    case o4b => simp only [List.getElem?_toArray, List.getElem?_cons_succ, List.getElem?_cons_zero]; rfl
    case q4b => exact fun _ _ _ h => h
    case y4b => exact Or.inr ⟨rfl, rfl⟩
    simp only [Act.put, List.setIfInBounds_toArray, List.set_cons_zero, List.set_cons_succ]
    refine wpAnyH_take (i := 5) (oi := ?p5b) (v := undef) ?o5b (by kernel_rfl) (by kernel_rfl) (by kernel_rfl) ?q5b ?y5b hHeld ?r5b
    case o5b => simp only [List.getElem?_toArray, List.getElem?_cons_succ, List.getElem?_cons_zero]; rfl
    case q5b => exact fun _ _ _ h => h
    case y5b => exact Or.inr ⟨rfl, rfl⟩
    simp only [Act.put, List.setIfInBounds_toArray, List.set_cons_zero, List.set_cons_succ]
    refine wpAnyH_take (i := 6) (oi := ?p6b) (v := undef) ?o6b (by kernel_rfl) (by kernel_rfl) (by kernel_rfl) ?q6b ?y6b hHeld ?r6b
    case o6b => simp only [List.getElem?_toArray, List.getElem?_cons_succ, List.getElem?_cons_zero]; rfl
    case q6b => exact fun _ _ _ h => h
    case y6b => exact Or.inr ⟨rfl, rfl⟩
    simp only [Act.put, List.setIfInBounds_toArray, List.set_cons_zero, List.set_cons_succ]
    refine wpAnyH_take (i := 7) (oi := ?p7b) (v := undef) ?o7b (by kernel_rfl) (by kernel_rfl) (by kernel_rfl) ?q7b ?y7b hHeld ?r7b
    case o7b => simp only [List.getElem?_toArray, List.getElem?_cons_succ, List.getElem?_cons_zero]; rfl
    case q7b => exact fun _ _ _ h => h
    case y7b => exact Or.inr ⟨rfl, rfl⟩
    simp only [Act.put, List.setIfInBounds_toArray, List.set_cons_zero, List.set_cons_succ]
    refine wpAnyH_take (i := 8) (oi := ?p8b) (v := undef) ?o8b (by kernel_rfl) (by kernel_rfl) (by kernel_rfl) ?q8b ?y8b hHeld ?r8b
    case o8b => simp only [List.getElem?_toArray, List.getElem?_cons_succ, List.getElem?_cons_zero]; rfl
    case q8b => exact fun _ _ _ h => h
    case y8b => exact Or.inr ⟨rfl, rfl⟩
    simp only [Act.put, List.setIfInBounds_toArray, List.set_cons_zero, List.set_cons_succ]
    refine wpAnyH_take (i := 9) (oi := ?p9b) (v := undef) ?o9b (by kernel_rfl) (by kernel_rfl) (by kernel_rfl) ?q9b ?y9b hHeld ?r9b
    case o9b => simp only [List.getElem?_toArray, List.getElem?_cons_succ, List.getElem?_cons_zero]; rfl
    case q9b => exact fun _ _ _ h => h
    case y9b => exact Or.inr ⟨rfl, rfl⟩
    simp only [Act.put, List.setIfInBounds_toArray, List.set_cons_zero, List.set_cons_succ]
    refine wpAnyH_take (i := 10) (oi := ?p10b) (v := ?v10b) ?o10b (by kernel_rfl) (by kernel_rfl) (by kernel_rfl) ?q10b ?y10b hHeld ?r10b
    case o10b => simp only [List.getElem?_toArray, List.getElem?_cons_succ, List.getElem?_cons_zero]; rfl
    case q10b => exact fun _ _ _ h => h
    case y10b => (refine Or.inl ⟨rfl, ?_⟩; intro wq hq; obtain ⟨⟨z0, z1⟩, ⟨y0, y1, y2, y3⟩⟩ := HS.out wq hq; go_simp; try with_reducible rfl)
    simp only [Act.put, List.setIfInBounds_toArray, List.set_cons_zero, List.set_cons_succ]
    refine wpAnyH_take (i := 11) (oi := ?p11b) (v := ?v11b) ?o11b (by kernel_rfl) (by kernel_rfl) (by kernel_rfl) ?q11b ?y11b hHeld ?r11b
    case o11b => simp only [List.getElem?_toArray, List.getElem?_cons_succ, List.getElem?_cons_zero]; rfl
    case q11b => exact fun _ _ _ h => h
    case y11b => (refine Or.inl ⟨rfl, ?_⟩; intro wq hq; obtain ⟨⟨z0, z1⟩, ⟨y0, y1, y2, y3⟩⟩ := HS.out wq hq; go_simp; try with_reducible rfl)
    simp only [Act.put, List.setIfInBounds_toArray, List.set_cons_zero, List.set_cons_succ]
    refine wpAnyH_done (by kernel_rfl) ?_ _
    go_wp2
    go_ret
    exact ⟨rfl, bel_up HB1.out hHeld (Nat.le_refl _)⟩
theorem _root_.Go.Proofs.Ytgodnpngdbelhaa.OwnL.adr {α : Type} {Y : Ly α} {t : TypeId} {w : World} {base n cap : Nat} {ad : Option Addr} {l : List α} (h : OwnL Y t w base (.slice ad n cap) l) : (ad = none ∧ cap = 0) ∨ ∃ g, ad = some ⟨g, 0, none⟩ := by
  rcases h.2 with ⟨e, _⟩ | ⟨g, c, _, e, _⟩
  · simp at e; exact .inl ⟨e.1, e.2.2⟩
  · simp at e; exact .inr ⟨g, e.1⟩
/-- One more, appended. -/
theorem app1 {w : World} {base : Nat} {v : Value} {l : List V} (x : V) (ho : OwnL vl 84 w base v l) (hb : base ≤ w.heap.size) (hl : l.length + 1 ≤ 1000000) :
    ∃ a' c' w', (∀ ty, (Builtin.append_ #[61, 61] ty #[v, .slice (some ⟨w.heap.size, 0, none⟩) 1 1]).run Try.prog (w.alloc (.cells #[.int .i64 x.s, .int .i64 x.b.i, .int .i64 x.b.t, .string x.v] 84)) = .ok (.slice a' (l.length + 1) c') w') ∧ OwnL vl 84 w' base (.slice a' (l.length + 1) c') (l ++ [x]) ∧ Rw w v w' (.slice a' (l.length + 1) c') := by
  obtain ⟨a', c', w4, hrun, ho4, hr4⟩ := run_appL_ty tiV (w.alloc (.cells #[.int .i64 x.s, .int .i64 x.b.i, .int .i64 x.b.t, .string x.v] 84)) base v l [x] w.heap.size 0 1 1 (ho.keep (bel1 w _)) (atL_one (t := 84) (heap_alloc_last w _)) rfl (by simp; omega) (by simp; omega)
  exact ⟨a', c', w4, hrun, ho4, (Rw.ofBelow _ (bel1 w _)).trans hr4⟩
/-- A row that a call returned: new. -/
def RV (w : World) (l : List V) (e : Ending) (w' : World) : Prop := ∃ v, e = .returned v ∧ OwnL vl 84 w' w.heap.size v l ∧ Below w.heap.size w w'
theorem RV.mono {w : World} {l : List V} {e : Ending} {w' : World} (h : RV w l e w') : ∃ a c, e = .returned (.slice a l.length c) ∧ XL vl w' a c l ∧ OwnL vl 84 w' w.heap.size (.slice a l.length c) l ∧ Below w.heap.size w w' := by
  obtain ⟨v, rfl, h1, h2⟩ := h
  obtain ⟨a, c, rfl, hx, _⟩ := h1.at
  exact ⟨a, c, rfl, hx, h1, h2⟩
set_option maxRecDepth 100000 in
set_option maxHeartbeats 1000000 in
theorem votes_any {w : World} {base b : Nat} {v : Value} {a : M.S} (h : AI w base b v a) (ok : M.Ok a) (kk : Int) : Calls Try.prog 67 #[.pointer (some ⟨b, 0, none⟩), .int .i64 kk] w (RV w (M.vts a.l kk)) := by
  obtain ⟨ad, cap, rfl, hxl, hbl⟩ := h.own.at
  have hlen := ok.len
  have hcap := hxl.le
  have hmx : cap ≤ 9223372036854775807 := by have := hxl.mx; unfold maxLen at this; omega
  have hpl := place_any ad cap a.l kk w (by omega) hxl.at' ok.up
  obtain ⟨⟨c0, c1, c2, c3⟩, _⟩ := row4 h.row
  have HR := Hid_of h.row
  have HAt := Hid_of hxl
  have HSZ := Hid_of (fun x hx => Nat.le_trans (ok.vs x hx) (by decide : 4096 ≤ 140737488351232))
  have HA := Hid_of h.own.adr
  clear ok h hxl hbl
  go_enter Try.func67, Try.ntmps67
  go_wp2_with fail
  refine hpl.mono ?_
  rintro e w1 ⟨r, bb, rfl, hs, hb1⟩
  have HD := Hid_of hs.drop
  have hrl := hs.le
  obtain ⟨⟨d0, d1, d2, d3⟩, _⟩ := row4 (bel_row HR.out hb1)
  have hx1 := HAt.out.keep hb1
  have HB1 := Hid_of hb1
  clear hs hb1 hpl c0 c1 c2 c3 HR HAt
  have HZD : Hid (∀ x ∈ a.l.drop r, x.v.size ≤ 140737488351232) := fun x hx => HSZ.out x (List.mem_of_mem_drop hx)
  have hls : (a.l.drop r).length = a.l.length - r := by simp
  by_cases hcr : cap = r
  · have hnr : a.l.length = r := by omega
    have HAt : Hid (AtL vl w1 ad (a.l.drop r)) := by
      rw [List.drop_of_length_le (by omega)]
      exact AtL.nil _ _
    subst hcr
    clear hx1 HSZ
    generalize a.l.drop cap = D at *
    generalize a.l.length = L at *
    go_wp2
    go_loopw [28, 7] (fun i u wr => ∃ k : Nat, k ≤ D.length ∧ i = .int .i64 k ∧ OwnL vl 84 wr w1.heap.size u (D.take k) ∧ Below w1.heap.size w1 wr) (fun i u _ => D.length - (intOf i).toNat)
    case atStart => exact ⟨0, Nat.zero_le _, rfl, OwnL.nil _ _ _, Below.refl _ _⟩
    case round =>
      obtain ⟨k, hk, rfl, ho, hbl⟩ := hrel
      obtain ⟨a1, cap1, hv1, hx1, _⟩ := ho.at
      have hlen : (D.take k).length = k := by simp; omega
      rw [hlen] at hv1
      subst hv1
      by_cases hlt : k < D.length
      · exact absurd hlt (by omega)
      · obtain rfl : k = D.length := by omega
        have HQ : Hid (RV w (M.vts a.l kk) (.returned (.slice a1 D.length cap1)) wr) := by
          rw [← HD.out]
          exact ⟨_, rfl, by rw [List.take_of_length_le (Nat.le_refl _)] at ho; exact ho.low HB1.out.size, bel_up HB1.out hbl (Nat.le_refl _)⟩
        clear ho hbl hx1
        go_wp2
        go_ret
        exact HQ.out
  · obtain ⟨g, rfl⟩ : ∃ g, ad = some ⟨g, 0, none⟩ := by
      rcases HA.out with ⟨_, h0⟩ | h0
      · omega
      · exact h0
    have HAt : Hid (AtL vl w1 (some ⟨g, r * 4, none⟩) (a.l.drop r)) := by
      have e := hx1.at'.drop r
      rw [Nat.zero_add] at e
      exact e
    clear hx1 HSZ
    generalize a.l.drop r = D at *
    generalize a.l.length = L at *
    go_wp2
    go_loopw [28, 7] (fun i u wr => ∃ k : Nat, k ≤ D.length ∧ i = .int .i64 k ∧ OwnL vl 84 wr w1.heap.size u (D.take k) ∧ Below w1.heap.size w1 wr) (fun i u _ => D.length - (intOf i).toNat)
    case atStart => exact ⟨0, Nat.zero_le _, rfl, OwnL.nil _ _ _, Below.refl _ _⟩
    case round =>
      obtain ⟨k, hk, rfl, ho, hbl⟩ := hrel
      obtain ⟨a1, cap1, hv1, hx1, _⟩ := ho.at
      have hlen : (D.take k).length = k := by simp; omega
      rw [hlen] at hv1
      subst hv1
      by_cases hlt : k < D.length
      · obtain ⟨g0, off0, eA, q0, q1, q2, q3⟩ := (HAt.out.keep hbl).getV k hlt
        have HT : Hid (D.take (k + 1) = D.take k ++ [D[k]]) := Hid_of (List.take_succ_eq_append_getElem hlt)
        obtain ⟨W1, HW1⟩ : ∃ W1, Hid (wr.alloc (.cells #[.int .i64 D[k].s, .int .i64 D[k].b.i, .int .i64 D[k].b.t, .string D[k].v] 84) = W1) := ⟨_, Hid_of rfl⟩
        have hb1 : Below wr.heap.size wr W1 := by rw [← HW1.out]; exact bel1 wr _
        have hbox : W1.heap[wr.heap.size]? = some (.cells #[.int .i64 D[k].s, .int .i64 D[k].b.i, .int .i64 D[k].b.t, .string D[k].v] 84 (0, 0)) := by rw [← HW1.out]; exact heap_alloc_last wr _
        obtain ⟨⟨z0, z1, z2, z3⟩, _⟩ := row4 hbox
        have how := own_any D[k] W1 (HZD.out _ (List.getElem_mem _))
        have HO := Hid_of ho
        have HBL := Hid_of hbl
        have HB := Hid_of hb1
        clear ho hbl hx1 hb1 hbox
        generalize D[k] = x at *
        obtain ⟨s, ⟨i, t⟩, vv⟩ := x
        simp only [vV] at how q0 q1 q2 q3 z0 z1 z2 z3
        cases eA
        go_upto_region 8 with fail
        rw [HW1.out]
        go_wp2_with fail
        refine how.mono ?_
        rintro e w2 ⟨rfl, hb2⟩
        have ho2 := (HO.out.keep HB.out).keep hb2
        have hbw : Below wr.heap.size wr w2 := bel_up HB.out hb2 (Nat.le_refl _)
        obtain ⟨a', c', w4, hrun, ho4, hr4⟩ := app1 ⟨s, ⟨i, t⟩, vv⟩ ho2 (by have := HBL.out.size; have := hbw.size; omega) (by rw [hlen]; omega)
        rw [hlen] at hrun ho4 hr4
        simp only at hrun
        have hr6 : Rw wr (.slice a1 k cap1) w4 (.slice a' (k + 1) c') := (Rw.ofBelow _ hbw).trans hr4
        have HB4 : Hid (Below w1.heap.size w1 w4) := HBL.out.trans (hr6.below (fun j hj => (HO.out.lt hj).1) HBL.out.size)
        have HO4 := Hid_of ho4
        clear how ho2 hbw ho4 hr4 hr6 hb2 HO HBL HB
        go_wp2_with (at_builtin; refine wpList_append_known rfl _ _ 61 rfl _ _ rfl rfl _ _ (hrun _) ?_)
        go_roundw
        case rel => exact ⟨k + 1, by omega, by go_num, by rw [HT.out]; exact HO4.out, HB4.out⟩
        case measure => simp [intOf]; omega
      · obtain rfl : k = D.length := by omega
        have HQ : Hid (RV w (M.vts a.l kk) (.returned (.slice a1 D.length cap1)) wr) := by
          rw [← HD.out]
          exact ⟨_, rfl, by rw [List.take_of_length_le (Nat.le_refl _)] at ho; exact ho.low HB1.out.size, bel_up HB1.out hbl (Nat.le_refl _)⟩
        clear ho hbl hx1
        go_wp2
        go_ret
        exact HQ.out
end Go.Proofs.Ytgodnpngdbelhaa.Na
namespace Go.Proofs.Ytgodnpngdbelhaa.Na
open Go.RowKit
set_option linter.unusedVariables false
open Go.Proofs.Ytgodnpngdbelhaa.M (E V)

/-- Two cells of a block set. -/
def put2 (w : World) (g : Nat) (a b : Value) : World := (w.setCell ⟨g, 0, none⟩ a).setCell ⟨g, 1, none⟩ b
theorem fr_set {w w1 : World} {F G : Nat → Prop} {b : Nat} (h : Fr w F w1 G) (hb : F b) (o : Nat) (x : Value) : Fr w F (w1.setCell ⟨b, o, none⟩ x) G :=
  ⟨h.os, h.tape, h.output, by simpa using h.size, fun k hk hF => by rw [heap_setCell_other w1 ⟨b, o, none⟩ k _ (fun e => hF (by subst e; exact hb))]; exact h.block k hk hF, h.n⟩
theorem AI.setP {w : World} {base b : Nat} {v : Value} {a : M.S} (h : AI w base b v a) (x : E) : AI (put2 w b (.int .i64 x.i) (.int .i64 x.t)) base b v ⟨x, a.base, a.l⟩ := by
  refine ⟨?_, ?_, h.ap, h.lo⟩
  · exact heap_setCell_same _ b 1 _ _ _ (heap_setCell_same w b 0 _ _ _ h.row)
  · refine h.own.keepBut fun k hk e => ?_
    have hne : k ≠ b := fun e' => h.ap (by rw [← e']; exact e)
    unfold put2
    rw [heap_setCell_other _ ⟨b, 1, none⟩ k _ hne, heap_setCell_other _ ⟨b, 0, none⟩ k _ hne]
/-- What a promise tells. -/
def PrOut (w : World) (base b : Nat) (v : Value) (a : M.S) (x : E) (k : Int) (e : Ending) (w' : World) : Prop :=
  ∃ u, e = .returned (.tuple #[u, .bool (M.prb a x k)]) ∧ OwnL vl 84 w' w.heap.size u (M.prl a x k) ∧ AI w' base b v (M.prs a x k) ∧ Fr w (fpa b v) w' (fpa b v)
set_option maxRecDepth 100000 in
set_option maxHeartbeats 1000000 in
theorem promise_any {w : World} {base b : Nat} {v : Value} {a : M.S} (h : AI w base b v a) (ok : M.Ok a) (x : E) (k : Int) : Calls Try.prog 50 #[.pointer (some ⟨b, 0, none⟩), bV x, .int .i64 k] w (PrOut w base b v a x k) := by
  obtain ⟨W1, HW1⟩ : ∃ W1, Hid (w.alloc (.cells #[.int .i64 x.i, .int .i64 x.t] 60) = W1) := ⟨_, rfl⟩
  have hb1 : Below w.heap.size w W1 := by rw [← HW1.out]; exact bel1 w _
  have hr1 : W1.heap[w.heap.size]? = some (.cells #[.int .i64 x.i, .int .i64 x.t] 60 (0, 0)) := by rw [← HW1.out]; exact heap_alloc_last w _
  have h1 := h.keep hb1
  have hm := may_any h1 x
  obtain ⟨⟨z0, z1⟩, _⟩ := row2 hr1
  have HR1 := Hid_of hr1
  have HH1 := Hid_of h1
  have HB1 := Hid_of hb1
  have HP : Hid (M.prb a x k = (M.may a x && decide (a.base ≤ k))) := rfl
  have HNO : Hid (M.prb a x k = false → ∀ w', Below w.heap.size w w' → PrOut w base b v a x k (.returned (.tuple #[.slice none 0 0, .bool false])) w') := by
    intro hp w' hb
    refine ⟨.slice none 0 0, by rw [hp], ?_, ?_, Fr.ofBelow hb⟩
    · have e : M.prl a x k = [] := by unfold M.prl; rw [hp]; rfl
      rw [e]; exact OwnL.nil _ _ _
    · rw [M.prs_no hp]; exact h.keep hb
  have HYES : Hid (M.prb a x k = true → ∀ w2 w3 u, Below w.heap.size w w2 → OwnL vl 84 w3 (put2 w2 b (.int .i64 x.i) (.int .i64 x.t)).heap.size u (M.vts a.l k) → Below (put2 w2 b (.int .i64 x.i) (.int .i64 x.t)).heap.size (put2 w2 b (.int .i64 x.i) (.int .i64 x.t)) w3 → PrOut w base b v a x k (.returned (.tuple #[u, .bool true])) w3) := by
    intro hp w2 w3 u hb ho hb3
    refine ⟨u, by rw [hp], ?_, ?_, ?_⟩
    · have e : M.prl a x k = M.vts a.l k := by unfold M.prl; rw [hp]; rfl
      rw [e]; exact ho.low (by have := hb.size; simp [put2]; omega)
    · rw [M.prs_yes hp]; exact ((h.keep hb).setP x).keep hb3
    · exact (fr_set (fr_set (Fr.ofBelow hb) (.inl rfl) 0 _) (.inl rfl) 1 _).up hb3
  clear h h1 hb1 hr1
  cases hmx : M.may a x with
  | false =>
    rw [hmx] at hm
    have HQ := Hid_of (HNO.out (by rw [HP.out, hmx]; rfl))
    clear HNO HYES HP hmx
    go_enter Try.func50, Try.ntmps50
    go_upto_region 1 with fail
    rw [HW1.out]
    go_wp2_with fail
    refine hm.mono ?_
    rintro e w2 ⟨rfl, hb2⟩
    have HB2 := Hid_of (bel_up HB1.out hb2 (Nat.le_refl _))
    clear hb2 hm
    go_wp2
    go_ret2
    exact HQ.out _ HB2.out
  | true =>
    rw [hmx] at hm
    by_cases hk : a.base ≤ k
    · have hp : M.prb a x k = true := by rw [HP.out, hmx, decide_eq_true hk]; rfl
      have HQ := Hid_of (HYES.out hp)
      have HOK : Hid (M.Ok ⟨x, a.base, a.l⟩) := by have := M.prs_ok ok x k; rw [M.prs_yes hp] at this; exact this
      have d0 : decide (k < a.base) = false := decide_eq_false (by omega)
      clear HNO HYES HP hmx hp ok hk
      go_enter Try.func50, Try.ntmps50
      go_upto_region 1 with fail
      rw [HW1.out]
      go_wp2_with fail
      refine hm.mono ?_
      rintro e w2 ⟨rfl, hb2⟩
      have HB2 := Hid_of (bel_up HB1.out hb2 (Nat.le_refl _))
      have h2 := HH1.out.keep hb2
      obtain ⟨⟨y0, y1⟩, _⟩ := row2 (bel_row HR1.out hb2)
      obtain ⟨⟨c0, c1, c2, c3⟩, cf⟩ := row4 h2.row
      have f0 := cf 0
      have f1 := cf 1
      have hv := votes_any (h2.setP x) HOK.out k
      clear hb2 hm h2 cf z0 z1 HR1 HH1 HB1
      obtain ⟨W3, HW3⟩ : ∃ W3, Hid (put2 w2 b (.int .i64 x.i) (.int .i64 x.t) = W3) := ⟨_, rfl⟩
      have HW3' : Hid ((w2.setCell ⟨b, 0, none⟩ (.int .i64 x.i)).setCell ⟨b, 1, none⟩ (.int .i64 x.t) = W3) := HW3.out
      have HQ' := Hid_of (HQ.out w2)
      rw [HW3.out] at hv HQ'
      clear HQ HW3
      go_wp2_with fail
      rw [HW3'.out]
      refine hv.mono ?_
      rintro e w4 ⟨u, rfl, ho, hb4⟩
      have HF := Hid_of (HQ'.out w4 u HB2.out ho hb4)
      clear hv ho hb4
      go_wp2
      go_ret2
      exact HF.out
    · have HQ := Hid_of (HNO.out (by rw [HP.out, hmx, decide_eq_false hk]; rfl))
      have d0 : decide (k < a.base) = true := decide_eq_true (by omega)
      clear HNO HYES HP hmx ok hk
      go_enter Try.func50, Try.ntmps50
      go_upto_region 1 with fail
      rw [HW1.out]
      go_wp2_with fail
      refine hm.mono ?_
      rintro e w2 ⟨rfl, hb2⟩
      have HB2 := Hid_of (bel_up HB1.out hb2 (Nat.le_refl _))
      obtain ⟨⟨c0, c1, c2, c3⟩, _⟩ := row4 (HH1.out.keep hb2).row
      clear hb2 hm
      go_wp2
      go_ret2
      exact HQ.out _ HB2.out
end Go.Proofs.Ytgodnpngdbelhaa.Na
