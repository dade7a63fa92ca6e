/-
  A node is heard.
-/
import Derived.Test.YtgodnpngdbelhaaG10
import Derived.Test.YtgodnpngdbelhaaG11
namespace Go.Proofs.Ytgodnpngdbelhaa.Nl
open Go.RowKit Go.Maps
set_option linter.unusedVariables false
open Go.Proofs.Ytgodnpngdbelhaa.M (E V)
open Go.Proofs.Ytgodnpngdbelhaa.Nl.M (W fup)

/-- A block beside what has F for its own. -/
structure BX (w : World) (F : Nat → Prop) (g : Nat) (o : Obj) : Prop where
  row : w.heap[g]? = some o
  ap : ¬ F g
theorem BX.step {w w' : World} {F G : Nat → Prop} {g : Nat} {o : Obj} (h : BX w F g o) (hF : Fr w F w' G) : BX w' G g o := by
  have hl := (Array.getElem?_eq_some_iff.1 h.row).1
  refine ⟨(hF.block g hl h.ap).trans h.row, fun e => ?_⟩
  rcases hF.n g e with h' | h'
  · exact h.ap h'
  · omega
theorem BX.up {w w' : World} {F : Nat → Prop} {g : Nat} {o : Obj} (h : BX w F g o) (hb : Below w.heap.size w w') : BX w' F g o := h.step (Fr.ofBelow hb)
/-- Four cells of a block set. -/
def put4 (w : World) (g : Nat) (a b c d : Value) : World := (((w.setCell ⟨g, 0, none⟩ a).setCell ⟨g, 1, none⟩ b).setCell ⟨g, 2, none⟩ c).setCell ⟨g, 3, none⟩ d
theorem put4_row {w : World} {g : Nat} {t : TypeId} {v0 v1 v2 v3 : Value} (h : w.heap[g]? = some (.cells #[v0, v1, v2, v3] t (0, 0))) (a b c d : Value) : (put4 w g a b c d).heap[g]? = some (.cells #[a, b, c, d] t (0, 0)) :=
  heap_setCell_same _ g 3 _ _ _ (heap_setCell_same _ g 2 _ _ _ (heap_setCell_same _ g 1 _ _ _ (heap_setCell_same w g 0 _ _ _ h)))
theorem put4_bel {w0 w : World} {B g : Nat} (h : Below B w0 w) (hg : B ≤ g) (a b c d : Value) : Below B w0 (put4 w g a b c d) := (((h.setCell hg _).setCell hg _).setCell hg _).setCell hg _
/-- Four cells of a block set, from one on. -/
def putO (w : World) (g o : Nat) (a b c d : Value) : World := (((w.setCell ⟨g, o, none⟩ a).setCell ⟨g, o + 1, none⟩ b).setCell ⟨g, o + 2, none⟩ c).setCell ⟨g, o + 3, none⟩ d
theorem putO_oth {w : World} {g k o : Nat} (h : k ≠ g) (a b c d : Value) : (putO w g o a b c d).heap[k]? = w.heap[k]? := by
  unfold putO
  rw [heap_setCell_other _ ⟨g, o + 3, none⟩ k _ h, heap_setCell_other _ ⟨g, o + 2, none⟩ k _ h, heap_setCell_other _ ⟨g, o + 1, none⟩ k _ h, heap_setCell_other _ ⟨g, o, none⟩ k _ h]
theorem at_roww {w : World} {g : Nat} {l : List W} (h : w.heap[g]? = some (.cells (wl.cells l).toArray 140 (0, 0))) : AtL wl w (some ⟨g, 0, none⟩) l := by
  intro j hj
  refine ⟨g, 0, rfl, fun q hq => ?_⟩
  rw [cell_of_row w g _ _ _ _ h, List.getElem?_toArray, Nat.zero_add]
  exact wl.get l j hj q hq
theorem set_roww {w : World} {g : Nat} {l : List W} (k : Nat) (hk : k < l.length) (x : W) (h : w.heap[g]? = some (.cells (wl.cells l).toArray 140 (0, 0))) :
    (putO w g (k * 4) (.bool x.g) (.int .i64 x.b.i) (.int .i64 x.b.t) (.string x.v)).heap[g]? = some (.cells (wl.cells (l.set k x)).toArray 140 (0, 0)) := by
  unfold putO
  have h1 := heap_setCell_same w g (k * 4) _ _ (.bool x.g) h
  have h2 := heap_setCell_same _ g (k * 4 + 1) _ _ (.int .i64 x.b.i) h1
  have h3 := heap_setCell_same _ g (k * 4 + 2) _ _ (.int .i64 x.b.t) h2
  have h4 := heap_setCell_same _ g (k * 4 + 3) _ _ (.string x.v) h3
  rw [h4]
  have e1 := wl.set1 l k hk 0 (by decide) ⟨x.g, l[k].b, l[k].v⟩ (.bool x.g) rfl
  have e2 := wl.set1 (l.set k ⟨x.g, l[k].b, l[k].v⟩) k (by simpa using hk) 1 (by decide) ⟨x.g, ⟨x.b.i, l[k].b.t⟩, l[k].v⟩ (.int .i64 x.b.i) (by simp [wl])
  rw [← e1, List.set_set] at e2
  have e3 := wl.set1 (l.set k ⟨x.g, ⟨x.b.i, l[k].b.t⟩, l[k].v⟩) k (by simpa using hk) 2 (by decide) ⟨x.g, ⟨x.b.i, x.b.t⟩, l[k].v⟩ (.int .i64 x.b.t) (by simp [wl])
  rw [← e2, List.set_set] at e3
  have e4 := wl.set1 (l.set k ⟨x.g, ⟨x.b.i, x.b.t⟩, l[k].v⟩) k (by simpa using hk) 3 (by decide) x (.string x.v) (by simp [wl])
  rw [← e3, List.set_set] at e4
  rw [← e4]
  simp [wl]
theorem sv_self (s : M.S) (k : Int) : M.sv s k (s.vs k) = s := by
  unfold M.sv
  have : fup s.vs k (s.vs k) = s.vs := by
    funext j
    unfold fup
    split
    · rename_i e; rw [e]
    · rfl
  rw [this]
abbrev vV (x : V) : Value := .agg #[.int .i64 x.s, .int .i64 x.b.i, .int .i64 x.b.t, .string x.v]
section
variable {w : World} {base b m : Nat} {s : M.S} {f : Int → Option K}
/-- What Hear leaves. -/
def HrOut (w : World) (base b m : Nat) (s : M.S) (f : Int → Option K) (fr : Int) (x : V) (e : Ending) (w' : World) : Prop := ∃ f', e = .returned (.bool (M.hb s fr x)) ∧ LI w' base b m (M.hs s fr x) f' ∧ Fr w (fpl b m f) w' (fpl b m f')
set_option maxRecDepth 100000 in
set_option maxHeartbeats 1000000 in
theorem hear_no (h : LI w base b m s f) (fr : Int) (x : V) (hk : (Lit.int .i64 x.s).wf = true) (hno : M.hok s fr x = false) : Calls Try.prog 73 #[.pointer (some ⟨b, 0, none⟩), .int .i64 fr, vV x] w (HrOut w base b m s f fr x) := by
  obtain ⟨W1, HW1⟩ : ∃ W1, Hid (w.alloc (.cells #[.int .i64 x.s, .int .i64 x.b.i, .int .i64 x.b.t, .string x.v] 84) = W1) := ⟨_, Hid_of rfl⟩
  have hb1 : Below w.heap.size w W1 := by rw [← HW1.out]; exact bel1 w _
  have hr1 : W1.heap[w.heap.size]? = some (.cells #[.int .i64 x.s, .int .i64 x.b.i, .int .i64 x.b.t, .string x.v] 84 (0, 0)) := by rw [← HW1.out]; exact heap_alloc_last w _
  have h1 := h.keep hb1
  have HQ : Hid (∀ w', Below w.heap.size w w' → HrOut w base b m s f fr x (.returned (.bool false)) w') := fun w' hb => ⟨f, by unfold M.hb; rw [hno]; rfl, by unfold M.hs; rw [hno]; exact h.keep hb, Fr.ofBelow hb⟩
  obtain ⟨⟨c0, c1, c2⟩, _⟩ := row3 h1.row
  obtain ⟨⟨z0, z1, z2, z3⟩, _⟩ := row4 hr1
  have HH1 := Hid_of h1
  have HR1 := Hid_of hr1
  have HB1 := Hid_of hb1
  have cv := valid_any x.b
  by_cases h0 : fr < 0
  · have d0 : decide (fr < 0) = true := decide_eq_true h0
    clear h h1 hb1 hr1 hno h0 c1 c2 cv
    go_enter Try.func73, Try.ntmps73
    go_upto_region 1 with fail
    rw [HW1.out]
    clear HW1
    go_wp2
    go_ret
    exact HQ.out _ HB1.out
  · have d0 : decide (fr < 0) = false := decide_eq_false h0
    by_cases h2 : s.n ≤ fr
    · have d1 : decide (s.n ≤ fr) = true := decide_eq_true h2
      clear h h1 hb1 hr1 hno h0 h2 c1 c2 cv
      go_enter Try.func73, Try.ntmps73
      go_upto_region 1 with fail
      rw [HW1.out]
      clear HW1
      go_wp2
      go_ret
      exact HQ.out _ HB1.out
    · have d1 : decide (s.n ≤ fr) = false := decide_eq_false h2
      cases hv : M.vld x.b with
      | false =>
        rw [hv] at cv
        clear h h1 hb1 hr1 hno h0 h2 c1 c2 hv
        go_enter Try.func73, Try.ntmps73
        go_upto_region 1 with fail
        rw [HW1.out]
        clear HW1
        go_wp2_with fail
        refine (cv _).mono ?_
        rintro e w2 ⟨rfl, hb2⟩
        have HB2 := Hid_of (bel_up HB1.out hb2 (Nat.le_refl _))
        clear hb2 cv
        go_wp2
        go_ret
        exact HQ.out _ HB2.out
      | true =>
        rw [hv] at cv
        have hm : M.may s x.s x.v = false := by
          unfold M.hok at hno
          rw [decide_eq_true (show 0 ≤ fr by omega), decide_eq_true (show fr < s.n by omega), hv] at hno
          simpa using hno
        have HM := Hid_of (fun w1 (hb : Below W1.heap.size W1 w1) => mayTell_any (h1.keep hb) x.s hk x.v)
        rw [hm] at HM
        clear h h1 hb1 hr1 hno h0 h2 c1 c2 hv hm hk
        go_enter Try.func73, Try.ntmps73
        go_upto_region 1 with fail
        rw [HW1.out]
        clear HW1
        go_wp2_with fail
        refine (cv _).mono ?_
        rintro e w2 ⟨rfl, hb2⟩
        have HB2 := Hid_of (bel_up HB1.out hb2 (Nat.le_refl _))
        obtain ⟨⟨y0, y1, y2, y3⟩, _⟩ := row4 (bel_row HR1.out hb2)
        have cm := HM.out w2 hb2
        clear hb2 cv HM
        go_wp2_with fail
        refine cm.mono ?_
        rintro e w3 ⟨rfl, rfl⟩
        clear cm
        go_wp2
        go_ret
        exact HQ.out _ HB2.out
set_option maxRecDepth 100000 in
set_option maxHeartbeats 1000000 in
theorem hear_yes (h : LI w base b m s f) (ok : M.Ok s) (i : Nat) (x : V) (hk : (Lit.int .i64 x.s).wf = true) (hc : s.c ≤ 900000) (hyes : M.hok s (i : Int) x = true) : Calls Try.prog 73 #[.pointer (some ⟨b, 0, none⟩), .int .i64 (i : Int), vV x] w (HrOut w base b m s f (i : Int) x) := by
  obtain ⟨W1, HW1⟩ : ∃ W1, Hid (w.alloc (.cells #[.int .i64 x.s, .int .i64 x.b.i, .int .i64 x.b.t, .string x.v] 84) = W1) := ⟨_, Hid_of rfl⟩
  have hb1 : Below w.heap.size w W1 := by rw [← HW1.out]; exact bel1 w _
  have hr1 : W1.heap[w.heap.size]? = some (.cells #[.int .i64 x.s, .int .i64 x.b.i, .int .i64 x.b.t, .string x.v] 84 (0, 0)) := by rw [← HW1.out]; exact heap_alloc_last w _
  have h1 := h.keep hb1
  obtain ⟨p0, p1, p2, p3⟩ := M.hok_yes hyes
  obtain ⟨t1, t2, t3, t4⟩ := M.may_yes p3
  obtain ⟨a1, a2, a3, a4, a5⟩ := M.rws_td s x.s
  obtain ⟨L, HL⟩ : ∃ L, Hid (M.hl (M.row s x.s) i x = L) := ⟨_, Hid_of rfl⟩
  have hN := ok.n
  have HLn : Hid (L.length = s.n.toNat) := by rw [← HL.out]; exact Hid_of (by rw [M.hl_len, M.row_len ok])
  have HYb : Hid (M.hb s (i : Int) x = M.hag s.n L (M.hh x)) := by
    unfold M.hb
    rw [hyes, Int.toNat_natCast, HL.out]
    exact Hid_of rfl
  have HYn : Hid (M.hag s.n L (M.hh x) = false → M.hs s (i : Int) x = M.sv (M.rws s x.s) x.s L) := Hid_of (fun e => by
    unfold M.hs
    rw [hyes, Int.toNat_natCast, HL.out, e]
    rfl)
  have HYy : Hid (M.hag s.n L (M.hh x) = true → M.hs s (i : Int) x = M.tl (M.sv (M.rws s x.s) x.s L) x.s x.v) := Hid_of (fun e => by
    unfold M.hs
    rw [hyes, Int.toNat_natCast, HL.out, e]
    rfl)
  have HN2 : Hid ((M.sv (M.rws s x.s) x.s L).n = s.n) := Hid_of a2
  have HN3 : Hid ((M.sv (M.rws s x.s) x.s L).base = s.base) := Hid_of a3
  have HC2 : Hid ((M.rws s x.s).c ≤ 900001) := Hid_of (by omega)
  have OK2 : Hid (M.Ok (M.sv (M.rws s x.s) x.s L)) := Hid_of ((ok.rws t4).sv (by rw [a1]; exact t4) (by rw [HLn.out, a2]))
  have HRW : Hid ((M.rws s x.s).vs x.s = M.row s x.s ∧ (M.row s x.s).length = s.n.toNat) := Hid_of ⟨a4, M.row_len ok _⟩
  have HK := Hid_of hk
  obtain ⟨⟨c0, c1, c2⟩, _⟩ := row3 h1.row
  obtain ⟨⟨z0, z1, z2, z3⟩, _⟩ := row4 hr1
  have HR1 := Hid_of hr1
  have HB1 := Hid_of hb1
  have hlt := h.mine
  have HNV : Hid (¬ fpl b m f w.heap.size) := Hid_of (fun e => by have := (hlt _ e).2; omega)
  have cv := valid_any x.b
  rw [p2] at cv
  have HM := Hid_of (fun w1 (hb : Below W1.heap.size W1 w1) => mayTell_any (h1.keep hb) x.s hk x.v)
  rw [p3] at HM
  have HVT := Hid_of (fun w1 (hb : Below W1.heap.size W1 w1) => votes_any (h1.keep hb) ok x.s hk t4 hc)
  have cc := fun w1 => sclone_any x.v w1 (by omega)
  have d0 : decide ((i : Int) < 0) = false := decide_eq_false (by omega)
  have d1 : decide (s.n ≤ (i : Int)) = false := decide_eq_false (by omega)
  have hin : i < s.n.toNat := by omega
  have HIN := Hid_of hin
  obtain ⟨gv, HGV⟩ : ∃ gv, Hid (w.heap.size = gv) := ⟨_, Hid_of rfl⟩
  clear h h1 hb1 hr1 ok hc hyes c1 c2 hk p0 p1 p2 p3 t1 t2 t3 t4 a1 a2 a3 a4 a5 hN hlt hin
  go_enter Try.func73, Try.ntmps73
  go_upto_region 1 with fail
  rw [HW1.out]
  clear HW1
  go_wp2_with fail
  refine (cv _).mono ?_
  rintro e w2 ⟨rfl, hb2⟩
  obtain ⟨⟨y0, y1, y2, y3⟩, _⟩ := row4 (bel_row HR1.out hb2)
  have cm := HM.out w2 hb2
  have ct := HVT.out w2 hb2
  have HB2 := Hid_of (bel_up HB1.out hb2 (Nat.le_refl _))
  have HX2 : Hid (BX w2 (fpl b m f) w.heap.size (.cells #[.int .i64 x.s, .int .i64 x.b.i, .int .i64 x.b.t, .string x.v] 84 (0, 0))) := Hid_of ⟨bel_row HR1.out hb2, HNV.out⟩
  clear hb2 cv HM HVT z0 z1 z2 z3 c0
  go_wp2_with fail
  refine cm.mono ?_
  rintro e w3 ⟨rfl, rfl⟩
  clear cm
  go_wp2_with fail
  refine ct.mono ?_
  rintro e w3 ⟨f', g, rfl, hgf, hL3, hF3⟩
  have HL3 := Hid_of hL3
  have HX3 := Hid_of (HX2.out.step hF3)
  have HF3 := Hid_of ((Fr.ofBelow HB2.out).trans hF3)
  have HGF := Hid_of hgf
  have HS : Hid (∀ wq, Below w3.heap.size w3 wq → wq.cell? ⟨w.heap.size, 1, none⟩ = some (.int .i64 x.b.i) ∧ wq.cell? ⟨w.heap.size, 2, none⟩ = some (.int .i64 x.b.t) ∧ wq.cell? ⟨w.heap.size, 3, none⟩ = some (.string x.v)) := Hid_of (fun wq hq => (row4 (bel_row HX3.out.row hq)).1.2)
  obtain ⟨nn, HNN⟩ : ∃ nn, Hid (s.n.toNat = nn) := ⟨_, Hid_of rfl⟩
  clear ct hgf hL3 hF3 HX2 HB2 HB1 HR1 HNV y0 y1 y2 y3
  go_upto_region 4 with fail
  go_cut [8] from 43 to 48 (fun p wx => ∃ bz, p = .pointer (some ⟨bz, 0, none⟩) ∧ wx.heap[bz]? = some (.cells #[.bool true, .int .i64 x.b.i, .int .i64 x.b.t, .string x.v] 140 (0, 0)) ∧ w3.heap.size ≤ bz ∧ Below w3.heap.size w3 wx)
  case first =>
    refine wp_region_held_drew (S := fun wq => Below (w3).heap.size (w3) wq) (by kernel_rfl) (Below.drew (Below.refl _ _)) (fun hHeld => ?_)
    obtain ⟨wdx, hwdx⟩ : ∃ wd, w3.drew = wd := ⟨_, rfl⟩
    have hBwd : Below w3.heap.size w3 wdx := by rw [← hwdx]; exact Below.drew (Below.refl _ _)
    rw [hwdx] at hHeld ⊢
    clear hwdx
    refine Tm 0 ?p0x ?v0x hHeld ?r0x
    refine Tk 1 ?p1x ?v1x ?y1x hHeld ?r1x
    case y1x => intro wq hq; obtain ⟨a1, a2, a3⟩ := HS.out wq hq; go_simp; try with_reducible rfl
    refine Tm 2 ?p2x ?v2x hHeld ?r2x
    refine Tk 3 ?p3x ?v3x ?y3x hHeld ?r3x
    case y3x => intro wq hq; obtain ⟨a1, a2, a3⟩ := HS.out wq hq; go_simp; try with_reducible rfl
    simp only [Act.put, Pa, Pb, Pc]
    refine Rn [4, 6] (Rc ?p4x ?s4x (Rc ?p6x ?s6x AllReadyH.nil))
    case s4x =>
      intro K hK
      go_simp
      refine (cc _).mono ?_
      rintro e v4 ⟨rfl, hb4⟩
      have B4 := hHeld.trans (hb4.mono hHeld.size)
      clear hb4
      refine hK.out _ _ B4 (fun hHeld => ?_)
      clear hK K
      refine Tm 5 ?p5x_4 ?v5x_4 hHeld ?r5x_4
      simp only [Act.put, Pa, Pb, Pc]
      refine Rd 6 ?p6x_4 ?s6x_4
      intro K hK
      go_simp
      obtain ⟨wa4a, hwa⟩ : ∃ wa, v4.alloc (.cells #[.bool false, .int .i64 0, .int .i64 0, .string ⟨#[]⟩] 140) = wa := ⟨_, rfl⟩
      rw [hwa]
      have hba : Below v4.heap.size v4 wa4a := by rw [← hwa]; exact bel1 _ _
      have hz : wa4a.heap[v4.heap.size]? = some (.cells #[.bool false, .int .i64 0, .int .i64 0, .string ⟨#[]⟩] 140 (0, 0)) := by rw [← hwa]; exact heap_alloc_last _ _
      obtain ⟨bz, hbz⟩ : ∃ bz, v4.heap.size = bz := ⟨_, rfl⟩
      rw [hbz] at hz ⊢
      have hbzW : w3.heap.size ≤ bz := by rw [← hbz]; exact hHeld.size
      clear hwa hbz
      have Ba4a := hHeld.trans (hba.mono hHeld.size)
      obtain ⟨⟨k0, k1, k2, k3⟩, kf⟩ := row4 hz
      have kf0 := kf 0
      have kf1 := kf 1
      have kf2 := kf 2
      have kf3 := kf 3
      refine hK.out _ _ Ba4a (fun hHeld => ?_)
      clear hK K
      refine Rd 7 ?p7x_4_6 ?s7x_4_6
      intro K hK
      go_simp
      obtain ⟨ws46s, hws⟩ : ∃ ws, put4 wa4a bz (.bool true) (.int .i64 x.b.i) (.int .i64 x.b.t) (.string x.v) = ws := ⟨_, rfl⟩
      have hz2 := put4_row hz (.bool true) (.int .i64 x.b.i) (.int .i64 x.b.t) (.string x.v)
      have hBs := put4_bel hHeld hbzW (.bool true) (.int .i64 x.b.i) (.int .i64 x.b.t) (.string x.v)
      rw [hws] at hz2 hBs
      unfold put4 at hws
      rw [hws]
      clear hws
      refine hK.out _ _ hBs (fun hHeld => ?_)
      clear hK K
      refine wpAnyH_done (by kernel_rfl) ?_ _
      clear HS
      go_wp2_with fail
      go_meet
      case rel => exact ⟨bz, rfl, hz2, hbzW, hHeld⟩
    case s6x =>
      intro K hK
      go_simp
      obtain ⟨waa, hwa⟩ : ∃ wa, wdx.alloc (.cells #[.bool false, .int .i64 0, .int .i64 0, .string ⟨#[]⟩] 140) = wa := ⟨_, rfl⟩
      rw [hwa]
      have hba : Below wdx.heap.size wdx waa := by rw [← hwa]; exact bel1 _ _
      have hz : waa.heap[wdx.heap.size]? = some (.cells #[.bool false, .int .i64 0, .int .i64 0, .string ⟨#[]⟩] 140 (0, 0)) := by rw [← hwa]; exact heap_alloc_last _ _
      obtain ⟨bz, hbz⟩ : ∃ bz, wdx.heap.size = bz := ⟨_, rfl⟩
      rw [hbz] at hz ⊢
      have hbzW : w3.heap.size ≤ bz := by rw [← hbz]; exact hHeld.size
      clear hwa hbz
      have Baa := hHeld.trans (hba.mono hHeld.size)
      obtain ⟨⟨k0, k1, k2, k3⟩, kf⟩ := row4 hz
      have kf0 := kf 0
      have kf1 := kf 1
      have kf2 := kf 2
      have kf3 := kf 3
      refine hK.out _ _ Baa (fun hHeld => ?_)
      clear hK K
      refine Rd 4 ?p4x_6 ?s4x_6
      intro K hK
      go_simp
      refine (cc _).mono ?_
      rintro e v46 ⟨rfl, hb4⟩
      have B46 := hHeld.trans (hb4.mono hHeld.size)
      have hz := bel_row hz hb4
      obtain ⟨⟨k0, k1, k2, k3⟩, kf⟩ := row4 hz
      have kf0 := kf 0
      have kf1 := kf 1
      have kf2 := kf 2
      have kf3 := kf 3
      clear hb4
      refine hK.out _ _ B46 (fun hHeld => ?_)
      clear hK K
      refine Tm 5 ?p5x_6_4 ?v5x_6_4 hHeld ?r5x_6_4
      simp only [Act.put, Pa, Pb, Pc]
      refine Rd 7 ?p7x_6_4 ?s7x_6_4
      intro K hK
      go_simp
      obtain ⟨ws64s, hws⟩ : ∃ ws, put4 v46 bz (.bool true) (.int .i64 x.b.i) (.int .i64 x.b.t) (.string x.v) = ws := ⟨_, rfl⟩
      have hz2 := put4_row hz (.bool true) (.int .i64 x.b.i) (.int .i64 x.b.t) (.string x.v)
      have hBs := put4_bel hHeld hbzW (.bool true) (.int .i64 x.b.i) (.int .i64 x.b.t) (.string x.v)
      rw [hws] at hz2 hBs
      unfold put4 at hws
      rw [hws]
      clear hws
      refine hK.out _ _ hBs (fun hHeld => ?_)
      clear hK K
      refine wpAnyH_done (by kernel_rfl) ?_ _
      clear HS
      go_wp2_with fail
      go_meet
      case rel => exact ⟨bz, rfl, hz2, hbzW, hHeld⟩
  case rest =>
    obtain ⟨bz, rfl, hz2, hbz, hbc⟩ := hcut
    rw [HNN.out, HGV.out]
    rw [HNN.out] at HLn HRW HIN
    rw [HGV.out] at HX3
    have HLc := Hid_of (HL3.out.keep hbc)
    have HFc := Hid_of (HF3.out.trans (Fr.ofBelow hbc))
    have HVc := Hid_of ((HX3.out.up hbc).row)
    have HHc := Hid_of hz2
    have hNB : Hid (bz ≠ b ∧ bz ≠ g ∧ gv ≠ g) := Hid_of (by
      have l1 := HL3.out.lt
      obtain ⟨_, _, _, gg, _⟩ := HL3.out.bk HGF.out
      have l2 := (Array.getElem?_eq_some_iff.1 gg).1
      exact ⟨by omega, by omega, fun e => HX3.out.ap (.inr (.inr ⟨_, by rw [e]; exact HGF.out⟩))⟩)
    have HGc : Hid (wc.heap[g]? = some (.cells (wl.cells (M.row s x.s)).toArray 140 (0, 0))) := by
      obtain ⟨_, _, _, gg, _⟩ := HLc.out.bk HGF.out
      rw [HRW.out.1] at gg
      exact Hid_of gg
    obtain ⟨R, HR⟩ : ∃ R, Hid (M.row s x.s = R) := ⟨_, Hid_of rfl⟩
    rw [HR.out] at HRW HGc HL
    have hiR : i < R.length := by rw [HRW.out.2]; exact HIN.out
    have hki : (i : Int) < (nn : Int) := by have := HIN.out; omega
    obtain ⟨g', o', eg, e0, e1, e2, e3⟩ := (at_roww HGc.out).getW i hiR
    cases eg
    rw [Nat.zero_add] at e0 e1 e2 e3
    have HHL : Hid (L = if !(R[i]'hiR).g || decide (M.cmpE (R[i]'hiR).b x.b < 0) then R.set i (M.hh x) else R) := Hid_of (by
      rw [← HL.out]
      unfold M.hl M.hc
      simp only [List.getD_eq_getElem?_getD, List.getElem?_eq_getElem hiR, Option.getD_some])
    obtain ⟨y, HY⟩ : ∃ y, Hid (R[i]'hiR = y) := ⟨_, Hid_of rfl⟩
    rw [HY.out] at e0 e1 e2 e3 HHL
    have HIR := Hid_of hiR
    clear HY hiR
    obtain ⟨W5, HW5⟩ : ∃ W5, Hid (wc.alloc (.cells #[.bool y.g, .int .i64 y.b.i, .int .i64 y.b.t, .string y.v] 140) = W5) := ⟨_, Hid_of rfl⟩
    have hb5 : Below wc.heap.size wc W5 := by rw [← HW5.out]; exact bel1 wc _
    have hr5 : W5.heap[wc.heap.size]? = some (.cells #[.bool y.g, .int .i64 y.b.i, .int .i64 y.b.t, .string y.v] 140 (0, 0)) := by rw [← HW5.out]; exact heap_alloc_last wc _
    obtain ⟨⟨j0, j1, j2, j3⟩, -⟩ := row4 hr5
    obtain ⟨⟨z0, z1, z2, z3⟩, -⟩ := row4 (bel_row HVc.out hb5)
    have HLb := Hid_of (HLc.out.keep hb5)
    have HFb := Hid_of (HFc.out.trans (Fr.ofBelow hb5))
    have HVb := Hid_of (bel_row HVc.out hb5)
    have HHb := Hid_of (bel_row HHc.out hb5)
    have HGb := Hid_of (bel_row HGc.out hb5)
    have HSZ : Hid (bz < W5.heap.size ∧ gv < W5.heap.size) := Hid_of ⟨(Array.getElem?_eq_some_iff.1 HHb.out).1, (Array.getElem?_eq_some_iff.1 HVb.out).1⟩
    have cp := cmp_any y.b x.b
    obtain ⟨r, hr⟩ : ∃ r, M.cmpE y.b x.b = r := ⟨_, rfl⟩
    rw [hr] at cp HHL
    clear hr hz2 hbz hbc hb5 hr5 HS HLc HFc HVc HHc HGc HL3 HX3 HF3
    go_upto_region 6 with fail
    rw [HW5.out]
    clear HW5 e0 e1 e2 e3
    cases hg : y.g with
    | false =>
      have HYG := hg
      rw [hg] at j0
      have hgq := HGb.out
      obtain ⟨⟨k0, k1, k2, k3⟩, -⟩ := row4 HHb.out
      obtain ⟨g', o', eg, e0, e1, e2, e3⟩ := (at_roww HGb.out).getW i HIR.out
      cases eg
      rw [Nat.zero_add] at e0 e1 e2 e3
      have f0 := frozen_of_row W5 g (i * 4) _ _ HGb.out
      have f1 := frozen_of_row W5 g (i * 4 + 1) _ _ HGb.out
      have f2 := frozen_of_row W5 g (i * 4 + 2) _ _ HGb.out
      have f3 := frozen_of_row W5 g (i * 4 + 3) _ _ HGb.out
      obtain ⟨wt, hwt⟩ : ∃ wt, putO W5 g (i * 4) (.bool true) (.int .i64 x.b.i) (.int .i64 x.b.t) (.string x.v) = wt := ⟨_, rfl⟩
      have hst := set_roww i HIR.out (M.hh x) HGb.out
      rw [show putO W5 g (i * 4) (.bool (M.hh x).g) (.int .i64 (M.hh x).b.i) (.int .i64 (M.hh x).b.t) (.string (M.hh x).v) = wt from hwt] at hst
      have hLL : L = R.set i (M.hh x) := by rw [HHL.out]; simp [hg]
      rw [← hLL] at hst
      have hoth : ∀ j, j ≠ g → wt.heap[j]? = W5.heap[j]? := fun j hj => by rw [← hwt]; exact putO_oth hj _ _ _ _
      have hsame : wt.os = W5.os ∧ wt.tape = W5.tape ∧ wt.output = W5.output ∧ W5.heap.size ≤ wt.heap.size := by rw [← hwt]; exact ⟨rfl, rfl, rfl, by simp [putO]⟩
      obtain ⟨hT, hFt⟩ := HLb.out.rowed HGF.out (l := L) (by rw [HRW.out.1, HRW.out.2, HLn.out]) hst hsame.2.2.2 hsame.1 hsame.2.1 hsame.2.2.1 (fun j _ hj => hoth j hj)
      have HT := Hid_of hT
      have HFt := Hid_of (HFb.out.trans hFt)
      have HH8 := Hid_of ((hoth bz hNB.out.2.1).trans HHb.out)
      have HV := Hid_of ((hoth gv hNB.out.2.2).trans HVb.out)
      have HGt := Hid_of hst
      have HWT := Hid_of hwt
      clear hwt hst hLL hoth hsame hT hFt hgq
      clear hg HYG
      unfold putO at HWT
      go_upto_region 8 with fail
      rw [HWT.out]
      clear HWT e0 e1 e2 e3 f0 f1 f2 f3 k0 k1 k2 k3
      clear j0 j1 j2 j3 z0 z1 z2 z3
      obtain ⟨⟨k0, k1, k2, k3⟩, -⟩ := row4 HH8.out
      have ca := agreed_any HT.out OK2.out (some ⟨g, 0, none⟩) nn L (M.hh x) (at_roww HGt.out) (by rw [HN2.out, HLn.out, HNN.out])
      rw [HN2.out, HLn.out] at ca
      cases hag : M.hag s.n L (M.hh x) with
      | false =>
        rw [hag] at ca
        have HQ : Hid (∀ w', Below wt.heap.size wt w' → HrOut w base b m s f (i : Int) x (.returned (.bool false)) w') := fun w' hb => ⟨f', by rw [HYb.out, hag], by rw [HYn.out hag]; exact HT.out.keep hb, HFt.out.trans (Fr.ofBelow hb)⟩
        clear hag
        go_wp2_with fail
        refine ca.mono ?_
        rintro e w8 ⟨rfl, hb8⟩
        have HB8 := Hid_of hb8
        clear hb8 ca
        go_wp2
        go_ret
        exact HQ.out _ HB8.out
      | true =>
        rw [hag] at ca
        have HP : Hid (∀ w8, Below wt.heap.size wt w8 → ∃ w9, (Instr.mapUpdate 98 (.map (some m)) (.int .i64 x.s) (.agg #[.bool true, .string x.v, .slice none 0 0])).run Try.prog w8.drew = .ok () w9 ∧ (fun wq : World => wq.heap[b]? = some (.cells #[.int .i64 s.n, .int .i64 s.base, .map (some m)] 100 (0, 0)) ∧ wq.heap[gv]? = some (.cells #[.int .i64 x.s, .int .i64 x.b.i, .int .i64 x.b.t, .string x.v] 84 (0, 0)) ∧ wq.heap[bz]? = some (.cells #[.bool true, .int .i64 x.b.i, .int .i64 x.b.t, .string x.v] 140 (0, 0))) w9 ∧ HrOut w base b m s f (i : Int) x (.returned (.bool true)) w9) := by
          intro w8 hb8
          have h8 : LI w8.drew base b m (M.sv (M.rws s x.s) x.s L) f' := HT.out.keep hb8.drew
          have hc2 := HC2.out
          obtain ⟨w9, hrun, hmi, hmt⟩ := h8.mi.put x.s HK.out ⟨true, x.v, none⟩ (by show (M.rws s x.s).c < maxLen; unfold maxLen; omega)
          obtain ⟨g1, g2⟩ := h8.tell hmi hmt
          have e8 : w8.drew.heap[gv]? = some (.cells #[.int .i64 x.s, .int .i64 x.b.i, .int .i64 x.b.t, .string x.v] 84 (0, 0)) := bel_row HV.out hb8.drew
          have e9 : w8.drew.heap[bz]? = some (.cells #[.bool true, .int .i64 x.b.i, .int .i64 x.b.t, .string x.v] 140 (0, 0)) := bel_row HH8.out hb8.drew
          have e7 := g1.row
          rw [show (M.tl (M.sv (M.rws s x.s) x.s L) x.s x.v).n = s.n from HN2.out, show (M.tl (M.sv (M.rws s x.s) x.s L) x.s x.v).base = s.base from HN3.out] at e7
          exact ⟨w9, hrun, ⟨e7, (hmt.block gv (h8.mi.ne e8)).trans e8, (hmt.block bz (h8.mi.ne e9)).trans e9⟩, ⟨_, by rw [HYb.out, hag], by rw [HYy.out hag]; exact g1, (HFt.out.trans (Fr.ofBelow hb8.drew)).trans g2⟩⟩
        have HS9 : Hid (∀ wq, (fun wq : World => wq.heap[b]? = some (.cells #[.int .i64 s.n, .int .i64 s.base, .map (some m)] 100 (0, 0)) ∧ wq.heap[gv]? = some (.cells #[.int .i64 x.s, .int .i64 x.b.i, .int .i64 x.b.t, .string x.v] 84 (0, 0)) ∧ wq.heap[bz]? = some (.cells #[.bool true, .int .i64 x.b.i, .int .i64 x.b.t, .string x.v] 140 (0, 0))) wq → wq.cell? ⟨b, 2, none⟩ = some (.map (some m)) ∧ wq.cell? ⟨gv, 0, none⟩ = some (.int .i64 x.s) ∧ wq.cell? ⟨bz, 3, none⟩ = some (.string x.v)) := fun wq hq => ⟨(row3 hq.1).1.2.2, (row4 hq.2.1).1.1, (row4 hq.2.2).1.2.2.2⟩
        clear hag k0 k1 k2 k3
        obtain ⟨⟨k0, k1, k2, k3⟩, -⟩ := row4 HH8.out
        go_wp2_with fail
        refine ca.mono ?_
        rintro e w8 ⟨rfl, hb8⟩
        have HB8 := Hid_of hb8
        have HI8 : Hid ((fun wq : World => wq.heap[b]? = some (.cells #[.int .i64 s.n, .int .i64 s.base, .map (some m)] 100 (0, 0)) ∧ wq.heap[gv]? = some (.cells #[.int .i64 x.s, .int .i64 x.b.i, .int .i64 x.b.t, .string x.v] 84 (0, 0)) ∧ wq.heap[bz]? = some (.cells #[.bool true, .int .i64 x.b.i, .int .i64 x.b.t, .string x.v] 140 (0, 0))) w8.drew) := by
          refine Hid_of ⟨?_, bel_row HV.out hb8.drew, bel_row HH8.out hb8.drew⟩
          have e7 := (HT.out.keep hb8.drew).row
          rw [show (M.sv (M.rws s x.s) x.s L).n = s.n from HN2.out, show (M.sv (M.rws s x.s) x.s L).base = s.base from HN3.out] at e7
          exact e7
        clear hb8 ca k0 k1 k2 k3
        go_wp2_with fail
        refine wp_region_held_drew (S := fun wq : World => wq.heap[b]? = some (.cells #[.int .i64 s.n, .int .i64 s.base, .map (some m)] 100 (0, 0)) ∧ wq.heap[gv]? = some (.cells #[.int .i64 x.s, .int .i64 x.b.i, .int .i64 x.b.t, .string x.v] 84 (0, 0)) ∧ wq.heap[bz]? = some (.cells #[.bool true, .int .i64 x.b.i, .int .i64 x.b.t, .string x.v] 140 (0, 0))) (by kernel_rfl) HI8.out (fun hHeld => ?_)
        refine Tm 0 ?p0ta ?v0ta hHeld ?r0ta
        refine Tm 1 ?p1ta ?v1ta hHeld ?r1ta
        refine Tm 2 ?p2ta ?v2ta hHeld ?r2ta
        refine Tk 3 ?p3ta ?v3ta ?y3ta hHeld ?r3ta
        case y3ta => intro wq hq; obtain ⟨q0, q1, q2⟩ := HS9.out wq hq; go_simp; try with_reducible rfl
        refine Tm 4 ?p4ta ?v4ta hHeld ?r4ta
        refine Tk 5 ?p5ta ?v5ta ?y5ta hHeld ?r5ta
        case y5ta => intro wq hq; obtain ⟨q0, q1, q2⟩ := HS9.out wq hq; go_simp; try with_reducible rfl
        refine Tm 6 ?p6ta ?v6ta hHeld ?r6ta
        refine Tk 7 ?p7ta ?v7ta ?y7ta hHeld ?r7ta
        case y7ta => intro wq hq; obtain ⟨q0, q1, q2⟩ := HS9.out wq hq; go_simp; try with_reducible rfl
        refine Tm 8 ?p8ta ?v8ta hHeld ?r8ta
        simp only [Act.put, Pa, Pb, Pc]
        refine Rd 9 ?p9ta ?s9ta
        obtain ⟨w9, hput, hr9, hq9⟩ := HP.out _ HB8.out
        have HQ := Hid_of hq9
        clear hq9
        intro K hK
        go_simp
        refine hK.out _ _ hr9 (fun hHeld => ?_)
        clear hK K
        refine wpAnyH_done (by kernel_rfl) ?_ _
        go_wp2
        go_ret
        exact HQ.out
    | true =>
      by_cases h0 : r < 0
      · have d2 : decide (r < 0) = true := decide_eq_true h0
        rw [hg] at j0
        go_wp2_with fail
        refine (cp _).mono ?_
        rintro e w6 ⟨rfl, hb6⟩
        clear cp j0 j1 j2 j3 z0 z1 z2 z3
        have HLb := Hid_of (HLb.out.keep hb6)
        have HFb := Hid_of (HFb.out.trans (Fr.ofBelow hb6))
        have HVb := Hid_of (bel_row HVb.out hb6)
        have HHb := Hid_of (bel_row HHb.out hb6)
        have HGb := Hid_of (bel_row HGb.out hb6)
        clear hb6
        have hgq := HGb.out
        obtain ⟨⟨k0, k1, k2, k3⟩, -⟩ := row4 HHb.out
        obtain ⟨g', o', eg, e0, e1, e2, e3⟩ := (at_roww HGb.out).getW i HIR.out
        cases eg
        rw [Nat.zero_add] at e0 e1 e2 e3
        have f0 := frozen_of_row w6 g (i * 4) _ _ HGb.out
        have f1 := frozen_of_row w6 g (i * 4 + 1) _ _ HGb.out
        have f2 := frozen_of_row w6 g (i * 4 + 2) _ _ HGb.out
        have f3 := frozen_of_row w6 g (i * 4 + 3) _ _ HGb.out
        obtain ⟨wt, hwt⟩ : ∃ wt, putO w6 g (i * 4) (.bool true) (.int .i64 x.b.i) (.int .i64 x.b.t) (.string x.v) = wt := ⟨_, rfl⟩
        have hst := set_roww i HIR.out (M.hh x) HGb.out
        rw [show putO w6 g (i * 4) (.bool (M.hh x).g) (.int .i64 (M.hh x).b.i) (.int .i64 (M.hh x).b.t) (.string (M.hh x).v) = wt from hwt] at hst
        have hLL : L = R.set i (M.hh x) := by rw [HHL.out]; simp [h0]
        rw [← hLL] at hst
        have hoth : ∀ j, j ≠ g → wt.heap[j]? = w6.heap[j]? := fun j hj => by rw [← hwt]; exact putO_oth hj _ _ _ _
        have hsame : wt.os = w6.os ∧ wt.tape = w6.tape ∧ wt.output = w6.output ∧ w6.heap.size ≤ wt.heap.size := by rw [← hwt]; exact ⟨rfl, rfl, rfl, by simp [putO]⟩
        obtain ⟨hT, hFt⟩ := HLb.out.rowed HGF.out (l := L) (by rw [HRW.out.1, HRW.out.2, HLn.out]) hst hsame.2.2.2 hsame.1 hsame.2.1 hsame.2.2.1 (fun j _ hj => hoth j hj)
        have HT := Hid_of hT
        have HFt := Hid_of (HFb.out.trans hFt)
        have HH8 := Hid_of ((hoth bz hNB.out.2.1).trans HHb.out)
        have HV := Hid_of ((hoth gv hNB.out.2.2).trans HVb.out)
        have HGt := Hid_of hst
        have HWT := Hid_of hwt
        clear hwt hst hLL hoth hsame hT hFt hgq
        clear hg h0
        unfold putO at HWT
        go_upto_region 8 with fail
        rw [HWT.out]
        clear HWT e0 e1 e2 e3 f0 f1 f2 f3 k0 k1 k2 k3
        obtain ⟨⟨k0, k1, k2, k3⟩, -⟩ := row4 HH8.out
        have ca := agreed_any HT.out OK2.out (some ⟨g, 0, none⟩) nn L (M.hh x) (at_roww HGt.out) (by rw [HN2.out, HLn.out, HNN.out])
        rw [HN2.out, HLn.out] at ca
        cases hag : M.hag s.n L (M.hh x) with
        | false =>
          rw [hag] at ca
          have HQ : Hid (∀ w', Below wt.heap.size wt w' → HrOut w base b m s f (i : Int) x (.returned (.bool false)) w') := fun w' hb => ⟨f', by rw [HYb.out, hag], by rw [HYn.out hag]; exact HT.out.keep hb, HFt.out.trans (Fr.ofBelow hb)⟩
          clear hag
          go_wp2_with fail
          refine ca.mono ?_
          rintro e w8 ⟨rfl, hb8⟩
          have HB8 := Hid_of hb8
          clear hb8 ca
          go_wp2
          go_ret
          exact HQ.out _ HB8.out
        | true =>
          rw [hag] at ca
          have HP : Hid (∀ w8, Below wt.heap.size wt w8 → ∃ w9, (Instr.mapUpdate 98 (.map (some m)) (.int .i64 x.s) (.agg #[.bool true, .string x.v, .slice none 0 0])).run Try.prog w8.drew = .ok () w9 ∧ (fun wq : World => wq.heap[b]? = some (.cells #[.int .i64 s.n, .int .i64 s.base, .map (some m)] 100 (0, 0)) ∧ wq.heap[gv]? = some (.cells #[.int .i64 x.s, .int .i64 x.b.i, .int .i64 x.b.t, .string x.v] 84 (0, 0)) ∧ wq.heap[bz]? = some (.cells #[.bool true, .int .i64 x.b.i, .int .i64 x.b.t, .string x.v] 140 (0, 0))) w9 ∧ HrOut w base b m s f (i : Int) x (.returned (.bool true)) w9) := by
            intro w8 hb8
            have h8 : LI w8.drew base b m (M.sv (M.rws s x.s) x.s L) f' := HT.out.keep hb8.drew
            have hc2 := HC2.out
            obtain ⟨w9, hrun, hmi, hmt⟩ := h8.mi.put x.s HK.out ⟨true, x.v, none⟩ (by show (M.rws s x.s).c < maxLen; unfold maxLen; omega)
            obtain ⟨g1, g2⟩ := h8.tell hmi hmt
            have e8 : w8.drew.heap[gv]? = some (.cells #[.int .i64 x.s, .int .i64 x.b.i, .int .i64 x.b.t, .string x.v] 84 (0, 0)) := bel_row HV.out hb8.drew
            have e9 : w8.drew.heap[bz]? = some (.cells #[.bool true, .int .i64 x.b.i, .int .i64 x.b.t, .string x.v] 140 (0, 0)) := bel_row HH8.out hb8.drew
            have e7 := g1.row
            rw [show (M.tl (M.sv (M.rws s x.s) x.s L) x.s x.v).n = s.n from HN2.out, show (M.tl (M.sv (M.rws s x.s) x.s L) x.s x.v).base = s.base from HN3.out] at e7
            exact ⟨w9, hrun, ⟨e7, (hmt.block gv (h8.mi.ne e8)).trans e8, (hmt.block bz (h8.mi.ne e9)).trans e9⟩, ⟨_, by rw [HYb.out, hag], by rw [HYy.out hag]; exact g1, (HFt.out.trans (Fr.ofBelow hb8.drew)).trans g2⟩⟩
          have HS9 : Hid (∀ wq, (fun wq : World => wq.heap[b]? = some (.cells #[.int .i64 s.n, .int .i64 s.base, .map (some m)] 100 (0, 0)) ∧ wq.heap[gv]? = some (.cells #[.int .i64 x.s, .int .i64 x.b.i, .int .i64 x.b.t, .string x.v] 84 (0, 0)) ∧ wq.heap[bz]? = some (.cells #[.bool true, .int .i64 x.b.i, .int .i64 x.b.t, .string x.v] 140 (0, 0))) wq → wq.cell? ⟨b, 2, none⟩ = some (.map (some m)) ∧ wq.cell? ⟨gv, 0, none⟩ = some (.int .i64 x.s) ∧ wq.cell? ⟨bz, 3, none⟩ = some (.string x.v)) := fun wq hq => ⟨(row3 hq.1).1.2.2, (row4 hq.2.1).1.1, (row4 hq.2.2).1.2.2.2⟩
          clear hag k0 k1 k2 k3
          obtain ⟨⟨k0, k1, k2, k3⟩, -⟩ := row4 HH8.out
          go_wp2_with fail
          refine ca.mono ?_
          rintro e w8 ⟨rfl, hb8⟩
          have HB8 := Hid_of hb8
          have HI8 : Hid ((fun wq : World => wq.heap[b]? = some (.cells #[.int .i64 s.n, .int .i64 s.base, .map (some m)] 100 (0, 0)) ∧ wq.heap[gv]? = some (.cells #[.int .i64 x.s, .int .i64 x.b.i, .int .i64 x.b.t, .string x.v] 84 (0, 0)) ∧ wq.heap[bz]? = some (.cells #[.bool true, .int .i64 x.b.i, .int .i64 x.b.t, .string x.v] 140 (0, 0))) w8.drew) := by
            refine Hid_of ⟨?_, bel_row HV.out hb8.drew, bel_row HH8.out hb8.drew⟩
            have e7 := (HT.out.keep hb8.drew).row
            rw [show (M.sv (M.rws s x.s) x.s L).n = s.n from HN2.out, show (M.sv (M.rws s x.s) x.s L).base = s.base from HN3.out] at e7
            exact e7
          clear hb8 ca k0 k1 k2 k3
          go_wp2_with fail
          refine wp_region_held_drew (S := fun wq : World => wq.heap[b]? = some (.cells #[.int .i64 s.n, .int .i64 s.base, .map (some m)] 100 (0, 0)) ∧ wq.heap[gv]? = some (.cells #[.int .i64 x.s, .int .i64 x.b.i, .int .i64 x.b.t, .string x.v] 84 (0, 0)) ∧ wq.heap[bz]? = some (.cells #[.bool true, .int .i64 x.b.i, .int .i64 x.b.t, .string x.v] 140 (0, 0))) (by kernel_rfl) HI8.out (fun hHeld => ?_)
          refine Tm 0 ?p0tb ?v0tb hHeld ?r0tb
          refine Tm 1 ?p1tb ?v1tb hHeld ?r1tb
          refine Tm 2 ?p2tb ?v2tb hHeld ?r2tb
          refine Tk 3 ?p3tb ?v3tb ?y3tb hHeld ?r3tb
          case y3tb => intro wq hq; obtain ⟨q0, q1, q2⟩ := HS9.out wq hq; go_simp; try with_reducible rfl
          refine Tm 4 ?p4tb ?v4tb hHeld ?r4tb
          refine Tk 5 ?p5tb ?v5tb ?y5tb hHeld ?r5tb
          case y5tb => intro wq hq; obtain ⟨q0, q1, q2⟩ := HS9.out wq hq; go_simp; try with_reducible rfl
          refine Tm 6 ?p6tb ?v6tb hHeld ?r6tb
          refine Tk 7 ?p7tb ?v7tb ?y7tb hHeld ?r7tb
          case y7tb => intro wq hq; obtain ⟨q0, q1, q2⟩ := HS9.out wq hq; go_simp; try with_reducible rfl
          refine Tm 8 ?p8tb ?v8tb hHeld ?r8tb
          simp only [Act.put, Pa, Pb, Pc]
          refine Rd 9 ?p9tb ?s9tb
          obtain ⟨w9, hput, hr9, hq9⟩ := HP.out _ HB8.out
          have HQ := Hid_of hq9
          clear hq9
          intro K hK
          go_simp
          refine hK.out _ _ hr9 (fun hHeld => ?_)
          clear hK K
          refine wpAnyH_done (by kernel_rfl) ?_ _
          go_wp2
          go_ret
          exact HQ.out
      · have d2 : decide (r < 0) = false := decide_eq_false h0
        rw [hg] at j0
        have hLL : L = R := by rw [HHL.out]; simp [hg, h0]
        go_wp2_with fail
        refine (cp _).mono ?_
        rintro e w6 ⟨rfl, hb6⟩
        clear cp j0 j1 j2 j3 z0 z1 z2 z3
        have HLb := Hid_of (HLb.out.keep hb6)
        have HFb := Hid_of (HFb.out.trans (Fr.ofBelow hb6))
        have HVb := Hid_of (bel_row HVb.out hb6)
        have HHb := Hid_of (bel_row HHb.out hb6)
        have HGb := Hid_of (bel_row HGb.out hb6)
        clear hb6
        obtain ⟨wt, hwt⟩ : ∃ wt, wt = w6 := ⟨_, rfl⟩
        have HT : Hid (LI w6 base b m (M.sv (M.rws s x.s) x.s L) f') := Hid_of (by rw [hLL, ← HRW.out.1, sv_self]; exact HLb.out)
        have HFt := HFb
        have HH8 := HHb
        have HV := HVb
        have HGt : Hid (w6.heap[g]? = some (.cells (wl.cells L).toArray 140 (0, 0))) := Hid_of (by rw [hLL]; exact HGb.out)
        clear hwt wt hLL hg h0
        go_upto_region 8 with fail
        obtain ⟨⟨k0, k1, k2, k3⟩, -⟩ := row4 HH8.out
        have ca := agreed_any HT.out OK2.out (some ⟨g, 0, none⟩) nn L (M.hh x) (at_roww HGt.out) (by rw [HN2.out, HLn.out, HNN.out])
        rw [HN2.out, HLn.out] at ca
        cases hag : M.hag s.n L (M.hh x) with
        | false =>
          rw [hag] at ca
          have HQ : Hid (∀ w', Below w6.heap.size w6 w' → HrOut w base b m s f (i : Int) x (.returned (.bool false)) w') := fun w' hb => ⟨f', by rw [HYb.out, hag], by rw [HYn.out hag]; exact HT.out.keep hb, HFt.out.trans (Fr.ofBelow hb)⟩
          clear hag
          go_wp2_with fail
          refine ca.mono ?_
          rintro e w8 ⟨rfl, hb8⟩
          have HB8 := Hid_of hb8
          clear hb8 ca
          go_wp2
          go_ret
          exact HQ.out _ HB8.out
        | true =>
          rw [hag] at ca
          have HP : Hid (∀ w8, Below w6.heap.size w6 w8 → ∃ w9, (Instr.mapUpdate 98 (.map (some m)) (.int .i64 x.s) (.agg #[.bool true, .string x.v, .slice none 0 0])).run Try.prog w8.drew = .ok () w9 ∧ (fun wq : World => wq.heap[b]? = some (.cells #[.int .i64 s.n, .int .i64 s.base, .map (some m)] 100 (0, 0)) ∧ wq.heap[gv]? = some (.cells #[.int .i64 x.s, .int .i64 x.b.i, .int .i64 x.b.t, .string x.v] 84 (0, 0)) ∧ wq.heap[bz]? = some (.cells #[.bool true, .int .i64 x.b.i, .int .i64 x.b.t, .string x.v] 140 (0, 0))) w9 ∧ HrOut w base b m s f (i : Int) x (.returned (.bool true)) w9) := by
            intro w8 hb8
            have h8 : LI w8.drew base b m (M.sv (M.rws s x.s) x.s L) f' := HT.out.keep hb8.drew
            have hc2 := HC2.out
            obtain ⟨w9, hrun, hmi, hmt⟩ := h8.mi.put x.s HK.out ⟨true, x.v, none⟩ (by show (M.rws s x.s).c < maxLen; unfold maxLen; omega)
            obtain ⟨g1, g2⟩ := h8.tell hmi hmt
            have e8 : w8.drew.heap[gv]? = some (.cells #[.int .i64 x.s, .int .i64 x.b.i, .int .i64 x.b.t, .string x.v] 84 (0, 0)) := bel_row HV.out hb8.drew
            have e9 : w8.drew.heap[bz]? = some (.cells #[.bool true, .int .i64 x.b.i, .int .i64 x.b.t, .string x.v] 140 (0, 0)) := bel_row HH8.out hb8.drew
            have e7 := g1.row
            rw [show (M.tl (M.sv (M.rws s x.s) x.s L) x.s x.v).n = s.n from HN2.out, show (M.tl (M.sv (M.rws s x.s) x.s L) x.s x.v).base = s.base from HN3.out] at e7
            exact ⟨w9, hrun, ⟨e7, (hmt.block gv (h8.mi.ne e8)).trans e8, (hmt.block bz (h8.mi.ne e9)).trans e9⟩, ⟨_, by rw [HYb.out, hag], by rw [HYy.out hag]; exact g1, (HFt.out.trans (Fr.ofBelow hb8.drew)).trans g2⟩⟩
          have HS9 : Hid (∀ wq, (fun wq : World => wq.heap[b]? = some (.cells #[.int .i64 s.n, .int .i64 s.base, .map (some m)] 100 (0, 0)) ∧ wq.heap[gv]? = some (.cells #[.int .i64 x.s, .int .i64 x.b.i, .int .i64 x.b.t, .string x.v] 84 (0, 0)) ∧ wq.heap[bz]? = some (.cells #[.bool true, .int .i64 x.b.i, .int .i64 x.b.t, .string x.v] 140 (0, 0))) wq → wq.cell? ⟨b, 2, none⟩ = some (.map (some m)) ∧ wq.cell? ⟨gv, 0, none⟩ = some (.int .i64 x.s) ∧ wq.cell? ⟨bz, 3, none⟩ = some (.string x.v)) := fun wq hq => ⟨(row3 hq.1).1.2.2, (row4 hq.2.1).1.1, (row4 hq.2.2).1.2.2.2⟩
          clear hag k0 k1 k2 k3
          obtain ⟨⟨k0, k1, k2, k3⟩, -⟩ := row4 HH8.out
          go_wp2_with fail
          refine ca.mono ?_
          rintro e w8 ⟨rfl, hb8⟩
          have HB8 := Hid_of hb8
          have HI8 : Hid ((fun wq : World => wq.heap[b]? = some (.cells #[.int .i64 s.n, .int .i64 s.base, .map (some m)] 100 (0, 0)) ∧ wq.heap[gv]? = some (.cells #[.int .i64 x.s, .int .i64 x.b.i, .int .i64 x.b.t, .string x.v] 84 (0, 0)) ∧ wq.heap[bz]? = some (.cells #[.bool true, .int .i64 x.b.i, .int .i64 x.b.t, .string x.v] 140 (0, 0))) w8.drew) := by
            refine Hid_of ⟨?_, bel_row HV.out hb8.drew, bel_row HH8.out hb8.drew⟩
            have e7 := (HT.out.keep hb8.drew).row
            rw [show (M.sv (M.rws s x.s) x.s L).n = s.n from HN2.out, show (M.sv (M.rws s x.s) x.s L).base = s.base from HN3.out] at e7
            exact e7
          clear hb8 ca k0 k1 k2 k3
          go_wp2_with fail
          refine wp_region_held_drew (S := fun wq : World => wq.heap[b]? = some (.cells #[.int .i64 s.n, .int .i64 s.base, .map (some m)] 100 (0, 0)) ∧ wq.heap[gv]? = some (.cells #[.int .i64 x.s, .int .i64 x.b.i, .int .i64 x.b.t, .string x.v] 84 (0, 0)) ∧ wq.heap[bz]? = some (.cells #[.bool true, .int .i64 x.b.i, .int .i64 x.b.t, .string x.v] 140 (0, 0))) (by kernel_rfl) HI8.out (fun hHeld => ?_)
          refine Tm 0 ?p0tc ?v0tc hHeld ?r0tc
          refine Tm 1 ?p1tc ?v1tc hHeld ?r1tc
          refine Tm 2 ?p2tc ?v2tc hHeld ?r2tc
          refine Tk 3 ?p3tc ?v3tc ?y3tc hHeld ?r3tc
          case y3tc => intro wq hq; obtain ⟨q0, q1, q2⟩ := HS9.out wq hq; go_simp; try with_reducible rfl
          refine Tm 4 ?p4tc ?v4tc hHeld ?r4tc
          refine Tk 5 ?p5tc ?v5tc ?y5tc hHeld ?r5tc
          case y5tc => intro wq hq; obtain ⟨q0, q1, q2⟩ := HS9.out wq hq; go_simp; try with_reducible rfl
          refine Tm 6 ?p6tc ?v6tc hHeld ?r6tc
          refine Tk 7 ?p7tc ?v7tc ?y7tc hHeld ?r7tc
          case y7tc => intro wq hq; obtain ⟨q0, q1, q2⟩ := HS9.out wq hq; go_simp; try with_reducible rfl
          refine Tm 8 ?p8tc ?v8tc hHeld ?r8tc
          simp only [Act.put, Pa, Pb, Pc]
          refine Rd 9 ?p9tc ?s9tc
          obtain ⟨w9, hput, hr9, hq9⟩ := HP.out _ HB8.out
          have HQ := Hid_of hq9
          clear hq9
          intro K hK
          go_simp
          refine hK.out _ _ hr9 (fun hHeld => ?_)
          clear hK K
          refine wpAnyH_done (by kernel_rfl) ?_ _
          go_wp2
          go_ret
          exact HQ.out
theorem hear_any (h : LI w base b m s f) (ok : M.Ok s) (fr : Int) (x : V) (hk : (Lit.int .i64 x.s).wf = true) (hc : s.c ≤ 900000) : Calls Try.prog 73 #[.pointer (some ⟨b, 0, none⟩), .int .i64 fr, vV x] w (HrOut w base b m s f fr x) := by
  cases hy : M.hok s fr x with
  | false => exact hear_no h fr x hk hy
  | true =>
    obtain ⟨p0, _, _, _⟩ := M.hok_yes hy
    obtain ⟨i, rfl⟩ : ∃ i : Nat, fr = (i : Int) := ⟨fr.toNat, by omega⟩
    exact hear_yes h ok i x hk hc hy
end
end Go.Proofs.Ytgodnpngdbelhaa.Nl
