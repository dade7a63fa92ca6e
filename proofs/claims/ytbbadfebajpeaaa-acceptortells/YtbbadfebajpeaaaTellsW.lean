/-
  The law AcceptorTells, walked.
-/
import Derived.Test.YtbbadfebajpeaaaPD
import Derived.Test.YtbbadfebajpeaaaME
namespace Go.Proofs.Ytbbadfebajpeaaa
open Go.RowKit
set_option linter.unusedVariables false
open M (E V)

theorem fr_put4 (w : World) (g : Nat) (a b c d : Value) : Fr w (fun j => j = g) (put4 w g a b c d) (fun j => j = g) := by
  have hg : (fun j => j = g) g := rfl
  exact fr_set (F := fun j => j = g) (fr_set (F := fun j => j = g) (fr_set (F := fun j => j = g) (fr_set (F := fun j => j = g) (Fr.refl w fun j => j = g) hg 0 a) hg 1 b) hg 2 c) hg 3 d
/-- Is a vote among them? -/
def anyv (l : List V) (v : V) : Bool := l.any fun y => veq y.s y.b.i y.b.t y.v v.s v.b.i v.b.t v.v
theorem anyv_snoc (l : List V) (v : V) (q : Nat) (hq : q < l.length) : anyv (l.take (q + 1)) v = (anyv (l.take q) v || veq l[q].s l[q].b.i l[q].b.t l[q].v v.s v.b.i v.b.t v.v) := by
  rw [List.take_succ_eq_append_getElem hq]
  unfold anyv
  rw [List.any_append]
  simp
theorem anyv_tl {s : M.S} {v : V} {g : Bool} (h : M.Tl s v g) (ok : M.Ok s) : anyv s.l v = !g := by
  cases g with
  | false =>
    unfold anyv
    exact List.any_eq_true.2 ⟨v, h.no rfl, veq_refl _ _ _ _⟩
  | true =>
    unfold anyv
    rw [Bool.not_true, List.any_eq_false]
    intro y hy
    have h1 := h.yes rfl
    have h2 := ok.lo y hy
    rw [veq_slot (by omega)]
    simp
set_option maxRecDepth 100000 in
set_option maxHeartbeats 8000000 in
theorem tells_walk (v : V) (ad : Option Addr) (cap : Nat) (l : List D) (y : E) (w : World) (hv : v.v.size ≤ maxLen) (hm : l.length ≤ maxLen) (hat : AtL dl w ad l) (hok : ∀ d ∈ l, d.v.v.size ≤ maxLen) :
    Calls Try.prog 5 #[vV v, .slice ad l.length cap, bV y] w fun e w' => e = .returned (.bool true) ∧ Below w.heap.size w w' := by
  obtain ⟨W1, HW1⟩ : ∃ W1, Hid ((w.alloc (.cells #[.int .i64 v.s, .int .i64 v.b.i, .int .i64 v.b.t, .string v.v] 33)).alloc (.cells #[.int .i64 y.i, .int .i64 y.t] 28) = W1) := ⟨_, Hid_of rfl⟩
  have hb1 : Below w.heap.size w W1 := by rw [← HW1.out]; exact bel2 w _ _
  have hs1 : W1.heap.size = w.heap.size + 2 := by rw [← HW1.out]; simp
  have hr1 : W1.heap[w.heap.size]? = some (.cells #[.int .i64 v.s, .int .i64 v.b.i, .int .i64 v.b.t, .string v.v] 33 (0, 0)) := by rw [← HW1.out]; exact heap_alloc2_old w _ _
  have hr2 : W1.heap[w.heap.size + 1]? = some (.cells #[.int .i64 y.i, .int .i64 y.t] 28 (0, 0)) := by rw [← HW1.out]; exact heap_alloc2_new w _ _
  have hfew := few_any ad cap l W1 hm (hat.keep hb1) hok
  have HAT := Hid_of hat
  have HB1 := Hid_of hb1
  have HR1 := Hid_of hr1
  have HR2 := Hid_of hr2
  have HS1 := Hid_of hs1
  have hvz : v.v.size ≤ 9223372036854775807 := by unfold maxLen at hv; omega
  obtain ⟨⟨z0, z1, z2, z3⟩, _⟩ := row4 hr1
  clear hat hok hm hb1 hs1 hr1 hr2 hv
  go_enter Try.func5, Try.ntmps5
  go_upto_region 1 with fail
  rw [HW1.out]
  clear HW1
  go_wp2_with fail
  refine hfew.mono ?_
  rintro e w0 ⟨b0, rfl, hb0, hw0⟩
  obtain rfl := hw0
  clear hfew
  cases b0 with
  | false =>
    have HBB := HB1
    go_wp2_with fail
    refine (awake_any _).mono ?_
    rintro e w9 ⟨rfl, b9⟩
    have HB9 := Hid_of (bel_up HBB.out b9 (Nat.le_refl _))
    clear b9
    go_wp2
    go_ret
    exact ⟨rfl, HB9.out⟩
  | true =>
    obtain ⟨hl60, hsz⟩ := hb0 rfl
    clear hb0 hsz
    by_cases h5 : 5000 < v.v.size
    · have HBB := HB1
      have d5 : decide ((5000 : Int) < (v.v.size : Int)) = true := decide_eq_true (by omega)
      go_wp2_with fail
      refine (awake_any _).mono ?_
      rintro e w9 ⟨rfl, b9⟩
      have HB9 := Hid_of (bel_up HBB.out b9 (Nat.le_refl _))
      clear b9
      go_wp2
      go_ret
      exact ⟨rfl, HB9.out⟩
    · have d5 : decide ((5000 : Int) < (v.v.size : Int)) = false := decide_eq_false (by omega)
      have hnw := newA_any w w0 HB1.out
      go_wp2_with fail
      refine hnw.mono ?_
      rintro e w1 ⟨b, F1, rfl, S1, hb1, hF1⟩
      have B1 : BX w1 F1 w.heap.size (.cells #[.int .i64 v.s, .int .i64 v.b.i, .int .i64 v.b.t, .string v.v] 33 (0, 0)) := ⟨bel_row HR1.out hb1, fun e => by have := hF1 _ e; have := HS1.out; omega⟩
      have C1 : BX w1 F1 (w.heap.size + 1) (.cells #[.int .i64 y.i, .int .i64 y.t] 28 (0, 0)) := ⟨bel_row HR2.out hb1, fun e => by have := hF1 _ e; have := HS1.out; omega⟩
      obtain ⟨⟨q0, q1, q2, q3⟩, _⟩ := row4 B1.row
      have hc := S1.accept v
      have HBx := Hid_of B1
      have HCx := Hid_of C1
      clear hnw S1 hb1 hF1 B1 C1 z0 z1 z2 z3 HR1 HR2
      go_wp2_with fail
      refine hc.mono ?_
      rintro e w2 ⟨F2, rfl, S2, Q2⟩
      have HB2 := Hid_of (HBx.out.step Q2)
      have HC2 := Hid_of (HCx.out.step Q2)
      clear hc Q2 HBx HCx q0 q1 q2 q3
      cases hab : M.acb M.S0 v with
      | false =>
        rw [M.acs_no hab] at S2
        have hvt := S2.votes 0
        rw [S2.ok.all, show M.S0.l = [] from rfl] at hvt
        have HSB := Hid_of S2.bel
        clear S2
        go_wp2_with fail
        refine hvt.mono ?_
        rintro e w3 ⟨ad3, cp3, rfl, _, _, hb3⟩
        have HBB := Hid_of (bel_up HSB.out hb3 (Nat.le_refl _))
        clear hb3 hvt
        go_wp2_with fail
        refine (awake_any _).mono ?_
        rintro e w9 ⟨rfl, b9⟩
        have HB9 := Hid_of (bel_up HBB.out b9 (Nat.le_refl _))
        clear b9
        go_wp2
        go_ret
        exact ⟨rfl, HB9.out⟩
      | true =>
        have HT0 := Hid_of (M.tl_new hab)
        have HS2 := Hid_of S2
        clear hab S2
        go_wp2
        go_loopw [8, 9] (fun gv i wr => ∃ (k : Nat) (F : Nat → Prop) (s : M.S) (v : V) (g : Bool), k ≤ l.length ∧ gv = .bool g ∧ i = .int .i64 k ∧ AS w wr F b s ∧ BX wr F w.heap.size (.cells #[.int .i64 v.s, .int .i64 v.b.i, .int .i64 v.b.t, .string v.v] 33 (0, 0)) ∧ BX wr F (w.heap.size + 1) (.cells #[.int .i64 y.i, .int .i64 y.t] 28 (0, 0)) ∧ M.Tl s v g) (fun gv i _ => l.length - (intOf i).toNat)
        case atStart => exact ⟨0, F2, _, v, false, Nat.zero_le _, rfl, rfl, HS2.out, HB2.out, HC2.out, HT0.out⟩
        case round =>
          clear hvz h5 d5
          obtain ⟨k, F, s, v, g, hk, rfl, rfl, hS, hB, hC, hT⟩ := hrel
          by_cases hlt : k < l.length
          · obtain ⟨g0, off, rfl, c0, c1, c2, c3, c4⟩ := (HAT.out.keep hS.bel).getD k hlt
            obtain ⟨W2, HW2⟩ : ∃ W2, Hid (wr.alloc (.cells #[.int .i64 l[k].v.s, .int .i64 l[k].v.b.i, .int .i64 l[k].v.b.t, .string l[k].v.v] 33) = W2) := ⟨_, Hid_of rfl⟩
            have hb2 : Below wr.heap.size wr W2 := by rw [← HW2.out]; exact bel1 wr _
            have hx2 : W2.heap[wr.heap.size]? = some (.cells #[.int .i64 l[k].v.s, .int .i64 l[k].v.b.i, .int .i64 l[k].v.b.t, .string l[k].v.v] 33 (0, 0)) := by rw [← HW2.out]; exact heap_alloc_last wr _
            have HX : Hid (BX W2 F wr.heap.size _) := ⟨hx2, fun e => by have := (hS.mine _ e).2; omega⟩
            have HS := Hid_of (hS.keep hb2)
            have HB := Hid_of (hB.up hb2)
            have HC := Hid_of (hC.up hb2)
            have hdk : W2.cell? ⟨g0, off + k * 5, none⟩ = some (.int .i64 l[k].k) := (World.cell?_of_block (w := wr) (a := ⟨g0, off + k * 5, none⟩) (hb2.block g0 (World.block_lt_of_cell? wr _ c0))).trans c0
            have HTL := Hid_of hT
            clear hS hB hC hT hb2 hx2
            generalize l[k].v = x at *
            generalize l[k].k = dk at *
            obtain ⟨⟨y0, y1, y2, y3⟩, _⟩ := row4 HX.out.row
            go_upto_region 11 with fail
            rw [HW2.out]
            clear HW2 c0 c1 c2 c3 c4
            by_cases hk0 : dk = 0
            · subst hk0
              have hc := HS.out.promise x.b x.s
              go_wp2_with fail
              refine hc.mono ?_
              rintro e w5 ⟨ad5, cp5, rfl, _, _, S5, Q5⟩
              have HB5 := Hid_of (HB.out.step Q5)
              have HX5 := Hid_of (HX.out.step Q5)
              have HC5 := Hid_of (HC.out.step Q5)
              have HS5 := Hid_of S5
              clear hc Q5 S5 HS HX HC HB
              go_wp2
              go_roundw
              case rel => exact ⟨k + 1, F, _, v, g, by omega, rfl, by go_num, HS5.out, HB5.out, HC5.out, M.tl_pr HTL.out _ _⟩
              case measure => simp [intOf]; omega
            · by_cases hk1 : dk = 1
              · subst hk1
                have hc := HS.out.accept x
                have HTN := Hid_of (M.tl_ac (x := x) HTL.out)
                go_wp2_with fail
                refine hc.mono ?_
                rintro e w5 ⟨F5, rfl, S5, Q5⟩
                have HB5 := Hid_of (HB.out.step Q5)
                have HX5 := Hid_of (HX.out.step Q5)
                have HC5 := Hid_of (HC.out.step Q5)
                have HS5 := Hid_of S5
                clear hc Q5 S5 HS HX HC HB
                obtain ⟨⟨y0, y1, y2, y3⟩, yf⟩ := row4 HB5.out.row
                obtain ⟨⟨x0, x1, x2, x3⟩, _⟩ := row4 HX5.out.row
                have f0 := yf 0
                have f1 := yf 1
                have f2 := yf 2
                have f3 := yf 3
                clear yf
                cases hab : M.acb s x with
                | true =>
                  by_cases hxs : x.s = v.s
                  · have HT1 : Hid (M.Tl (M.acs s x) x g) := by have h := HTN.out; rw [hab, if_pos ⟨rfl, hxs⟩] at h; exact h
                    have hQ : Fr w5 (fun j => j = w.heap.size) (put4 w5 w.heap.size (.int .i64 x.s) (.int .i64 x.b.i) (.int .i64 x.b.t) (.string x.v)) (fun j => j = w.heap.size) := fr_put4 _ _ _ _ _ _
                    have HS6 := Hid_of (HS5.out.step hQ (fun j hj e => HB5.out.ap (by rw [← e]; exact hj)) (fun j e => by omega)).1
                    have HB6 : Hid (BX (put4 w5 w.heap.size (.int .i64 x.s) (.int .i64 x.b.i) (.int .i64 x.b.t) (.string x.v)) F5 w.heap.size (.cells #[.int .i64 x.s, .int .i64 x.b.i, .int .i64 x.b.t, .string x.v] 33 (0, 0))) := ⟨put4_row HB5.out.row _ _ _ _, HB5.out.ap⟩
                    have HC6 : Hid (BX (put4 w5 w.heap.size (.int .i64 x.s) (.int .i64 x.b.i) (.int .i64 x.b.t) (.string x.v)) F5 (w.heap.size + 1) (.cells #[.int .i64 y.i, .int .i64 y.t] 28 (0, 0))) := ⟨(put4_oth (by omega) _ _ _ _).trans HC5.out.row, HC5.out.ap⟩
                    clear HTN hab HS5 HB5 HC5 hQ HX5
                    have hxs' : (x.s == v.s) = true := by simpa using hxs
                    clear hxs
                    go_wp2
                    go_roundw
                    case rel => exact ⟨k + 1, F5, _, x, g, by omega, rfl, by go_num, HS6.out, HB6.out, HC6.out, HT1.out⟩
                    case measure => simp [intOf]; omega
                  · have HT1 : Hid (M.Tl (M.acs s x) v g) := by have h := HTN.out; rw [hab, if_neg (fun h => hxs h.2)] at h; exact h
                    have hxs' : (x.s == v.s) = false := by simpa using hxs
                    clear HTN hab
                    go_wp2
                    go_roundw
                    case rel => exact ⟨k + 1, F5, _, v, g, by omega, rfl, by go_num, HS5.out, HB5.out, HC5.out, HT1.out⟩
                    case measure => simp [intOf]; omega
                | false =>
                  have HT1 : Hid (M.Tl (M.acs s x) v g) := by have h := HTN.out; rw [hab, if_neg (by simp)] at h; exact h
                  clear HTN hab
                  go_wp2
                  go_roundw
                  case rel => exact ⟨k + 1, F5, _, v, g, by omega, rfl, by go_num, HS5.out, HB5.out, HC5.out, HT1.out⟩
                  case measure => simp [intOf]; omega
              · by_cases hk2 : dk = 2
                · subst hk2
                  have hc := HS.out.trim x.s
                  go_wp2_with fail
                  refine hc.mono ?_
                  rintro e w5 ⟨F5, rfl, S5, Q5⟩
                  have HB5 := Hid_of (HB.out.step Q5)
                  have HX5 := Hid_of (HX.out.step Q5)
                  have HC5 := Hid_of (HC.out.step Q5)
                  have HS5 := Hid_of S5
                  clear hc Q5 S5 HS HX HC HB
                  have HTN := Hid_of (M.tl_tr HTL.out x.s)
                  obtain ⟨⟨y0, y1, y2, y3⟩, _⟩ := row4 HB5.out.row
                  obtain ⟨⟨x0, x1, x2, x3⟩, _⟩ := row4 HX5.out.row
                  cases g with
                  | true =>
                    go_wp2
                    go_roundw
                    case rel => exact ⟨k + 1, F5, _, v, _, by omega, rfl, by go_num, HS5.out, HB5.out, HC5.out, HTN.out⟩
                    case measure => simp [intOf]; omega
                  | false =>
                    by_cases hgt : v.s < x.s
                    · have dgt : decide (v.s < x.s) = true := decide_eq_true hgt
                      rw [dgt] at HTN
                      clear hgt
                      go_wp2
                      go_roundw
                      case rel => exact ⟨k + 1, F5, _, v, _, by omega, rfl, by go_num, HS5.out, HB5.out, HC5.out, HTN.out⟩
                      case measure => simp [intOf]; omega
                    · have dgt : decide (v.s < x.s) = false := decide_eq_false hgt
                      rw [dgt] at HTN
                      clear hgt
                      go_wp2
                      go_roundw
                      case rel => exact ⟨k + 1, F5, _, v, _, by omega, rfl, by go_num, HS5.out, HB5.out, HC5.out, HTN.out⟩
                      case measure => simp [intOf]; omega
                · have e0 : (dk == 0) = false := by simpa using hk0
                  have e1 : (dk == 1) = false := by simpa using hk1
                  have e2 : (dk == 2) = false := by simpa using hk2
                  have HS5 := HS
                  have HB5 := HB
                  have HC5 := HC
                  clear HS HB HC HX
                  go_wp2
                  go_roundw
                  case rel => exact ⟨k + 1, F, _, v, g, by omega, rfl, by go_num, HS5.out, HB5.out, HC5.out, HTL.out⟩
                  case measure => simp [intOf]; omega
          · obtain rfl : k = l.length := by omega
            have HC := Hid_of hC
            have HT := Hid_of hT
            have HVB := Hid_of hB
            have HSd : Hid (AS w wr.drew F b s) := hS.keep (Below.drew (Below.refl _ _))
            have HCd : Hid (BX wr.drew F (w.heap.size + 1) (.cells #[.int .i64 y.i, .int .i64 y.t] 28 (0, 0))) := hC.up (Below.drew (Below.refl _ _))
            have HVd : Hid (BX wr.drew F w.heap.size (.cells #[.int .i64 v.s, .int .i64 v.b.i, .int .i64 v.b.t, .string v.v] 33 (0, 0))) := hB.up (Below.drew (Below.refl _ _))
            have HBS := Hid_of HSd.out.base
            have HPR := Hid_of (HSd.out.promise y s.base)
            have HI := Hid_of (row2 HCd.out.row).1
            have HM := Hid_of HSd.out.mine
            clear hS hB hC hT HC HVB
            have HC := HCd
            go_wp2_with fail
            refine wp_region_held_drew (S := fun wq => wq.cell? ⟨w.heap.size + 1, 0, none⟩ = some (.int .i64 y.i) ∧ wq.cell? ⟨w.heap.size + 1, 1, none⟩ = some (.int .i64 y.t)) (by kernel_rfl) HI.out (fun hHeld => ?_)
            refine wpAnyH_take (i := 0) (oi := ?p0z) (v := ?v0z) ?o0z (by kernel_rfl) (by kernel_rfl) (by kernel_rfl) ?q0z ?y0z hHeld ?r0z
            case o0z => simp only [List.getElem?_toArray, List.getElem?_cons_zero]; rfl
            case q0z => exact fun _ _ _ h => h
            case y0z => (refine Or.inl ⟨rfl, ?_⟩; intro wq hq; obtain ⟨y0, y1⟩ := hq; go_simp; try with_reducible rfl)
            simp only [Act.put, List.setIfInBounds_toArray, List.set_cons_zero, List.set_cons_succ]
            refine wpAnyH_take (i := 1) (oi := ?p1z) (v := ?v1z) ?o1z (by kernel_rfl) (by kernel_rfl) (by kernel_rfl) ?q1z ?y1z hHeld ?r1z
            case o1z => simp only [List.getElem?_toArray, List.getElem?_cons_succ, List.getElem?_cons_zero]; rfl
            case q1z => exact fun _ _ _ h => h
            case y1z => (refine Or.inl ⟨rfl, ?_⟩; intro wq hq; obtain ⟨y0, y1⟩ := hq; go_simp; try with_reducible rfl)
            simp only [Act.put, List.setIfInBounds_toArray, List.set_cons_zero, List.set_cons_succ]
            refine wpAnyH_take (i := 2) (oi := ?p2z) (v := ?v2z) ?o2z (by kernel_rfl) (by kernel_rfl) (by kernel_rfl) ?q2z ?y2z hHeld ?r2z
            case o2z => simp only [List.getElem?_toArray, List.getElem?_cons_succ, List.getElem?_cons_zero]; rfl
            case q2z => exact fun _ _ _ h => h
            case y2z => (refine Or.inl ⟨rfl, ?_⟩; intro wq hq; obtain ⟨y0, y1⟩ := hq; go_simp; try with_reducible rfl)
            simp only [Act.put, List.setIfInBounds_toArray, List.set_cons_zero, List.set_cons_succ]
            refine wpAnyH_ready (rs := [3]) (by kernel_rfl) (by simp) ?_
            refine AllReadyH.cons (o := ?p3z) ?o3z ?s3z AllReadyH.nil
            case o3z => simp only [List.getElem?_toArray, List.getElem?_cons_succ, List.getElem?_cons_zero]; rfl
            intro K hK
            go_simp
            refine HBS.out.mono ?_
            rintro e v3 ⟨rfl, rfl⟩
            refine hK.out _ _ hHeld (fun hHeld => ?_)
            clear hK K
            refine wpAnyH_ready (rs := [4]) (by kernel_rfl) (by simp) ?_
            refine AllReadyH.cons (o := ?p4z) ?o4z ?s4z AllReadyH.nil
            case o4z => simp only [List.getElem?_toArray, List.getElem?_cons_succ, List.getElem?_cons_zero]; rfl
            intro K hK
            go_simp
            refine HPR.out.mono ?_
            rintro e w8 ⟨ad8, cp8, rfl, hxl8, hbk8, S8, Q8⟩
            have S20 := (row2 ((HC.out.step Q8).row)).1
            refine hK.out _ _ S20 (fun hHeld => ?_)
            clear hK K
            refine wpAnyH_take (i := 5) (oi := ?p5z) (v := ?v5z) ?o5z (by kernel_rfl) (by kernel_rfl) (by kernel_rfl) ?q5z ?y5z hHeld ?r5z
            case o5z => simp only [List.getElem?_toArray, List.getElem?_cons_succ, List.getElem?_cons_zero]; rfl
            case q5z => exact fun _ _ _ h => h
            case y5z => (refine Or.inl ⟨rfl, ?_⟩; intro wq hq; obtain ⟨y0, y1⟩ := hq; go_simp; try with_reducible rfl)
            simp only [Act.put, List.setIfInBounds_toArray, List.set_cons_zero, List.set_cons_succ]
            refine wpAnyH_take (i := 6) (oi := ?p6z) (v := ?v6z) ?o6z (by kernel_rfl) (by kernel_rfl) (by kernel_rfl) ?q6z ?y6z hHeld ?r6z
            case o6z => simp only [List.getElem?_toArray, List.getElem?_cons_succ, List.getElem?_cons_zero]; rfl
            case q6z => exact fun _ _ _ h => h
            case y6z => (refine Or.inl ⟨rfl, ?_⟩; intro wq hq; obtain ⟨y0, y1⟩ := hq; go_simp; try with_reducible rfl)
            simp only [Act.put, List.setIfInBounds_toArray, List.set_cons_zero, List.set_cons_succ]
            refine wpAnyH_take (i := 7) (oi := ?p7z) (v := ?v7z) ?o7z (by kernel_rfl) (by kernel_rfl) (by kernel_rfl) ?q7z ?y7z hHeld ?r7z
            case o7z => simp only [List.getElem?_toArray, List.getElem?_cons_succ, List.getElem?_cons_zero]; rfl
            case q7z => exact fun _ _ _ h => h
            case y7z => (refine Or.inl ⟨rfl, ?_⟩; intro wq hq; obtain ⟨y0, y1⟩ := hq; go_simp; try with_reducible rfl)
            simp only [Act.put, List.setIfInBounds_toArray, List.set_cons_zero, List.set_cons_succ]
            refine wpAnyH_take (i := 8) (oi := ?p8z) (v := ?v8z) ?o8z (by kernel_rfl) (by kernel_rfl) (by kernel_rfl) ?q8z ?y8z hHeld ?r8z
            case o8z => simp only [List.getElem?_toArray, List.getElem?_cons_succ, List.getElem?_cons_zero]; rfl
            case q8z => exact fun _ _ _ h => h
            case y8z => (refine Or.inl ⟨rfl, ?_⟩; intro wq hq; obtain ⟨y0, y1⟩ := hq; go_simp; try with_reducible rfl)
            simp only [Act.put, List.setIfInBounds_toArray, List.set_cons_zero, List.set_cons_succ]
            refine wpAnyH_take (i := 9) (oi := ?p9z) (v := ?v9z) ?o9z (by kernel_rfl) (by kernel_rfl) (by kernel_rfl) ?q9z ?y9z hHeld ?r9z
            case o9z => simp only [List.getElem?_toArray, List.getElem?_cons_succ, List.getElem?_cons_zero]; rfl
            case q9z => exact fun _ _ _ h => h
            case y9z => (refine Or.inl ⟨rfl, ?_⟩; intro wq hq; obtain ⟨y0, y1⟩ := hq; go_simp; try with_reducible rfl)
            simp only [Act.put, List.setIfInBounds_toArray, List.set_cons_zero, List.set_cons_succ]
            refine wpAnyH_done (by kernel_rfl) ?_ _
            have HV8 := Hid_of (HVd.out.step Q8)
            have HX8 := Hid_of hxl8
            have HB8 := Hid_of S8.bel
            have HOK8 := Hid_of HSd.out.ok
            clear hxl8 hbk8 S8 Q8 hHeld S20 HBS HPR HI HM HC HCd HVd
            cases hpb : M.prb s y s.base with
            | false =>
              have HBB := HB8
              go_wp2_with fail
              refine (awake_any _).mono ?_
              rintro e w9 ⟨rfl, b9⟩
              have HB9 := Hid_of (bel_up HBB.out b9 (Nat.le_refl _))
              clear b9
              go_wp2
              go_ret
              exact ⟨rfl, HB9.out⟩
            | true =>
              have hpl : M.prl s y s.base = s.l := by unfold M.prl; rw [hpb, if_pos rfl, HOK8.out.alb]
              rw [hpl] at HX8
              rw [hpl]
              have hln : s.l.length ≤ 1024 := HOK8.out.len
              have HAN := Hid_of (anyv_tl HT.out HOK8.out)
              obtain ⟨⟨u0, u1, u2, u3⟩, _⟩ := row4 HV8.out.row
              clear hpl hpb
              go_wp2
              go_loopw [13, 14] (fun tv i wr => ∃ q : Nat, q ≤ s.l.length ∧ tv = .bool (anyv (s.l.take q) v) ∧ i = .int .i64 q ∧ Below w8.heap.size w8 wr) (fun tv i _ => s.l.length - (intOf i).toNat)
              case atStart => exact ⟨0, Nat.zero_le _, rfl, rfl, Below.refl _ _⟩
              case round =>
                obtain ⟨q, hq, rfl, rfl, hbq⟩ := hrel
                by_cases hlq : q < s.l.length
                · obtain ⟨g1, o1, rfl, d0, d1, d2, d3⟩ := (HX8.out.at'.keep hbq).getV q hlq
                  obtain ⟨⟨t0, t1, t2, t3⟩, _⟩ := row4 (HV8.out.up hbq).row
                  have hqi : (q : Int) < (s.l.length : Int) := by omega
                  have HSN := Hid_of (anyv_snoc s.l v q hlq)
                  have hql := fun W => ql33 s.l[q].s s.l[q].b.i s.l[q].b.t s.l[q].v v.s v.b.i v.b.t v.v W
                  have HBq : Hid (∀ n, Below w8.heap.size w8 (wr.drewN n)) := fun n => below_drewN hbq n
                  clear hbq u0 u1 u2 u3
                  generalize veq s.l[q].s s.l[q].b.i s.l[q].b.t s.l[q].v v.s v.b.i v.b.t v.v = eq at *
                  generalize s.l[q].s = x0 at *
                  generalize s.l[q].b.i = x1 at *
                  generalize s.l[q].b.t = x2 at *
                  generalize s.l[q].v = x3 at *
                  cases hav : anyv (s.l.take q) v with
                  | true =>
                    have HSN' : Hid (anyv (s.l.take (q + 1)) v = true) := by rw [HSN.out, hav]; rfl
                    clear HSN hav
                    go_wp2_with fail
                    go_quiet (fail)
                    go_wp2
                    go_roundw
                    case rel => exact ⟨q + 1, by omega, by rw [HSN'.out], by go_num, HBq.out _⟩
                    case measure => simp [intOf]; omega
                  | false =>
                    have HSN' : Hid (anyv (s.l.take (q + 1)) v = eq) := by rw [HSN.out, hav]; rfl
                    clear HSN hav
                    go_wp2_with fail
                    go_quiet (fail)
                    go_wp2
                    go_roundw
                    case rel => exact ⟨q + 1, by omega, by rw [HSN'.out], by go_num, HBq.out _⟩
                    case measure => simp [intOf]; omega
                · obtain rfl : q = s.l.length := by omega
                  have hfin : anyv (s.l.take s.l.length) v = !g := by rw [List.take_length]; exact HAN.out
                  rw [hfin]
                  have HBB := Hid_of (bel_up HB8.out hbq (Nat.le_refl _))
                  clear hfin hbq
                  cases g with
                  | true =>
                    go_wp2_with fail
                    refine (awake_any _).mono ?_
                    rintro e w9 ⟨rfl, b9⟩
                    have HB9 := Hid_of (bel_up HBB.out b9 (Nat.le_refl _))
                    clear b9
                    go_wp2
                    go_ret
                    exact ⟨rfl, HB9.out⟩
                  | false =>
                    go_wp2_with fail
                    refine (awake_any _).mono ?_
                    rintro e w9 ⟨rfl, b9⟩
                    have HB9 := Hid_of (bel_up HBB.out b9 (Nat.le_refl _))
                    clear b9
                    go_wp2
                    go_ret
                    exact ⟨rfl, HB9.out⟩
end Go.Proofs.Ytbbadfebajpeaaa
