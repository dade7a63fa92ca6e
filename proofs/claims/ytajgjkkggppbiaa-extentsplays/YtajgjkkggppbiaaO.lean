/-
  Bytes put in the place of others.
-/
import Derived.Test.YtajgjkkggppbiaaN
import Derived.Test.YtajgjkkggppbiaaL
import Derived.Deep.CutRange
namespace Go.Proofs.Ytajgjkkggppbiaa
open Go.RowKit
set_option linter.unusedVariables false
open M (E)

/-- A row that grows, piece by piece: what it is, and what it will be. -/
structure Gr (base : Nat) (w0 wr : World) (v : Value) (L rest final : List E) : Prop where
  own : Own wr base v L
  bel : Below base w0 wr
  adds : M.Adds L rest
  fin : rest.foldl M.addp L = final
  nil : L = [] → v = .slice none 0 0
theorem Gr.len {base : Nat} {w0 wr : World} {v : Value} {L rest final : List E} (h : Gr base w0 wr v L rest final) : L.length ≤ 20000 := by have := M.G_len h.adds.g; omega
theorem Gr.keep {base : Nat} {w0 wr w1 : World} {v : Value} {L rest final : List E} (h : Gr base w0 wr v L rest final) (hb : Below wr.heap.size wr w1) (hB : base ≤ w0.heap.size) : Gr base w0 w1 v L rest final :=
  ⟨h.own.keep hb, bel_up h.bel hb hB, h.adds, h.fin, h.nil⟩
theorem Gr.step {base : Nat} {w0 wr w1 : World} {v v1 : Value} {L rest final : List E} {e : E} (h : Gr base w0 wr v L (e :: rest) final) (hB : base ≤ w0.heap.size) (ho : Own w1 base v1 (M.addp L e)) (hr : Rw wr v w1 v1) (hn : M.addp L e = [] → v1 = v) : Gr base w0 w1 v1 (M.addp L e) rest final := by
  refine ⟨ho, h.bel.trans (hr.below (fun k hk => (h.own.lt k hk).1) (Nat.le_trans hB h.bel.size)), h.adds.step, h.fin, fun e0 => ?_⟩
  have hL : L = [] := by
    by_cases hn1 : e.n < 1
    · rw [M.addp_none L e hn1] at e0; exact e0
    · rcases List.eq_nil_or_concat L with rfl | ⟨d, p, rfl⟩
      · rfl
      · exfalso
        rw [List.concat_eq_append] at e0
        by_cases hf : M.Fol p e
        · rw [M.addp_fol d p e (by omega) hf] at e0; simp at e0
        · rw [M.addp_new d p e (by omega) hf] at e0; simp at e0
  rw [hn e0, h.nil hL]
/-- The call of add at a row that grows. -/
theorem Gr.call {base : Nat} {w0 wr : World} {v : Value} {L rest final : List E} {e : E} (h : Gr base w0 wr v L (e :: rest) final) (hB : base ≤ w0.heap.size) (he : Sm e.n) :
    Calls Try.prog 36 #[v, EV e] wr fun x w1 => ∃ v1, x = .returned v1 ∧ Gr base w0 w1 v1 (M.addp L e) rest final :=
  (add_any base v L e wr (Nat.le_trans hB h.bel.size) h.own h.len (sm_of_G h.adds.g) he).mono fun x w1 ⟨v1, hx, ho, hr, hn⟩ => ⟨v1, hx, h.step hB ho hr hn⟩
theorem sm_part {p : E} (h : M.Ok p) {lo hi : Int} (hl : -274877906944 ≤ lo ∧ lo ≤ 274877906944) (hh : -274877906944 ≤ hi ∧ hi ≤ 274877906944) : Sm (M.part p lo hi).n := by
  obtain ⟨h1, h2, h3, _⟩ := h
  unfold Sm
  simp only [M.part]
  omega
theorem drop_cons {l : List E} {k : Nat} (h : k < l.length) (f : E → E) : (l.drop k).map f = f l[k] :: (l.drop (k + 1)).map f := by rw [List.drop_eq_getElem_cons h]; rfl

def LayOut (w : World) (base b : Nat) (v : Value) (F : Int → Option (Int × Int)) (x : Ending) (w' : World) : Prop := x = .returned (.tuple #[]) ∧ ∃ v' P', XI w' base b v' P' ∧ (∀ i, M.rep P' i = F i) ∧ Ch w b v w' v'
set_option maxRecDepth 100000 in
set_option maxHeartbeats 8000000 in
theorem lay_any (base b : Nat) (v : Value) (P : List E) (lo hi : Int) (e : E) (w : World) (h : XI w base b v P) (hbw : base ≤ w.heap.size) (h0 : 0 ≤ lo) (h1 : lo ≤ hi) (h2 : hi ≤ 16384) (he : M.Fits e lo hi) (hes : SmE e) :
    Calls Try.prog 34 #[.pointer (some ⟨b, 0, none⟩), .int .i64 lo, .int .i64 hi, EV e] w (LayOut w base b v fun i => if lo ≤ i ∧ i < hi then M.rep [e] i else M.rep P i) := by
  obtain ⟨a, cap, hv, hat, hbk, hcap⟩ := owns_atE h.own
  have hG := h.g
  have hlen := h.len
  have hsl : Sm lo := ⟨by omega, by omega⟩
  have hsh : Sm hi := ⟨by omega, by omega⟩
  have hw1 : IntKind.i64.wrap (hi + 1) = hi + 1 := by rw [IntKind.wrap_i64]; omega
  obtain ⟨W1, HW1⟩ : ∃ W1, Hid (w.alloc (.cells #[.int .i64 e.a, .int .i64 e.n, .int .i64 e.d, .int .i64 e.f] 32) = W1) := ⟨_, rfl⟩
  have HB1 : Hid (Below w.heap.size w W1) := by rw [← HW1.out]; exact bel1 w _
  have HE : Hid (∀ w', Below (w.heap.size + 1) W1 w' → w'.cell? ⟨w.heap.size, 0, none⟩ = some (.int .i64 e.a) ∧ w'.cell? ⟨w.heap.size, 1, none⟩ = some (.int .i64 e.n) ∧ w'.cell? ⟨w.heap.size, 2, none⟩ = some (.int .i64 e.d) ∧ w'.cell? ⟨w.heap.size, 3, none⟩ = some (.int .i64 e.f)) := by
    intro w' hb'
    exact row4 ((hb'.block _ (by omega)).trans (by rw [← HW1.out]; exact heap_alloc_last w _))
  have hs1 : W1.heap.size = w.heap.size + 1 := by rw [← HW1.out]; simp
  have X1 := h.keep HB1.out
  have hat1 := hat.keep HB1.out
  have s1 := search_ending a cap P lo W1 hlen hat1 (sm_of_G hG) (mono_kE hG)
  have c1 := X1.c0
  rw [hv] at c1
  have HX : Hid (∀ w', Below W1.heap.size W1 w' → XI w' base b (.slice a P.length cap) P) := fun w' hb' => by rw [← hv]; exact X1.keep hb'
  have HAT : Hid (∀ w', Below W1.heap.size W1 w' → AtE w' a P) := fun w' hb' => hat1.keep hb'
  have hEV : EV e = .agg #[.int .i64 e.a, .int .i64 e.n, .int .i64 e.d, .int .i64 e.f] := rfl
  rw [hEV]
  have c1' := c1
  rw [← HW1.out] at c1'
  go_enter Try.func34, Try.ntmps34
  go_wp2_with fail
  rw [HW1.out]
  refine s1.mono ?_
  rintro x w2 h2'
  obtain ⟨r1, rfl, S1, B2⟩ := h2'
  have c2 := (HX.out w2 B2).c0
  have s2 := search_beginning a cap P (hi + 1) w2 hlen (HAT.out w2 B2) (sm_of_G hG) (mono_kB hG)
  clear c1 c1' s1 hat1 X1
  go_wp2_with fail
  refine s2.mono ?_
  rintro x w3 h3'
  obtain ⟨r2, rfl, S2, B3'⟩ := h3'
  have B3 : Below W1.heap.size W1 w3 := bel_up B2 B3' (Nat.le_refl _)
  have X3 := HX.out w3 B3
  have c3 := X3.c0
  have hat3 := HAT.out w3 B3
  have hr12 : r1 ≤ r2 := srch_le hG S1 S2 (by omega)
  have hr2 := S2.le
  obtain ⟨near, hnear⟩ : ∃ near, near = mid P r1 r2 := ⟨_, rfl⟩
  have hnl : near.length = r2 - r1 := by rw [hnear]; exact mid_len P r1 r2 hr2
  have hcmx : cap ≤ 9223372036854775807 := by
    rcases X3.own.row with ⟨hq, _⟩ | ⟨g, cp, cur, hq, _, hr⟩
    · simp at hq; omega
    · simp at hq; have := hr.mx; unfold maxLen at this; omega
  have HF : Hid (∃ g, a = none ∧ P.length = 0 ∧ cap = 0 ∨ a = some ⟨g, 0, none⟩) := by
    rcases X3.own.row with ⟨hq, hp⟩ | ⟨g, cp, cur, hq, _, hr⟩
    · simp at hq; exact ⟨0, .inl ⟨hq.1, by rw [hp]; rfl, hq.2.2⟩⟩
    · simp at hq; exact ⟨g, .inr hq.1⟩
  clear s2 B2 B3' c2
  go_upto_region 3 with fail
  go_cut [10] from 29 to 35 (fun s wx => wx = w3 ∧ ∃ a' cp, s = .slice a' near.length cp ∧ AtE w3 a' near)
  case first =>
    obtain ⟨g, ⟨rfl, hp0, rfl⟩ | rfl⟩ := HF.out
    · have hr10 : r1 = 0 := by omega
      have hr20 : r2 = 0 := by omega
      have hn0 : near = [] := List.eq_nil_of_length_eq_zero (by omega)
      clear HF HX HAT HE HB1 HW1 hnear hnl S1 S2 hat3 X3 B3 hat hbk h hG he hes hv
      subst hr10 hr20 hn0
      go_wp2_with fail
      go_meet
      case rel => exact ⟨rfl, none, 0, rfl, fun j h => by simp at h⟩
    · by_cases hc : cap = r1
      · have hn0 : near = [] := List.eq_nil_of_length_eq_zero (by omega)
        have hr1l : r2 = r1 := by omega
        clear HF HX HAT HE HB1 HW1 hnear hnl S1 S2 hat3 X3 B3 hat hbk h hG he hes hv
        subst hn0 hr1l
        go_wp2_with fail
        go_meet
        case rel => exact ⟨rfl, _, _, rfl, fun j h => by simp at h⟩
      · have hm : AtE w3 (some ⟨g, r1 * 4, none⟩) near := by rw [hnear]; exact hat3.mid (cap := cap) r1 r2 hr2
        have HM : Hid _ := hm
        have HNL : Hid (near.length = r2 - r1) := hnl
        have hr2c : r2 ≤ cap := by omega
        clear HF HX HAT HE HB1 HW1 hnear hnl S1 S2 hat3 X3 B3 hat hbk h hG he hes hv hm
        go_wp2_with fail
        go_meet
        case rel => exact ⟨rfl, some ⟨g, r1 * 4, none⟩, _, by rw [HNL.out], HM.out⟩
  case rest =>
    obtain ⟨rfl, a', cp', rfl, hatn⟩ := hcut
    have hGn : M.G near := by
      have := hG
      rw [← mid_parts P r1 r2 hr12, ← hnear] at this
      exact (M.G_app.1 (M.G_app.1 this).1).2.1
    have hnl2 : near.length ≤ 16384 := M.G_len hGn
    have had := M.lays_adds hGn h0 h1 he
    obtain ⟨final, hfin⟩ : ∃ final, (M.lays near lo hi e).foldl M.addp [] = final := ⟨_, rfl⟩
    have hg0 : Gr wc.heap.size wc wc (.slice none 0 0) [] (near.map (M.part · 0 lo) ++ ([e] ++ near.map (M.part · hi 16384))) final := ⟨World.ownsRow_nil _ _ _ _, Below.refl _ _, had, hfin, fun _ => rfl⟩
    have HOK : Hid (∀ p ∈ near, M.Ok p) := hGn.1
    have hs0 : Sm 0 := ⟨by omega, by omega⟩
    have hs16 : Sm 16384 := ⟨by omega, by omega⟩
    have HFIN : Hid ((M.lays near lo hi e).foldl M.addp [] = final) := hfin
    have HG1 : Hid (Gr wc.heap.size wc wc (.slice none 0 0) [] (near.map (M.part · 0 lo) ++ ([e] ++ near.map (M.part · hi 16384))) final) := hg0
    have HAN : Hid (AtE wc a' near) := hatn
    have HNE : Hid (near = mid P r1 r2) := hnear
    have HHE : Hid (M.Fits e lo hi) := he
    have HGG : Hid (M.G P) := hG
    have HS1 : Hid (Srch kE P lo r1) := S1
    have HS2 : Hid (Srch kB P (hi + 1) r2) := S2
    have HX3 : Hid (XI wc base b (.slice a P.length cap) P) := X3
    have HES : Hid (SmE e) := hes
    have HB3 : Hid (Below W1.heap.size W1 wc) := B3
    have HH : Hid (XI w base b v P) := h
    have HV : Hid (v = .slice a P.length cap) := hv
    clear hg0 hfin had hGn hatn hnear he hG S1 S2 X3 hes B3 h hv HF HX HAT HW1 hat hbk hat3 c3 hnl
    go_wp2
    go_loopw [11, 38] (fun x i wr => ∃ (k : Nat) (L : List E), k ≤ near.length ∧ i = .int .i64 k ∧ Gr wc.heap.size wc wr x L ((near.drop k).map (M.part · 0 lo) ++ ([e] ++ near.map (M.part · hi 16384))) final) (fun x i _ => near.length - (intOf i).toNat)
    case atStart => exact ⟨0, [], by omega, rfl, HG1.out⟩
    case round =>
      obtain ⟨k, L, hk, rfl, hgr⟩ := hrel
      clear HG1
      by_cases hlt : k < near.length
      · obtain ⟨bb, off, rfl, d0, d1, d2, d3⟩ := (HAN.out.keep hgr.bel) k hlt
        have hok := HOK.out near[k] (List.getElem_mem hlt)
        rw [drop_cons hlt, List.cons_append] at hgr
        have hsm := sm_of_ok hok
        have hpt := part_any near[k].a near[k].n near[k].d near[k].f 0 lo (wr.alloc (.cells #[.int .i64 near[k].a, .int .i64 near[k].n, .int .i64 near[k].d, .int .i64 near[k].f] 32)) hsm.1 hsm.2.1 hsm.2.2 hs0 hsl
        have HSN : Hid (Sm (M.part near[k] 0 lo).n) := sm_part hok ⟨by omega, by omega⟩ ⟨by omega, by omega⟩
        have HEQ : Hid (EV (M.part ⟨near[k].a, near[k].n, near[k].d, near[k].f⟩ 0 lo) = EV (M.part near[k] 0 lo)) := rfl
        rw [HEQ.out] at hpt
        have HGR : Hid (Gr wc.heap.size wc wr u11 L (M.part near[k] 0 lo :: ((near.drop (k + 1)).map (M.part · 0 lo) ++ ([e] ++ near.map (M.part · hi 16384)))) final) := hgr
        clear hok hsm HEQ hgr
        generalize M.part near[k] 0 lo = pt at *
        generalize near[k].a = pa at *
        generalize near[k].n = pn at *
        generalize near[k].d = pd at *
        generalize near[k].f = pf at *
        go_wp2_with fail
        refine hpt.mono ?_
        rintro x w4 ⟨rfl, hb4⟩
        have hg4 := (HGR.out.keep (bel1 wr _) (Nat.le_refl _)).keep hb4 (Nat.le_refl _)
        have hca := hg4.call (Nat.le_refl _) HSN.out
        clear hpt d0 d1 d2 d3 HGR hb4 hg4
        go_wp2_with fail
        refine hca.mono ?_
        rintro x w5 ⟨v5, rfl, hg5⟩
        have HG5 : Hid _ := hg5
        clear hg5 hca
        go_wp2
        go_roundw
        case rel => exact ⟨k + 1, _, by omega, by go_num, HG5.out⟩
        case measure => simp [intOf]; omega
      · have hkn : k = near.length := by omega
        subst hkn
        rw [List.drop_length, List.map_nil, List.nil_append, List.cons_append, List.nil_append] at hgr
        have hwcW : W1.heap.size ≤ wc.heap.size := HB3.out.size
        obtain ⟨d0, d1, d2, d3⟩ := HE.out wr (by
          have := HB3.out.trans (hgr.bel.mono hwcW)
          rw [hs1] at this
          exact this)
        have hca := hgr.call (Nat.le_refl _) HES.out.2.1
        rw [hEV] at hca
        clear hgr HE
        go_wp2_with fail
        refine hca.mono ?_
        rintro x w5 ⟨v5, rfl, hg5⟩
        have HG5 : Hid (Gr wc.heap.size wc w5 v5 (M.addp L e) ((near.drop 0).map (M.part · hi 16384)) final) := hg5
        generalize M.addp L e = L5 at *
        clear hca hg5 d0 d1 d2 d3
        go_wp2
        go_loopw [11, 53] (fun x i wr => ∃ (k : Nat) (L : List E), k ≤ near.length ∧ i = .int .i64 k ∧ Gr wc.heap.size wc wr x L ((near.drop k).map (M.part · hi 16384)) final) (fun x i _ => near.length - (intOf i).toNat)
        case atStart => exact ⟨0, L5, by omega, rfl, HG5.out⟩
        case round =>
          obtain ⟨k, L, hk, rfl, hgr⟩ := hrel
          clear HG5
          by_cases hlt : k < near.length
          · obtain ⟨bb, off, rfl, d0, d1, d2, d3⟩ := (HAN.out.keep hgr.bel) k hlt
            have hok := HOK.out near[k] (List.getElem_mem hlt)
            rw [drop_cons hlt] at hgr
            have hsm := sm_of_ok hok
            have hpt := part_any near[k].a near[k].n near[k].d near[k].f hi 16384 (wr.alloc (.cells #[.int .i64 near[k].a, .int .i64 near[k].n, .int .i64 near[k].d, .int .i64 near[k].f] 32)) hsm.1 hsm.2.1 hsm.2.2 hsh hs16
            have HSN : Hid (Sm (M.part near[k] hi 16384).n) := sm_part hok ⟨by omega, by omega⟩ ⟨by omega, by omega⟩
            have HEQ : Hid (EV (M.part ⟨near[k].a, near[k].n, near[k].d, near[k].f⟩ hi 16384) = EV (M.part near[k] hi 16384)) := rfl
            rw [HEQ.out] at hpt
            have HGR : Hid (Gr wc.heap.size wc wr u11 L (M.part near[k] hi 16384 :: ((near.drop (k + 1)).map (M.part · hi 16384))) final) := hgr
            clear hok hsm HEQ hgr
            generalize M.part near[k] hi 16384 = pt at *
            generalize near[k].a = pa at *
            generalize near[k].n = pn at *
            generalize near[k].d = pd at *
            generalize near[k].f = pf at *
            go_wp2_with fail
            refine hpt.mono ?_
            rintro x w4 ⟨rfl, hb4⟩
            have hg4 := (HGR.out.keep (bel1 wr _) (Nat.le_refl _)).keep hb4 (Nat.le_refl _)
            have hca := hg4.call (Nat.le_refl _) HSN.out
            clear hpt d0 d1 d2 d3 HGR hb4 hg4
            go_wp2_with fail
            refine hca.mono ?_
            rintro x w5 ⟨v5, rfl, hg5⟩
            have HG5 : Hid _ := hg5
            clear hg5 hca
            go_wp2
            go_roundw
            case rel => exact ⟨k + 1, _, by omega, by go_num, HG5.out⟩
            case measure => simp [intOf]; omega
          · have hkn : k = near.length := by omega
            subst hkn
            rw [List.drop_length, List.map_nil] at hgr
            have hLf : L = final := hgr.fin
            subst hLf
            have hX := HX3.out.keep hgr.bel
            have hc0 := hX.c0
            have hfr := hX.free 0
            have hGl := M.G_len hgr.adds.g
            have harg : Arg wr (.slice a P.length cap) u11 L := by
              rcases hgr.own.row with ⟨hq, hp⟩ | ⟨g, cp, cur, hq, hgb, hr⟩
              · exact .inl ⟨hq, hp⟩
              · by_cases hL0 : L = []
                · exact .inl ⟨hgr.nil hL0, hL0⟩
                · refine .inr ⟨g, cp, cur, hq, hr, fun e => ?_, List.length_pos_iff.2 hL0⟩
                  have := (HX3.out.own.lt g e).2
                  omega
            have hrep := replace_any (w := wr) (base := base) (v := .slice a P.length cap) (u := u11) (P := P) (Q := L) r1 r2 (by have := hgr.bel.size; have := HB3.out.size; omega) hX.own harg hr12 hr2 (by omega) (by omega)
            have HB4 : Hid (Below wc.heap.size wc wr) := hgr.bel
            have HXr : Hid (XI wr base b (.slice a P.length cap) P) := hX
            clear hgr hX harg HAN HOK
            have HLS : Hid _ := M.lay_spec (A := P.take r1) (near := mid P r1 r2) (D := P.drop r2) (lo := lo) (hi := hi) (e := e) (by rw [mid_parts P r1 r2 hr12]; exact HGG.out) h0 h1 h2 HHE.out (fun p hp => srch_take HS1.out p hp) (fun p hp => by have := srch_drop HS2.out p hp; unfold kB at this; omega)
            rw [mid_parts P r1 r2 hr12, ← HNE.out, HFIN.out] at HLS
            go_wp2_with fail
            refine hrep.mono ?_
            rintro x w6 hx6
            obtain ⟨v6, rfl, o6, rw6⟩ := hx6
            obtain ⟨a6, cp6, rfl, _, _, _⟩ := owns_atE o6
            obtain ⟨hc6, hf6⟩ := HXr.out.c1 rw6
            obtain ⟨X7, C7⟩ := HXr.out.put rw6 o6 HLS.out.1
            have HK : Hid (LayOut w base b v (fun i => if lo ≤ i ∧ i < hi then M.rep [e] i else M.rep P i) (.returned (.tuple #[])) (w6.setCell ⟨b, 0, none⟩ (.slice a6 (P.take r1 ++ L ++ P.drop r2).length cp6))) := by
              refine ⟨rfl, _, _, X7, HLS.out.2, ?_⟩
              rw [HV.out]
              have hB : Below w.heap.size w wr := by
                have b1 := HB1.out
                have b2 := bel_up b1 HB3.out (Nat.le_refl _)
                exact bel_up b2 HB4.out (Nat.le_refl _)
              exact (Ch.ofBelow hB).trans C7
            clear o6 rw6 X7 C7 hrep HLS HXr
            generalize (P.take r1 ++ L ++ P.drop r2).length = nn at *
            go_wp2
            go_end0
            exact HK.out
end Go.Proofs.Ytajgjkkggppbiaa
