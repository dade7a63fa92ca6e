/-
  A proposer fills what others voted for.
-/
import Derived.Test.YtgodnpngdbelhaaG08
namespace Go.Proofs.Ytgodnpngdbelhaa.Np
open Go.RowKit Go.Maps
set_option linter.unusedVariables false
open Go.Proofs.Ytgodnpngdbelhaa.M (E V)
open Go.Proofs.Ytgodnpngdbelhaa.Np.M (fup)

theorem val_get (o : Option V) : (o.getD zo).v = M.val o := by cases o <;> rfl
theorem field84 (a b c : Int) (v : ByteArray) (w : World) : (Instr.field 84 (.agg #[.int .i64 a, .int .i64 b, .int .i64 c, .string v]) 2).run Try.prog w = .ok (.string v) w := by kernel_rfl
/-- One more, appended. -/
theorem app1 {w : World} {base : Nat} {v : Value} {l : List V} (x : V) (ho : OwnL vl 84 w base v l) (hb : base ≤ w.heap.size) (hl : l.length + 1 ≤ 1000000) :
    ∃ a' c' w', (∀ ty, (Builtin.append_ #[61, 61] ty #[v, .slice (some ⟨w.heap.size, 0, none⟩) 1 1]).run Try.prog (w.alloc (.cells #[.int .i64 x.s, .int .i64 x.b.i, .int .i64 x.b.t, .string x.v] 84)) = .ok (.slice a' (l.length + 1) c') w') ∧ OwnL vl 84 w' base (.slice a' (l.length + 1) c') (l ++ [x]) ∧ Rw w v w' (.slice a' (l.length + 1) c') := by
  obtain ⟨a', c', w4, hrun, ho4, hr4⟩ := run_appL_ty tiV (w.alloc (.cells #[.int .i64 x.s, .int .i64 x.b.i, .int .i64 x.b.t, .string x.v] 84)) base v l [x] w.heap.size 0 1 1 (ho.keep (bel1 w _)) (atL_one (t := 84) (heap_alloc_last w _)) rfl (by simp; omega) (by simp; omega)
  exact ⟨a', c', w4, hrun, ho4, (Rw.ofBelow _ (bel1 w _)).trans hr4⟩
/-- What Fill leaves. -/
def FlOut (w : World) (base b : Nat) (mv : Option Nat) (s : M.S) (e : Ending) (w' : World) : Prop := ∃ mv' u, e = .returned u ∧ OwnL vl 84 w' w.heap.size u (M.flo s) ∧ PI w' base b mv' (M.fls s) ∧ Fr w (fpp b mv) w' (fpp b mv')
section
variable {w : World} {base b : Nat} {mv : Option Nat} {s : M.S}
set_option maxRecDepth 100000 in
set_option maxHeartbeats 1000000 in
theorem fill_any (h : PI w base b mv s) (ok : M.Ok s) : Calls Try.prog 84 #[.pointer (some ⟨b, 0, none⟩)] w (FlOut w base b mv s) := by
  obtain ⟨⟨c0, c1, c2, c3, c4, c5, c6, c7, c8, c9, c10, c11, c12, c13, c14, c15⟩, cf⟩ := row16 h.row
  have HP := Hid_of h
  have HOK := Hid_of ok
  by_cases h0 : s.st = 2
  · have d0 : (s.st != 2) = false := by simpa using h0
    have HO : Hid (M.flo s = M.fl s (s.fin - s.ask).toNat) := Hid_of (by unfold M.flo; rw [if_pos h0])
    have HSF : Hid (M.fls s = { s with st := 3, f := fun _ => none }) := Hid_of (by unfold M.fls; rw [if_pos h0])
    have ha0 := ok.a0
    have haf := ok.af
    have hfx : s.fin ≤ 1024 := by have := ok.fx; have := ok.x1; omega
    clear h ok h0 cf
    go_enter Try.func84, Try.ntmps84
    go_wp2_with fail
    go_loopw [3, 4] (fun v i wr => ∃ j : Nat, j ≤ (s.fin - s.ask).toNat ∧ i = .int .i64 (s.ask + j) ∧ OwnL vl 84 wr w.heap.size v (M.fl s j) ∧ Below w.heap.size w wr) (fun v i _ => (s.fin - intOf i).toNat)
    case atStart => exact ⟨0, Nat.zero_le _, by simp, OwnL.nil _ _ _, Below.refl _ _⟩
    case round =>
      obtain ⟨j, hj, rfl, ho, hbl⟩ := hrel
      have hpr := HP.out.keep hbl
      obtain ⟨⟨p0, p1, p2, p3, p4, p5, p6, p7, p8, p9, p10, p11, p12, p13, p14, p15⟩, pf⟩ := row16 hpr.row
      have hlen := M.fl_len s j
      by_cases hlt : s.ask + j < s.fin
      · have hl := hpr.map.look (s.ask + j) (wf_small (by omega) (by omega))
        have hvv := val_get (s.f (s.ask + j))
        have hsz : ((s.f (s.ask + j)).getD zo).v.size ≤ 4096 := by
          cases hf : s.f (s.ask + j) with
          | none => show (0 : Nat) ≤ 4096; omega
          | some u => exact HOK.out.sz _ u hf
        have HS1 := Hid_of (M.fl_succ s j)
        have HF1 : Hid (M.fl1 s j = ⟨s.ask + j, s.b, ((s.f (s.ask + j)).getD zo).v⟩) := Hid_of (by unfold M.fl1; rw [hvv])
        obtain ⟨u, HU⟩ : ∃ u, Hid ((s.f (s.ask + j)).getD zo = u) := ⟨_, Hid_of rfl⟩
        rw [HU.out] at hl hsz HF1
        obtain ⟨k, HK⟩ : ∃ k : Int, Hid (s.ask + j = k) := ⟨_, Hid_of rfl⟩
        have hadd : IntKind.i64.wrap (s.ask + j + 1) = s.ask + j + 1 := by rw [IntKind.wrap_i64]; omega
        have hk1 : s.ask + ((j + 1 : Nat) : Int) = s.ask + j + 1 := by omega
        have cv := vote_any hpr (s.ask + j) u.v (by omega)
        have HO4 := Hid_of ho
        have HB4 := Hid_of hbl
        obtain ⟨a1, c1', hv1, -⟩ := ho.at
        rw [hlen] at hv1
        subst hv1
        have hl : (Instr.lookup 95 (.map mv) (.int .i64 (s.ask + j)) false).run Try.prog wr = .ok (.agg #[.int .i64 u.s, .int .i64 u.b.i, .int .i64 u.b.t, .string u.v]) wr := hl
        have hfd := field84 u.s u.b.i u.b.t u.v
        clear HU HK hvv pf hpr ho hbl c0 c1 c2 c3 c4 c5 c6 c7 c8 c9 c10 c11 c12 c13 c14 c15
        go_wp2_with fail
        refine cv.mono ?_
        clear cv hl hfd p0 p1 p2 p3 p4 p5 p6 p7 p8 p9 p10 p11 p12 p13 p14 p15
        rintro e w2 ⟨rfl, hb2⟩
        have ho2 := HO4.out.keep hb2
        obtain ⟨a', c', w4, hrun, ho4, hr4⟩ := app1 ⟨s.ask + j, s.b, u.v⟩ ho2 (by have := HB4.out.size; have := hb2.size; omega) (by rw [hlen]; omega)
        rw [hlen] at hrun ho4 hr4
        simp only at hrun
        have hr6 : Rw wr (.slice a1 j c1') w4 (.slice a' (j + 1) c') := (Rw.ofBelow _ hb2).trans hr4
        have HB5 : Hid (Below w.heap.size w w4) := HB4.out.trans (hr6.below (fun q hq => (HO4.out.lt hq).1) HB4.out.size)
        have HO5 := Hid_of ho4
        clear ho2 ho4 hr4 hr6 hb2 HO4 HB4
        go_wp2_with (at_builtin; refine wpList_append_known rfl _ _ 61 rfl _ _ rfl rfl _ _ (hrun _) ?_)
        go_roundw
        case rel => exact ⟨j + 1, by omega, by rw [hk1], by rw [HS1.out, HF1.out]; exact HO5.out, HB5.out⟩
        case measure => simp [intOf]; omega
      · obtain rfl : j = (s.fin - s.ask).toNat := by omega
        have hnl : decide (s.ask + ((s.fin - s.ask).toNat : Int) < s.fin) = false := decide_eq_false hlt
        have h3 : PI (wr.setCell ⟨b, 2, none⟩ (.int .i64 3)) base b mv { s with st := 3 } := hpr.cell 2 _ rfl rfl rfl
        have h4 : PI ((wr.setCell ⟨b, 2, none⟩ (.int .i64 3)).setCell ⟨b, 13, none⟩ (.map none)) base b none { s with st := 3, f := fun _ => none } := h3.remap rfl ⟨fun _ _ => rfl, fun m hm => by cases hm⟩
        have hf4 : Fr w (fpp b mv) ((wr.setCell ⟨b, 2, none⟩ (.int .i64 3)).setCell ⟨b, 13, none⟩ (.map none)) (fpp b none) := (fr_set (fr_set (Fr.ofBelow hbl) (.inl rfl) 2 _) (.inl rfl) 13 _).weak (fun _ => fpp_none)
        have ho4 : OwnL vl 84 ((wr.setCell ⟨b, 2, none⟩ (.int .i64 3)).setCell ⟨b, 13, none⟩ (.map none)) w.heap.size u3 (M.fl s (s.fin - s.ask).toNat) := ho.keepBut (fun k hk hb => by
          have h1 := (ho.lt hb).1
          have h2 := HP.out.lt
          rw [heap_setCell_other _ ⟨b, 13, none⟩ k _ (by simp; omega), heap_setCell_other _ ⟨b, 2, none⟩ k _ (by simp; omega)])
        have HQ : Hid (FlOut w base b mv s (.returned u3) ((wr.setCell ⟨b, 2, none⟩ (.int .i64 3)).setCell ⟨b, 13, none⟩ (.map none))) := ⟨none, u3, rfl, by rw [HO.out]; exact ho4, by rw [HSF.out]; exact h4, hf4⟩
        have pf2 := pf 2
        have pf13 := pf 13
        clear h3 h4 hf4 ho4 ho hbl hpr pf c0 c1 c2 c3 c4 c5 c6 c7 c8 c9 c10 c11 c12 c13 c14 c15
        go_wp2
        go_ret
        exact HQ.out
  · have d0 : (s.st != 2) = true := by simpa using h0
    have HQ : Hid (FlOut w base b mv s (.returned (.slice none 0 0)) w) := ⟨mv, .slice none 0 0, rfl, by unfold M.flo; rw [if_neg h0]; exact OwnL.nil _ _ _, by unfold M.fls; rw [if_neg h0]; exact h, Fr.refl _ _⟩
    clear h h0 ok cf
    go_enter Try.func84, Try.ntmps84
    go_wp2
    go_ret
    exact HQ.out
end

end Go.Proofs.Ytgodnpngdbelhaa.Np
namespace Go.Proofs.Ytgodnpngdbelhaa.Np
open Go.RowKit Go.Maps
set_option linter.unusedVariables false
open Go.Proofs.Ytgodnpngdbelhaa.M (E V)
open Go.Proofs.Ytgodnpngdbelhaa.Np.M (fup)

/-- A proposer, new since w0, at block b; F: its own. -/
structure PS (w0 w : World) (F : Nat → Prop) (b : Nat) (s : M.S) : Prop where
  pi : ∃ mv, F = fpp b mv ∧ PI w w0.heap.size b mv s
  bel : Below w0.heap.size w0 w
  ok : M.Ok s
section
variable {w0 w w' : World} {F G G' : Nat → Prop} {b : Nat} {s : M.S}
theorem PS.keep (h : PS w0 w F b s) (hb : Below w.heap.size w w') : PS w0 w' F b s := by
  obtain ⟨v, hF, hX⟩ := h.pi
  exact ⟨⟨v, hF, hX.keep hb⟩, bel_up h.bel hb (Nat.le_refl _), h.ok⟩
theorem PS.mine (h : PS w0 w F b s) : ∀ k, F k → w0.heap.size ≤ k ∧ k < w.heap.size := by
  obtain ⟨v, rfl, hX⟩ := h.pi
  exact hX.mine
/-- Something else has changed. -/
theorem PS.step (h : PS w0 w F b s) (hF : Fr w G w' G') (hap : ∀ k, F k → ¬ G k) (hG : ∀ k, G k → w0.heap.size ≤ k) : PS w0 w' F b s ∧ ∀ k, F k → ¬ G' k := by
  have hm := h.mine
  obtain ⟨v, e, hX⟩ := h.pi
  refine ⟨⟨⟨v, e, hX.keepBut (fun k hk hk2 => hF.block k hk (hap k (by rw [e]; exact hk2)))⟩, h.bel.trans (hF.below hG h.bel.size), h.ok⟩, fun k hk hg => ?_⟩
  rcases hF.n k hg with h' | h'
  · exact hap k hk h'
  · have := (hm k hk).2; omega
theorem PS.fr (h : PS w0 w F b s) (hF : Fr w F w' G) : Below w0.heap.size w0 w' := h.bel.trans (hF.below (fun k hk => (h.mine k hk).1) h.bel.size)
/-- What New leaves. -/
def NwOut (w0 w : World) (n me : Int) (e : Ending) (w' : World) : Prop :=
  (M.nde n me = false ∧ e = .returned (.pointer none) ∧ w' = w) ∨ (M.nde n me = true ∧ ∃ b F, e = .returned (.pointer (some ⟨b, 0, none⟩)) ∧ PS w0 w' F b (M.S0 n me) ∧ Below w.heap.size w w' ∧ ∀ k, F k → w.heap.size ≤ k)
theorem newS_any (w0 w : World) (hb : Below w0.heap.size w0 w) (n me : Int) : Calls Try.prog 43 #[.int .i64 n, .int .i64 me] w (NwOut w0 w n me) :=
  (new_any n me w).mono fun e w' h => by
    rcases h with h | ⟨h0, b, h1, h2, h3, h4⟩
    · exact .inl h
    · exact .inr ⟨h0, b, _, h1, ⟨⟨none, rfl, ⟨h2.row, ⟨h2.map.no, fun m hm => by cases hm⟩, Nat.le_trans hb.size h2.lo⟩⟩, bel_up hb h3 (Nat.le_refl _), M.Ok.zero h0⟩, h3, fun k hk => (h2.mine k hk).1⟩
theorem PS.lead (h : PS w0 w F b s) (a : E) (k : Int) : Calls Try.prog 48 #[.pointer (some ⟨b, 0, none⟩), bV a, .int .i64 k] w fun e w' => ∃ G, e = .returned (.tuple #[bV (M.lde s a k), .int .i64 (M.ldc s a k)]) ∧ PS w0 w' G b (M.lds s a k) ∧ Fr w F w' G := by
  have h0 := h
  obtain ⟨v, rfl, hX⟩ := h.pi
  refine (lead_any hX a k).mono ?_
  rintro e w' ⟨v', h1, h2, h3⟩
  exact ⟨_, h1, ⟨⟨v', rfl, h2⟩, h0.fr h3, h.ok.lds a k⟩, h3⟩
theorem PS.promise (h : PS w0 w F b s) (k : Int) (x : E) (a : Option Addr) (cap : Nat) (l : List V) (hat : AtL vl w a l) (hap : 0 < l.length → ∀ k, blk a k → ¬ F k) (hcl : s.c + l.length ≤ 900000) : Calls Try.prog 83 #[.pointer (some ⟨b, 0, none⟩), .int .i64 k, bV x, .slice a l.length cap] w fun e w' => ∃ G, e = .returned (.bool (M.prb s k x)) ∧ PS w0 w' G b (M.prs s k x l) ∧ Fr w F w' G := by
  have h0 := h
  obtain ⟨v, rfl, hX⟩ := h.pi
  refine (promise_any hX h.ok k x a cap l hat hap hcl).mono ?_
  rintro e w' ⟨v', h1, h2, h3⟩
  exact ⟨_, h1, ⟨⟨v', rfl, h2⟩, h0.fr h3, h.ok.prs k x l⟩, h3⟩
theorem PS.leads (h : PS w0 w F b s) : Calls Try.prog 59 #[.pointer (some ⟨b, 0, none⟩)] w fun e w' => e = .returned (.bool (decide (2 ≤ s.st))) ∧ w' = w := by
  obtain ⟨v, rfl, hX⟩ := h.pi
  exact leads_any hX
theorem PS.fill (h : PS w0 w F b s) : Calls Try.prog 84 #[.pointer (some ⟨b, 0, none⟩)] w fun e w' => ∃ G ad c, e = .returned (.slice ad (M.flo s).length c) ∧ XL vl w' ad c (M.flo s) ∧ (∀ j, blk ad j → w.heap.size ≤ j ∧ j < w'.heap.size ∧ ¬ G j) ∧ PS w0 w' G b (M.fls s) ∧ Fr w F w' G := by
  have h0 := h
  obtain ⟨v, rfl, hX⟩ := h.pi
  have hm := hX.mine
  refine (fill_any hX h.ok).mono ?_
  rintro e w' ⟨v', u, h1, h2, h3, h4⟩
  obtain ⟨ad, c, rfl, hx, hbk⟩ := h2.at
  refine ⟨_, ad, c, h1, hx, fun j hj => ⟨(hbk j hj).1, (hbk j hj).2.2, fun hG => ?_⟩, ⟨⟨v', rfl, h3⟩, h0.fr h4, h.ok.fls⟩, h4⟩
  rcases hG with rfl | hm'
  · have := hX.lt
    have := (hbk _ hj).1
    omega
  · have hmi := (h3.map.yes j hm').1
    obtain ⟨hrow⟩ : ∃ cs : Array Value, ∃ t z, w'.heap[j]? = some (.cells cs t z) := by
      rcases h2.2 with ⟨e, _⟩ | ⟨g, cap, cur, e, _, hh, _⟩
      · have := (hbk j hj).2.1
        rw [e] at this
        simp [Value.ownBlock] at this
      · have := (hbk j hj).2.1
        rw [e] at this
        simp [Value.ownBlock] at this
        subst this
        exact ⟨_, _, _, hh⟩
    rename_i hr
    obtain ⟨t, z, hr⟩ := hr
    exact hmi.ne hr rfl
theorem PS.propose (h : PS w0 w F b s) (v : ByteArray) : Calls Try.prog 51 #[.pointer (some ⟨b, 0, none⟩), .string v] w fun e w' => e = .returned (.tuple #[vV (M.ppv s v), .int .i64 (M.ppc s v)]) ∧ PS w0 w' F b (M.pps s v) ∧ Fr w F w' F := by
  have h0 := h
  obtain ⟨v', rfl, hX⟩ := h.pi
  refine (propose_any hX h.ok v).mono ?_
  rintro e w' ⟨h1, h2, h3⟩
  exact ⟨h1, ⟨⟨v', rfl, h2⟩, h0.fr h3, h.ok.pps v⟩, h3⟩
theorem PS.stepB (h : PS w0 w F b s) (x : E) : Calls Try.prog 82 #[.pointer (some ⟨b, 0, none⟩), bV x] w fun e w' => ∃ G, e = .returned (.bool (M.stb s x)) ∧ PS w0 w' G b (M.sts s x) ∧ Fr w F w' G := by
  have h0 := h
  obtain ⟨v, rfl, hX⟩ := h.pi
  refine (step_any hX x).mono ?_
  rintro e w' ⟨v', h1, h2, h3⟩
  exact ⟨_, h1, ⟨⟨v', rfl, h2⟩, h0.fr h3, h.ok.sts x⟩, h3⟩
end
theorem lead_nil (a : E) (k : Int) (w : World) : Calls Try.prog 48 #[.pointer none, bV a, .int .i64 k] w fun e w' => e = .returned (.tuple #[.agg #[.int .i64 0, .int .i64 0], .int .i64 1]) ∧ Below w.heap.size w w' := by
  obtain ⟨W1, HW1⟩ : ∃ W1, Hid ((w.alloc (.cells #[.int .i64 a.i, .int .i64 a.t] 60)).alloc (.cells #[.int .i64 0, .int .i64 0] 60) = W1) := ⟨_, Hid_of rfl⟩
  have HB1 : Hid (Below w.heap.size w W1) := by rw [← HW1.out]; exact bel_up (bel1 w _) (bel1 _ _) (Nat.le_refl _)
  have hr1 : W1.heap[w.heap.size + 1]? = some (.cells #[.int .i64 0, .int .i64 0] 60 (0, 0)) := by rw [← HW1.out]; exact heap_alloc2_new w _ _
  obtain ⟨⟨x0, x1⟩, xf⟩ := row2 hr1
  have f0 := xf 0
  have f1 := xf 1
  have HR := Hid_of hr1
  clear hr1 xf
  go_enter Try.func48, Try.ntmps48
  go_upto_region 1 with fail
  rw [HW1.out]
  clear HW1
  go_wp2
  refine bodyPost_ret (v := .tuple #[.agg #[.int .i64 0, .int .i64 0], .int .i64 1]) ?_ rfl ⟨rfl, put2_bel HB1.out (Nat.le_succ _) _ _⟩
  exact res2 f48_res _ _ (w.heap.size + 1) _ _ rfl (put2_row HR.out _ _)
theorem promise_nil (k : Int) (x : E) (a : Option Addr) (n c : Nat) (w : World) : Calls Try.prog 83 #[.pointer none, .int .i64 k, bV x, .slice a n c] w fun e w' => e = .returned (.bool false) ∧ Below w.heap.size w w' := by
  obtain ⟨W1, HW1⟩ : ∃ W1, Hid (w.alloc (.cells #[.int .i64 x.i, .int .i64 x.t] 60) = W1) := ⟨_, Hid_of rfl⟩
  have hb1 : Below w.heap.size w W1 := by rw [← HW1.out]; exact bel1 w _
  have hr1 : W1.heap[w.heap.size]? = some (.cells #[.int .i64 x.i, .int .i64 x.t] 60 (0, 0)) := by rw [← HW1.out]; exact heap_alloc_last w _
  have HB1 := Hid_of hb1
  have HS : Hid (∀ w', Below W1.heap.size W1 w' → True) := fun _ _ => trivial
  clear hb1 hr1
  go_enter Try.func83, Try.ntmps83
  go_upto_region 1 with fail
  rw [HW1.out]
  clear HW1
  refine wp_region_held_drew (S := fun wq => Below (W1).heap.size (W1) wq) (by kernel_rfl) (Below.drew (Below.refl _ _)) (fun hHeld => ?_)
  obtain ⟨wda, hwda⟩ : ∃ wd, W1.drew = wd := ⟨_, rfl⟩
  have hBwd : Below W1.heap.size W1 wda := by rw [← hwda]; exact Below.drew (Below.refl _ _)
  rw [hwda] at hHeld ⊢
  clear hwda
  refine Tm 0 ?p0a ?v0a hHeld ?r0a
  simp only [Act.put, Pa, Pb, Pc]
  refine Tm 1 ?p1a ?v1a hHeld ?r1a
  simp only [Act.put, Pa, Pb, Pc]
  refine Tm 2 ?p2a ?v2a hHeld ?r2a
  simp only [Act.put, Pa, Pb, Pc]
  refine Ts 3 ?p3a hHeld ?r3a
  simp only [Act.put, Pa, Pb, Pc]
  refine Ts 4 ?p4a hHeld ?r4a
  simp only [Act.put, Pa, Pb, Pc]
  refine Ts 5 ?p5a hHeld ?r5a
  simp only [Act.put, Pa, Pb, Pc]
  refine Ts 6 ?p6a hHeld ?r6a
  simp only [Act.put, Pa, Pb, Pc]
  refine Ts 7 ?p7a hHeld ?r7a
  simp only [Act.put, Pa, Pb, Pc]
  refine Tm 8 ?p8a ?v8a hHeld ?r8a
  simp only [Act.put, Pa, Pb, Pc]
  refine Tm 9 ?p9a ?v9a hHeld ?r9a
  simp only [Act.put, Pa, Pb, Pc]
  refine Ts 10 ?p10a hHeld ?r10a
  simp only [Act.put, Pa, Pb, Pc]
  refine Ts 11 ?p11a hHeld ?r11a
  simp only [Act.put, Pa, Pb, Pc]
  refine Ts 12 ?p12a hHeld ?r12a
  simp only [Act.put, Pa, Pb, Pc]
  refine Ts 13 ?p13a hHeld ?r13a
  simp only [Act.put, Pa, Pb, Pc]
  refine Ts 14 ?p14a hHeld ?r14a
  simp only [Act.put, Pa, Pb, Pc]
  refine Ts 15 ?p15a hHeld ?r15a
  simp only [Act.put, Pa, Pb, Pc]
  refine Tm 16 ?p16a ?v16a hHeld ?r16a
  simp only [Act.put, Pa, Pb, Pc]
  refine Tm 17 ?p17a ?v17a hHeld ?r17a
  simp only [Act.put, Pa, Pb, Pc]
  refine Ts 18 ?p18a hHeld ?r18a
  simp only [Act.put, Pa, Pb, Pc]
  refine Ts 19 ?p19a hHeld ?r19a
  simp only [Act.put, Pa, Pb, Pc]
  refine Tm 20 ?p20a ?v20a hHeld ?r20a
  simp only [Act.put, Pa, Pb, Pc]
  refine Tm 21 ?p21a ?v21a hHeld ?r21a
  simp only [Act.put, Pa, Pb, Pc]
  refine Ts 22 ?p22a hHeld ?r22a
  simp only [Act.put, Pa, Pb, Pc]
  refine Ts 23 ?p23a hHeld ?r23a
  simp only [Act.put, Pa, Pb, Pc]
  refine Ts 24 ?p24a hHeld ?r24a
  simp only [Act.put, Pa, Pb, Pc]
  refine Ts 25 ?p25a hHeld ?r25a
  simp only [Act.put, Pa, Pb, Pc]
  refine Ts 26 ?p26a hHeld ?r26a
  simp only [Act.put, Pa, Pb, Pc]
  refine Ts 27 ?p27a hHeld ?r27a
  simp only [Act.put, Pa, Pb, Pc]
  refine Tm 28 ?p28a ?v28a hHeld ?r28a
  simp only [Act.put, Pa, Pb, Pc]
  refine Tm 29 ?p29a ?v29a hHeld ?r29a
  simp only [Act.put, Pa, Pb, Pc]
  refine Ts 30 ?p30a hHeld ?r30a
  simp only [Act.put, Pa, Pb, Pc]
  refine Ts 31 ?p31a hHeld ?r31a
  simp only [Act.put, Pa, Pb, Pc]
  refine Ts 32 ?p32a hHeld ?r32a
  simp only [Act.put, Pa, Pb, Pc]
  refine Ts 33 ?p33a hHeld ?r33a
  simp only [Act.put, Pa, Pb, Pc]
  refine Ts 34 ?p34a hHeld ?r34a
  simp only [Act.put, Pa, Pb, Pc]
  refine Ts 35 ?p35a hHeld ?r35a
  simp only [Act.put, Pa, Pb, Pc]
  refine Tm 36 ?p36a ?v36a hHeld ?r36a
  simp only [Act.put, Pa, Pb, Pc]
  refine wpAnyH_done (by kernel_rfl) ?_ _
  go_wp2
  go_ret
  exact ⟨rfl, bel_up HB1.out hHeld (Nat.le_refl _)⟩
theorem leads_nil (w : World) : Calls Try.prog 59 #[.pointer none] w fun e w' => e = .returned (.bool false) ∧ w' = w := by
  go_enter Try.func59, Try.ntmps59
  go_wp2
  go_ret
  exact ⟨rfl, rfl⟩
theorem fill_nil (w : World) : Calls Try.prog 84 #[.pointer none] w fun e w' => e = .returned (.slice none 0 0) ∧ w' = w := by
  go_enter Try.func84, Try.ntmps84
  go_wp2
  go_ret
  exact ⟨rfl, rfl⟩
theorem mayPropose_nil (v : ByteArray) (w : World) : Calls Try.prog 68 #[.pointer none, .string v] w fun e w' => e = .returned (.int .i64 1) ∧ w' = w := by
  go_enter Try.func68, Try.ntmps68
  go_wp2
  go_ret
  exact ⟨rfl, rfl⟩
theorem propose_nil (v : ByteArray) (w : World) : Calls Try.prog 51 #[.pointer none, .string v] w fun e w' => e = .returned (.tuple #[.agg #[.int .i64 0, .int .i64 0, .int .i64 0, .string ⟨#[]⟩], .int .i64 1]) ∧ Below w.heap.size w w' := by
  obtain ⟨W1, HW1⟩ : ∃ W1, Hid (w.alloc (.cells #[.int .i64 0, .int .i64 0, .int .i64 0, .string ⟨#[]⟩] 84) = W1) := ⟨_, Hid_of rfl⟩
  have hb1 : Below w.heap.size w W1 := by rw [← HW1.out]; exact bel1 w _
  have hr1 : W1.heap[w.heap.size]? = some (.cells #[.int .i64 0, .int .i64 0, .int .i64 0, .string ⟨#[]⟩] 84 (0, 0)) := by rw [← HW1.out]; exact heap_alloc_last w _
  obtain ⟨⟨y0, y1, y2, y3⟩, yf⟩ := row4 hr1
  have g0 := yf 0
  have g1 := yf 1
  have g2 := yf 2
  have g3 := yf 3
  have HB1 := Hid_of hb1
  have HR1 := Hid_of hr1
  clear hb1 hr1 yf
  go_enter Try.func51, Try.ntmps51
  go_upto_region 1 with fail
  rw [HW1.out]
  clear HW1
  go_wp2_with fail
  refine (mayPropose_nil v W1).mono ?_
  rintro e w1 ⟨rfl, rfl⟩
  go_wp2
  refine bodyPost_ret (v := .tuple #[.agg #[.int .i64 0, .int .i64 0, .int .i64 0, .string ⟨#[]⟩], .int .i64 1]) ?_ rfl ⟨rfl, put4_bel HB1.out (Nat.le_refl _) _ _ _ _⟩
  exact res4 f51_res _ _ w.heap.size _ _ _ _ rfl (put4_row HR1.out _ _ _ _)
theorem step_nil (x : E) (w : World) : Calls Try.prog 82 #[.pointer none, bV x] w fun e w' => e = .returned (.bool false) ∧ Below w.heap.size w w' := by
  obtain ⟨W1, HW1⟩ : ∃ W1, Hid (w.alloc (.cells #[.int .i64 x.i, .int .i64 x.t] 60) = W1) := ⟨_, Hid_of rfl⟩
  have hb1 : Below w.heap.size w W1 := by rw [← HW1.out]; exact bel1 w _
  have hr1 : W1.heap[w.heap.size]? = some (.cells #[.int .i64 x.i, .int .i64 x.t] 60 (0, 0)) := by rw [← HW1.out]; exact heap_alloc_last w _
  have HB1 := Hid_of hb1
  have HS : Hid (∀ w', Below W1.heap.size W1 w' → True) := fun _ _ => trivial
  clear hb1 hr1
  go_enter Try.func82, Try.ntmps82
  go_upto_region 1 with fail
  rw [HW1.out]
  clear HW1
  refine wp_region_held_drew (S := fun wq => Below (W1).heap.size (W1) wq) (by kernel_rfl) (Below.drew (Below.refl _ _)) (fun hHeld => ?_)
  obtain ⟨wda, hwda⟩ : ∃ wd, W1.drew = wd := ⟨_, rfl⟩
  have hBwd : Below W1.heap.size W1 wda := by rw [← hwda]; exact Below.drew (Below.refl _ _)
  rw [hwda] at hHeld ⊢
  clear hwda
  refine Tm 0 ?p0a ?v0a hHeld ?r0a
  simp only [Act.put, Pa, Pb, Pc]
  refine Tm 1 ?p1a ?v1a hHeld ?r1a
  simp only [Act.put, Pa, Pb, Pc]
  refine Tm 2 ?p2a ?v2a hHeld ?r2a
  simp only [Act.put, Pa, Pb, Pc]
  refine Ts 3 ?p3a hHeld ?r3a
  simp only [Act.put, Pa, Pb, Pc]
  refine Ts 4 ?p4a hHeld ?r4a
  simp only [Act.put, Pa, Pb, Pc]
  refine Ts 5 ?p5a hHeld ?r5a
  simp only [Act.put, Pa, Pb, Pc]
  refine Tm 6 ?p6a ?v6a hHeld ?r6a
  simp only [Act.put, Pa, Pb, Pc]
  refine Tm 7 ?p7a ?v7a hHeld ?r7a
  simp only [Act.put, Pa, Pb, Pc]
  refine Ts 8 ?p8a hHeld ?r8a
  simp only [Act.put, Pa, Pb, Pc]
  refine Ts 9 ?p9a hHeld ?r9a
  simp only [Act.put, Pa, Pb, Pc]
  refine Ts 10 ?p10a hHeld ?r10a
  simp only [Act.put, Pa, Pb, Pc]
  refine Ts 11 ?p11a hHeld ?r11a
  simp only [Act.put, Pa, Pb, Pc]
  refine Ts 12 ?p12a hHeld ?r12a
  simp only [Act.put, Pa, Pb, Pc]
  refine Ts 13 ?p13a hHeld ?r13a
  simp only [Act.put, Pa, Pb, Pc]
  refine Ts 14 ?p14a hHeld ?r14a
  simp only [Act.put, Pa, Pb, Pc]
  refine Tm 15 ?p15a ?v15a hHeld ?r15a
  simp only [Act.put, Pa, Pb, Pc]
  refine wpAnyH_done (by kernel_rfl) ?_ _
  go_wp2
  go_ret
  exact ⟨rfl, bel_up HB1.out hHeld (Nat.le_refl _)⟩
/-- A row beside what has F for its own. -/
structure XB (w : World) (F : Nat → Prop) (ad : Option Addr) (c : Nat) (l : List V) : Prop where
  xl : XL vl w ad c l
  lt : ∀ k, blk ad k → k < w.heap.size
  ap : ∀ k, blk ad k → ¬ F k
theorem XB.step {w w' : World} {F G : Nat → Prop} {ad : Option Addr} {c : Nat} {l : List V} (h : XB w F ad c l) (hF : Fr w F w' G) : XB w' G ad c l :=
  ⟨h.xl.keepBut fun k hk hb => hF.block k hk (h.ap k hb), fun k hk => Nat.lt_of_lt_of_le (h.lt k hk) hF.size, fun k hk hG => by
    rcases hF.n k hG with h' | h'
    · exact h.ap k hk h'
    · have := h.lt k hk; omega⟩
theorem XB.up {w w' : World} {F : Nat → Prop} {ad : Option Addr} {c : Nat} {l : List V} (h : XB w F ad c l) (hb : Below w.heap.size w w') : XB w' F ad c l := h.step (Fr.ofBelow hb)
/-- A block beside what has F for its own. -/
structure BX (w : World) (F : Nat → Prop) (g : Nat) (o : Obj) : Prop where
  row : w.heap[g]? = some o
  ap : ¬ F g
theorem BX.step {w w' : World} {F G : Nat → Prop} {g : Nat} {o : Obj} (h : BX w F g o) (hF : Fr w F w' G) : BX w' G g o := by
  have hl := (Array.getElem?_eq_some_iff.1 h.row).1
  refine ⟨(hF.block g hl h.ap).trans h.row, fun e => ?_⟩
  rcases hF.n g e with h' | h'
  · exact h.ap h'
  · omega
theorem BX.up {w w' : World} {F : Nat → Prop} {g : Nat} {o : Obj} (h : BX w F g o) (hb : Below w.heap.size w w') : BX w' F g o := h.step (Fr.ofBelow hb)
/-- Are two votes alike? -/
def veq (s i t : Int) (v : ByteArray) (s' i' t' : Int) (v' : ByteArray) : Bool := (s == s') && (((i == i') && (t == t')) && (v.toList == v'.toList))
theorem veq_refl (s i t : Int) (v : ByteArray) : veq s i t v s i t v = true := by simp [veq]
theorem veq_slot {s i t : Int} {v : ByteArray} {s' i' t' : Int} {v' : ByteArray} (h : s ≠ s') : veq s i t v s' i' t' v' = false := by simp [veq, h]
set_option maxRecDepth 100000 in
set_option maxHeartbeats 400000 in
theorem equal84 (s i t : Int) (v : ByteArray) (s' i' t' : Int) (v' : ByteArray) (w : World) : (Op.equalIn 10000 84 (.agg #[.int .i64 s, .int .i64 i, .int .i64 t, .string v]) (.agg #[.int .i64 s', .int .i64 i', .int .i64 t', .string v'])).run Try.prog w = .ok (veq s i t v s' i' t' v') w := by
  have u3 := Try.underlying3
  have u9 := Try.underlying9
  have a3 := Try.isAgg3
  have a9 := Try.isAgg9
  have a28 := Try.isAgg60
  have z3 := Try.sizeOf3
  have z9 := Try.sizeOf9
  have z28 := Try.sizeOf60
  have hS : Try.prog.underlying 84 = some (.struct (Try.prog.fieldsOf 84)) := by kernel_rfl
  have hp : Try.prog.stoodInHeld 84 = false := by kernel_rfl
  rw [show (10000 : Nat) = 9999 + 1 from rfl, run_equalIn_agg w 9999 84 _ _ hS hp]
  clear hS hp
  simp only [Program.fieldsOf, Try.underlying84]
  unfold veq
  cases h1 : s == s' with
  | false => go_simp
  | true =>
    cases h2 : i == i' with
    | false =>
      have n2 : ¬ (i = i') := by simpa using h2
      go_simp
    | true =>
      have n2 : i = i' := by simpa using h2
      cases h3 : t == t' with
      | false =>
        have n3 : ¬ (t = t') := by simpa using h3
        go_simp
      | true =>
        have n3 : t = t' := by simpa using h3
        go_simp
        by_cases h : v.toList = v'.toList
        · simp [h]
        · simp [h]
theorem ql84 (s i t : Int) (v : ByteArray) (s' i' t' : Int) (v' : ByteArray) (w : World) : (binOp .eql 84 (.agg #[.int .i64 s, .int .i64 i, .int .i64 t, .string v]) (.agg #[.int .i64 s', .int .i64 i', .int .i64 t', .string v'])).run Try.prog w = .ok (.bool (veq s i t v s' i' t' v')) w := by
  rw [run_eql_struct, equal84]
  rfl
theorem ne84 (s i t : Int) (v : ByteArray) (w : World) : (binOp .neq 84 (.agg #[.int .i64 s, .int .i64 i, .int .i64 t, .string v]) (.agg #[.int .i64 s, .int .i64 i, .int .i64 t, .string v])).run Try.prog w = .ok (.bool false) w := by
  rw [run_neq_struct, equal84, veq_refl]
  rfl
end Go.Proofs.Ytgodnpngdbelhaa.Np
