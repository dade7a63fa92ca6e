/-
  A proposer fills what others voted for.
-/
import Derived.Test.YtfjlanhekheecaaPPF
namespace Go.Proofs.Ytfjlanhekheecaa.Np
open Go.RowKit Go.Maps
set_option linter.unusedVariables false
open Go.Proofs.Ytfjlanhekheecaa.M (E V)
open Go.Proofs.Ytfjlanhekheecaa.Np.M (fup)

theorem val_get (o : Option V) : (o.getD zo).v = M.val o := by cases o <;> rfl
theorem field42 (a b c : Int) (v : ByteArray) (w : World) : (Instr.field 42 (.agg #[.int .i64 a, .int .i64 b, .int .i64 c, .string v]) 2).run Try.prog w = .ok (.string v) w := by kernel_rfl
/-- One more, appended. -/
theorem app1 {w : World} {base : Nat} {v : Value} {l : List V} (x : V) (ho : OwnL vl 42 w base v l) (hb : base ≤ w.heap.size) (hl : l.length + 1 ≤ 1000000) :
    ∃ a' c' w', (∀ ty, (Builtin.append_ #[27, 27] ty #[v, .slice (some ⟨w.heap.size, 0, none⟩) 1 1]).run Try.prog (w.alloc (.cells #[.int .i64 x.s, .int .i64 x.b.i, .int .i64 x.b.t, .string x.v] 42)) = .ok (.slice a' (l.length + 1) c') w') ∧ OwnL vl 42 w' base (.slice a' (l.length + 1) c') (l ++ [x]) ∧ Rw w v w' (.slice a' (l.length + 1) c') := by
  obtain ⟨a', c', w4, hrun, ho4, hr4⟩ := run_appL_ty tiV (w.alloc (.cells #[.int .i64 x.s, .int .i64 x.b.i, .int .i64 x.b.t, .string x.v] 42)) base v l [x] w.heap.size 0 1 1 (ho.keep (bel1 w _)) (atL_one (t := 42) (heap_alloc_last w _)) rfl (by simp; omega) (by simp; omega)
  exact ⟨a', c', w4, hrun, ho4, (Rw.ofBelow _ (bel1 w _)).trans hr4⟩
/-- What Fill leaves. -/
def FlOut (w : World) (base b : Nat) (mv : Option Nat) (s : M.S) (e : Ending) (w' : World) : Prop := ∃ mv' u, e = .returned u ∧ OwnL vl 42 w' w.heap.size u (M.flo s) ∧ PI w' base b mv' (M.fls s) ∧ Fr w (fpp b mv) w' (fpp b mv')
section
variable {w : World} {base b : Nat} {mv : Option Nat} {s : M.S}
set_option maxRecDepth 100000 in
set_option maxHeartbeats 1000000 in
theorem fill_any (h : PI w base b mv s) (ok : M.Ok s) : Calls Try.prog 66 #[.pointer (some ⟨b, 0, none⟩)] w (FlOut w base b mv s) := by
  obtain ⟨⟨c0, c1, c2, c3, c4, c5, c6, c7, c8, c9, c10, c11, c12, c13, c14, c15⟩, cf⟩ := row16 h.row
  have HP := Hid_of h
  have HOK := Hid_of ok
  by_cases h0 : s.st = 2
  · have d0 : (s.st != 2) = false := by simpa using h0
    have HO : Hid (M.flo s = M.fl s (s.fin - s.ask).toNat) := Hid_of (by unfold M.flo; rw [if_pos h0])
    have HSF : Hid (M.fls s = { s with st := 3, f := fun _ => none }) := Hid_of (by unfold M.fls; rw [if_pos h0])
    have ha0 := ok.a0
    have haf := ok.af
    have hfx : s.fin ≤ 1024 := by have := ok.fx; have := ok.x1; omega
    clear h ok h0 cf
    go_enter Try.func66, Try.ntmps66
    go_wp2_with fail
    go_loopw [3, 4] (fun v i wr => ∃ j : Nat, j ≤ (s.fin - s.ask).toNat ∧ i = .int .i64 (s.ask + j) ∧ OwnL vl 42 wr w.heap.size v (M.fl s j) ∧ Below w.heap.size w wr) (fun v i _ => (s.fin - intOf i).toNat)
    case atStart => exact ⟨0, Nat.zero_le _, by simp, OwnL.nil _ _ _, Below.refl _ _⟩
    case round =>
      obtain ⟨j, hj, rfl, ho, hbl⟩ := hrel
      have hpr := HP.out.keep hbl
      obtain ⟨⟨p0, p1, p2, p3, p4, p5, p6, p7, p8, p9, p10, p11, p12, p13, p14, p15⟩, pf⟩ := row16 hpr.row
      have hlen := M.fl_len s j
      by_cases hlt : s.ask + j < s.fin
      · have hl := hpr.map.look (s.ask + j) (wf_small (by omega) (by omega))
        have hvv := val_get (s.f (s.ask + j))
        have hsz : ((s.f (s.ask + j)).getD zo).v.size ≤ 4096 := by
          cases hf : s.f (s.ask + j) with
          | none => show (0 : Nat) ≤ 4096; omega
          | some u => exact HOK.out.sz _ u hf
        have HS1 := Hid_of (M.fl_succ s j)
        have HF1 : Hid (M.fl1 s j = ⟨s.ask + j, s.b, ((s.f (s.ask + j)).getD zo).v⟩) := Hid_of (by unfold M.fl1; rw [hvv])
        obtain ⟨u, HU⟩ : ∃ u, Hid ((s.f (s.ask + j)).getD zo = u) := ⟨_, Hid_of rfl⟩
        rw [HU.out] at hl hsz HF1
        obtain ⟨k, HK⟩ : ∃ k : Int, Hid (s.ask + j = k) := ⟨_, Hid_of rfl⟩
        have hadd : IntKind.i64.wrap (s.ask + j + 1) = s.ask + j + 1 := by rw [IntKind.wrap_i64]; omega
        have hk1 : s.ask + ((j + 1 : Nat) : Int) = s.ask + j + 1 := by omega
        have cv := vote_any hpr (s.ask + j) u.v (by omega)
        have HO4 := Hid_of ho
        have HB4 := Hid_of hbl
        obtain ⟨a1, c1', hv1, -⟩ := ho.at
        rw [hlen] at hv1
        subst hv1
        have hl : (Instr.lookup 79 (.map mv) (.int .i64 (s.ask + j)) false).run Try.prog wr = .ok (.agg #[.int .i64 u.s, .int .i64 u.b.i, .int .i64 u.b.t, .string u.v]) wr := hl
        have hfd := field42 u.s u.b.i u.b.t u.v
        clear HU HK hvv pf hpr ho hbl c0 c1 c2 c3 c4 c5 c6 c7 c8 c9 c10 c11 c12 c13 c14 c15
        go_wp2_with fail
        refine cv.mono ?_
        clear cv hl hfd p0 p1 p2 p3 p4 p5 p6 p7 p8 p9 p10 p11 p12 p13 p14 p15
        rintro e w2 ⟨rfl, hb2⟩
        have ho2 := HO4.out.keep hb2
        obtain ⟨a', c', w4, hrun, ho4, hr4⟩ := app1 ⟨s.ask + j, s.b, u.v⟩ ho2 (by have := HB4.out.size; have := hb2.size; omega) (by rw [hlen]; omega)
        rw [hlen] at hrun ho4 hr4
        simp only at hrun
        have hr6 : Rw wr (.slice a1 j c1') w4 (.slice a' (j + 1) c') := (Rw.ofBelow _ hb2).trans hr4
        have HB5 : Hid (Below w.heap.size w w4) := HB4.out.trans (hr6.below (fun q hq => (HO4.out.lt hq).1) HB4.out.size)
        have HO5 := Hid_of ho4
        clear ho2 ho4 hr4 hr6 hb2 HO4 HB4
        go_wp2_with (at_builtin; refine wpList_append_known rfl _ _ 27 rfl _ _ rfl rfl _ _ (hrun _) ?_)
        go_roundw
        case rel => exact ⟨j + 1, by omega, by rw [hk1], by rw [HS1.out, HF1.out]; exact HO5.out, HB5.out⟩
        case measure => simp [intOf]; omega
      · obtain rfl : j = (s.fin - s.ask).toNat := by omega
        have hnl : decide (s.ask + ((s.fin - s.ask).toNat : Int) < s.fin) = false := decide_eq_false hlt
        have h3 : PI (wr.setCell ⟨b, 2, none⟩ (.int .i64 3)) base b mv { s with st := 3 } := hpr.cell 2 _ rfl rfl rfl
        have h4 : PI ((wr.setCell ⟨b, 2, none⟩ (.int .i64 3)).setCell ⟨b, 13, none⟩ (.map none)) base b none { s with st := 3, f := fun _ => none } := h3.remap rfl ⟨fun _ _ => rfl, fun m hm => by cases hm⟩
        have hf4 : Fr w (fpp b mv) ((wr.setCell ⟨b, 2, none⟩ (.int .i64 3)).setCell ⟨b, 13, none⟩ (.map none)) (fpp b none) := (fr_set (fr_set (Fr.ofBelow hbl) (.inl rfl) 2 _) (.inl rfl) 13 _).weak (fun _ => fpp_none)
        have ho4 : OwnL vl 42 ((wr.setCell ⟨b, 2, none⟩ (.int .i64 3)).setCell ⟨b, 13, none⟩ (.map none)) w.heap.size u3 (M.fl s (s.fin - s.ask).toNat) := ho.keepBut (fun k hk hb => by
          have h1 := (ho.lt hb).1
          have h2 := HP.out.lt
          rw [heap_setCell_other _ ⟨b, 13, none⟩ k _ (by simp; omega), heap_setCell_other _ ⟨b, 2, none⟩ k _ (by simp; omega)])
        have HQ : Hid (FlOut w base b mv s (.returned u3) ((wr.setCell ⟨b, 2, none⟩ (.int .i64 3)).setCell ⟨b, 13, none⟩ (.map none))) := ⟨none, u3, rfl, by rw [HO.out]; exact ho4, by rw [HSF.out]; exact h4, hf4⟩
        have pf2 := pf 2
        have pf13 := pf 13
        clear h3 h4 hf4 ho4 ho hbl hpr pf c0 c1 c2 c3 c4 c5 c6 c7 c8 c9 c10 c11 c12 c13 c14 c15
        go_wp2
        go_ret
        exact HQ.out
  · have d0 : (s.st != 2) = true := by simpa using h0
    have HQ : Hid (FlOut w base b mv s (.returned (.slice none 0 0)) w) := ⟨mv, .slice none 0 0, rfl, by unfold M.flo; rw [if_neg h0]; exact OwnL.nil _ _ _, by unfold M.fls; rw [if_neg h0]; exact h, Fr.refl _ _⟩
    clear h h0 ok cf
    go_enter Try.func66, Try.ntmps66
    go_wp2
    go_ret
    exact HQ.out
end

end Go.Proofs.Ytfjlanhekheecaa.Np
