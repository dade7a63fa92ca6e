/-
  The law ProposerOnce, walked.
-/
import Derived.Test.YtpolmfgklgggcaaNoneW
import Derived.Test.YtpolmfgklgggcaaOM
namespace Go.Proofs.Ytpolmfgklgggcaa
open Go.RowKit Go.Maps
set_option linter.unusedVariables false
open M (E V fup)

/-- Appended to a row of one's own, whatever lies where. -/
theorem run_appX (w : World) (base : Nat) (v : Value) (l s : List V) (a : Option Addr) (c : Nat) (hown : OwnL vl 36 w base v l) (hs : XL vl w a c s) (hb : base ≤ w.heap.size) (hl : l.length + s.length ≤ 1000000) :
    ∃ a' c' w', (∀ ty, (Builtin.append_ #[30, 30] ty #[v, .slice a s.length c]).run Try.prog w = .ok (.slice a' (l.length + s.length) c') w') ∧ OwnL vl 36 w' base (.slice a' (l.length + s.length) c') (l ++ s) ∧ Rw w v w' (.slice a' (l.length + s.length) c') := by
  cases a with
  | none =>
    have hs0 : s = [] := by
      cases s with
      | nil => rfl
      | cons e r =>
        obtain ⟨_, _, h, _⟩ := hs.at' 0 (by simp)
        cases h
    have hc := hs.nil rfl
    subst hs0 hc
    obtain ⟨a', c', hv, _, _⟩ := hown.at
    subst hv
    refine ⟨a', c', w, fun ty => ?_, by simpa using hown, by simpa using Rw.refl w (.slice a' l.length c')⟩
    exact run_append_owned_none (P := Try.prog) (w := w) base 30 ty 36 Try.t36 4 Try.underlying30 hi36 _ l.length (vl.cells l) hown
  | some ad =>
    have hbytes : (l.length + s.length) * 40 ≤ 140737488355328 := Nat.le_trans (Nat.mul_le_mul hl (Nat.le_refl 40)) (by omega)
    have hcells : ∀ j u, (vl.cells s)[j]? = some u → w.cell? (ad.add j) = some u := by
      cases s with
      | nil => intro j u h; simp [Ly.cells] at h
      | cons e r =>
        obtain ⟨b, off, h, _⟩ := hs.at' 0 (by simp)
        cases h
        exact hs.at'.cells
    have key : ∀ ty, ∃ v' w', (Builtin.append_ #[30, 30] ty #[v, .slice (some ad) s.length c]).run Try.prog w = .ok v' w' ∧ w'.ownsRow base 36 4 v' (l.length + s.length) (vl.cells l ++ vl.cells s) ∧ w.grownBy w' v.ownBlock ∧ (v'.ownBlock = v.ownBlock ∨ v'.ownBlock = some w.heap.size) := fun ty => by
      obtain ⟨v', w', hr, h2, h3, _, h5⟩ := run_append_own_at (P := Try.prog) w base 30 ty 36 Try.t36 (.agg #[.int .i64 0, .int .i64 0, .int .i64 0, .string ⟨#[]⟩]) 4 40 Try.underlying30 hi36 rfl rfl rfl rfl (by decide) v l.length (vl.cells l) hown ad s.length c (vl.cells s) (vl.clen s) hcells (vl.ones s) (by unfold maxLen; omega) hbytes hb
      exact ⟨v', w', hr, h2, h3, h5⟩
    obtain ⟨v', w', hr, h2, h3, h5⟩ := key 0
    have ho : OwnL vl 36 w' base v' (l ++ s) := by
      unfold OwnL
      rw [vl.app, List.length_append]
      exact h2
    obtain ⟨a', c', rfl, _, _⟩ := ho.at
    rw [List.length_append] at hr ho h5
    refine ⟨a', c', w', fun ty => (append_ty _ _ _ ty 0).trans hr, ho, h3, fun k hk => ?_⟩
    rcases h5 with h5 | h5
    · exact .inl (by rw [← h5]; exact hk)
    · rw [h5] at hk
      cases hk
      exact .inr (Nat.le_refl _)
/-- The proposer, all that it has said, and the ballot that it led by last. -/
structure OL (w wr : World) (F : Nat → Prop) (b B9 : Nat) (v : Value) (s : M.S) (own : E) (said : List V) : Prop where
  ps : PS w wr F b s
  ro : OwnL vl 36 wr w.heap.size v said
  ra : ∀ k, v.ownBlock = some k → ¬ F k ∧ k ≠ B9
  bx : wr.heap[B9]? = some (.cells #[.int .i64 own.i, .int .i64 own.t] 28 (0, 0))
  ba : ¬ F B9
  b0 : w.heap.size ≤ B9
section
variable {w wr w' : World} {F G : Nat → Prop} {b B9 : Nat} {v v' : Value} {s s' : M.S} {own o' : E} {said x : List V}
theorem OL.keep (h : OL w wr F b B9 v s own said) (hb : Below wr.heap.size wr w') : OL w w' F b B9 v s own said :=
  ⟨h.ps.keep hb, h.ro.keep hb, h.ra, bel_row h.bx hb, h.ba, h.b0⟩
theorem OL.did (h : OL w wr F b B9 v s own said) (hF : Fr wr F w' G) (hp : PS w w' G b s') : OL w w' G b B9 v s' own said := by
  have hB := (Array.getElem?_eq_some_iff.1 h.bx).1
  refine ⟨hp, h.ro.keepBut (fun k hk hv => hF.block k hk (h.ra k hv).1), fun k hv => ⟨fun hG => ?_, (h.ra k hv).2⟩, (hF.block B9 hB h.ba).trans h.bx, fun hG => ?_, h.b0⟩
  · rcases hF.n k hG with h1 | h1
    · exact (h.ra k hv).1 h1
    · have := (h.ro.lt hv).2; omega
  · rcases hF.n B9 hG with h1 | h1
    · exact h.ba h1
    · omega
theorem OL.setOwn (h : OL w wr F b B9 v s own said) (o : E) : OL w (put2 wr B9 (.int .i64 o.i) (.int .i64 o.t)) F b B9 v s o said := by
  have hfr : Fr wr (· = B9) (put2 wr B9 (.int .i64 o.i) (.int .i64 o.t)) (· = B9) := ⟨rfl, rfl, rfl, by simp [put2], fun k _ hk => put2_oth hk _ _, fun k hk => .inl hk⟩
  refine ⟨(h.ps.step hfr (fun k hk e => h.ba (e ▸ hk)) (fun k e => by rw [e]; exact h.b0)).1, h.ro.keepBut (fun k _ hv => put2_oth (h.ra k hv).2 _ _), h.ra, put2_row h.bx _ _, h.ba, h.b0⟩
theorem OL.app (h : OL w wr F b B9 v s own said) (hr : Rw wr v w' v') (ho : OwnL vl 36 w' w.heap.size v' x) : OL w w' F b B9 v' s own x := by
  have hB := (Array.getElem?_eq_some_iff.1 h.bx).1
  have hfr : Fr wr (fun k => v.ownBlock = some k) w' (fun k => v'.ownBlock = some k) := ⟨hr.g.os, hr.g.tape, hr.g.output, hr.g.size, fun k hk hn => hr.g.block k hk (fun e => hn e.symm), hr.n⟩
  have hm := h.ps.mine
  have h1 := h.ps.step hfr (fun k hk e => (h.ra k e).1 hk) (fun k e => (h.ro.lt e).1)
  refine ⟨h1.1, ho, fun k hv => ⟨fun hF => h1.2 k hF hv, fun e => ?_⟩, (hfr.block B9 hB (fun e => (h.ra B9 e).2 rfl)).trans h.bx, h.ba, h.b0⟩
  rcases hr.n k hv with h2 | h2
  · exact (h.ra k h2).2 e
  · omega
end
set_option maxRecDepth 100000 in
set_option maxHeartbeats 4000000 in
theorem once_walk (n me : Int) (a : Option Addr) (cap : Nat) (l : List D) (w : World) (hl : l.length ≤ maxLen) (hd : AtL dl w a l) (hok : ∀ d ∈ l, DOk w d) :
    Calls Try.prog 4 #[.int .i64 n, .int .i64 me, .slice a l.length cap] w fun e w' => e = .returned (.bool true) ∧ Below w.heap.size w w' := by
  have hm' : l.length ≤ 9223372036854775807 := by unfold maxLen at hl; omega
  have cf := few_any a cap l w hl hd hok
  have HD := Hid_of hd
  have HOK := Hid_of hok
  clear hd hok hl
  go_enter Try.func4, Try.ntmps4
  go_wp2_with fail
  refine cf.mono ?_
  clear cf
  rintro e w0 ⟨fb, rfl, hfew, hw0⟩
  obtain rfl := hw0.symm
  clear hw0
  cases fb with
  | false =>
    clear hfew
    go_wp2_with fail
    refine (awake_any _).mono ?_
    rintro e w2 ⟨rfl, hb⟩
    go_wp2
    go_ret
    exact ⟨rfl, hb⟩
  | true =>
    obtain ⟨h40, hfd⟩ := hfew rfl
    have HFW := Hid_of hfd
    clear hfew hfd
    go_wp2_with fail
    refine (newS_any w w (Below.refl _ _) n me).mono ?_
    rintro e w1 (⟨-, rfl, rfl⟩ | ⟨hnd, b, F, rfl, h1, hb1, hF1⟩)
    · go_wp2_with fail
      refine (awake_any _).mono ?_
      rintro e w2 ⟨rfl, hb⟩
      go_wp2
      go_ret
      exact ⟨rfl, hb⟩
    · skip
      obtain ⟨W2, HW2⟩ : ∃ W2, Hid (w1.alloc (.cells #[.int .i64 0, .int .i64 0] 28) = W2) := ⟨_, Hid_of rfl⟩
      have hb2 : Below w1.heap.size w1 W2 := by rw [← HW2.out]; exact bel1 w1 _
      have hr2 : W2.heap[w1.heap.size]? = some (.cells #[.int .i64 0, .int .i64 0] 28 (0, 0)) := by rw [← HW2.out]; exact heap_alloc_last w1 _
      obtain ⟨B9, HB9⟩ : ∃ B9, Hid (w1.heap.size = B9) := ⟨_, Hid_of rfl⟩
      rw [HB9.out] at hr2
      have hol0 : OL w W2 F b B9 (.slice none 0 0) (M.S0 n me) ⟨0, 0⟩ [] := ⟨h1.keep hb2, OwnL.nil _ _ _, (fun k hk => by simp [Value.ownBlock] at hk), hr2, (fun e => by have := (h1.mine _ e).2; rw [HB9.out] at this; omega), by rw [← HB9.out]; exact h1.bel.size⟩
      have HOL0 := Hid_of hol0
      clear h1 hb1 hF1 hb2 hr2 hol0 hnd
      go_upto_region 8 with fail
      rw [HW2.out, HB9.out]
      clear HW2 HB9
      go_wp2_with fail
      go_loopw [8, 10] (fun v i wr => ∃ (k : Nat) (F : Nat → Prop) (s : M.S) (own : E) (said : List V), k ≤ l.length ∧ i = .int .i64 k ∧ OL w wr F b B9 v s own said ∧ M.Onc s own said ∧ s.c ≤ 20 * k ∧ said.length ≤ 1024 * k ∧ s.me = me) (fun v i _ => l.length - (intOf i).toNat)
      case atStart => exact ⟨0, F, _, _, _, by omega, rfl, HOL0.out, M.Onc.zero n me, Nat.le_refl _, Nat.le_refl _, rfl⟩
      case round =>
        clear HOL0
        obtain ⟨k, F, s, own, said, hk, rfl, hol, hon, hcc, hln, hmm⟩ := hrel
        by_cases hlt : k < l.length
        · have hki : (k : Int) < (l.length : Int) := by omega
          have hbw := hol.ps.bel
          obtain ⟨bd, od, rfl, z0, z1, z2, z3, z4, z5, z6, z7⟩ := (HD.out.keep hbw).getD k hlt
          have HFD := Hid_of (HFW.out _ (List.getElem_mem hlt))
          have HDk := Hid_of (HOK.out _ (List.getElem_mem hlt))
          obtain ⟨d, HDD⟩ : ∃ d, Hid (l[k] = d) := ⟨_, Hid_of rfl⟩
          rw [HDD.out] at z0 z1 z2 z3 z4 z5 z6 z7 HFD HDk
          clear HDD
          have HON := Hid_of hon
          have HM := Hid_of hmm
          have HOLr := Hid_of hol
          have HBW := Hid_of hbw
          obtain ⟨W3, HW3⟩ : ∃ W3, Hid ((wr.alloc (.cells #[.int .i64 d.k, .int .i64 d.fr, .int .i64 d.v.s, .int .i64 d.v.b.i, .int .i64 d.v.b.t, .string d.v.v, .slice d.a d.l.length d.c, .bool d.o] 38)).alloc (.cells #[.int .i64 d.v.b.i, .int .i64 d.v.b.t] 28) = W3) := ⟨_, Hid_of rfl⟩
          have hb3 : Below wr.heap.size wr W3 := by rw [← HW3.out]; exact bel_up (bel1 wr _) (bel1 _ _) (Nat.le_refl _)
          have hr3 : W3.heap[wr.heap.size]? = some (.cells #[.int .i64 d.k, .int .i64 d.fr, .int .i64 d.v.s, .int .i64 d.v.b.i, .int .i64 d.v.b.t, .string d.v.v, .slice d.a d.l.length d.c, .bool d.o] 38 (0, 0)) := by rw [← HW3.out]; exact heap_alloc2_old wr _ _
          have hr4 : W3.heap[wr.heap.size + 1]? = some (.cells #[.int .i64 d.v.b.i, .int .i64 d.v.b.t] 28 (0, 0)) := by rw [← HW3.out]; exact heap_alloc2_new wr _ _
          obtain ⟨⟨f0, f1, f2, f3, f4, f5, f6, f7⟩, -⟩ := row8 hr3
          obtain ⟨⟨y0, y1⟩, yf⟩ := row2 hr4
          have yf0 := yf 0
          have yf1 := yf 1
          obtain ⟨⟨o0, o1⟩, -⟩ := row2 (hol.keep hb3).bx
          have HR3 := Hid_of hr3
          have HR4 := Hid_of hr4
          have HB3 := Hid_of hb3
          obtain ⟨bb, HBB⟩ : ∃ bb, Hid ((if d.o then own else d.v.b) = bb) := ⟨_, Hid_of rfl⟩
          clear hol hon hbw hmm hb3 hr3 hr4 yf
          go_upto_region 13 with fail
          rw [HW3.out]
          clear HW3 z0 z1 z2 z3 z4 z5 z6 z7
          go_upto_if 44 with fail
          go_cut [] from 39 to 45 (fun wx => wx.heap[wr.heap.size]? = some (.cells #[.int .i64 d.k, .int .i64 d.fr, .int .i64 d.v.s, .int .i64 d.v.b.i, .int .i64 d.v.b.t, .string d.v.v, .slice d.a d.l.length d.c, .bool d.o] 38 (0, 0)) ∧ wx.heap[wr.heap.size + 1]? = some (.cells #[.int .i64 bb.i, .int .i64 bb.t] 28 (0, 0)) ∧ Below wr.heap.size wr wx)
          case first =>
            cases hdo : d.o with
            | false =>
              have e : d.v.b = bb := by rw [← HBB.out, hdo]; rfl
              rw [e] at HR4
              clear e hdo
              go_wp2_with fail
              go_meet
              case rel => exact ⟨HR3.out, HR4.out, HB3.out⟩
            | true =>
              have e : Hid (own = bb) := Hid_of (by rw [← HBB.out, hdo]; rfl)
              clear hdo
              have hput := put2_row HR4.out (.int .i64 own.i) (.int .i64 own.t)
              have hpo := (put2_oth (w := W3) (g := wr.heap.size + 1) (k := wr.heap.size) (by omega) (.int .i64 own.i) (.int .i64 own.t)).trans HR3.out
              have hpb := put2_bel HB3.out (Nat.le_succ _) (.int .i64 own.i) (.int .i64 own.t)
              have HPP := Hid_of (show _ ∧ _ ∧ _ from ⟨hpo, hput, hpb⟩)
              clear hput hpo hpb
              go_wp2_with fail
              go_meet
              case rel => rw [← e.out]; exact HPP.out
          case rest =>
            obtain ⟨hr3, hr4, hbc⟩ := hcut
            clear o0 o1 f0 f1 f2 f3 f4 f5 f6 f7 y0 y1 yf0 yf1 HR3 HR4 HB3 HBB
            obtain ⟨⟨f0, f1, f2, f3, f4, f5, f6, f7⟩, -⟩ := row8 hr3
            obtain ⟨⟨y0, y1⟩, -⟩ := row2 hr4
            have HOLc := Hid_of (HOLr.out.keep hbc)
            have HBc := Hid_of (bel_up HBW.out hbc (Nat.le_refl _))
            clear hr3 hr4 hbc HOLr
            by_cases hk0 : d.k = 0
            · have hkd := hk0
              clear hk0
              have dk0 : (d.k == 0) = true := by simpa using hkd
              have cl := (HOLc.out.ps).lead bb d.fr
              have HME := Hid_of HM.out
              clear hkd
              go_wp2_with fail
              refine cl.mono ?_
              clear cl y0 y1
              rintro e w5 ⟨G5, rfl, h5, hf5⟩
              have hol5 := HOLc.out.did hf5 h5
              obtain ⟨W6, HW6⟩ : ∃ W6, Hid (w5.alloc (.cells #[.int .i64 (M.lde s bb d.fr).i, .int .i64 (M.lde s bb d.fr).t] 28) = W6) := ⟨_, Hid_of rfl⟩
              have hb6 : Below w5.heap.size w5 W6 := by rw [← HW6.out]; exact bel1 w5 _
              have hr6 : W6.heap[w5.heap.size]? = some (.cells #[.int .i64 (M.lde s bb d.fr).i, .int .i64 (M.lde s bb d.fr).t] 28 (0, 0)) := by rw [← HW6.out]; exact heap_alloc_last w5 _
              have hol6 := hol5.keep hb6
              by_cases hc0 : M.ldc s bb d.fr = 0
              · obtain ⟨hon, hgt, hme⟩ := HON.out.lead HOLc.out.ps.ok hc0
                have HON6 := Hid_of hon
                have HC0 := Hid_of hc0
                have hd0 : (M.ldc s bb d.fr == 0) = true := by simpa using hc0
                have hme' : ((M.lde s bb d.fr).t != me) = false := by rw [hme, HM.out]; simp
                have cr := rcmp_any (M.lde s bb d.fr) own
                have hle : decide (M.cmpE (M.lde s bb d.fr) own ≤ 0) = false := decide_eq_false (by omega)
                have HOL6 := Hid_of hol6
                have HR6 := Hid_of hr6
                have HCC : Hid ((M.lds s bb d.fr).c ≤ 20 * (k + 1)) := Hid_of (by rw [M.lds_c]; omega)
                have HMM : Hid ((M.lds s bb d.fr).me = me) := Hid_of (by rw [M.lds_me]; exact HM.out)
                obtain ⟨⟨x0, x1⟩, -⟩ := row2 hr6
                obtain ⟨⟨u0, u1⟩, -⟩ := row2 hol6.bx
                generalize M.lde s bb d.fr = c at *
                generalize M.lds s bb d.fr = s' at *
                generalize M.ldc s bb d.fr = q at *
                generalize M.cmpE c own = r at *
                clear hol5 hol6 hb6 hr6 hf5 h5 hon hgt hme hc0
                go_upto_region 18 with fail
                rw [HW6.out]
                clear HW6
                go_wp2_with fail
                refine (cr _).mono ?_
                clear cr
                rintro e w7 ⟨rfl, hb7⟩
                have hol7 := HOL6.out.keep hb7
                obtain ⟨⟨p0, p1⟩, -⟩ := row2 (bel_row HR6.out hb7)
                obtain ⟨⟨q0, q1⟩, qf⟩ := row2 hol7.bx
                have qf0 := qf 0
                have qf1 := qf 1
                have HOL8 := Hid_of (hol7.setOwn c)
                clear hol7 hb7 x0 x1 u0 u1 qf
                go_wp2
                go_roundw
                case rel => exact ⟨k + 1, G5, s', c, said, by omega, by go_num, HOL8.out, HON6.out, HCC.out, by omega, HMM.out⟩
                case measure => simp [intOf]; omega
              · have hd0 : (M.ldc s bb d.fr == 0) = false := by simpa using hc0
                have e2 := M.lds_no hc0
                rw [e2] at hol6
                have HOL6 := Hid_of hol6
                generalize M.lde s bb d.fr = c at *
                generalize M.ldc s bb d.fr = q at *
                clear hol5 hol6 hb6 hr6 hf5 h5 hc0 e2
                go_upto_region 18 with fail
                rw [HW6.out]
                clear HW6
                go_wp2
                go_roundw
                case rel => exact ⟨k + 1, G5, s, own, said, by omega, by go_num, HOL6.out, HON.out, by omega, by omega, HM.out⟩
                case measure => simp [intOf]; omega
            · by_cases hk1 : d.k = 1
              · have hkd := hk1
                clear hk1 hk0
                have dk0 : (d.k == 0) = false := by simpa using (show ¬ d.k = 0 by omega)
                have dk1 : (d.k == 1) = true := by simpa using hkd
                have cl := (HOLc.out.ps).promise d.fr bb d.a d.c d.l (HDk.out.keep HBc.out).at' (fun hl0 j hj hF => by
                  have h1 := HDk.out.at'.lt hl0 j hj
                  have h2 := (HOLc.out.ps.mine j hF).1
                  omega) (by have := HFD.out.2.1; omega)
                have HCC : Hid ((M.prs s d.fr bb d.l).c ≤ 20 * (k + 1)) := Hid_of (by have h1 := M.prs_c s d.fr bb d.l; have := HFD.out.2.1; omega)
                have HMM : Hid ((M.prs s d.fr bb d.l).me = me) := Hid_of (by rw [M.prs_me]; exact HM.out)
                have HON6 := Hid_of (HON.out.promise d.fr bb d.l)
                clear hkd
                go_wp2_with fail
                refine cl.mono ?_
                clear cl y0 y1
                rintro e w5 ⟨G5, rfl, h5, hf5⟩
                have HOL6 := Hid_of (HOLc.out.did hf5 h5)
                clear h5 hf5
                go_wp2
                go_roundw
                case rel => exact ⟨k + 1, G5, M.prs s d.fr bb d.l, own, said, by omega, by go_num, HOL6.out, HON6.out, HCC.out, by omega, HMM.out⟩
                case measure => simp [intOf]; omega
              · by_cases hk2 : d.k = 2
                · have hkd := hk2
                  clear hk2 hk1 hk0
                  have dk0 : (d.k == 0) = false := by simpa using (show ¬ d.k = 0 by omega)
                  have dk1 : (d.k == 1) = false := by simpa using (show ¬ d.k = 1 by omega)
                  have dk2 : (d.k == 2) = true := by simpa using hkd
                  have cl := HOLc.out.ps.fill
                  have HON6 := Hid_of (HON.out.fill HOLc.out.ps.ok)
                  have hfl := M.flo_len s HOLc.out.ps.ok
                  have HCC : Hid ((M.fls s).c ≤ 20 * (k + 1)) := Hid_of (by rw [M.fls_c]; omega)
                  have HMM : Hid ((M.fls s).me = me) := Hid_of (by rw [M.fls_me]; exact HM.out)
                  clear hkd
                  go_wp2_with fail
                  refine cl.mono ?_
                  clear cl y0 y1
                  rintro e w5 ⟨G5, ad, c5, rfl, hx5, hbk5, h5, hf5⟩
                  have hol5 := HOLc.out.did hf5 h5
                  obtain ⟨a', c', w6, hrun, ho6, hr6⟩ := run_appX w5 w.heap.size u8 said (M.flo s) ad c5 hol5.ro hx5 h5.bel.size (by omega)
                  have HOL6 := Hid_of (hol5.app hr6 ho6)
                  obtain ⟨q8, n8, rfl, -⟩ := hol5.ro.at
                  have HLN : Hid ((said ++ M.flo s).length ≤ 1024 * (k + 1)) := Hid_of (by rw [List.length_append]; omega)
                  clear hol5 h5 hf5 hx5 hbk5 ho6 hr6
                  go_wp2_with (at_builtin; refine wpList_append_known rfl _ _ 30 rfl _ _ rfl rfl _ _ (hrun _) ?_)
                  go_roundw
                  case rel => exact ⟨k + 1, G5, M.fls s, own, said ++ M.flo s, by omega, by go_num, HOL6.out, HON6.out, HCC.out, HLN.out, HMM.out⟩
                  case measure => simp [intOf]; omega
                · by_cases hk3 : d.k = 3
                  · have hkd := hk3
                    clear hk3 hk2 hk1 hk0
                    have dk0 : (d.k == 0) = false := by simpa using (show ¬ d.k = 0 by omega)
                    have dk1 : (d.k == 1) = false := by simpa using (show ¬ d.k = 1 by omega)
                    have dk2 : (d.k == 2) = false := by simpa using (show ¬ d.k = 2 by omega)
                    have dk3 : (d.k == 3) = true := by simpa using hkd
                    have cl := HOLc.out.ps.propose d.v.v
                    clear hkd
                    go_wp2_with fail
                    refine cl.mono ?_
                    clear cl y0 y1
                    rintro e w5 ⟨rfl, h5, hf5⟩
                    have hol5 := HOLc.out.did hf5 h5
                    obtain ⟨W6, HW6⟩ : ∃ W6, Hid (w5.alloc (.cells #[.int .i64 (M.ppv s d.v.v).s, .int .i64 (M.ppv s d.v.v).b.i, .int .i64 (M.ppv s d.v.v).b.t, .string (M.ppv s d.v.v).v] 36) = W6) := ⟨_, Hid_of rfl⟩
                    have hb6 : Below w5.heap.size w5 W6 := by rw [← HW6.out]; exact bel1 w5 _
                    have hr6 : W6.heap[w5.heap.size]? = some (.cells #[.int .i64 (M.ppv s d.v.v).s, .int .i64 (M.ppv s d.v.v).b.i, .int .i64 (M.ppv s d.v.v).b.t, .string (M.ppv s d.v.v).v] 36 (0, 0)) := by rw [← HW6.out]; exact heap_alloc_last w5 _
                    have hol6 := hol5.keep hb6
                    by_cases hc0 : M.ppc s d.v.v = 0
                    · have HON6 := Hid_of (HON.out.propose HOLc.out.ps.ok hc0)
                      have hd0 : (M.ppc s d.v.v == 0) = true := by simpa using hc0
                      have HCC : Hid ((M.pps s d.v.v).c ≤ 20 * (k + 1)) := Hid_of (by rw [M.pps_c]; omega)
                      have HMM : Hid ((M.pps s d.v.v).me = me) := Hid_of (by rw [M.pps_me]; exact HM.out)
                      obtain ⟨⟨x0, x1, x2, x3⟩, -⟩ := row4 hr6
                      obtain ⟨a', c', w7, hrun, ho7, hr7⟩ := app1 (M.ppv s d.v.v) hol6.ro hol6.ps.bel.size (by omega)
                      have HOL7 := Hid_of (hol6.app hr7 ho7)
                      have HLN : Hid ((said ++ [M.ppv s d.v.v]).length ≤ 1024 * (k + 1)) := Hid_of (by simp; omega)
                      obtain ⟨q8, n8, rfl, -⟩ := hol6.ro.at
                      generalize M.ppv s d.v.v = c at *
                      generalize M.pps s d.v.v = s' at *
                      generalize M.ppc s d.v.v = q at *
                      clear hol5 hol6 hb6 hr6 hf5 h5 hc0 ho7 hr7
                      go_upto_region 28 with fail
                      rw [HW6.out]
                      clear HW6
                      go_wp2_with (at_builtin; refine wpList_append_known rfl _ _ 30 rfl _ _ rfl rfl _ _ (hrun _) ?_)
                      go_roundw
                      case rel => exact ⟨k + 1, F, s', own, said ++ [c], by omega, by go_num, HOL7.out, HON6.out, HCC.out, HLN.out, HMM.out⟩
                      case measure => simp [intOf]; omega
                    · have hd0 : (M.ppc s d.v.v == 0) = false := by simpa using hc0
                      have e2 := M.pps_no hc0
                      rw [e2] at hol6
                      have HOL6 := Hid_of hol6
                      generalize M.ppv s d.v.v = c at *
                      generalize M.ppc s d.v.v = q at *
                      clear hol5 hol6 hb6 hr6 hf5 h5 hc0 e2
                      go_upto_region 28 with fail
                      rw [HW6.out]
                      clear HW6
                      go_wp2
                      go_roundw
                      case rel => exact ⟨k + 1, F, s, own, said, by omega, by go_num, HOL6.out, HON.out, by omega, by omega, HM.out⟩
                      case measure => simp [intOf]; omega
                  · by_cases hk4 : d.k = 4
                    · have hkd := hk4
                      clear hk4 hk3 hk2 hk1 hk0
                      have dk0 : (d.k == 0) = false := by simpa using (show ¬ d.k = 0 by omega)
                      have dk1 : (d.k == 1) = false := by simpa using (show ¬ d.k = 1 by omega)
                      have dk2 : (d.k == 2) = false := by simpa using (show ¬ d.k = 2 by omega)
                      have dk3 : (d.k == 3) = false := by simpa using (show ¬ d.k = 3 by omega)
                      have dk4 : (d.k == 4) = true := by simpa using hkd
                      have cl := (HOLc.out.ps).stepB bb
                      have HCC : Hid ((M.sts s bb).c ≤ 20 * (k + 1)) := Hid_of (by rw [M.sts_c]; omega)
                      have HMM : Hid ((M.sts s bb).me = me) := Hid_of (by rw [M.sts_me]; exact HM.out)
                      have HON6 := Hid_of (HON.out.step bb)
                      clear hkd
                      go_wp2_with fail
                      refine cl.mono ?_
                      clear cl y0 y1
                      rintro e w5 ⟨G5, rfl, h5, hf5⟩
                      have HOL6 := Hid_of (HOLc.out.did hf5 h5)
                      clear h5 hf5
                      go_wp2
                      go_roundw
                      case rel => exact ⟨k + 1, G5, M.sts s bb, own, said, by omega, by go_num, HOL6.out, HON6.out, HCC.out, by omega, HMM.out⟩
                      case measure => simp [intOf]; omega
                    · skip
                      have dk0 : (d.k == 0) = false := by simpa using hk0
                      have dk1 : (d.k == 1) = false := by simpa using hk1
                      have dk2 : (d.k == 2) = false := by simpa using hk2
                      have dk3 : (d.k == 3) = false := by simpa using hk3
                      have dk4 : (d.k == 4) = false := by simpa using hk4
                      go_wp2
                      go_roundw
                      case rel => exact ⟨k + 1, F, s, own, said, by omega, by go_num, HOLc.out, HON.out, by omega, by omega, HM.out⟩
                      case measure => simp [intOf]; omega
        · clear HD HOK HFW
          obtain rfl : k = l.length := by omega
          have HOF := Hid_of hol
          have HON := Hid_of hon
          have hsl : said.length ≤ 1000000 := by omega
          obtain ⟨a8, c8, hv8, hx8, -⟩ := hol.ro.at
          subst hv8
          have HX := Hid_of hx8
          have HBL := Hid_of hol.ps.bel
          clear hol hon hx8
          rename World => wo
          go_wp2_with fail
          go_loopw [17] (fun i wx => ∃ p : Nat, p ≤ said.length ∧ i = .int .i64 p ∧ Below wo.heap.size wo wx) (fun i _ => said.length - (intOf i).toNat)
          case atStart => exact ⟨0, by omega, rfl, Below.refl _ _⟩
          case round =>
            obtain ⟨p, hp, rfl, hbp⟩ := hrel
            by_cases hlp : p < said.length
            · have hpi : (p : Int) < (said.length : Int) := by omega
              have HBP := Hid_of hbp
              clear hbp
              rename World => wp
              go_wp2_with fail
              go_loopw [18] (fun i wx => ∃ q : Nat, q ≤ p ∧ i = .int .i64 q ∧ Below wo.heap.size wo wx) (fun i _ => p - (intOf i).toNat)
              case atStart => exact ⟨0, by omega, rfl, HBP.out⟩
              case round =>
                obtain ⟨q, hq, rfl, hbq⟩ := hrel
                by_cases hlq : q < p
                · have hqi : (q : Int) < (p : Int) := by omega
                  have hqs : (q : Int) < (said.length : Int) := by omega
                  rename World => wy
                  have hxy := HX.out.keep hbq
                  have hdf := HON.out.pair p q hlq hlp
                  unfold M.Dif at hdf
                  obtain ⟨bA, oA, rfl, -⟩ := hxy.at'.getV q (by omega)
                  obtain ⟨x, HXq⟩ : ∃ x, Hid (said[q]'(by omega) = x) := ⟨_, Hid_of rfl⟩
                  obtain ⟨y, HYp⟩ : ∃ y, Hid (said[p] = y) := ⟨_, Hid_of rfl⟩
                  rw [HXq.out, HYp.out] at hdf
                  have HS : Hid (∀ wq, Below wy.heap.size wy wq → (wq.cell? ⟨bA, oA + q * 4, none⟩ = some (.int .i64 x.s) ∧ wq.cell? ⟨bA, oA + q * 4 + 1, none⟩ = some (.int .i64 x.b.i) ∧ wq.cell? ⟨bA, oA + q * 4 + 2, none⟩ = some (.int .i64 x.b.t) ∧ wq.cell? ⟨bA, oA + q * 4 + 3, none⟩ = some (.string x.v)) ∧ (wq.cell? ⟨bA, oA + p * 4, none⟩ = some (.int .i64 y.s) ∧ wq.cell? ⟨bA, oA + p * 4 + 1, none⟩ = some (.int .i64 y.b.i) ∧ wq.cell? ⟨bA, oA + p * 4 + 2, none⟩ = some (.int .i64 y.b.t) ∧ wq.cell? ⟨bA, oA + p * 4 + 3, none⟩ = some (.string y.v))) := fun wq hwq => by
                    obtain ⟨b1, o1, e1, g1⟩ := (hxy.keep hwq).at'.getV q (by omega)
                    obtain ⟨b2, o2, e2, g2⟩ := (hxy.keep hwq).at'.getV p hlp
                    cases e1
                    cases e2
                    rw [HXq.out] at g1
                    rw [HYp.out] at g2
                    exact ⟨g1, g2⟩
                  have HBQ := Hid_of hbq
                  clear hxy hbq HXq HYp
                  by_cases hse : x.s = y.s
                  · have ds : (x.s == y.s) = true := by simpa using hse
                    have hne : (decide (x.b.i = y.b.i) && decide (x.b.t = y.b.t)) = false := by
                      rw [Bool.and_eq_false_iff]
                      rcases Classical.em (x.b.i = y.b.i) with h1 | h1
                      · exact .inr (decide_eq_false (fun h2 => hdf ⟨hse, h1, h2⟩))
                      · exact .inl (decide_eq_false h1)
                    have he := eq28 x.b.i x.b.t y.b.i y.b.t
                    rw [hne] at he
                    clear hse hdf hne
                    go_upto_region 38 with fail
                    refine wp_region_held_drew (S := fun wq => Below (wy).heap.size (wy) wq) (by kernel_rfl) (Below.drew (Below.refl _ _)) (fun hHeld => ?_)
                    obtain ⟨wde, hwde⟩ : ∃ wd, wy.drew = wd := ⟨_, rfl⟩
                    have hBwd : Below wy.heap.size wy wde := by rw [← hwde]; exact Below.drew (Below.refl _ _)
                    rw [hwde] at hHeld ⊢
                    clear hwde
                    refine Tm 0 ?p0e ?v0e hHeld ?r0e
                    simp only [Act.put, Pa, Pb, Pc]
                    refine Tm 1 ?p1e ?v1e hHeld ?r1e
                    simp only [Act.put, Pa, Pb, Pc]
                    refine Tm 2 ?p2e ?v2e hHeld ?r2e
                    simp only [Act.put, Pa, Pb, Pc]
                    refine Tm 3 ?p3e ?v3e hHeld ?r3e
                    simp only [Act.put, Pa, Pb, Pc]
                    refine Tk 4 ?p4e ?v4e ?y4e hHeld ?r4e
                    case y4e => intro wq hq; obtain ⟨⟨a0, a1, a2, a3⟩, ⟨b0, b1, b2, b3⟩⟩ := HS.out wq hq; go_simp; try with_reducible rfl
                    simp only [Act.put, Pa, Pb, Pc]
                    refine Tm 5 ?p5e ?v5e hHeld ?r5e
                    simp only [Act.put, Pa, Pb, Pc]
                    refine Tm 6 ?p6e ?v6e hHeld ?r6e
                    simp only [Act.put, Pa, Pb, Pc]
                    refine Tm 7 ?p7e ?v7e hHeld ?r7e
                    simp only [Act.put, Pa, Pb, Pc]
                    refine Tm 8 ?p8e ?v8e hHeld ?r8e
                    simp only [Act.put, Pa, Pb, Pc]
                    refine Tk 9 ?p9e ?v9e ?y9e hHeld ?r9e
                    case y9e => intro wq hq; obtain ⟨⟨a0, a1, a2, a3⟩, ⟨b0, b1, b2, b3⟩⟩ := HS.out wq hq; go_simp; try with_reducible rfl
                    simp only [Act.put, Pa, Pb, Pc]
                    refine Tm 10 ?p10e ?v10e hHeld ?r10e
                    simp only [Act.put, Pa, Pb, Pc]
                    refine Tm 11 ?p11e ?v11e hHeld ?r11e
                    simp only [Act.put, Pa, Pb, Pc]
                    refine Tm 12 ?p12e ?v12e hHeld ?r12e
                    simp only [Act.put, Pa, Pb, Pc]
                    refine Tm 13 ?p13e ?v13e hHeld ?r13e
                    simp only [Act.put, Pa, Pb, Pc]
                    refine Tm 14 ?p14e ?v14e hHeld ?r14e
                    simp only [Act.put, Pa, Pb, Pc]
                    refine Tm 15 ?p15e ?v15e hHeld ?r15e
                    simp only [Act.put, Pa, Pb, Pc]
                    refine Tk 16 ?p16e ?v16e ?y16e hHeld ?r16e
                    case y16e => intro wq hq; obtain ⟨⟨a0, a1, a2, a3⟩, ⟨b0, b1, b2, b3⟩⟩ := HS.out wq hq; go_simp; try with_reducible rfl
                    simp only [Act.put, Pa, Pb, Pc]
                    refine Tm 17 ?p17e ?v17e hHeld ?r17e
                    simp only [Act.put, Pa, Pb, Pc]
                    refine Tm 18 ?p18e ?v18e hHeld ?r18e
                    simp only [Act.put, Pa, Pb, Pc]
                    refine Tm 19 ?p19e ?v19e hHeld ?r19e
                    simp only [Act.put, Pa, Pb, Pc]
                    refine Tm 20 ?p20e ?v20e hHeld ?r20e
                    simp only [Act.put, Pa, Pb, Pc]
                    refine Tk 21 ?p21e ?v21e ?y21e hHeld ?r21e
                    case y21e => intro wq hq; obtain ⟨⟨a0, a1, a2, a3⟩, ⟨b0, b1, b2, b3⟩⟩ := HS.out wq hq; go_simp; try with_reducible rfl
                    simp only [Act.put, Pa, Pb, Pc]
                    refine Tm 22 ?p22e ?v22e hHeld ?r22e
                    simp only [Act.put, Pa, Pb, Pc]
                    refine Tm 23 ?p23e ?v23e hHeld ?r23e
                    simp only [Act.put, Pa, Pb, Pc]
                    refine wpAnyH_done (by kernel_rfl) ?_ _
                    have HBF := Hid_of (bel_up HBQ.out hHeld (Nat.le_refl _))
                    clear hHeld hBwd
                    go_wp2
                    go_roundw
                    case rel => exact ⟨q + 1, by omega, by go_num, HBF.out⟩
                    case measure => simp [intOf]; omega
                  · have ds : (x.s == y.s) = false := by simpa using hse
                    clear hse hdf
                    go_upto_region 38 with fail
                    refine wp_region_held_drew (S := fun wq => Below (wy).heap.size (wy) wq) (by kernel_rfl) (Below.drew (Below.refl _ _)) (fun hHeld => ?_)
                    obtain ⟨wdf, hwdf⟩ : ∃ wd, wy.drew = wd := ⟨_, rfl⟩
                    have hBwd : Below wy.heap.size wy wdf := by rw [← hwdf]; exact Below.drew (Below.refl _ _)
                    rw [hwdf] at hHeld ⊢
                    clear hwdf
                    refine Tm 0 ?p0f ?v0f hHeld ?r0f
                    simp only [Act.put, Pa, Pb, Pc]
                    refine Tm 1 ?p1f ?v1f hHeld ?r1f
                    simp only [Act.put, Pa, Pb, Pc]
                    refine Tm 2 ?p2f ?v2f hHeld ?r2f
                    simp only [Act.put, Pa, Pb, Pc]
                    refine Tm 3 ?p3f ?v3f hHeld ?r3f
                    simp only [Act.put, Pa, Pb, Pc]
                    refine Tk 4 ?p4f ?v4f ?y4f hHeld ?r4f
                    case y4f => intro wq hq; obtain ⟨⟨a0, a1, a2, a3⟩, ⟨b0, b1, b2, b3⟩⟩ := HS.out wq hq; go_simp; try with_reducible rfl
                    simp only [Act.put, Pa, Pb, Pc]
                    refine Tm 5 ?p5f ?v5f hHeld ?r5f
                    simp only [Act.put, Pa, Pb, Pc]
                    refine Tm 6 ?p6f ?v6f hHeld ?r6f
                    simp only [Act.put, Pa, Pb, Pc]
                    refine Tm 7 ?p7f ?v7f hHeld ?r7f
                    simp only [Act.put, Pa, Pb, Pc]
                    refine Tm 8 ?p8f ?v8f hHeld ?r8f
                    simp only [Act.put, Pa, Pb, Pc]
                    refine Tk 9 ?p9f ?v9f ?y9f hHeld ?r9f
                    case y9f => intro wq hq; obtain ⟨⟨a0, a1, a2, a3⟩, ⟨b0, b1, b2, b3⟩⟩ := HS.out wq hq; go_simp; try with_reducible rfl
                    simp only [Act.put, Pa, Pb, Pc]
                    refine Tm 10 ?p10f ?v10f hHeld ?r10f
                    simp only [Act.put, Pa, Pb, Pc]
                    refine Tm 11 ?p11f ?v11f hHeld ?r11f
                    simp only [Act.put, Pa, Pb, Pc]
                    refine Ts 12 ?p12f hHeld ?r12f
                    simp only [Act.put, Pa, Pb, Pc]
                    refine Ts 13 ?p13f hHeld ?r13f
                    simp only [Act.put, Pa, Pb, Pc]
                    refine Ts 14 ?p14f hHeld ?r14f
                    simp only [Act.put, Pa, Pb, Pc]
                    refine Ts 15 ?p15f hHeld ?r15f
                    simp only [Act.put, Pa, Pb, Pc]
                    refine Ts 16 ?p16f hHeld ?r16f
                    simp only [Act.put, Pa, Pb, Pc]
                    refine Ts 17 ?p17f hHeld ?r17f
                    simp only [Act.put, Pa, Pb, Pc]
                    refine Ts 18 ?p18f hHeld ?r18f
                    simp only [Act.put, Pa, Pb, Pc]
                    refine Ts 19 ?p19f hHeld ?r19f
                    simp only [Act.put, Pa, Pb, Pc]
                    refine Ts 20 ?p20f hHeld ?r20f
                    simp only [Act.put, Pa, Pb, Pc]
                    refine Ts 21 ?p21f hHeld ?r21f
                    simp only [Act.put, Pa, Pb, Pc]
                    refine Ts 22 ?p22f hHeld ?r22f
                    simp only [Act.put, Pa, Pb, Pc]
                    refine Tm 23 ?p23f ?v23f hHeld ?r23f
                    simp only [Act.put, Pa, Pb, Pc]
                    refine wpAnyH_done (by kernel_rfl) ?_ _
                    have HBF := Hid_of (bel_up HBQ.out hHeld (Nat.le_refl _))
                    clear hHeld hBwd
                    go_wp2
                    go_roundw
                    case rel => exact ⟨q + 1, by omega, by go_num, HBF.out⟩
                    case measure => simp [intOf]; omega
                · obtain rfl : q = p := by omega
                  have HBF := Hid_of hbq
                  clear hbq
                  go_wp2
                  go_roundw
                  case rel => exact ⟨q + 1, by omega, by go_num, HBF.out⟩
                  case measure => simp [intOf]; omega
            · obtain rfl : p = said.length := by omega
              have HBF := Hid_of (bel_up HBL.out hbp (Nat.le_refl _))
              clear hbp
              go_wp2_with fail
              refine (awake_any _).mono ?_
              rintro e wz ⟨rfl, hbz⟩
              have HBZ := Hid_of (bel_up HBF.out hbz (Nat.le_refl _))
              clear hbz
              go_wp2
              go_ret
              exact ⟨rfl, HBZ.out⟩

end Go.Proofs.Ytpolmfgklgggcaa
