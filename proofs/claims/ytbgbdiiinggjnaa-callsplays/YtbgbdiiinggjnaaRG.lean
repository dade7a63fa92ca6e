/-
  The document's Due.
-/
import Derived.Test.YtbgbdiiinggjnaaRF
import Derived.Test.YtbgbdiiinggjnaaTriesW
namespace Go.Proofs.Ytbgbdiiinggjnaa
open Go.RowKit
set_option linter.unusedVariables false
open M (E)
open Cl (K W Ms fup Rel)

theorem f13_res : Try.f13.results = #[.cell 4 29, .tmp 5] := rfl
set_option maxRecDepth 100000 in
set_option maxHeartbeats 1000000 in
theorem rdue_no {w : World} {a : Option Addr} {cap : Nat} {L : List K} (h : RN w a cap L) (me next now : Int) (hn : Cl.moment now = false) :
    Calls Try.prog 13 #[.agg #[.int .i64 me, .int .i64 next, .slice a L.length cap], .int .i64 now] w (RFOut w a me next L (.slice none 0 0)) := by
  obtain ⟨W1, HW1⟩ : ∃ W1, Hid ((w.alloc (.cells #[.int .i64 me, .int .i64 next, .slice a L.length cap] 29)).alloc (.cells #[.int .i64 0, .int .i64 0, .slice none 0 0] 29) = W1) := ⟨_, rfl⟩
  have HB1 : Hid (Below w.heap.size w W1) := by rw [← HW1.out]; exact bel_up (bel1 w _) (bel1 _ _) (Nat.le_refl _)
  have hs1 : W1.heap.size = w.heap.size + 2 := by rw [← HW1.out]; simp
  obtain ⟨hr1, hr2⟩ : W1.heap[w.heap.size]? = some (.cells #[.int .i64 me, .int .i64 next, .slice a L.length cap] 29 (0, 0)) ∧ W1.heap[w.heap.size + 1]? = some (.cells #[.int .i64 0, .int .i64 0, .slice none 0 0] 29 (0, 0)) := by
    rw [← HW1.out]
    refine ⟨(Below.heap_alloc _ _ _ (by simp)).trans (heap_alloc_last w _), ?_⟩
    have := heap_alloc_last (w.alloc (.cells #[.int .i64 me, .int .i64 next, .slice a L.length cap] 29)) (.cells #[.int .i64 0, .int .i64 0, .slice none 0 0] 29)
    simpa using this
  have HRN := Hid_of h
  have hln := h.n
  have hm := rmoment_any now
  rw [hn] at hm
  obtain ⟨⟨n0, n1, n2⟩, _⟩ := rw3 hr1
  obtain ⟨j1, j2, j3, _⟩ := ref_lay (x := .int .i64 me) (v1 := .int .i64 next) (v2 := .slice a L.length cap) HB1.out hr2 (by omega)
  obtain ⟨⟨y0, y1, y2⟩, yf0, yf1, yf2⟩ := j1
  have HQ1 := Hid_of j2
  have HQ2 : Hid (RFOut w a me next L (.slice none 0 0) (.returned (.tuple #[.agg #[.int .i64 me, .int .i64 next, .slice a L.length cap], .slice none 0 0])) (put3 W1 (w.heap.size + 1) (.int .i64 me) (.int .i64 next) (.slice a L.length cap))) := ⟨a, cap, rfl, (HRN.out.keep j3).x, Lie.same _ _ _, j3⟩
  clear j2 j3 hr1 hr2 h hs1 hn
  go_enter Try.func13, Try.ntmps13
  go_upto_region 1 with fail
  rw [HW1.out]
  go_wp2_with fail
  refine (hm _).mono ?_
  rintro e w0 ⟨rfl, rfl⟩
  go_wp2
  refine bodyPost_ret (v := .tuple #[.agg #[.int .i64 me, .int .i64 next, .slice a L.length cap], .slice none 0 0]) ?_ rfl HQ2.out
  exact res3 f13_res _ _ (w.heap.size + 1) _ _ _ rfl HQ1.out
/-- What Due leaves. -/
def RDOut (w : World) (a : Option Addr) (me next : Int) (L : List K) (out : List Ms) (e : Ending) (w' : World) : Prop := ∃ a' cap' ao co, e = .returned (.tuple #[.agg #[.int .i64 me, .int .i64 next, .slice a' L.length cap'], .slice ao out.length co]) ∧ XL kl w' a' cap' L ∧ Lie w a w' a' ∧ AtL ml w' ao out ∧ (∀ k, blk ao k → w.heap.size ≤ k ∧ k < w'.heap.size) ∧ Below w.heap.size w w'
set_option maxRecDepth 100000 in
set_option maxHeartbeats 4000000 in
theorem rdue_yes {w : World} {a : Option Addr} {cap : Nat} {L : List K} (h : RN w a cap L) (hu : Cl.Up L) (nx : Int) (hok : ∀ k ∈ L, Cl.KOk nx k) (me next now : Int) (hn : Cl.moment now = true) (ids0 : List Int) (hd : Cl.Dues L now ids0) (hi0 : ids0.length ≤ 1000) :
    Calls Try.prog 13 #[.agg #[.int .i64 me, .int .i64 next, .slice a L.length cap], .int .i64 now] w (RDOut w a me next (Cl.run me now ids0 L []).1 (Cl.run me now ids0 L []).2) := by
  obtain ⟨W1, HW1⟩ : ∃ W1, Hid ((w.alloc (.cells #[.int .i64 me, .int .i64 next, .slice a L.length cap] 29)).alloc (.cells #[.int .i64 0, .int .i64 0, .slice none 0 0] 29) = W1) := ⟨_, rfl⟩
  have HB1 : Hid (Below w.heap.size w W1) := by rw [← HW1.out]; exact bel_up (bel1 w _) (bel1 _ _) (Nat.le_refl _)
  have hs1 : W1.heap.size = w.heap.size + 2 := by rw [← HW1.out]; simp
  obtain ⟨hr1, hr2⟩ : W1.heap[w.heap.size]? = some (.cells #[.int .i64 me, .int .i64 next, .slice a L.length cap] 29 (0, 0)) ∧ W1.heap[w.heap.size + 1]? = some (.cells #[.int .i64 0, .int .i64 0, .slice none 0 0] 29 (0, 0)) := by
    rw [← HW1.out]
    refine ⟨(Below.heap_alloc _ _ _ (by simp)).trans (heap_alloc_last w _), ?_⟩
    have := heap_alloc_last (w.alloc (.cells #[.int .i64 me, .int .i64 next, .slice a L.length cap] 29)) (.cells #[.int .i64 0, .int .i64 0, .slice none 0 0] 29)
    simpa using this
  have HRN := Hid_of h
  have hln := h.n
  have hm := rmoment_any now
  rw [hn] at hm
  obtain ⟨⟨n0, n1, n2⟩, _⟩ := rw3 hr1
  have hn' := Cl.moment_iff.1 hn
  obtain ⟨al0, cl, w2, hrun0, o2, b2⟩ := run_copyL tiK W1 27 a cap L (h.keep HB1.out).x (by omega)
  rw [hs1] at o2
  replace hrun0 : ∀ ty, (Builtin.append_ #[27, 27] ty #[.slice none 0 0, .slice a L.length cap]).run Try.prog W1 = .ok (.slice al0 L.length cl) w2 := fun ty => (append_ty _ _ _ ty 27).trans hrun0
  have HD0 : Hid (DQ w me next now nx a cap L ids0 al0 cl w2 (.slice none 0 0) L [] ids0) := ⟨(b2.block _ (by omega)).trans hr1, (b2.block _ (by omega)).trans hr2, bel_up HB1.out b2 (Nat.le_refl _), o2, OwnL.nil _ _ _, fun k e => by simp [Value.ownBlock] at e, hd, rfl, hu, rfl, hok, by simpa using hi0⟩
  obtain ⟨_, _, hv2, hx2, _⟩ := o2.at
  cases hv2
  have hfi := first_ref al0 cl L now w2 hln hx2.at'
  have HROW : Hid (W1.heap[w.heap.size]? = some (.cells #[.int .i64 me, .int .i64 next, .slice a L.length cap] 29 (0, 0)) ∧ W1.heap[w.heap.size + 1]? = some (.cells #[.int .i64 0, .int .i64 0, .slice none 0 0] 29 (0, 0))) := ⟨hr1, hr2⟩
  clear h o2 b2 hr1 hr2 hx2 hd hi0 hok hu hn
  go_enter Try.func13, Try.ntmps13
  go_upto_region 1 with fail
  rw [HW1.out]
  go_wp2_with fail
  refine (hm _).mono ?_
  rintro e w0 ⟨rfl, rfl⟩
  go_upto_region 4 with (at_builtin; refine wpList_append_known rfl _ _ 27 rfl _ _ rfl rfl _ _ (hrun0 _) ?_)
  go_wp2_with fail
  refine hfi.mono ?_
  rintro e w3 ⟨r0, rfl, hf0, hb3⟩
  have HD3 := Hid_of (HD0.out.keep hb3)
  have HF3 := Hid_of hf0
  clear hfi hb3 hf0 HD0 hrun0 hm n0 n1 n2 HW1
  go_wp2_with fail
  go_loopw [7, 8] (fun u7 u8 wr => ∃ (r : Int) (Lr : List K) (out : List Ms) (ids : List Int), u8 = .int .i64 r ∧ Hid (DQ w me next now nx a cap L ids0 al0 cl wr u7 Lr out ids) ∧ Hid (Cl.Fp Lr now Lr.length r)) (fun _ _ wr => mcnt wr al0 now L.length)
  case atStart => exact ⟨r0, L, [], ids0, rfl, HD3, HF3⟩
  case round =>
    clear HD3 HF3
    obtain ⟨r, Lr, out, ids, rfl, HD, HF⟩ := hrel
    rcases HF.out.rng with rfl | ⟨j, rfl, _, hj⟩
    · have hids := HD.out.d.nil HF.out
      have hrun : Cl.run me now ids0 L [] = (Lr, out) := by rw [HD.out.run, hids]; rfl
      have hbW : Below w0.heap.size w0 wr := ⟨HD.out.b.os.trans HB1.out.os.symm, HD.out.b.tape.trans HB1.out.tape.symm, HD.out.b.output.trans HB1.out.output.symm, by rw [hs1]; exact (Array.getElem?_eq_some_iff.1 HD.out.z).1, fun k hk => by
        rcases (by omega : k < w.heap.size ∨ k = w.heap.size ∨ k = w.heap.size + 1) with h' | h' | h'
        · rw [HD.out.b.block k h', HB1.out.block k h']
        · subst h'; rw [HD.out.c, HROW.out.1]
        · subst h'; rw [HD.out.z, HROW.out.2]⟩
      have o4 := HD.out.o
      rw [← hs1] at o4
      obtain ⟨⟨u2, uf2⟩, W6, hW6, ⟨v0, v1, v2⟩, ⟨⟨z0, z1, z2⟩, zf0, zf1, zf2⟩, lq, hx6, hli, hb6, hoth⟩ := ref_fin (a := a) HROW.out.1 HROW.out.2 HB1.out (by omega) (Nat.le_refl _) (by omega) hbW o4 HD.out.len.symm
      have hout := HD.out.us.keepBut (w1 := put3 W6 (w.heap.size + 1) (.int .i64 me) (.int .i64 next) (.slice al0 L.length cl)) fun k hk hkk => hoth k (by have := (HD.out.us.lt hkk).1; omega) (by have := (HD.out.us.lt hkk).1; omega)
      obtain ⟨ao, co, hvo, hxo, hblo⟩ := hout.at
      have HW6 := Hid_of hW6
      have HQ1 := Hid_of lq
      have HQ2 : Hid (RDOut w a me next (Cl.run me now ids0 L []).1 (Cl.run me now ids0 L []).2 (.returned (.tuple #[.agg #[.int .i64 me, .int .i64 next, .slice al0 L.length cl], .slice ao out.length co])) (put3 W6 (w.heap.size + 1) (.int .i64 me) (.int .i64 next) (.slice al0 L.length cl))) := by
        rw [hrun]
        exact ⟨al0, cl, ao, co, by rw [HD.out.len], hx6, hli, hxo.at', fun k hk => ⟨by have := (hblo k hk).1; omega, (hblo k hk).2.2⟩, hb6⟩
      obtain ⟨⟨n0, n1, n2⟩, _⟩ := rw3 HD.out.c
      subst hvo
      clear hids hrun hbW o4 hW6 lq hx6 hli hb6 hoth hout hxo hblo HD HF
      generalize out.length = ol at *
      go_upto_region 19 with fail
      rw [HW6.out]
      go_wp2
      refine bodyPost_ret (v := .tuple #[.agg #[.int .i64 me, .int .i64 next, .slice al0 L.length cl], .slice ao ol co]) ?_ rfl HQ2.out
      exact res3 f13_res _ _ (w.heap.size + 1) _ _ _ rfl HQ1.out
    · have hjL : j < L.length := by rw [← HD.out.len]; exact hj
      have hji : (j : Int) < (L.length : Int) := by omega
      have HCN := Hid_of (cnt_at HD.out)
      obtain ⟨_, _, hv2, hx2, _⟩ := HD.out.o.at
      rw [HD.out.len] at hv2
      cases hv2
      obtain ⟨g, off9, ea, d0, d1, d2, d3, d4, d5, d6⟩ := hx2.at'.getK j hj
      have hkok := HD.out.ok _ (List.getElem_mem hj)
      have hs0 := hkok.s0
      by_cases h8 : 8 ≤ Lr[j].sent
      · obtain ⟨g2, rfl, ⟨e2, ef2⟩, hnext⟩ := HD.out.gone hj HF.out h8
        cases ea
        obtain ⟨w4, hw4⟩ : ∃ w4, wr.setCell ⟨g, j * 7 + 2, none⟩ (.int .i64 3) = w4 := ⟨_, rfl⟩
        obtain ⟨Lr', ids', hD4, hlt4⟩ := hnext w4 hw4
        have HD4 := Hid_of hD4
        have HW4 := Hid_of hw4
        have HLT4 := Hid_of hlt4
        obtain ⟨_, _, hv4, hx4, _⟩ := hD4.o.at
        rw [hD4.len] at hv4
        cases hv4
        have hfi := first_ref (some ⟨g, 0, none⟩) cl Lr' now w4 (by rw [hD4.len]; exact hln) hx4.at'
        rw [hD4.len] at hfi
        have d8 : decide (8 ≤ Lr[j].sent) = true := decide_eq_true h8
        simp only [Nat.zero_add] at d3
        clear hnext hD4 hlt4 hw4 hx4 hx2 d0 d1 d2 d4 d5 d6 HF h8 hkok hs0 HD
        generalize Lr[j].sent = s3 at *
        generalize Lr[j].st = s2 at *
        go_upto_region 7 with fail
        rw [HW4.out]
        go_wp2_with fail
        refine hfi.mono ?_
        rintro e w5 ⟨r5, rfl, hf5, hb5⟩
        have HD5 := Hid_of (HD4.out.keep hb5)
        have HF5 : Hid (Cl.Fp Lr' now Lr'.length r5) := by rw [HD4.out.len]; exact hf5
        have HME : Hid (mcnt w5 (some ⟨g, 0, none⟩) now L.length < mcnt wr (some ⟨g, 0, none⟩) now L.length) := by
          have h1 := cnt_at HD5.out
          have h2 := HCN.out
          rw [h1, h2]
          exact HLT4.out
        clear hfi hb5 hf5 HD4
        go_wp2
        go_roundw
        case rel => exact ⟨r5, Lr', out, ids', rfl, HD5, HF5⟩
        case measure => exact HME.out
      · obtain ⟨g2, rfl, ⟨e3, ef3⟩, hnext⟩ := HD.out.send hn' hj HF.out (by omega)
        cases ea
        obtain ⟨sN, hsN⟩ : ∃ n : Nat, Lr[j].sent = (n : Int) := ⟨Lr[j].sent.toNat, by omega⟩
        obtain ⟨w4, hw4⟩ : ∃ w4, wr.setCell ⟨g, j * 7 + 3, none⟩ (.int .i64 (Lr[j].sent + 1)) = w4 := ⟨_, rfl⟩
        obtain ⟨⟨e4, ef4⟩, hnext2⟩ := hnext w4 hw4
        obtain ⟨w5, hw5⟩ : ∃ w5, w4.setCell ⟨g, j * 7 + 4, none⟩ (.int .i64 (now + Cl.wait Lr[j].sent)) = w5 := ⟨_, rfl⟩
        obtain ⟨⟨S2, hou, hbs⟩, hnext3⟩ := hnext2 w5 hw5
        have hmg : Cl.msg me Lr[j] = ⟨1, me, Lr[j].whom, Lr[j].id, Lr[j].body⟩ := rfl
        rw [hmg] at hnext3
        clear hmg
        have hwr := Cl.wait_rng Lr[j].sent
        have hol := HD.out.ol
        rw [hsN] at e3 hw4 hw5 hwr
        have h8' : sN < 8 := by omega
        have d8 : decide (8 ≤ (sN : Int)) = false := decide_eq_false (by omega)
        obtain ⟨wh, hwh⟩ : ∃ x, Lr[j].whom = x := ⟨_, rfl⟩
        obtain ⟨id, hid⟩ : ∃ x, Lr[j].id = x := ⟨_, rfl⟩
        obtain ⟨bd, hbd⟩ : ∃ x, Lr[j].body = x := ⟨_, rfl⟩
        rw [hwh, hid, hbd] at S2 hnext3
        generalize hdj : Lr[j].due = due at e4
        -- the message, and the append
        have hat : AtL ml (w5.drew.alloc (.cells #[.int .i64 1, .int .i64 me, .int .i64 wh, .int .i64 id, .string bd] 32)) (some ⟨w5.heap.size, 0, none⟩) [(⟨1, me, wh, id, bd⟩ : Ms)] := atL_one (t := 32) (heap_alloc_last w5.drew _)
        obtain ⟨a6, c6, w6, hrun, ho6, hr6⟩ := run_appL_ty tiM (w5.drew.alloc (.cells #[.int .i64 1, .int .i64 me, .int .i64 wh, .int .i64 id, .string bd] 32)) (w.heap.size + 2) u7 out [⟨1, me, wh, id, bd⟩] w5.heap.size 0 1 1 (hou.keep (bel_up ((Below.refl _ _).drew) (bel1 w5.drew _) (Nat.le_refl _))) hat rfl (by simp; omega) (by simp; omega)
        obtain ⟨S4, Lr', ids', hD4, hlt4⟩ := hnext3 _ w6 ho6 hr6
        obtain ⟨_, _, hvu, _, _⟩ := hou.at
        subst hvu
        have S3a : (w5.drew.alloc (.cells #[.int .i64 1, .int .i64 me, .int .i64 wh, .int .i64 id, .string bd] 32)).cell? ⟨w.heap.size, 0, none⟩ = some (.int .i64 me) ∧ (w5.drew.alloc (.cells #[.int .i64 1, .int .i64 me, .int .i64 wh, .int .i64 id, .string bd] 32)).cell? ⟨g, j * 7 + 1, none⟩ = some (.int .i64 wh) ∧ (w5.drew.alloc (.cells #[.int .i64 1, .int .i64 me, .int .i64 wh, .int .i64 id, .string bd] 32)).cell? ⟨g, j * 7, none⟩ = some (.int .i64 id) ∧ (w5.drew.alloc (.cells #[.int .i64 1, .int .i64 me, .int .i64 wh, .int .i64 id, .string bd] 32)).cell? ⟨g, j * 7 + 5, none⟩ = some (.string bd) := by
          have hb := bel_up ((Below.refl w5.heap.size w5).drew) (bel1 w5.drew (.cells #[.int .i64 1, .int .i64 me, .int .i64 wh, .int .i64 id, .string bd] 32)) (Nat.le_refl _)
          have key : ∀ (q o : Nat) (v : Value), w5.cell? ⟨q, o, none⟩ = some v → (w5.drew.alloc (.cells #[.int .i64 1, .int .i64 me, .int .i64 wh, .int .i64 id, .string bd] 32)).cell? ⟨q, o, none⟩ = some v := fun q o v hq => (World.cell?_of_block (w := w5) (a := ⟨q, o, none⟩) (hb.block q (World.block_lt_of_cell? w5 _ hq))).trans hq
          exact ⟨key _ _ _ S2.1, key _ _ _ S2.2.1, key _ _ _ S2.2.2.1, key _ _ _ S2.2.2.2⟩
        replace hrun : ∀ ty, (Builtin.append_ #[40, 40] ty #[.slice _ out.length _, .slice (some ⟨w5.heap.size, 0, none⟩) 1 1]).run Try.prog (w5.drew.alloc (.cells #[.int .i64 1, .int .i64 me, .int .i64 wh, .int .i64 id, .string bd] 32)) = .ok (.slice a6 (out.length + 1) c6) w6 := hrun
        have HD4 := Hid_of hD4
        have HX4 : Hid (XL kl w6 (some ⟨g, 0, none⟩) cl Lr') := by
          obtain ⟨_, _, hv4, hx4, _⟩ := hD4.o.at
          rw [hD4.len] at hv4
          cases hv4
          exact hx4
        have HW4 := Hid_of hw4
        have HW5 := Hid_of hw5
        have HSN := Hid_of hsN
        clear hnext hnext2 hnext3 hD4 hw4 hw5 hx2 d0 d1 d2 d3 d4 d5 d6 HF h8 hkok hs0 HD hat ho6 hr6 hou hwh hid hbd hdj
        clear HSN hsN
        obtain ⟨ws, hws⟩ : ∃ ws, Cl.wait (sN : Int) = ws := ⟨_, rfl⟩
        rw [hws] at hwr HW5
        have HWS := Hid_of hws
        clear hws
        have hadd1 : IntKind.i64.wrap ((sN : Int) + 1) = (sN : Int) + 1 := by rw [IntKind.wrap_i64]; omega
        have hadd2 : IntKind.i64.wrap (now + ws) = now + ws := by rw [IntKind.wrap_i64]; omega
        go_wp2_with fail
        go_loopw [9, 10] (fun u9 u10 wi => ∃ k : Nat, k ≤ sN ∧ u10 = .int .i64 k ∧ u9 = .int .i64 (Cl.wait k) ∧ wi = wr) (fun _ u10 _ => sN - (intOf u10).toNat)
        case atStart => exact ⟨0, by omega, rfl, rfl, rfl⟩
        case round =>
          obtain ⟨k, hk, rfl, rfl, rfl⟩ := hrel
          by_cases hks : k < sN
          · have hwk := Cl.wait_rng k
            have HWT := Hid_of (tr_wait k)
            obtain ⟨wk, hwk2⟩ : ∃ wk, Cl.wait (k : Int) = wk := ⟨_, rfl⟩
            rw [hwk2] at hwk HWT ⊢
            clear hwk2
            have hmul : IntKind.i64.wrap (2 * wk) = 2 * wk := by rw [IntKind.wrap_i64]; omega
            have dks : decide ((k : Int) < (sN : Int)) = true := decide_eq_true (by omega)
            go_wp2
            go_roundw
            case rel => exact ⟨k + 1, by omega, by go_num, by rw [← HWT.out], by first | rfl | trivial⟩
            case measure => simp [intOf]; omega
          have hke : k = sN := by omega
          subst hke
          rw [HWS.out]
          have dks : decide ((k : Int) < (k : Int)) = false := decide_eq_false (by omega)
          go_upto_region 16 with fail
          rw [HW4.out]
          go_upto_region 17 with fail
          rw [HW5.out]
          clear e3 ef3 e4 ef4 HW4 HW5
          refine wp_region_held_drew (S := fun wq => wq.cell? ⟨w.heap.size, 0, none⟩ = some (.int .i64 me) ∧ wq.cell? ⟨g, j * 7 + 1, none⟩ = some (.int .i64 wh) ∧ wq.cell? ⟨g, j * 7, none⟩ = some (.int .i64 id) ∧ wq.cell? ⟨g, j * 7 + 5, none⟩ = some (.string bd)) (by kernel_rfl) S2 (fun hHeld => ?_)
          clear S2
          refine wpAnyH_take (i := 0) (oi := ?p0x1) (v := ?v0x1) ?o0x1 (by kernel_rfl) (by kernel_rfl) (by kernel_rfl) ?q0x1 ?y0x1 hHeld ?r0x1
          case o0x1 => (simp only [List.getElem?_toArray, List.getElem?_cons_zero]; try rfl)
          case q0x1 => exact fun _ _ _ h => h
          case y0x1 => (refine Or.inl ⟨rfl, ?_⟩; intro wq hq; obtain ⟨q0, q1, q2, q3⟩ := hq; go_simp; try with_reducible rfl)
          simp only [Act.put, List.setIfInBounds_toArray, List.set_cons_zero, List.set_cons_succ]
          refine wpAnyH_take (i := 1) (oi := ?p1x2) (v := ?v1x2) ?o1x2 (by kernel_rfl) (by kernel_rfl) (by kernel_rfl) ?q1x2 ?y1x2 hHeld ?r1x2
          case o1x2 => (simp only [List.getElem?_toArray, List.getElem?_cons_succ, List.getElem?_cons_zero]; try rfl)
          case q1x2 => exact fun _ _ _ h => h
          case y1x2 => (refine Or.inl ⟨rfl, ?_⟩; intro wq hq; obtain ⟨q0, q1, q2, q3⟩ := hq; go_simp; try with_reducible rfl)
          simp only [Act.put, List.setIfInBounds_toArray, List.set_cons_zero, List.set_cons_succ]
          refine wpAnyH_take (i := 2) (oi := ?p2x3) (v := ?v2x3) ?o2x3 (by kernel_rfl) (by kernel_rfl) (by kernel_rfl) ?q2x3 ?y2x3 hHeld ?r2x3
          case o2x3 => (simp only [List.getElem?_toArray, List.getElem?_cons_succ, List.getElem?_cons_zero]; try rfl)
          case q2x3 => exact fun _ _ _ h => h
          case y2x3 => (refine Or.inl ⟨rfl, ?_⟩; intro wq hq; obtain ⟨q0, q1, q2, q3⟩ := hq; go_simp; try with_reducible rfl)
          simp only [Act.put, List.setIfInBounds_toArray, List.set_cons_zero, List.set_cons_succ]
          refine wpAnyH_take (i := 3) (oi := ?p3x4) (v := ?v3x4) ?o3x4 (by kernel_rfl) (by kernel_rfl) (by kernel_rfl) ?q3x4 ?y3x4 hHeld ?r3x4
          case o3x4 => (simp only [List.getElem?_toArray, List.getElem?_cons_succ, List.getElem?_cons_zero]; try rfl)
          case q3x4 => exact fun _ _ _ h => h
          case y3x4 => (refine Or.inl ⟨rfl, ?_⟩; intro wq hq; obtain ⟨q0, q1, q2, q3⟩ := hq; go_simp; try with_reducible rfl)
          simp only [Act.put, List.setIfInBounds_toArray, List.set_cons_zero, List.set_cons_succ]
          refine wpAnyH_take (i := 4) (oi := ?p4x5) (v := ?v4x5) ?o4x5 (by kernel_rfl) (by kernel_rfl) (by kernel_rfl) ?q4x5 ?y4x5 hHeld ?r4x5
          case o4x5 => (simp only [List.getElem?_toArray, List.getElem?_cons_succ, List.getElem?_cons_zero]; try rfl)
          case q4x5 => exact fun _ _ _ h => h
          case y4x5 => (refine Or.inl ⟨rfl, ?_⟩; intro wq hq; obtain ⟨q0, q1, q2, q3⟩ := hq; go_simp; try with_reducible rfl)
          simp only [Act.put, List.setIfInBounds_toArray, List.set_cons_zero, List.set_cons_succ]
          refine wpAnyH_take (i := 5) (oi := ?p5x6) (v := ?v5x6) ?o5x6 (by kernel_rfl) (by kernel_rfl) (by kernel_rfl) ?q5x6 ?y5x6 hHeld ?r5x6
          case o5x6 => (simp only [List.getElem?_toArray, List.getElem?_cons_succ, List.getElem?_cons_zero]; try rfl)
          case q5x6 => exact fun _ _ _ h => h
          case y5x6 => (refine Or.inl ⟨rfl, ?_⟩; intro wq hq; obtain ⟨q0, q1, q2, q3⟩ := hq; go_simp; try with_reducible rfl)
          simp only [Act.put, List.setIfInBounds_toArray, List.set_cons_zero, List.set_cons_succ]
          refine wpAnyH_take (i := 6) (oi := ?p6x7) (v := ?v6x7) ?o6x7 (by kernel_rfl) (by kernel_rfl) (by kernel_rfl) ?q6x7 ?y6x7 hHeld ?r6x7
          case o6x7 => (simp only [List.getElem?_toArray, List.getElem?_cons_succ, List.getElem?_cons_zero]; try rfl)
          case q6x7 => exact fun _ _ _ h => h
          case y6x7 => (refine Or.inl ⟨rfl, ?_⟩; intro wq hq; obtain ⟨q0, q1, q2, q3⟩ := hq; go_simp; try with_reducible rfl)
          simp only [Act.put, List.setIfInBounds_toArray, List.set_cons_zero, List.set_cons_succ]
          refine wpAnyH_take (i := 7) (oi := ?p7x8) (v := ?v7x8) ?o7x8 (by kernel_rfl) (by kernel_rfl) (by kernel_rfl) ?q7x8 ?y7x8 hHeld ?r7x8
          case o7x8 => (simp only [List.getElem?_toArray, List.getElem?_cons_succ, List.getElem?_cons_zero]; try rfl)
          case q7x8 => exact fun _ _ _ h => h
          case y7x8 => (refine Or.inl ⟨rfl, ?_⟩; intro wq hq; obtain ⟨q0, q1, q2, q3⟩ := hq; go_simp; try with_reducible rfl)
          simp only [Act.put, List.setIfInBounds_toArray, List.set_cons_zero, List.set_cons_succ]
          refine wpAnyH_take (i := 8) (oi := ?p8x9) (v := ?v8x9) ?o8x9 (by kernel_rfl) (by kernel_rfl) (by kernel_rfl) ?q8x9 ?y8x9 hHeld ?r8x9
          case o8x9 => (simp only [List.getElem?_toArray, List.getElem?_cons_succ, List.getElem?_cons_zero]; try rfl)
          case q8x9 => exact fun _ _ _ h => h
          case y8x9 => (refine Or.inl ⟨rfl, ?_⟩; intro wq hq; obtain ⟨q0, q1, q2, q3⟩ := hq; go_simp; try with_reducible rfl)
          simp only [Act.put, List.setIfInBounds_toArray, List.set_cons_zero, List.set_cons_succ]
          refine wpAnyH_take (i := 9) (oi := ?p9x10) (v := ?v9x10) ?o9x10 (by kernel_rfl) (by kernel_rfl) (by kernel_rfl) ?q9x10 ?y9x10 hHeld ?r9x10
          case o9x10 => (simp only [List.getElem?_toArray, List.getElem?_cons_succ, List.getElem?_cons_zero]; try rfl)
          case q9x10 => exact fun _ _ _ h => h
          case y9x10 => (refine Or.inl ⟨rfl, ?_⟩; intro wq hq; obtain ⟨q0, q1, q2, q3⟩ := hq; go_simp; try with_reducible rfl)
          simp only [Act.put, List.setIfInBounds_toArray, List.set_cons_zero, List.set_cons_succ]
          refine wpAnyH_take (i := 10) (oi := ?p10x11) (v := ?v10x11) ?o10x11 (by kernel_rfl) (by kernel_rfl) (by kernel_rfl) ?q10x11 ?y10x11 hHeld ?r10x11
          case o10x11 => (simp only [List.getElem?_toArray, List.getElem?_cons_succ, List.getElem?_cons_zero]; try rfl)
          case q10x11 => exact fun _ _ _ h => h
          case y10x11 => (refine Or.inl ⟨rfl, ?_⟩; intro wq hq; obtain ⟨q0, q1, q2, q3⟩ := hq; go_simp; try with_reducible rfl)
          simp only [Act.put, List.setIfInBounds_toArray, List.set_cons_zero, List.set_cons_succ]
          refine wpAnyH_take (i := 11) (oi := ?p11x12) (v := ?v11x12) ?o11x12 (by kernel_rfl) (by kernel_rfl) (by kernel_rfl) ?q11x12 ?y11x12 hHeld ?r11x12
          case o11x12 => (simp only [List.getElem?_toArray, List.getElem?_cons_succ, List.getElem?_cons_zero]; try rfl)
          case q11x12 => exact fun _ _ _ h => h
          case y11x12 => (refine Or.inl ⟨rfl, ?_⟩; intro wq hq; obtain ⟨q0, q1, q2, q3⟩ := hq; go_simp; try with_reducible rfl)
          simp only [Act.put, List.setIfInBounds_toArray, List.set_cons_zero, List.set_cons_succ]
          refine wpAnyH_take (i := 12) (oi := ?p12x13) (v := ?v12x13) ?o12x13 (by kernel_rfl) (by kernel_rfl) (by kernel_rfl) ?q12x13 ?y12x13 hHeld ?r12x13
          case o12x13 => (simp only [List.getElem?_toArray, List.getElem?_cons_succ, List.getElem?_cons_zero]; try rfl)
          case q12x13 => exact fun _ _ _ h => h
          case y12x13 => (refine Or.inl ⟨rfl, ?_⟩; intro wq hq; obtain ⟨q0, q1, q2, q3⟩ := hq; go_simp; try with_reducible rfl)
          simp only [Act.put, List.setIfInBounds_toArray, List.set_cons_zero, List.set_cons_succ]
          refine wpAnyH_take (i := 13) (oi := ?p13x14) (v := ?v13x14) ?o13x14 (by kernel_rfl) (by kernel_rfl) (by kernel_rfl) ?q13x14 ?y13x14 hHeld ?r13x14
          case o13x14 => (simp only [List.getElem?_toArray, List.getElem?_cons_succ, List.getElem?_cons_zero]; try rfl)
          case q13x14 => exact fun _ _ _ h => h
          case y13x14 => (refine Or.inl ⟨rfl, ?_⟩; intro wq hq; obtain ⟨q0, q1, q2, q3⟩ := hq; go_simp; try with_reducible rfl)
          simp only [Act.put, List.setIfInBounds_toArray, List.set_cons_zero, List.set_cons_succ]
          refine wpAnyH_take (i := 14) (oi := ?p14x15) (v := ?v14x15) ?o14x15 (by kernel_rfl) (by kernel_rfl) (by kernel_rfl) ?q14x15 ?y14x15 hHeld ?r14x15
          case o14x15 => (simp only [List.getElem?_toArray, List.getElem?_cons_succ, List.getElem?_cons_zero]; try rfl)
          case q14x15 => exact fun _ _ _ h => h
          case y14x15 => (refine Or.inl ⟨rfl, ?_⟩; intro wq hq; obtain ⟨q0, q1, q2, q3⟩ := hq; go_simp; try with_reducible rfl)
          simp only [Act.put, List.setIfInBounds_toArray, List.set_cons_zero, List.set_cons_succ]
          refine wpAnyH_take (i := 15) (oi := ?p15x16) (v := ?v15x16) ?o15x16 (by kernel_rfl) (by kernel_rfl) (by kernel_rfl) ?q15x16 ?y15x16 hHeld ?r15x16
          case o15x16 => (simp only [List.getElem?_toArray, List.getElem?_cons_succ, List.getElem?_cons_zero]; try rfl)
          case q15x16 => exact fun _ _ _ h => h
          case y15x16 => (refine Or.inl ⟨rfl, ?_⟩; intro wq hq; obtain ⟨q0, q1, q2, q3⟩ := hq; go_simp; try with_reducible rfl)
          simp only [Act.put, List.setIfInBounds_toArray, List.set_cons_zero, List.set_cons_succ]
          refine wpAnyH_take (i := 16) (oi := ?p16x17) (v := ?v16x17) ?o16x17 (by kernel_rfl) (by kernel_rfl) (by kernel_rfl) ?q16x17 ?y16x17 hHeld ?r16x17
          case o16x17 => (simp only [List.getElem?_toArray, List.getElem?_cons_succ, List.getElem?_cons_zero]; try rfl)
          case q16x17 => exact fun _ _ _ h => h
          case y16x17 => (refine Or.inl ⟨rfl, ?_⟩; intro wq hq; obtain ⟨q0, q1, q2, q3⟩ := hq; go_simp; try with_reducible rfl)
          simp only [Act.put, List.setIfInBounds_toArray, List.set_cons_zero, List.set_cons_succ]
          refine wpAnyH_take (i := 17) (oi := ?p17x18) (v := ?v17x18) ?o17x18 (by kernel_rfl) (by kernel_rfl) (by kernel_rfl) ?q17x18 ?y17x18 hHeld ?r17x18
          case o17x18 => (simp only [List.getElem?_toArray, List.getElem?_cons_succ, List.getElem?_cons_zero]; try rfl)
          case q17x18 => exact fun _ _ _ h => h
          case y17x18 => (refine Or.inl ⟨rfl, ?_⟩; intro wq hq; obtain ⟨q0, q1, q2, q3⟩ := hq; go_simp; try with_reducible rfl)
          simp only [Act.put, List.setIfInBounds_toArray, List.set_cons_zero, List.set_cons_succ]
          refine wpAnyH_take (i := 18) (oi := ?p18x19) (v := ?v18x19) ?o18x19 (by kernel_rfl) (by kernel_rfl) (by kernel_rfl) ?q18x19 ?y18x19 hHeld ?r18x19
          case o18x19 => (simp only [List.getElem?_toArray, List.getElem?_cons_succ, List.getElem?_cons_zero]; try rfl)
          case q18x19 => exact fun _ _ _ h => h
          case y18x19 => (refine Or.inl ⟨rfl, ?_⟩; intro wq hq; obtain ⟨q0, q1, q2, q3⟩ := hq; go_simp; try with_reducible rfl)
          simp only [Act.put, List.setIfInBounds_toArray, List.set_cons_zero, List.set_cons_succ]
          refine wpAnyH_ready (rs := [19]) (by kernel_rfl) (by simp) ?_
          refine (AllReadyH.cons (o := ?p19x20) ?o19x20 ?s19x20 AllReadyH.nil)
          case o19x20 => (simp only [List.getElem?_toArray, List.getElem?_cons_succ, List.getElem?_cons_zero]; try rfl)
          intro Kk hK
          go_simp
          refine hK.out _ _ S3a (fun hHeld => ?_)
          clear hK Kk
          refine wpAnyH_ready (rs := [20]) (by kernel_rfl) (by simp) ?_
          refine (AllReadyH.cons (o := ?p20x21) ?o20x21 ?s20x21 AllReadyH.nil)
          case o20x21 => (simp only [List.getElem?_toArray, List.getElem?_cons_succ, List.getElem?_cons_zero]; try rfl)
          intro Kk hK
          refine step_append_known rfl (.tmp 63) (.tmp 82) 40 rfl _ _ rfl rfl _ _ (hrun _) ?_
          refine hK.out _ _ S4 (fun hHeld => ?_)
          clear hK Kk
          simp only [Act.put, List.setIfInBounds_toArray, List.set_cons_zero, List.set_cons_succ]
          refine wpAnyH_take (i := 21) (oi := ?p21x22) (v := ?v21x22) ?o21x22 (by kernel_rfl) (by kernel_rfl) (by kernel_rfl) ?q21x22 ?y21x22 hHeld ?r21x22
          case o21x22 => (simp only [List.getElem?_toArray, List.getElem?_cons_succ, List.getElem?_cons_zero]; try rfl)
          case q21x22 => exact fun _ _ _ h => h
          case y21x22 => (refine Or.inl ⟨rfl, ?_⟩; intro wq hq; obtain ⟨q0, q1, q2, q3⟩ := hq; go_simp; try with_reducible rfl)
          simp only [Act.put, List.setIfInBounds_toArray, List.set_cons_zero, List.set_cons_succ]
          refine wpAnyH_done (by kernel_rfl) ?_ _
          have hfi := first_ref (some ⟨g, 0, none⟩) cl Lr' now w6 (by rw [HD4.out.len]; exact hln) HX4.out.at'
          rw [HD4.out.len] at hfi
          have HLT4 := Hid_of hlt4
          clear hrun S3a S4 hlt4
          go_wp2_with fail
          refine hfi.mono ?_
          rintro e w7 ⟨r7, rfl, hf7, hb7⟩
          have HD7 := Hid_of (HD4.out.keep hb7)
          have HF7 : Hid (Cl.Fp Lr' now Lr'.length r7) := by rw [HD4.out.len]; exact hf7
          have HME : Hid (mcnt w7 (some ⟨g, 0, none⟩) now L.length < mcnt wr (some ⟨g, 0, none⟩) now L.length) := by
            have h1 := cnt_at HD7.out
            have h2 := HCN.out
            rw [h1, h2]
            exact HLT4.out
          clear hfi hb7 hf7 HD4 HX4
          go_wp2
          go_roundw
          case rel => exact ⟨r7, Lr', _, ids', rfl, HD7, HF7⟩
          case measure => exact HME.out
end Go.Proofs.Ytbgbdiiinggjnaa
