/-
  The law MembersRise, walked.
-/
import Derived.Test.YtacfndfkoiifhaaRK
import Derived.Deep.CutBlock
namespace Go.Proofs.Ytacfndfkoiifhaa
open Go.RowKit
set_option linter.unusedVariables false
open Mb (S)

def rA (d : D) (e : Int) : Int := if d.now && !(d.k == 0) then e else d.a
def rB (d : D) (e : Int) : Int := if d.now && (d.k == 0) then e else d.b
theorem up_if (c e : Int) : Mb.up c e = if (c == 0) = true then e + 1 else e := by
  unfold Mb.up
  by_cases h : c = 0
  · subst h; rfl
  · rw [if_neg h, if_neg (by simpa using h)]
/-- What a deed leaves: it went, or not. -/
def RCut (w0 : World) (b : Nat) (va : Value) (s : S) (u : Value) (wx : World) : Prop :=
  ∃ (ok : Bool) (vb' : Value) (s' : S), u = .bool ok ∧ GS w0 wx b va vb' s' ∧ (s'.ep = if ok = true then s.ep + 1 else s.ep) ∧ s'.l.length = s.l.length
/-- The check behind each deed. -/
theorem both_any {w0 w : World} {b : Nat} {va vb : Value} {s : S} (h : GS w0 w b va vb s) (v : Value) (hv : v = .slice (some ⟨w.heap.size, 0, none⟩) s.l.length s.l.length) : True := trivial
set_option maxRecDepth 100000 in
set_option maxHeartbeats 8000000 in
theorem rise_walk (g : Gr) (da : Option Addr) (dc : Nat) (l : List D) (w : World) (hg : GOk w g) (hlm : l.length ≤ maxLen) (hd : AtL dl w da l) : Calls Try.prog 4 #[gV g, .slice da l.length dc] w fun e w' => e = .returned (.bool true) ∧ Below w.heap.size w w' := by
  obtain ⟨W1, HW1⟩ : ∃ W1, Hid (w.alloc (.cells #[.slice g.a g.l.length g.c, .slice g.a2 g.sp.length g.c2] 24) = W1) := ⟨_, rfl⟩
  have HB1 : Hid (Below w.heap.size w W1) := by rw [← HW1.out]; exact bel1 w _
  have hr1 : W1.heap[w.heap.size]? = some (.cells #[.slice g.a g.l.length g.c, .slice g.a2 g.sp.length g.c2] 24 (0, 0)) := by rw [← HW1.out]; exact heap_alloc_last w _
  have HR1 := Hid_of hr1
  obtain ⟨c0, c1⟩ := row2c hr1
  have hfew := few_any g da l.length dc W1 hlm hg.m1 hg.m2
  have HG1 := Hid_of (hg.keep HB1.out)
  have HD := Hid_of hd
  clear hr1 hg hd
  cases hf : few g l.length with
  | false =>
    rw [show fewN g l.length = 0 by simp [fewN, hf]] at hfew
    clear hf
    go_enter Try.func4, Try.ntmps4
    go_upto_region 1 with fail
    rw [HW1.out]
    clear HW1
    go_wp2_with fail
    refine hfew.mono ?_
    rintro e w2 ⟨rfl, hb2⟩
    have HB2 := Hid_of (bel_up HB1.out hb2 (Nat.le_refl _))
    clear hfew hb2
    go_wp2_with fail
    refine (awake_any w2).mono ?_
    rintro e w3 ⟨rfl, hb3⟩
    have HB3 := Hid_of (bel_up HB2.out hb3 (Nat.le_refl _))
    clear hb3
    go_wp2
    go_ret
    exact ⟨rfl, HB3.out⟩
  | true =>
  rw [show fewN g l.length = 1 by simp [fewN, hf]] at hfew
  obtain ⟨m1, m2, hl60⟩ := few_of hf
  clear hf
  go_enter Try.func4, Try.ntmps4
  go_upto_region 1 with fail
  rw [HW1.out]
  clear HW1
  go_wp2_with fail
  refine hfew.mono ?_
  rintro e W2 ⟨rfl, hb2⟩
  have HB2 := Hid_of (bel_up HB1.out hb2 (Nat.le_refl _))
  have HR2 := Hid_of (bel_row HR1.out hb2)
  have HG2 := Hid_of (HG1.out.keep hb2)
  obtain ⟨y0, y1⟩ := row2c HR2.out
  have hnew := newG_any (w0 := W2) (Below.refl _ _) g.a g.c g.l g.a2 g.c2 g.sp (by omega) (by omega) HG2.out.at1 HG2.out.at2
  clear hfew hb2 HR1 HG1 HB1 c0 c1
  go_wp2_with fail
  refine hnew.mono ?_
  rintro e w3 ⟨hb3, hcase⟩
  have HB3 := Hid_of (bel_up HB2.out hb3 (Nat.le_refl _))
  clear hnew y0 y1
  rcases hcase with ⟨-, bm, va, vb, rfl, hm, -⟩ | ⟨-, rfl⟩
  case inr =>
    clear hb3 HB2 HR2 HG2
    go_wp2_with fail
    refine (awake_any w3).mono ?_
    rintro e w4 ⟨rfl, hb4⟩
    have HB4 := Hid_of (bel_up HB3.out hb4 (Nat.le_refl _))
    clear hb4
    go_wp2
    go_ret
    exact ⟨rfl, HB4.out⟩
  have HK : Hid (∀ W, Below W2.heap.size W2 W → Below w.heap.size w W ∧ W.heap[w.heap.size]? = some (.cells #[.slice g.a g.l.length g.c, .slice g.a2 g.sp.length g.c2] 24 (0, 0)) ∧ AtL dl W da l) := Hid_of fun W hW => ⟨bel_up HB2.out hW (Nat.le_refl _), bel_row HR2.out hW, HD.out.keep (bel_up HB2.out hW (Nat.le_refl _))⟩
  have H0 : Hid (GS W2 w3 bm va vb (Mb.s0 g.l g.sp)) := Hid_of hm
  clear hb3 HB2 HB3 HR2 HG2 hm HD
  go_wp2_with fail
  go_loopw [6] (fun i wr => ∃ (k : Nat) (vb : Value) (s : S), k ≤ l.length ∧ i = .int .i64 k ∧ Hid (GS W2 wr bm va vb s) ∧ Hid (s.ep ≤ 1 + k) ∧ Hid (s.l.length = g.l.length)) (fun i _ => l.length - (intOf i).toNat)
  case atStart => exact ⟨0, vb, _, by omega, rfl, H0, Hid_of (by show (1 : Int) ≤ 1 + 0; omega), Hid_of rfl⟩
  case round =>
    clear H0
    obtain ⟨k, vb, s, hk, rfl, HG, HEP, HLN⟩ := hrel
    by_cases hlt : k < l.length
    · have hki : (k : Int) < (l.length : Int) := by omega
      obtain ⟨-, hrb, hdl⟩ := HK.out _ HG.out.bel
      obtain ⟨bd, od, rfl, z0, z1, z2, z3⟩ := hdl.getD k hlt
      have HEC : Hid (∀ wq : World, wq.heap = wr.heap → Calls Try.prog 13 #[.pointer (some ⟨bm, 0, none⟩)] wq fun e w' => e = .returned (.int .i64 s.ep) ∧ w' = wq) := Hid_of fun wq hq => epoch_any (HG.out.mi.keepBut fun j _ _ => by rw [hq])
      have HDX : Hid (∀ n, GS W2 (wr.drewN n) bm va vb s) := Hid_of fun n => HG.out.keep (below_drewN (Below.refl _ _) n)
      obtain ⟨d, HDD⟩ : ∃ d, Hid (l[k] = d) := ⟨_, Hid_of rfl⟩
      have HCL : Hid (∀ wq, Below W2.heap.size W2 wq → wq.cell? ⟨bd, od + k * 4, none⟩ = some (.int .i64 d.k) ∧ wq.cell? ⟨bd, od + k * 4 + 1, none⟩ = some (.int .i64 d.a) ∧ wq.cell? ⟨bd, od + k * 4 + 2, none⟩ = some (.int .i64 d.b) ∧ wq.cell? ⟨bd, od + k * 4 + 3, none⟩ = some (.bool d.now)) := Hid_of fun wq hq => by
        obtain ⟨b', o', e, q⟩ := (HK.out _ hq).2.2.getD k hlt
        cases e
        rw [HDD.out] at q
        exact q
      rw [HDD.out] at z0 z1 z2 z3
      clear HDD hrb hdl HG
      go_wp2_with fail
      go_quiet ((go_at_call 13; refine Calls.quiet_of_same (HEC.out _ rfl)))
      go_upto_region 10 with fail
      obtain ⟨W9, HW9⟩ : ∃ W9, Hid (wr.drewN nq = W9) := ⟨_, rfl⟩
      have HG9 : Hid (GS W2 W9 bm va vb s) := Hid_of (by rw [← HW9.out]; exact HDX.out _)
      rw [HW9.out]
      obtain ⟨x0, x1, x2, x3⟩ := HCL.out _ HG9.out.bel
      clear HW9 HDX HEC z0 z1 z2 z3
      go_cut [57] from 45 to 56 (fun u wx => u = .bool (d.now && (d.k == 0)) ∧ wx = W9)
      case first =>
        cases hnow : d.now with
        | false =>
          rw [hnow] at x3
          have hnow := Hid_of hnow
          go_wp2_with fail
          go_meet
          case rel => exact ⟨by rw [hnow.out]; rfl, rfl⟩
        | true =>
          rw [hnow] at x3
          have hnow := Hid_of hnow
          go_wp2_with fail
          go_meet
          case rel => exact ⟨by rw [hnow.out]; rfl, rfl⟩
      case rest =>
      obtain ⟨rfl, rfl⟩ := hcut
      go_upto_if 57 with fail
      go_cut [8, 9] from 45 to 64 (fun u v wx => u = .int .i64 (rA d s.ep) ∧ v = .int .i64 (rB d s.ep) ∧ wx = wc)
      case first =>
        cases hnow : d.now with
        | false =>
          rw [hnow] at x3
          have e1 : Hid (rA d s.ep = d.a) := Hid_of (by unfold rA; rw [hnow]; rfl)
          have e2 : Hid (rB d s.ep = d.b) := Hid_of (by unfold rB; rw [hnow]; rfl)
          simp only [Bool.false_and]
          clear hnow
          go_wp2_with fail
          go_meet
          case rel => exact ⟨by rw [e1.out], by rw [e2.out], rfl⟩
        | true =>
          rw [hnow] at x3
          simp only [Bool.true_and]
          by_cases hk0 : d.k = 0
          · have dk0 : (d.k == 0) = true := by simpa using hk0
            have e1 : Hid (rA d s.ep = d.a) := Hid_of (by unfold rA; rw [hnow, dk0]; rfl)
            have e2 : Hid (rB d s.ep = s.ep) := Hid_of (by unfold rB; rw [hnow, dk0]; rfl)
            clear hnow hk0
            go_wp2_with fail
            go_meet
            case rel => exact ⟨by rw [e1.out], by rw [e2.out], rfl⟩
          · have dk0 : (d.k == 0) = false := by simpa using hk0
            have e1 : Hid (rA d s.ep = s.ep) := Hid_of (by unfold rA; rw [hnow, dk0]; rfl)
            have e2 : Hid (rB d s.ep = d.b) := Hid_of (by unfold rB; rw [hnow, dk0]; rfl)
            clear hnow hk0
            go_wp2_with fail
            go_meet
            case rel => exact ⟨by rw [e1.out], by rw [e2.out], rfl⟩
      case rest =>
        obtain ⟨rfl, rfl, rfl⟩ := hcut
        clear x3
        go_upto_block 2 with fail
        go_cut [10, 11, 12] from 45 to 101 (fun u m q wx => RCut W2 bm va s u wx)
        case first =>
          by_cases hk0 : d.k = 0
          · have dk0 : (d.k == 0) = true := by simpa using hk0
            have cl := HG9.out.fail (by have := HEP.out; omega) (rA d s.ep) (rB d s.ep)
            have HE := Hid_of (Mb.fs_ep s (rA d s.ep) (rB d s.ep))
            have HL := Hid_of (Mb.fs_len s (rA d s.ep) (rB d s.ep))
            clear hk0
            go_wp2_with fail
            refine cl.mono ?_
            clear cl
            rintro e w5 ⟨rfl, v5, h5, -⟩
            have HQ : Hid (RCut W2 bm va s (.bool (Mb.fc s (rA d s.ep) (rB d s.ep) == 0)) w5) := ⟨_, _, _, rfl, h5, by rw [HE.out, up_if], HL.out⟩
            clear h5
            go_wp2_with fail
            go_meet
            case rel => exact HQ.out
          · have dk0 : (d.k == 0) = false := by simpa using hk0
            by_cases hk1 : d.k = 1
            · have dk1 : (d.k == 1) = true := by simpa using hk1
              have cl := HG9.out.swap (by have := HEP.out; omega) (rA d s.ep)
              have HE := Hid_of (Mb.ws_ep s (rA d s.ep))
              have HL := Hid_of (Mb.ws_len s (rA d s.ep))
              clear hk0 hk1
              go_wp2_with fail
              refine cl.mono ?_
              clear cl
              rintro e w5 ⟨rfl, v5, h5, -⟩
              have HQ : Hid (RCut W2 bm va s (.bool (Mb.wc s (rA d s.ep) == 0)) w5) := ⟨_, _, _, rfl, h5, by rw [HE.out, up_if], HL.out⟩
              clear h5
              go_wp2_with fail
              go_meet
              case rel => exact HQ.out
            · have dk1 : (d.k == 1) = false := by simpa using hk1
              by_cases hk2 : d.k = 2
              · have dk2 : (d.k == 2) = true := by simpa using hk2
                have cl := HG9.out.done (by have := HEP.out; omega) (rA d s.ep)
                have HE := Hid_of (Mb.ds_ep s (rA d s.ep))
                have HL := Hid_of (Mb.ds_len s (rA d s.ep))
                clear hk0 hk1 hk2
                go_wp2_with fail
                refine cl.mono ?_
                clear cl
                rintro e w5 ⟨rfl, v5, h5, -⟩
                have HQ : Hid (RCut W2 bm va s (.bool (Mb.dc s (rA d s.ep) == 0)) w5) := ⟨_, _, _, rfl, h5, by rw [HE.out, up_if], HL.out⟩
                clear h5
                go_wp2_with fail
                go_meet
                case rel => exact HQ.out
              · have dk2 : (d.k == 2) = false := by simpa using hk2
                by_cases hk3 : d.k = 3
                · have dk3 : (d.k == 3) = true := by simpa using hk3
                  have cl := HG9.out.add d.a
                  have HE := Hid_of (Mb.as_ep s d.a)
                  have HL := Hid_of (Mb.as_len s d.a)
                  clear hk0 hk1 hk2 hk3
                  go_wp2_with fail
                  refine cl.mono ?_
                  clear cl
                  rintro e w5 ⟨rfl, v5, h5, -⟩
                  have HQ : Hid (RCut W2 bm va s (.bool false) w5) := ⟨_, _, _, rfl, h5, HE.out, HL.out⟩
                  clear h5
                  go_wp2_with fail
                  go_meet
                  case rel => exact HQ.out
                · have dk3 : (d.k == 3) = false := by simpa using hk3
                  have HQ : Hid (RCut W2 bm va s (.bool false) wc) := ⟨_, _, _, rfl, HG9.out, rfl, rfl⟩
                  clear hk0 hk1 hk2 hk3
                  go_wp2_with fail
                  go_meet
                  case rel => exact HQ.out
        case rest =>
          obtain ⟨ok, vb5, s', rfl, hg5, he5, hl5⟩ := hcut
          have HG5 := Hid_of hg5
          have hsv := hg5.servers
          have HL10 : Hid (s'.l.length = g.l.length) := Hid_of (hl5.trans HLN.out)
          have hq1 : ((s'.l.length : Int) != (g.l.length : Int)) = false := by rw [HL10.out]; simp
          clear hg5 hl5
          go_wp2_with fail
          refine hsv.mono ?_
          rintro e w6 ⟨rfl, ho6, hb6⟩
          obtain ⟨ao, co, hao, hxo, -⟩ := ho6.at
          simp only [Value.slice.injEq] at hao
          obtain ⟨rfl, -, rfl⟩ := hao
          have HG6 := Hid_of (HG5.out.keep hb6)
          have HM6 : Hid (∀ q, fpm bm va vb5 q → q < w6.heap.size) := Hid_of fun q hq => (HG6.out.mine q hq).2
          have HX6 := Hid_of hxo.at'
          have hce := HG6.out.epoch
          obtain ⟨y0, y1⟩ := row2c (HK.out _ HG6.out.bel).2.1
          obtain ⟨nv, hnv⟩ : ∃ nv, wc.heap.size = nv := ⟨_, rfl⟩
          rw [hnv] at HX6 ⊢
          have hep : 0 ≤ s.ep ∧ s.ep ≤ 1000000 := by have := HEP.out; have := HG9.out.g.ep; omega
          have hwr : IntKind.i64.wrap (s.ep + 1) = s.ep + 1 := by rw [IntKind.wrap_i64]; omega
          have HE10 : Hid (s'.ep ≤ 1 + ((k + 1 : Nat) : Int)) := Hid_of (by have := HEP.out; rw [he5]; split <;> omega)
          clear hsv ho6 hb6 hxo hnv HG5 HG9 HCL
          cases ok with
          | true =>
            have he : s'.ep = s.ep + 1 := by rw [he5]; rfl
            rw [he] at hce
            have q2 : (s.ep + 1 != s.ep) = true := bne_iff_ne.2 (by omega)
            have q3 : (s.ep + 1 == s.ep) = false := beq_false_of_ne (by omega)
            clear he he5
            go_wp2_with fail
            refine hce.mono ?_
            rintro e w7 ⟨rfl, hw⟩
            subst w7
            go_wp2_with fail
            refine hce.mono ?_
            rintro e w7 ⟨rfl, hw⟩
            subst w7
            go_wp2_with fail
            refine hce.mono ?_
            rintro e w7 ⟨rfl, hw⟩
            subst w7
            obtain ⟨a1, c1, W7, hcp1, ho7, hb7⟩ := copyA w6 (some ⟨nv, 0, none⟩) s'.l.length s'.l HX6.out (by have := HG6.out.g.g.2.1; omega)
            have HCP1 := Hid_of hcp1
            have HG7 := Hid_of (HG6.out.keep hb7)
            have HO7 := Hid_of ho7
            have HS7 := Hid_of hb7.size
            have hsp := HG7.out.spares
            clear hcp1 ho7 hb7
            go_wp2_with (first | (at_builtin; refine wpList_append_guarded (by rfl) _ _ 22 rfl _ _ rfl rfl _ _ (HCP1.out _) ?_))
            refine hsp.mono ?_
            rintro e w8 ⟨rfl, ho8, hb8⟩
            obtain ⟨as8, cs8, has8, hxs8, -⟩ := ho8.at
            simp only [Value.slice.injEq] at has8
            obtain ⟨rfl, -, rfl⟩ := has8
            obtain ⟨a2, c2, w9, hcp2, ho9, hb9⟩ := appA w8 w6.heap.size a1 c1 s'.l _ s'.sp.length s'.sp (HO7.out.keep hb8) hxs8.at' (by have := hb8.size; have := HS7.out; omega) (by have := HG7.out.g.g.2.1; have := HG7.out.g.ap.right.len; omega)
            obtain ⟨a9, c9, ha9, hx9, -⟩ := ho9.at
            simp only [Value.slice.injEq, true_and] at ha9
            obtain ⟨rfl, rfl⟩ := ha9
            have hap := refApart_any a2 c2 (s'.l ++ s'.sp) w9 (by have := HG7.out.g.g.2.1; have := HG7.out.g.ap.right.len; simp; omega) hx9.le hx9.at'
            rw [Mb.apB_eq.2 HG7.out.g.ap] at hap
            obtain ⟨nl, hnl⟩ : ∃ nl, (s'.l ++ s'.sp).length = nl := ⟨_, rfl⟩
            rw [hnl] at hap hcp2
            have HCP2 := Hid_of hcp2
            clear hnl
            have HG9 := Hid_of ((HG7.out.keep hb8).keepBut ((HG7.out.keep hb8).bel.trans (hb9.mono (by have := HG6.out.bel.size; exact this))) (fun q hq hf => hb9.block q (by have := HM6.out q hf; exact this)))
            clear hsp ho8 hb8 hxs8 hcp2 ho9 hb9 hx9 HG7 HO7 HG6 HX6
            go_wp2_with (first | (at_builtin; refine wpList_append_guarded (by rfl) _ _ 22 rfl _ _ rfl rfl _ _ (HCP2.out _) ?_))
            refine hap.mono ?_
            rintro e w10 ⟨rfl, hb10⟩
            have HG10 := Hid_of (HG9.out.keep hb10)
            clear hap hb10 HG9
            go_wp2
            go_roundw
            case rel => first | exact ⟨k + 1, vb5, s', by omega, by go_num, HG10, HE10, HL10⟩ | ((repeat apply Exists.intro); exact ⟨⟨by omega, by go_num, HG10, HE10, HL10⟩, rfl⟩)
            case measure => simp [intOf]; omega
          | false =>
            have he : s'.ep = s.ep := by rw [he5]; rfl
            rw [he] at hce
            clear he he5
            go_wp2_with fail
            refine hce.mono ?_
            rintro e w7 ⟨rfl, hw⟩
            subst w7
            obtain ⟨a1, c1, W7, hcp1, ho7, hb7⟩ := copyA w6 (some ⟨nv, 0, none⟩) s'.l.length s'.l HX6.out (by have := HG6.out.g.g.2.1; omega)
            have HCP1 := Hid_of hcp1
            have HG7 := Hid_of (HG6.out.keep hb7)
            have HO7 := Hid_of ho7
            have HS7 := Hid_of hb7.size
            have hsp := HG7.out.spares
            clear hcp1 ho7 hb7
            go_wp2_with (first | (at_builtin; refine wpList_append_guarded (by rfl) _ _ 22 rfl _ _ rfl rfl _ _ (HCP1.out _) ?_))
            refine hsp.mono ?_
            rintro e w8 ⟨rfl, ho8, hb8⟩
            obtain ⟨as8, cs8, has8, hxs8, -⟩ := ho8.at
            simp only [Value.slice.injEq] at has8
            obtain ⟨rfl, -, rfl⟩ := has8
            obtain ⟨a2, c2, w9, hcp2, ho9, hb9⟩ := appA w8 w6.heap.size a1 c1 s'.l _ s'.sp.length s'.sp (HO7.out.keep hb8) hxs8.at' (by have := hb8.size; have := HS7.out; omega) (by have := HG7.out.g.g.2.1; have := HG7.out.g.ap.right.len; omega)
            obtain ⟨a9, c9, ha9, hx9, -⟩ := ho9.at
            simp only [Value.slice.injEq, true_and] at ha9
            obtain ⟨rfl, rfl⟩ := ha9
            have hap := refApart_any a2 c2 (s'.l ++ s'.sp) w9 (by have := HG7.out.g.g.2.1; have := HG7.out.g.ap.right.len; simp; omega) hx9.le hx9.at'
            rw [Mb.apB_eq.2 HG7.out.g.ap] at hap
            obtain ⟨nl, hnl⟩ : ∃ nl, (s'.l ++ s'.sp).length = nl := ⟨_, rfl⟩
            rw [hnl] at hap hcp2
            have HCP2 := Hid_of hcp2
            clear hnl
            have HG9 := Hid_of ((HG7.out.keep hb8).keepBut ((HG7.out.keep hb8).bel.trans (hb9.mono (by have := HG6.out.bel.size; exact this))) (fun q hq hf => hb9.block q (by have := HM6.out q hf; exact this)))
            clear hsp ho8 hb8 hxs8 hcp2 ho9 hb9 hx9 HG7 HO7 HG6 HX6
            go_wp2_with (first | (at_builtin; refine wpList_append_guarded (by rfl) _ _ 22 rfl _ _ rfl rfl _ _ (HCP2.out _) ?_))
            refine hap.mono ?_
            rintro e w10 ⟨rfl, hb10⟩
            have HG10 := Hid_of (HG9.out.keep hb10)
            clear hap hb10 HG9
            go_wp2
            go_roundw
            case rel => first | exact ⟨k + 1, vb5, s', by omega, by go_num, HG10, HE10, HL10⟩ | ((repeat apply Exists.intro); exact ⟨⟨by omega, by go_num, HG10, HE10, HL10⟩, rfl⟩)
            case measure => simp [intOf]; omega
    · have hkn : k = l.length := by omega
      subst hkn
      have HB := Hid_of (HK.out _ HG.out.bel).1
      clear HK HG
      go_wp2_with fail
      refine (awake_any wr).mono ?_
      rintro e w4 ⟨rfl, hb4⟩
      have HB4 := Hid_of (bel_up HB.out hb4 (Nat.le_refl _))
      clear hb4
      go_wp2
      go_ret
      exact ⟨rfl, HB4.out⟩
end Go.Proofs.Ytacfndfkoiifhaa
