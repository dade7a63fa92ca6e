/-
  The law MembersBack, walked.
-/
import Derived.Test.YtacfndfkoiifhaaFH
import Derived.Test.YtacfndfkoiifhaaFC
import Derived.Deep.CutBlock
namespace Go.Proofs.Ytacfndfkoiifhaa
open Go.RowKit
set_option linter.unusedVariables false
open Mb (S rd1)

theorem rs_ep (l : List UInt8) : (Mb.rs l).ep ≤ 9223372036854775807 := by
  show vl 0 (M.int l) ≤ _
  cases h : M.int l with
  | none => simp [vl]
  | some p => obtain ⟨n, r⟩ := p; exact (M.int_bd l n r h).2
/-- What the program's Read told. -/
def RC1 (w0 w : World) (l : List UInt8) (pv : Value) (ec : Int) : Prop := (Mb.Tell l (Mb.rs l) ∧ ∃ b va vb, pv = .pointer (some ⟨b, 0, none⟩) ∧ ec = 0 ∧ GS w0 w b va vb (Mb.rs l)) ∨ ((¬ ∃ s, Mb.Tell l s) ∧ pv = .pointer none ∧ ec = 3)
/-- What the document's Read told. -/
def RC2 (w : World) (l : List UInt8) (xa : Option Addr) (n1 xc : Nat) (xs : Option Addr) (n2 xd : Nat) (xe xh : Int) (xb : Bool) (xg : Int) (fc : Int) : Prop := (Mb.Tell l (Mb.rs l) ∧ n1 = (Mb.rs l).l.length ∧ n2 = (Mb.rs l).sp.length ∧ xe = (Mb.rs l).ep ∧ xh = (Mb.rs l).hole ∧ xb = (Mb.rs l).fl ∧ xg = (Mb.rs l).gone ∧ fc = 0 ∧ XD w xa xc xs xd (Mb.rs l)) ∨ ((¬ ∃ s, Mb.Tell l s) ∧ fc = 3)
theorem RC1.of {w0 w : World} {l : List UInt8} {e : Ending} (h : (∃ b va vb, Mb.Tell l (Mb.rs l) ∧ e = .returned (.tuple #[.pointer (some ⟨b, 0, none⟩), .int .i64 0]) ∧ GS w0 w b va vb (Mb.rs l) ∧ ∀ k, fpm b va vb k → w0.heap.size ≤ k) ∨ ((¬ ∃ s, Mb.Tell l s) ∧ e = .returned (.tuple #[.pointer none, .int .i64 3]))) : ∃ pv ec, e = .returned (.tuple #[pv, .int .i64 ec]) ∧ RC1 w0 w l pv ec := by
  rcases h with ⟨b, va, vb, ht, he, hg, -⟩ | ⟨hn, he⟩
  · exact ⟨_, _, he, .inl ⟨ht, b, va, vb, rfl, rfl, hg⟩⟩
  · exact ⟨_, _, he, .inr ⟨hn, rfl, rfl⟩⟩
theorem RC2.of {w w' : World} {l : List UInt8} {e : Ending} (h : RdD w l e w') : ∃ xa n1 xc xs n2 xd xe xh xb xg fc, e = .returned (.tuple #[.agg #[.slice xa n1 xc, .slice xs n2 xd, .int .i64 xe, .int .i64 xh, .bool xb, .int .i64 xg], .int .i64 fc]) ∧ RC2 w' l xa n1 xc xs n2 xd xe xh xb xg fc := by
  rcases h.2 with ⟨aL, cL, aS, cS, ht, he, hx⟩ | ⟨hn, he⟩
  · exact ⟨_, _, _, _, _, _, _, _, _, _, _, he, .inl ⟨ht, rfl, rfl, rfl, rfl, rfl, rfl, rfl, hx⟩⟩
  · exact ⟨_, _, _, _, _, _, _, _, _, _, _, he, .inr ⟨hn, rfl⟩⟩
set_option maxRecDepth 100000 in
set_option maxHeartbeats 8000000 in
theorem back_walk (g : Gr) (da : Option Addr) (dc : Nat) (ds : List D) (x : ByteArray) (w : World) (hg : GOk w g) (hlm : ds.length ≤ maxLen) (hd : AtL dl w da ds) (hx : x.size ≤ 140737488351232) : Calls Try.prog 5 #[gV g, .slice da ds.length dc, .string x] w fun e w' => e = .returned (.bool true) ∧ Below w.heap.size w w' := by
  obtain ⟨W1, HW1⟩ : ∃ W1, Hid (w.alloc (.cells #[.slice g.a g.l.length g.c, .slice g.a2 g.sp.length g.c2] 24) = W1) := ⟨_, rfl⟩
  have HB1 : Hid (Below w.heap.size w W1) := by rw [← HW1.out]; exact bel1 w _
  have hr1 : W1.heap[w.heap.size]? = some (.cells #[.slice g.a g.l.length g.c, .slice g.a2 g.sp.length g.c2] 24 (0, 0)) := by rw [← HW1.out]; exact heap_alloc_last w _
  have HR1 := Hid_of hr1
  obtain ⟨c0, c1⟩ := row2c hr1
  have hfew := few_any g da ds.length dc W1 hlm hg.m1 hg.m2
  have HG1 := Hid_of (hg.keep HB1.out)
  have HD := Hid_of hd
  clear hr1 hg hd
  cases hf : few g ds.length with
  | false =>
    rw [show fewN g ds.length = 0 by simp [fewN, hf]] at hfew
    clear hf HR1 HG1 HD
    go_enter Try.func5, Try.ntmps5
    go_upto_region 1 with fail
    rw [HW1.out]
    clear HW1
    go_wp2_with fail
    refine hfew.mono ?_
    rintro e W2 ⟨rfl, hb2⟩
    have HB2 := Hid_of (bel_up HB1.out hb2 (Nat.le_refl _))
    clear hfew hb2 HB1
    go_wp2_with fail
    refine (awake_any W2).mono ?_
    rintro e wz ⟨rfl, hbz⟩
    have HBZ := Hid_of (bel_up HB2.out hbz (Nat.le_refl _))
    clear hbz
    go_wp2
    go_ret
    exact ⟨rfl, HBZ.out⟩
  | true =>
  rw [show fewN g ds.length = 1 by simp [fewN, hf]] at hfew
  obtain ⟨m1, m2, hl60⟩ := few_of hf
  clear hf
  by_cases h5 : 5000 < x.size
  · have d5 : decide ((5000 : Int) < (x.size : Int)) = true := decide_eq_true (by omega)
    clear HR1 HG1 HD h5
    go_enter Try.func5, Try.ntmps5
    go_upto_region 1 with fail
    rw [HW1.out]
    clear HW1
    go_wp2_with fail
    refine hfew.mono ?_
    rintro e W2 ⟨rfl, hb2⟩
    have HB2 := Hid_of (bel_up HB1.out hb2 (Nat.le_refl _))
    clear hfew hb2 HB1
    go_wp2_with fail
    refine (awake_any W2).mono ?_
    rintro e wz ⟨rfl, hbz⟩
    have HBZ := Hid_of (bel_up HB2.out hbz (Nat.le_refl _))
    clear hbz
    go_wp2
    go_ret
    exact ⟨rfl, HBZ.out⟩
  have d5 : decide ((5000 : Int) < (x.size : Int)) = false := decide_eq_false (by omega)
  obtain ⟨l, HXL, hl5⟩ : ∃ l, Hid (ofL l = x) ∧ l.length ≤ 5000 := ⟨x.data.toList, ofL_of x, by have := ofL_size x.data.toList; rw [ofL_of] at this; omega⟩
  clear h5
  go_enter Try.func5, Try.ntmps5
  go_upto_region 1 with fail
  rw [HW1.out]
  clear HW1
  go_wp2_with fail
  refine hfew.mono ?_
  rintro e W2 ⟨rfl, hb2⟩
  have HB2 := Hid_of (bel_up HB1.out hb2 (Nat.le_refl _))
  have HR2 := Hid_of (bel_row HR1.out hb2)
  have HG2 := Hid_of (HG1.out.keep hb2)
  have hrd := readG_any (w0 := W2) (Below.refl _ _) l (by omega)
  rw [HXL.out] at hrd
  clear hfew hb2 HR1 HG1 HB1 c0 c1
  go_wp2_with fail
  refine hrd.mono ?_
  rintro e w3 ⟨hb3, hcase⟩
  obtain ⟨pv, ec, rfl, hc1⟩ := RC1.of hcase
  have HC1 := Hid_of hc1
  have HB3 := Hid_of hb3
  have hrd2 := rread_any l w3 (by omega)
  rw [HXL.out] at hrd2
  clear hrd hcase hc1 hb3 d5
  go_wp2_with fail
  refine hrd2.mono ?_
  rintro e w4 hrd4
  have HB4 := Hid_of hrd4.1
  obtain ⟨xa, n1, xc, xs, n2, xd, xe, xh, xb, xg, fc, rfl, hc2⟩ := RC2.of hrd4
  have HC2 := Hid_of hc2
  clear hrd2 hrd4 hc2
  obtain ⟨X, hX⟩ : ∃ X, w4.heap.size = X := ⟨_, rfl⟩
  obtain ⟨W5, HW5⟩ : ∃ W5, Hid (w4.alloc (.cells #[.slice xa n1 xc, .slice xs n2 xd, .int .i64 xe, .int .i64 xh, .bool xb, .int .i64 xg] 31) = W5) := ⟨_, rfl⟩
  have HB5 : Hid (Below w4.heap.size w4 W5) := Hid_of (by rw [← HW5.out]; exact bel1 _ _)
  have HX5 : Hid (W5.heap[X]? = some (.cells #[.slice xa n1 xc, .slice xs n2 xd, .int .i64 xe, .int .i64 xh, .bool xb, .int .i64 xg] 31 (0, 0))) := Hid_of (by rw [← HW5.out, ← hX]; exact heap_alloc_last w4 _)
  go_upto_region 5 with fail
  rw [HW5.out]
  clear HW5 hX
  go_cut [60] from 31 to 60 (fun u wx => u = .bool false ∧ Below W5.heap.size W5 wx)
  case first =>
    rcases HC1.out with ⟨ht, ba, va, vb, rfl, rfl, hga⟩ | ⟨hn, rfl, rfl⟩
    · rcases HC2.out with ⟨-, rfl, rfl, rfl, rfl, rfl, rfl, rfl, hxd⟩ | ⟨hn2, -⟩
      case inr => exact absurd ⟨_, ht⟩ hn2
      have HL : Hid (l = Mb.txt (Mb.rs l)) := Hid_of (Mb.tell_only ht)
      have HEP := Hid_of (rs_ep l)
      have hta := (hga.keep (bel_up HB4.out HB5.out (Nat.le_refl _))).text HEP.out
      rw [← HL.out, HXL.out] at hta
      have HT2 : Hid (∀ W, Below W5.heap.size W5 W → Calls Try.prog 19 #[mV xa xc xs xd (Mb.rs l)] W fun e w' => e = .returned (.string x) ∧ Below W.heap.size W w') := Hid_of fun W hW => by
        have := rtext_any (hxd.keep (bel_up HB5.out hW (Nat.le_refl _))) hga.g HEP.out
        rwa [← HL.out, HXL.out] at this
      clear ht hga hxd HL HC1 HC2 HR2 HG2 HD
      clear HEP
      go_wp2_with fail
      refine hta.mono ?_
      rintro e w6 ⟨rfl, hb6⟩
      have ht2 := HT2.out _ hb6
      obtain ⟨⟨q0, q1, q2, q3, q4, q5⟩, -⟩ := row6 (bel_row HX5.out hb6)
      have HB6 := Hid_of hb6
      clear hta hb6 HT2
      go_wp2_with fail
      refine ht2.mono ?_
      rintro e w7 ⟨rfl, hb7⟩
      have HB7 := Hid_of (bel_up HB6.out hb7 (Nat.le_refl _))
      clear ht2 hb7 q0 q1 q2 q3 q4 q5
      go_wp2_with fail
      go_meet
      case rel => exact ⟨rfl, HB7.out⟩
    · rcases HC2.out with ⟨ht, -⟩ | ⟨-, rfl⟩
      · exact absurd ⟨_, ht⟩ hn
      clear hn HC1 HC2 HR2 HG2 HD
      go_wp2_with fail
      go_meet
      case rel => exact ⟨rfl, Below.refl _ _⟩
  case rest =>
  obtain ⟨rfl, hb6⟩ := hcut
  have hb26 : Below W2.heap.size W2 wc := bel_up HB3.out (bel_up HB4.out (bel_up HB5.out hb6 (Nat.le_refl _)) (Nat.le_refl _)) (Nat.le_refl _)
  have HB6 := Hid_of (bel_up HB2.out hb26 (Nat.le_refl _))
  have hG6 := HG2.out.keep hb26
  obtain ⟨y0, y1⟩ := row2c (bel_row HR2.out hb26)
  have hnew := newG_any (w0 := wc) (Below.refl _ _) g.a g.c g.l g.a2 g.c2 g.sp (by omega) (by omega) hG6.at1 hG6.at2
  clear hb6 hb26 hG6 HC1 HC2 HX5 HB3 HB4 HB5 HR2 HG2 HB2
  go_wp2_with fail
  refine hnew.mono ?_
  rintro e w7 ⟨hb7, hcase⟩
  have HB7 := Hid_of (bel_up HB6.out hb7 (Nat.le_refl _))
  clear hnew y0 y1
  rcases hcase with ⟨-, bm, va, vb, rfl, hm, -⟩ | ⟨-, rfl⟩
  case inr =>
    clear hb7
    go_wp2_with fail
    refine (awake_any w7).mono ?_
    rintro e wz ⟨rfl, hbz⟩
    have HBZ := Hid_of (bel_up HB7.out hbz (Nat.le_refl _))
    clear hbz
    go_wp2
    go_ret
    exact ⟨rfl, HBZ.out⟩
  have HK : Hid (∀ W, Below wc.heap.size wc W → Below w.heap.size w W ∧ AtL dl W da ds) := Hid_of fun W hW => ⟨bel_up HB6.out hW (Nat.le_refl _), HD.out.keep (bel_up HB6.out hW (Nat.le_refl _))⟩
  have H0 : Hid (GS wc w7 bm va vb (Mb.s0 g.l g.sp)) := Hid_of hm
  clear hb7 HB6 HB7 hm HD
  obtain ⟨W6, hW6⟩ : ∃ W, W = wc := ⟨_, rfl⟩
  rw [← hW6] at HK H0
  clear hW6
  go_wp2_with fail
  go_loopw [12] (fun i wr => ∃ (k : Nat) (vb : Value) (s : S), k ≤ ds.length ∧ i = .int .i64 k ∧ Hid (GS W6 wr bm va vb s) ∧ Hid (s.ep ≤ 1 + k)) (fun i _ => ds.length - (intOf i).toNat)
  case atStart => exact ⟨0, vb, _, by omega, rfl, H0, Hid_of (by show (1 : Int) ≤ 1 + 0; omega)⟩
  case round =>
    clear H0
    obtain ⟨k, vb, s, hk, rfl, HG, HEK⟩ := hrel
    by_cases hlt : k < ds.length
    · have hki : (k : Int) < (ds.length : Int) := by omega
      obtain ⟨-, hdl⟩ := HK.out _ HG.out.bel
      obtain ⟨bd, od, rfl, z0, z1, z2, z3⟩ := hdl.getD k hlt
      obtain ⟨d, HDD⟩ : ∃ d, Hid (ds[k] = d) := ⟨_, Hid_of rfl⟩
      have HCL : Hid (∀ wq, Below W6.heap.size W6 wq → wq.cell? ⟨bd, od + k * 4, none⟩ = some (.int .i64 d.k) ∧ wq.cell? ⟨bd, od + k * 4 + 1, none⟩ = some (.int .i64 d.a) ∧ wq.cell? ⟨bd, od + k * 4 + 2, none⟩ = some (.int .i64 d.b) ∧ wq.cell? ⟨bd, od + k * 4 + 3, none⟩ = some (.bool d.now)) := Hid_of fun wq hq => by
        obtain ⟨b', o', e, q⟩ := (HK.out _ hq).2.getD k hlt
        cases e
        rw [HDD.out] at q
        exact q
      have HGB := Hid_of HG.out.bel
      have HEP : Hid (s.ep ≤ 1000000) := Hid_of (by have := HEK.out; omega)
      rw [HDD.out] at z0 z1 z2 z3
      clear HDD hdl
      by_cases hk0 : d.k = 0
      · have dk0 : (d.k == 0) = true := by simpa using hk0
        clear hk0
        go_upto_region 15 with fail
        clear z0 z1 z2 z3
        refine wp_region_held_drew (S := fun wq => Below W6.heap.size W6 wq) (by kernel_rfl) (Below.drew HGB.out) (fun hHeld => ?_)
        obtain ⟨wdx, hwdx⟩ : ∃ wd, wr.drew = wd := ⟨_, rfl⟩
        have hBwd : Below wr.heap.size wr wdx := by rw [← hwdx]; exact Below.drew (Below.refl _ _)
        rw [hwdx] at hHeld ⊢
        clear hwdx
        refine Tm 0 ?p0x ?v0x hHeld ?r0x
        refine Tm 1 ?p1x ?v1x hHeld ?r1x
        refine Tm 2 ?p2x ?v2x hHeld ?r2x
        refine Tm 3 ?p3x ?v3x hHeld ?r3x
        refine Tm 4 ?p4x ?v4x hHeld ?r4x
        refine Tk 5 ?p5x ?v5x ?y5x hHeld ?r5x
        case y5x => intro wq hq; obtain ⟨z0, z1, z2, z3⟩ := HCL.out wq hq; go_simp; try with_reducible rfl
        refine Tm 6 ?p6x ?v6x hHeld ?r6x
        simp only [Act.put, Pa, Pb, Pc]
        refine Rd 7 ?p7x ?s7x
        intro K hK
        go_simp
        refine (HG.out.keep hBwd).epoch.mono ?_
        rintro e v7 ⟨rfl, hq7⟩
        obtain rfl := hq7.symm
        clear hq7
        refine hK.out _ _ hHeld (fun hHeld => ?_)
        clear hK K
        refine Rd 8 ?p8x_7 ?s8x_7
        intro K hK
        go_simp
        refine ((HG.out.keep hBwd).fail HEP.out d.a s.ep).mono ?_
        rintro e v8 ⟨rfl, vb8, hg8, -⟩
        have hs8 := hg8.bel
        have HG8 := Hid_of hg8
        clear hg8
        refine hK.out _ _ hs8 (fun hHeld => ?_)
        clear hK K
        refine wpAnyH_done (by kernel_rfl) ?_ _
        have HE8 : Hid ((Mb.fs s d.a s.ep).ep ≤ 1 + ((k + 1 : Nat) : Int)) := Hid_of (by have := (Mb.dd_ep s 0 d.a s.ep).2; rw [Mb.dd0] at this; have := HEK.out; omega)
        clear hs8 hHeld hBwd HG HEP HEK HCL HGB
        generalize Mb.fs s d.a s.ep = s8 at *
        generalize Mb.fc s d.a s.ep = c8 at *
        go_wp2
        go_roundw
        case rel => first | exact ⟨k + 1, vb8, s8, by omega, by go_num, HG8, HE8⟩ | ((repeat apply Exists.intro); exact ⟨⟨by omega, by go_num, HG8, HE8⟩, rfl⟩)
        case measure => simp [intOf]; omega
      · by_cases hk1 : d.k = 1
        · have dk0 : (d.k == 0) = false := by simpa using hk0
          have dk1 : (d.k == 1) = true := by simpa using hk1
          clear hk0 hk1
          go_wp2_with fail
          refine HG.out.epoch.mono ?_
          rintro e w5 ⟨rfl, hw⟩
          subst w5
          go_wp2_with fail
          refine (HG.out.swap HEP.out s.ep).mono ?_
          rintro e w8 ⟨rfl, vb8, hg8, -⟩
          have HG8 := Hid_of hg8
          have HE8 : Hid ((Mb.ws s s.ep).ep ≤ 1 + ((k + 1 : Nat) : Int)) := Hid_of (by have := (Mb.dd_ep s 1 s.ep 0).2; rw [Mb.dd1] at this; have := HEK.out; omega)
          clear hg8 HG HEP HEK HCL HGB z0 z1 z2 z3
          generalize Mb.ws s s.ep = s8 at *
          generalize Mb.wc s s.ep = c8 at *
          generalize Mb.wv s s.ep = v8 at *
          go_wp2
          go_roundw
          case rel => first | exact ⟨k + 1, vb8, s8, by omega, by go_num, HG8, HE8⟩ | ((repeat apply Exists.intro); exact ⟨⟨by omega, by go_num, HG8, HE8⟩, rfl⟩)
          case measure => simp [intOf]; omega
        · by_cases hk2 : d.k = 2
          · have dk0 : (d.k == 0) = false := by simpa using hk0
            have dk1 : (d.k == 1) = false := by simpa using hk1
            have dk2 : (d.k == 2) = true := by simpa using hk2
            clear hk0 hk1 hk2
            go_wp2_with fail
            refine HG.out.epoch.mono ?_
            rintro e w5 ⟨rfl, hw⟩
            subst w5
            go_wp2_with fail
            refine (HG.out.done HEP.out s.ep).mono ?_
            rintro e w8 ⟨rfl, vb8, hg8, -⟩
            have HG8 := Hid_of hg8
            have HE8 : Hid ((Mb.ds s s.ep).ep ≤ 1 + ((k + 1 : Nat) : Int)) := Hid_of (by have := (Mb.dd_ep s 2 s.ep 0).2; rw [Mb.dd2] at this; have := HEK.out; omega)
            clear hg8 HG HEP HEK HCL HGB z0 z1 z2 z3
            generalize Mb.ds s s.ep = s8 at *
            generalize Mb.dc s s.ep = c8 at *
            go_wp2
            go_roundw
            case rel => first | exact ⟨k + 1, vb8, s8, by omega, by go_num, HG8, HE8⟩ | ((repeat apply Exists.intro); exact ⟨⟨by omega, by go_num, HG8, HE8⟩, rfl⟩)
            case measure => simp [intOf]; omega
          · by_cases hk3 : d.k = 3
            · have dk0 : (d.k == 0) = false := by simpa using hk0
              have dk1 : (d.k == 1) = false := by simpa using hk1
              have dk2 : (d.k == 2) = false := by simpa using hk2
              have dk3 : (d.k == 3) = true := by simpa using hk3
              clear hk0 hk1 hk2 hk3
              go_wp2_with fail
              refine (HG.out.add d.a).mono ?_
              rintro e w8 ⟨rfl, vb8, hg8, -⟩
              have HG8 := Hid_of hg8
              have HE8 : Hid ((Mb.as' s d.a).ep ≤ 1 + ((k + 1 : Nat) : Int)) := Hid_of (by have := (Mb.dd_ep s 3 d.a 0).2; rw [Mb.dd3] at this; have := HEK.out; omega)
              clear hg8 HG HEP HEK HCL HGB z0 z1 z2 z3
              generalize Mb.as' s d.a = s8 at *
              generalize Mb.ac s d.a = c8 at *
              go_wp2
              go_roundw
              case rel => first | exact ⟨k + 1, vb8, s8, by omega, by go_num, HG8, HE8⟩ | ((repeat apply Exists.intro); exact ⟨⟨by omega, by go_num, HG8, HE8⟩, rfl⟩)
              case measure => simp [intOf]; omega
            · have dk0 : (d.k == 0) = false := by simpa using hk0
              have dk1 : (d.k == 1) = false := by simpa using hk1
              have dk2 : (d.k == 2) = false := by simpa using hk2
              have dk3 : (d.k == 3) = false := by simpa using hk3
              have HE8 : Hid (s.ep ≤ 1 + ((k + 1 : Nat) : Int)) := Hid_of (by have := HEK.out; omega)
              clear hk0 hk1 hk2 hk3 HEP HEK HCL HGB
              go_wp2
              go_roundw
              case rel => first | exact ⟨k + 1, vb, s, by omega, by go_num, HG, HE8⟩ | ((repeat apply Exists.intro); exact ⟨⟨by omega, by go_num, HG, HE8⟩, rfl⟩)
              case measure => simp [intOf]; omega
    · have hkn : k = ds.length := by omega
      subst hkn
      have HB := Hid_of (HK.out _ HG.out.bel).1
      have HEM : Hid (s.ep ≤ 9223372036854775807) := Hid_of (by have := HEK.out; omega)
      have HTL := Hid_of (Mb.tell_txt HG.out.g HEM.out)
      have htm := HG.out.text HEM.out
      have HTX : Hid ((Mb.txt s).length ≤ 1000000) := Hid_of (by have := (Mb.t_len HG.out.g HEM.out).2.2.2.2.2.1; omega)
      obtain ⟨tx, htx⟩ : ∃ t, ofL (Mb.txt s) = t := ⟨_, rfl⟩
      rw [htx] at htm
      have HTXE := Hid_of htx
      clear HK HEK htx
      go_wp2_with fail
      refine htm.mono ?_
      rintro e w8 ⟨rfl, hb8⟩
      have hrd := readG_any (w0 := W6) (bel_up HG.out.bel hb8 (Nat.le_refl _)) (Mb.txt s) HTX.out
      rw [HTXE.out] at hrd
      have HG8 := Hid_of (HG.out.keep hb8)
      have HB8 := Hid_of (bel_up HB.out hb8 (Nat.le_refl _))
      clear htm hb8 HG HB
      go_wp2_with fail
      refine hrd.mono ?_
      rintro e w9 ⟨hb9, hcase⟩
      rcases hcase with ⟨bn, va2, vb2, ht2, rfl, hn, -⟩ | ⟨hno, -⟩
      case inr => exact absurd ⟨_, HTL.out⟩ hno
      have hrs : Mb.rs (Mb.txt s) = s := Mb.tell_one ht2 HTL.out
      rw [hrs] at hn
      have HG9 := Hid_of (HG8.out.keep hb9)
      have HN9 := Hid_of hn
      have HB9 := Hid_of (bel_up HB8.out hb9 (Nat.le_refl _))
      clear hrd hb9 ht2 hn HG8 HB8 HTL hrs HTX
      have t1 := HN9.out.text HEM.out
      rw [HTXE.out] at t1
      go_wp2_with fail
      refine t1.mono ?_
      rintro e w10 ⟨rfl, hb10⟩
      have t2 := (HG9.out.keep hb10).text HEM.out
      rw [HTXE.out] at t2
      have HG10 := Hid_of (HG9.out.keep hb10)
      have HN10 := Hid_of (HN9.out.keep hb10)
      have HB10 := Hid_of (bel_up HB9.out hb10 (Nat.le_refl _))
      clear t1 hb10 HG9 HN9 HB9
      go_wp2_with fail
      refine t2.mono ?_
      rintro e w11 ⟨rfl, hb11⟩
      have HG11 := Hid_of (HG10.out.keep hb11)
      have HN11 := Hid_of (HN10.out.keep hb11)
      have HB11 := Hid_of (bel_up HB10.out hb11 (Nat.le_refl _))
      clear t2 hb11 HG10 HN10 HB10 HTXE HEM
      obtain ⟨hh, hhh⟩ : ∃ h, s.hole = h := ⟨_, rfl⟩
      have e1 := HN11.out.hole
      have e2 := HG11.out.hole
      rw [hhh] at e1 e2
      clear hhh
      go_wp2_with fail
      refine e1.mono ?_
      rintro e w12 ⟨rfl, hw⟩
      subst w12
      clear e1
      go_wp2_with fail
      refine e2.mono ?_
      rintro e w12 ⟨rfl, hw⟩
      subst w12
      clear e2
      have s1 := HN11.out.servers
      go_wp2_with fail
      refine s1.mono ?_
      rintro e w12 ⟨rfl, ho12, hb12⟩
      have HG12 := Hid_of (HG11.out.keep hb12)
      have HB12 := Hid_of (bel_up HB11.out hb12 (Nat.le_refl _))
      have HO12 := Hid_of ho12
      have s2 := HG12.out.servers
      clear s1 ho12 hb12 HG11 HN11 HB11
      go_wp2_with fail
      refine s2.mono ?_
      rintro e w13 ⟨rfl, ho13, hb13⟩
      obtain ⟨a12, c12, ha12, hx12, -⟩ := (HO12.out.keep hb13).at
      simp only [Value.slice.injEq] at ha12
      obtain ⟨rfl, -, rfl⟩ := ha12
      obtain ⟨a13, c13, ha13, hx13, -⟩ := ho13.at
      simp only [Value.slice.injEq] at ha13
      obtain ⟨rfl, -, rfl⟩ := ha13
      have sm := same_any (c1 := s.l.length) (c2 := s.l.length) (by have := HG12.out.g.g.2.1; omega) hx12.at' hx13.at'
      have HB13 := Hid_of (bel_up HB12.out hb13 (Nat.le_refl _))
      clear s2 ho13 hb13 hx12 hx13 HO12 HG12 HB12
      go_wp2_with fail
      refine sm.mono ?_
      rintro e w14 ⟨rfl, hb14⟩
      have HB14 := Hid_of (bel_up HB13.out hb14 (Nat.le_refl _))
      clear sm hb14 HB13
      go_wp2_with fail
      refine (awake_any w14).mono ?_
      rintro e wz ⟨rfl, hbz⟩
      have HBZ := Hid_of (bel_up HB14.out hbz (Nat.le_refl _))
      clear hbz
      go_wp2
      go_ret
      exact ⟨rfl, HBZ.out⟩
end Go.Proofs.Ytacfndfkoiifhaa
