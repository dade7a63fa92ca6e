/- The document's bytes. -/
import Derived.Test.YtgcfpihfoekllaaFD

namespace Go.Proofs.Ytgcfpihfoekllaa

open Go.RowKit

set_option linter.unusedVariables false

open Sm (S)

theorem one_convertW (w : World) (g : Nat) (s : Int) (hs : 1 ≤ s ∧ s ≤ 3) (h : w.heap[g]? = some (.cells #[.int .u8 s] 5 (0, 0))) :
    (Go.convert 77 9 (.slice (some ⟨g, 0, none⟩) 1 1)).run Try.prog w = .ok (.string (ofL [UInt8.ofNat s.toNat])) w := by
  obtain ⟨k, rfl⟩ := Int.eq_ofNat_of_zero_le (show 0 ≤ s by omega)
  have h5 : (UInt8.ofNat k).toNat = k := by simp; omega
  refine run_convert_bytes_back _ 77 9 5 ⟨g, 0, none⟩ 1 [UInt8.ofNat k] Try.underlying77 Try.underlying5 Try.underlying9 fun j hj => ?_
  rw [show ((⟨g, 0, none⟩ : Addr).add j) = ⟨g, j, none⟩ by unfold Addr.add; split <;> simp_all]
  rw [cell_of_row _ _ _ _ _ _ h]
  match j, hj with
  | 0, _ => show some (Value.int .u8 (k : Int)) = some (.int .u8 ((UInt8.ofNat k).toNat : Int)); rw [h5]
section
variable {w w' w'' : World} {K K' : Nat → Prop} {v u : Value} {ds : List E} {m : List S}
set_option maxRecDepth 100000 in
set_option maxHeartbeats 8000000 in
theorem refText_any (h : DM w K v m) (hG : Sm.G m) : Calls Try.prog 21 #[v] w fun e w' => e = .returned (.string (ofL (Sm.txt m))) ∧ Below w.heap.size w w' := by
  obtain ⟨ds, hD, rfl⟩ := h
  have hn := hG.ln
  rw [List.length_map] at hn
  have hml : (ds.map (·.s)).length = ds.length := by simp
  have HML := Hid_of hml
  have HSV := Hid_of hD.sv
  obtain ⟨⟨av, cv, rfl, hx, -⟩, -, -⟩ := hD
  have HX := Hid_of hx.at'
  have HG := Hid_of hG
  have hri := refInt_any (ds.length : Int) w (by omega)
  have HP0 : Hid (M.enc (ds.length : Int) = Sm.pre (ds.map (·.s)) 0) := Hid_of (by rw [Sm.pre_zero, hml])
  rw [HP0.out] at hri
  clear hx hG hml
  go_enter Try.func21, Try.ntmps21
  go_wp2_with fail
  refine hri.mono ?_
  rintro e w1 ⟨rfl, hb1⟩
  have HB1 := Hid_of hb1
  clear hri hb1 HP0
  go_wp2
  go_loopw [3, 4] (fun sv i wr => ∃ j : Nat, j ≤ ds.length ∧ sv = .string (ofL (Sm.pre (ds.map (·.s)) j)) ∧ i = .int .i64 j ∧ Hid (Below w.heap.size w wr)) (fun _ i _ => ds.length - (intOf i).toNat)
  case atStart => exact ⟨0, by omega, rfl, rfl, HB1⟩
  case round =>
    obtain ⟨j, hj, rfl, rfl, HB⟩ := hrel
    clear HB1
    by_cases hlj : j < ds.length
    · have hji : (j : Int) < (ds.length : Int) := by omega
      have hjm : j < (ds.map (·.s)).length := by rw [HML.out]; exact hlj
      have hgj : (ds.map (fun x : E => x.s))[j] = ds[j].s := by simp
      have hok : Sm.ok ds[j].s := by have := HG.out.get hjm; rw [hgj] at this; exact this
      have HPS : Hid (Sm.pre (ds.map (·.s)) (j + 1) = Sm.pre (ds.map (·.s)) j ++ Sm.part ds[j].s) := Hid_of (by rw [Sm.pre_step hjm, hgj])
      have hpl := Sm.pre_len HG.out.st (by rw [HML.out]; exact hn) j
      obtain ⟨b', off, rfl, c0, c1, c2, c3, c4, c5⟩ := (HX.out.keep HB.out).getE j hlj
      have HSJ := Hid_of ((HSV.out _ (List.getElem_mem hlj)).1.at'.keep HB.out)
      clear hjm hgj
      generalize Sm.pre (ds.map (·.s)) j = p0 at *
      obtain ⟨p1, HP1⟩ : ∃ p1, Hid (Sm.pre (ds.map (·.s)) (j + 1) = p1) := ⟨_, rfl⟩
      rw [HP1.out] at HPS
      generalize ds[j] = x at *
      obtain ⟨n1, n2, n3, n4, n5⟩ := hok.bnd
      obtain ⟨t1, t2, t3, t4, t5, u1, u2, u3, u4⟩ := Sm.part_len hok
      have hs13 : 1 ≤ x.s.st ∧ x.s.st ≤ 3 := ⟨hok.1, hok.2.1⟩
      have hw8 : IntKind.u8.wrap x.s.st = x.s.st := by rw [IntKind.wrap_u8]; omega
      obtain ⟨W8, HW8⟩ : ∃ W8, Hid (wr.alloc (eO x) = W8) := ⟨_, rfl⟩
      have hb8 := bel1 wr (eO x)
      have hr8 := heap_alloc_last wr (eO x)
      rw [HW8.out] at hb8 hr8
      obtain ⟨B, HBB⟩ : ∃ B, Hid (wr.heap.size = B) := ⟨_, rfl⟩
      rw [HBB.out] at hr8
      have HB8 := Hid_of (bel_up HB.out hb8 (Nat.le_refl _))
      have HR8 := Hid_of hr8
      obtain ⟨f, e0'⟩ : ∃ f, Hid (ofL [UInt8.ofNat x.s.st.toNat] = f) := ⟨_, rfl⟩
      obtain ⟨b1, e1⟩ : ∃ b1, Hid (ofL (M.enc x.s.ow) = b1) := ⟨_, rfl⟩
      obtain ⟨b2, e2⟩ : ∃ b2, Hid (ofL (M.enc x.s.ep) = b2) := ⟨_, rfl⟩
      obtain ⟨b3, e3⟩ : ∃ b3, Hid (ofL (M.enc x.s.ln) = b3) := ⟨_, rfl⟩
      obtain ⟨b4, e4⟩ : ∃ b4, Hid (ofL (M.encIs x.s.l) = b4) := ⟨_, rfl⟩
      obtain ⟨P, eP⟩ : ∃ P, Hid (ofL p0 = P) := ⟨_, rfl⟩
      have s0 : f.size ≤ 1000 := by rw [← e0'.out, ofL_size]; simp
      have s1 : b1.size ≤ 1000 := by rw [← e1.out, ofL_size]; omega
      have s2 : b2.size ≤ 1000 := by rw [← e2.out, ofL_size]; omega
      have s3 : b3.size ≤ 1000 := by rw [← e3.out, ofL_size]; omega
      have s4 : b4.size ≤ 1000 := by rw [← e4.out, ofL_size]; omega
      have s5 : P.size ≤ 1000000 := by rw [← eP.out, ofL_size]; exact hpl
      have r1 : ¬ (9223372036854775807 < f.size + b1.size) := by omega
      have r2 : ¬ (9223372036854775807 < f.size + b1.size + b2.size) := by omega
      have r3 : ¬ (9223372036854775807 < f.size + b1.size + b2.size + b3.size) := by omega
      have r4 : ¬ (9223372036854775807 < f.size + b1.size + b2.size + b3.size + b4.size) := by omega
      have r5 : ¬ (9223372036854775807 < P.size + (f.size + b1.size + b2.size + b3.size + b4.size)) := by omega
      have HSUM : Hid (P ++ (f ++ (b1 ++ (b2 ++ (b3 ++ b4)))) = ofL p1) := Hid_of (by
        rw [HPS.out, ← eP.out, ← e0'.out, ← e1.out, ← e2.out, ← e3.out, ← e4.out, ofL_app, ofL_app, ofL_app, ofL_app, ofL_app]
        congr 1
        have := Sm.part_eq x.s []
        simp only [List.append_nil] at this
        rw [this]
        simp)
      have HT1 : Hid (∀ wq, Below W8.heap.size W8 wq → Calls Try.prog 49 #[.int .i64 x.s.ow] wq fun x w' => x = .returned (.string b1) ∧ Below wq.heap.size wq w') := Hid_of fun wq _ => by rw [← e1.out]; exact refInt_any x.s.ow wq n1
      have HT2 : Hid (∀ wq, Below W8.heap.size W8 wq → Calls Try.prog 49 #[.int .i64 x.s.ep] wq fun x w' => x = .returned (.string b2) ∧ Below wq.heap.size wq w') := Hid_of fun wq _ => by rw [← e2.out]; exact refInt_any x.s.ep wq n2
      have HT3 : Hid (∀ wq, Below W8.heap.size W8 wq → Calls Try.prog 49 #[.int .i64 x.s.ln] wq fun x w' => x = .returned (.string b3) ∧ Below wq.heap.size wq w') := Hid_of fun wq _ => by rw [← e3.out]; exact refInt_any x.s.ln wq n3
      have HT4 : Hid (∀ wq, Below W8.heap.size W8 wq → Calls Try.prog 50 #[.slice x.a x.s.l.length x.c] wq fun x w' => x = .returned (.string b4) ∧ Below wq.heap.size wq w') := Hid_of fun wq hw => by rw [← e4.out]; exact refInts_any x.a x.c x.s.l wq (at_of ((HSJ.out.keep hb8).keep hw)) (by omega) n5
      have HCV : Hid (∀ (W : World) (g : Nat), W.heap[g]? = some (.cells #[.int .u8 x.s.st] 5 (0, 0)) → (Go.convert 77 9 (.slice (some ⟨g, 0, none⟩) 1 1)).run Try.prog W = .ok (.string f) W) := Hid_of fun W g hg => by rw [← e0'.out]; exact one_convertW W g x.s.st hs13 hg
      have HS : Hid (∀ wq : World, Below W8.heap.size W8 wq → wq.cell? ⟨B, 0, none⟩ = some (.int .i64 x.id) ∧ wq.cell? ⟨B, 0 + 1, none⟩ = some (.int .i64 x.s.st) ∧ wq.cell? ⟨B, 0 + 2, none⟩ = some (.int .i64 x.s.ow) ∧ wq.cell? ⟨B, 0 + 3, none⟩ = some (.int .i64 x.s.ep) ∧ wq.cell? ⟨B, 0 + 4, none⟩ = some (.int .i64 x.s.ln) ∧ wq.cell? ⟨B, 0 + 5, none⟩ = some (.slice x.a x.s.l.length x.c)) := Hid_of fun wq hq => (row_cells (bel_row HR8.out hq)).1
      rw [eP.out]
      clear hb8 hr8 n1 n2 n3 n4 n5 t1 t2 t3 t4 t5 u1 u2 u3 u4 s0 s1 s2 s3 s4 s5 e0' e1 e2 e3 e4 eP hok hs13 hpl HPS HB HSJ HR8
      go_upto_region 6 with fail
      rw [HW8.out, HBB.out]
      clear HW8 HBB c0 c1 c2 c3 c4 c5
      refine wp_region_held_drew (S := fun wq => Below (W8).heap.size (W8) wq) (by kernel_rfl) (Below.drew (Below.refl _ _)) (fun hHeld => ?_)
      obtain ⟨wdr, hwdr⟩ : ∃ wd, W8.drew = wd := ⟨_, rfl⟩
      have hBwd : Below W8.heap.size W8 wdr := by rw [← hwdr]; exact Below.drew (Below.refl _ _)
      rw [hwdr] at hHeld ⊢
      clear hwdr
      refine Tm 0 ?p0r ?v0r hHeld ?r0r
      refine Tm 1 ?p1r ?v1r hHeld ?r1r
      refine Tk 2 ?p2r ?v2r ?y2r hHeld ?r2r
      case y2r => intro wq hq; obtain ⟨y0, y1, y2, y3, y4, y5⟩ := HS.out wq hq; go_simp; try with_reducible rfl
      refine Tm 3 ?p3r ?v3r hHeld ?r3r
      refine Tm 6 ?p6r ?v6r hHeld ?r6r
      refine Tk 7 ?p7r ?v7r ?y7r hHeld ?r7r
      case y7r => intro wq hq; obtain ⟨y0, y1, y2, y3, y4, y5⟩ := HS.out wq hq; go_simp; try with_reducible rfl
      refine Tm 10 ?p10r ?v10r hHeld ?r10r
      refine Tk 11 ?p11r ?v11r ?y11r hHeld ?r11r
      case y11r => intro wq hq; obtain ⟨y0, y1, y2, y3, y4, y5⟩ := HS.out wq hq; go_simp; try with_reducible rfl
      refine Tm 14 ?p14r ?v14r hHeld ?r14r
      refine Tk 15 ?p15r ?v15r ?y15r hHeld ?r15r
      case y15r => intro wq hq; obtain ⟨y0, y1, y2, y3, y4, y5⟩ := HS.out wq hq; go_simp; try with_reducible rfl
      refine Tm 18 ?p18r ?v18r hHeld ?r18r
      refine Tk 19 ?p19r ?v19r ?y19r hHeld ?r19r
      case y19r => intro wq hq; obtain ⟨y0, y1, y2, y3, y4, y5⟩ := HS.out wq hq; go_simp; try with_reducible rfl
      simp only [Act.put, Pa, Pb, Pc]
      refine Rn [4, 8] (Rc ?p4r ?s4r (Rc ?p8r ?s8r AllReadyH.nil))
      case s4r =>
        intro K hK
        go_simp
        obtain ⟨w4, hw4⟩ : ∃ w4, wdr.alloc (.cells #[.int .u8 x.s.st] 5) = w4 := ⟨_, rfl⟩
        have hb4 : Below W8.heap.size W8 w4 := by rw [← hw4]; exact bel_up hHeld (bel1 _ _) (Nat.le_refl _)
        have hr4 : w4.heap[wdr.heap.size]? = some (.cells #[.int .u8 x.s.st] 5 (0, 0)) := by rw [← hw4]; exact heap_alloc_last wdr _
        obtain ⟨n4, hn4⟩ : ∃ n4, wdr.heap.size = n4 := ⟨_, rfl⟩
        rw [hw4, hn4]
        rw [hn4] at hr4
        clear hw4 hn4
        refine hK.out _ _ hb4 (fun hHeld => ?_)
        clear hK K
        refine Rn [5, 8] (Rc ?p5r_4 ?s5r_4 (Rc ?p8r_4 ?s8r_4 AllReadyH.nil))
        case s5r_4 =>
          intro K hK
          have hcv := HCV.out _ _ hr4
          go_simp
          clear hcv hr4
          refine hK.out _ _ hHeld (fun hHeld => ?_)
          clear hK K
          refine Rd 8 ?p8r_4_5 ?s8r_4_5
          intro K hK
          go_simp
          refine (HT1.out _ hHeld).mono ?_
          rintro e v1 ⟨rfl, hbv1⟩
          have hq1 := bel_up hHeld hbv1 (Nat.le_refl _)
          clear hbv1
          refine hK.out _ _ hq1 (fun hHeld => ?_)
          clear hK K
          refine Tm 9 ?p9r_4_5_8 ?v9r_4_5_8 hHeld ?r9r_4_5_8
          simp only [Act.put, Pa, Pb, Pc]
          refine Rd 12 ?p12r_4_5_8 ?s12r_4_5_8
          intro K hK
          go_simp
          refine (HT2.out _ hHeld).mono ?_
          rintro e v2 ⟨rfl, hbv2⟩
          have hq2 := bel_up hHeld hbv2 (Nat.le_refl _)
          clear hbv2
          refine hK.out _ _ hq2 (fun hHeld => ?_)
          clear hK K
          refine Tm 13 ?p13r_4_5_8_12 ?v13r_4_5_8_12 hHeld ?r13r_4_5_8_12
          simp only [Act.put, Pa, Pb, Pc]
          refine Rd 16 ?p16r_4_5_8_12 ?s16r_4_5_8_12
          intro K hK
          go_simp
          refine (HT3.out _ hHeld).mono ?_
          rintro e v3 ⟨rfl, hbv3⟩
          have hq3 := bel_up hHeld hbv3 (Nat.le_refl _)
          clear hbv3
          refine hK.out _ _ hq3 (fun hHeld => ?_)
          clear hK K
          refine Tm 17 ?p17r_4_5_8_12_16 ?v17r_4_5_8_12_16 hHeld ?r17r_4_5_8_12_16
          simp only [Act.put, Pa, Pb, Pc]
          refine Rd 20 ?p20r_4_5_8_12_16 ?s20r_4_5_8_12_16
          intro K hK
          go_simp
          refine (HT4.out _ hHeld).mono ?_
          rintro e v4 ⟨rfl, hbv4⟩
          have hq4 := bel_up hHeld hbv4 (Nat.le_refl _)
          clear hbv4
          refine hK.out _ _ hq4 (fun hHeld => ?_)
          clear hK K
          refine Tm 21 ?p21r_4_5_8_12_16_20 ?v21r_4_5_8_12_16_20 hHeld ?r21r_4_5_8_12_16_20
          refine Tm 22 ?p22r_4_5_8_12_16_20 ?v22r_4_5_8_12_16_20 hHeld ?r22r_4_5_8_12_16_20
          refine Tm 23 ?p23r_4_5_8_12_16_20 ?v23r_4_5_8_12_16_20 hHeld ?r23r_4_5_8_12_16_20
          simp only [Act.put, Pa, Pb, Pc]
          refine wpAnyH_done (by kernel_rfl) ?_ _
          have HB9 := Hid_of (bel_up HB8.out hHeld (Nat.le_refl _))
          clear hHeld HT1 HT2 HT3 HT4 HS HB8 HCV
          go_wp2
          go_roundw
          case rel => exact ⟨j + 1, by omega, by rw [HP1.out]; simp only [ByteArray.append_assoc]; exact congrArg Value.string HSUM.out, by go_num, HB9⟩
          case measure => simp [intOf]; omega
        case s8r_4 =>
          intro K hK
          go_simp
          refine (HT1.out _ hHeld).mono ?_
          rintro e v1 ⟨rfl, hbv1⟩
          have hq1 := bel_up hHeld hbv1 (Nat.le_refl _)
          have hr4 := bel_row hr4 hbv1
          clear hbv1
          refine hK.out _ _ hq1 (fun hHeld => ?_)
          clear hK K
          refine Rn [5, 12] (Rc ?p5r_4_8 ?s5r_4_8 (Rc ?p12r_4_8 ?s12r_4_8 AllReadyH.nil))
          case s5r_4_8 =>
            intro K hK
            have hcv := HCV.out _ _ hr4
            go_simp
            clear hcv hr4
            refine hK.out _ _ hHeld (fun hHeld => ?_)
            clear hK K
            refine Tm 9 ?p9r_4_8_5 ?v9r_4_8_5 hHeld ?r9r_4_8_5
            simp only [Act.put, Pa, Pb, Pc]
            refine Rd 12 ?p12r_4_8_5 ?s12r_4_8_5
            intro K hK
            go_simp
            refine (HT2.out _ hHeld).mono ?_
            rintro e v2 ⟨rfl, hbv2⟩
            have hq2 := bel_up hHeld hbv2 (Nat.le_refl _)
            clear hbv2
            refine hK.out _ _ hq2 (fun hHeld => ?_)
            clear hK K
            refine Tm 13 ?p13r_4_8_5_12 ?v13r_4_8_5_12 hHeld ?r13r_4_8_5_12
            simp only [Act.put, Pa, Pb, Pc]
            refine Rd 16 ?p16r_4_8_5_12 ?s16r_4_8_5_12
            intro K hK
            go_simp
            refine (HT3.out _ hHeld).mono ?_
            rintro e v3 ⟨rfl, hbv3⟩
            have hq3 := bel_up hHeld hbv3 (Nat.le_refl _)
            clear hbv3
            refine hK.out _ _ hq3 (fun hHeld => ?_)
            clear hK K
            refine Tm 17 ?p17r_4_8_5_12_16 ?v17r_4_8_5_12_16 hHeld ?r17r_4_8_5_12_16
            simp only [Act.put, Pa, Pb, Pc]
            refine Rd 20 ?p20r_4_8_5_12_16 ?s20r_4_8_5_12_16
            intro K hK
            go_simp
            refine (HT4.out _ hHeld).mono ?_
            rintro e v4 ⟨rfl, hbv4⟩
            have hq4 := bel_up hHeld hbv4 (Nat.le_refl _)
            clear hbv4
            refine hK.out _ _ hq4 (fun hHeld => ?_)
            clear hK K
            refine Tm 21 ?p21r_4_8_5_12_16_20 ?v21r_4_8_5_12_16_20 hHeld ?r21r_4_8_5_12_16_20
            refine Tm 22 ?p22r_4_8_5_12_16_20 ?v22r_4_8_5_12_16_20 hHeld ?r22r_4_8_5_12_16_20
            refine Tm 23 ?p23r_4_8_5_12_16_20 ?v23r_4_8_5_12_16_20 hHeld ?r23r_4_8_5_12_16_20
            simp only [Act.put, Pa, Pb, Pc]
            refine wpAnyH_done (by kernel_rfl) ?_ _
            have HB9 := Hid_of (bel_up HB8.out hHeld (Nat.le_refl _))
            clear hHeld HT1 HT2 HT3 HT4 HS HB8 HCV
            go_wp2
            go_roundw
            case rel => exact ⟨j + 1, by omega, by rw [HP1.out]; simp only [ByteArray.append_assoc]; exact congrArg Value.string HSUM.out, by go_num, HB9⟩
            case measure => simp [intOf]; omega
          case s12r_4_8 =>
            intro K hK
            go_simp
            refine (HT2.out _ hHeld).mono ?_
            rintro e v2 ⟨rfl, hbv2⟩
            have hq2 := bel_up hHeld hbv2 (Nat.le_refl _)
            have hr4 := bel_row hr4 hbv2
            clear hbv2
            refine hK.out _ _ hq2 (fun hHeld => ?_)
            clear hK K
            refine Rn [5, 16] (Rc ?p5r_4_8_12 ?s5r_4_8_12 (Rc ?p16r_4_8_12 ?s16r_4_8_12 AllReadyH.nil))
            case s5r_4_8_12 =>
              intro K hK
              have hcv := HCV.out _ _ hr4
              go_simp
              clear hcv hr4
              refine hK.out _ _ hHeld (fun hHeld => ?_)
              clear hK K
              refine Tm 9 ?p9r_4_8_12_5 ?v9r_4_8_12_5 hHeld ?r9r_4_8_12_5
              refine Tm 13 ?p13r_4_8_12_5 ?v13r_4_8_12_5 hHeld ?r13r_4_8_12_5
              simp only [Act.put, Pa, Pb, Pc]
              refine Rd 16 ?p16r_4_8_12_5 ?s16r_4_8_12_5
              intro K hK
              go_simp
              refine (HT3.out _ hHeld).mono ?_
              rintro e v3 ⟨rfl, hbv3⟩
              have hq3 := bel_up hHeld hbv3 (Nat.le_refl _)
              clear hbv3
              refine hK.out _ _ hq3 (fun hHeld => ?_)
              clear hK K
              refine Tm 17 ?p17r_4_8_12_5_16 ?v17r_4_8_12_5_16 hHeld ?r17r_4_8_12_5_16
              simp only [Act.put, Pa, Pb, Pc]
              refine Rd 20 ?p20r_4_8_12_5_16 ?s20r_4_8_12_5_16
              intro K hK
              go_simp
              refine (HT4.out _ hHeld).mono ?_
              rintro e v4 ⟨rfl, hbv4⟩
              have hq4 := bel_up hHeld hbv4 (Nat.le_refl _)
              clear hbv4
              refine hK.out _ _ hq4 (fun hHeld => ?_)
              clear hK K
              refine Tm 21 ?p21r_4_8_12_5_16_20 ?v21r_4_8_12_5_16_20 hHeld ?r21r_4_8_12_5_16_20
              refine Tm 22 ?p22r_4_8_12_5_16_20 ?v22r_4_8_12_5_16_20 hHeld ?r22r_4_8_12_5_16_20
              refine Tm 23 ?p23r_4_8_12_5_16_20 ?v23r_4_8_12_5_16_20 hHeld ?r23r_4_8_12_5_16_20
              simp only [Act.put, Pa, Pb, Pc]
              refine wpAnyH_done (by kernel_rfl) ?_ _
              have HB9 := Hid_of (bel_up HB8.out hHeld (Nat.le_refl _))
              clear hHeld HT1 HT2 HT3 HT4 HS HB8 HCV
              go_wp2
              go_roundw
              case rel => exact ⟨j + 1, by omega, by rw [HP1.out]; simp only [ByteArray.append_assoc]; exact congrArg Value.string HSUM.out, by go_num, HB9⟩
              case measure => simp [intOf]; omega
            case s16r_4_8_12 =>
              intro K hK
              go_simp
              refine (HT3.out _ hHeld).mono ?_
              rintro e v3 ⟨rfl, hbv3⟩
              have hq3 := bel_up hHeld hbv3 (Nat.le_refl _)
              have hr4 := bel_row hr4 hbv3
              clear hbv3
              refine hK.out _ _ hq3 (fun hHeld => ?_)
              clear hK K
              refine Rn [5, 20] (Rc ?p5r_4_8_12_16 ?s5r_4_8_12_16 (Rc ?p20r_4_8_12_16 ?s20r_4_8_12_16 AllReadyH.nil))
              case s5r_4_8_12_16 =>
                intro K hK
                have hcv := HCV.out _ _ hr4
                go_simp
                clear hcv hr4
                refine hK.out _ _ hHeld (fun hHeld => ?_)
                clear hK K
                refine Tm 9 ?p9r_4_8_12_16_5 ?v9r_4_8_12_16_5 hHeld ?r9r_4_8_12_16_5
                refine Tm 13 ?p13r_4_8_12_16_5 ?v13r_4_8_12_16_5 hHeld ?r13r_4_8_12_16_5
                refine Tm 17 ?p17r_4_8_12_16_5 ?v17r_4_8_12_16_5 hHeld ?r17r_4_8_12_16_5
                simp only [Act.put, Pa, Pb, Pc]
                refine Rd 20 ?p20r_4_8_12_16_5 ?s20r_4_8_12_16_5
                intro K hK
                go_simp
                refine (HT4.out _ hHeld).mono ?_
                rintro e v4 ⟨rfl, hbv4⟩
                have hq4 := bel_up hHeld hbv4 (Nat.le_refl _)
                clear hbv4
                refine hK.out _ _ hq4 (fun hHeld => ?_)
                clear hK K
                refine Tm 21 ?p21r_4_8_12_16_5_20 ?v21r_4_8_12_16_5_20 hHeld ?r21r_4_8_12_16_5_20
                refine Tm 22 ?p22r_4_8_12_16_5_20 ?v22r_4_8_12_16_5_20 hHeld ?r22r_4_8_12_16_5_20
                refine Tm 23 ?p23r_4_8_12_16_5_20 ?v23r_4_8_12_16_5_20 hHeld ?r23r_4_8_12_16_5_20
                simp only [Act.put, Pa, Pb, Pc]
                refine wpAnyH_done (by kernel_rfl) ?_ _
                have HB9 := Hid_of (bel_up HB8.out hHeld (Nat.le_refl _))
                clear hHeld HT1 HT2 HT3 HT4 HS HB8 HCV
                go_wp2
                go_roundw
                case rel => exact ⟨j + 1, by omega, by rw [HP1.out]; simp only [ByteArray.append_assoc]; exact congrArg Value.string HSUM.out, by go_num, HB9⟩
                case measure => simp [intOf]; omega
              case s20r_4_8_12_16 =>
                intro K hK
                go_simp
                refine (HT4.out _ hHeld).mono ?_
                rintro e v4 ⟨rfl, hbv4⟩
                have hq4 := bel_up hHeld hbv4 (Nat.le_refl _)
                have hr4 := bel_row hr4 hbv4
                clear hbv4
                refine hK.out _ _ hq4 (fun hHeld => ?_)
                clear hK K
                refine Rd 5 ?p5r_4_8_12_16_20 ?s5r_4_8_12_16_20
                intro K hK
                have hcv := HCV.out _ _ hr4
                go_simp
                clear hcv hr4
                refine hK.out _ _ hHeld (fun hHeld => ?_)
                clear hK K
                refine Tm 9 ?p9r_4_8_12_16_20_5 ?v9r_4_8_12_16_20_5 hHeld ?r9r_4_8_12_16_20_5
                refine Tm 13 ?p13r_4_8_12_16_20_5 ?v13r_4_8_12_16_20_5 hHeld ?r13r_4_8_12_16_20_5
                refine Tm 17 ?p17r_4_8_12_16_20_5 ?v17r_4_8_12_16_20_5 hHeld ?r17r_4_8_12_16_20_5
                refine Tm 21 ?p21r_4_8_12_16_20_5 ?v21r_4_8_12_16_20_5 hHeld ?r21r_4_8_12_16_20_5
                refine Tm 22 ?p22r_4_8_12_16_20_5 ?v22r_4_8_12_16_20_5 hHeld ?r22r_4_8_12_16_20_5
                refine Tm 23 ?p23r_4_8_12_16_20_5 ?v23r_4_8_12_16_20_5 hHeld ?r23r_4_8_12_16_20_5
                simp only [Act.put, Pa, Pb, Pc]
                refine wpAnyH_done (by kernel_rfl) ?_ _
                have HB9 := Hid_of (bel_up HB8.out hHeld (Nat.le_refl _))
                clear hHeld HT1 HT2 HT3 HT4 HS HB8 HCV
                go_wp2
                go_roundw
                case rel => exact ⟨j + 1, by omega, by rw [HP1.out]; simp only [ByteArray.append_assoc]; exact congrArg Value.string HSUM.out, by go_num, HB9⟩
                case measure => simp [intOf]; omega
      case s8r =>
        intro K hK
        go_simp
        refine (HT1.out _ hHeld).mono ?_
        rintro e v1 ⟨rfl, hbv1⟩
        have hq1 := bel_up hHeld hbv1 (Nat.le_refl _)
        clear hbv1
        refine hK.out _ _ hq1 (fun hHeld => ?_)
        clear hK K
        refine Rn [4, 12] (Rc ?p4r_8 ?s4r_8 (Rc ?p12r_8 ?s12r_8 AllReadyH.nil))
        case s4r_8 =>
          intro K hK
          go_simp
          obtain ⟨w4, hw4⟩ : ∃ w4, v1.alloc (.cells #[.int .u8 x.s.st] 5) = w4 := ⟨_, rfl⟩
          have hb4 : Below W8.heap.size W8 w4 := by rw [← hw4]; exact bel_up hHeld (bel1 _ _) (Nat.le_refl _)
          have hr4 : w4.heap[v1.heap.size]? = some (.cells #[.int .u8 x.s.st] 5 (0, 0)) := by rw [← hw4]; exact heap_alloc_last v1 _
          obtain ⟨n4, hn4⟩ : ∃ n4, v1.heap.size = n4 := ⟨_, rfl⟩
          rw [hw4, hn4]
          rw [hn4] at hr4
          clear hw4 hn4
          refine hK.out _ _ hb4 (fun hHeld => ?_)
          clear hK K
          refine Rn [5, 12] (Rc ?p5r_8_4 ?s5r_8_4 (Rc ?p12r_8_4 ?s12r_8_4 AllReadyH.nil))
          case s5r_8_4 =>
            intro K hK
            have hcv := HCV.out _ _ hr4
            go_simp
            clear hcv hr4
            refine hK.out _ _ hHeld (fun hHeld => ?_)
            clear hK K
            refine Tm 9 ?p9r_8_4_5 ?v9r_8_4_5 hHeld ?r9r_8_4_5
            simp only [Act.put, Pa, Pb, Pc]
            refine Rd 12 ?p12r_8_4_5 ?s12r_8_4_5
            intro K hK
            go_simp
            refine (HT2.out _ hHeld).mono ?_
            rintro e v2 ⟨rfl, hbv2⟩
            have hq2 := bel_up hHeld hbv2 (Nat.le_refl _)
            clear hbv2
            refine hK.out _ _ hq2 (fun hHeld => ?_)
            clear hK K
            refine Tm 13 ?p13r_8_4_5_12 ?v13r_8_4_5_12 hHeld ?r13r_8_4_5_12
            simp only [Act.put, Pa, Pb, Pc]
            refine Rd 16 ?p16r_8_4_5_12 ?s16r_8_4_5_12
            intro K hK
            go_simp
            refine (HT3.out _ hHeld).mono ?_
            rintro e v3 ⟨rfl, hbv3⟩
            have hq3 := bel_up hHeld hbv3 (Nat.le_refl _)
            clear hbv3
            refine hK.out _ _ hq3 (fun hHeld => ?_)
            clear hK K
            refine Tm 17 ?p17r_8_4_5_12_16 ?v17r_8_4_5_12_16 hHeld ?r17r_8_4_5_12_16
            simp only [Act.put, Pa, Pb, Pc]
            refine Rd 20 ?p20r_8_4_5_12_16 ?s20r_8_4_5_12_16
            intro K hK
            go_simp
            refine (HT4.out _ hHeld).mono ?_
            rintro e v4 ⟨rfl, hbv4⟩
            have hq4 := bel_up hHeld hbv4 (Nat.le_refl _)
            clear hbv4
            refine hK.out _ _ hq4 (fun hHeld => ?_)
            clear hK K
            refine Tm 21 ?p21r_8_4_5_12_16_20 ?v21r_8_4_5_12_16_20 hHeld ?r21r_8_4_5_12_16_20
            refine Tm 22 ?p22r_8_4_5_12_16_20 ?v22r_8_4_5_12_16_20 hHeld ?r22r_8_4_5_12_16_20
            refine Tm 23 ?p23r_8_4_5_12_16_20 ?v23r_8_4_5_12_16_20 hHeld ?r23r_8_4_5_12_16_20
            simp only [Act.put, Pa, Pb, Pc]
            refine wpAnyH_done (by kernel_rfl) ?_ _
            have HB9 := Hid_of (bel_up HB8.out hHeld (Nat.le_refl _))
            clear hHeld HT1 HT2 HT3 HT4 HS HB8 HCV
            go_wp2
            go_roundw
            case rel => exact ⟨j + 1, by omega, by rw [HP1.out]; simp only [ByteArray.append_assoc]; exact congrArg Value.string HSUM.out, by go_num, HB9⟩
            case measure => simp [intOf]; omega
          case s12r_8_4 =>
            intro K hK
            go_simp
            refine (HT2.out _ hHeld).mono ?_
            rintro e v2 ⟨rfl, hbv2⟩
            have hq2 := bel_up hHeld hbv2 (Nat.le_refl _)
            have hr4 := bel_row hr4 hbv2
            clear hbv2
            refine hK.out _ _ hq2 (fun hHeld => ?_)
            clear hK K
            refine Rn [5, 16] (Rc ?p5r_8_4_12 ?s5r_8_4_12 (Rc ?p16r_8_4_12 ?s16r_8_4_12 AllReadyH.nil))
            case s5r_8_4_12 =>
              intro K hK
              have hcv := HCV.out _ _ hr4
              go_simp
              clear hcv hr4
              refine hK.out _ _ hHeld (fun hHeld => ?_)
              clear hK K
              refine Tm 9 ?p9r_8_4_12_5 ?v9r_8_4_12_5 hHeld ?r9r_8_4_12_5
              refine Tm 13 ?p13r_8_4_12_5 ?v13r_8_4_12_5 hHeld ?r13r_8_4_12_5
              simp only [Act.put, Pa, Pb, Pc]
              refine Rd 16 ?p16r_8_4_12_5 ?s16r_8_4_12_5
              intro K hK
              go_simp
              refine (HT3.out _ hHeld).mono ?_
              rintro e v3 ⟨rfl, hbv3⟩
              have hq3 := bel_up hHeld hbv3 (Nat.le_refl _)
              clear hbv3
              refine hK.out _ _ hq3 (fun hHeld => ?_)
              clear hK K
              refine Tm 17 ?p17r_8_4_12_5_16 ?v17r_8_4_12_5_16 hHeld ?r17r_8_4_12_5_16
              simp only [Act.put, Pa, Pb, Pc]
              refine Rd 20 ?p20r_8_4_12_5_16 ?s20r_8_4_12_5_16
              intro K hK
              go_simp
              refine (HT4.out _ hHeld).mono ?_
              rintro e v4 ⟨rfl, hbv4⟩
              have hq4 := bel_up hHeld hbv4 (Nat.le_refl _)
              clear hbv4
              refine hK.out _ _ hq4 (fun hHeld => ?_)
              clear hK K
              refine Tm 21 ?p21r_8_4_12_5_16_20 ?v21r_8_4_12_5_16_20 hHeld ?r21r_8_4_12_5_16_20
              refine Tm 22 ?p22r_8_4_12_5_16_20 ?v22r_8_4_12_5_16_20 hHeld ?r22r_8_4_12_5_16_20
              refine Tm 23 ?p23r_8_4_12_5_16_20 ?v23r_8_4_12_5_16_20 hHeld ?r23r_8_4_12_5_16_20
              simp only [Act.put, Pa, Pb, Pc]
              refine wpAnyH_done (by kernel_rfl) ?_ _
              have HB9 := Hid_of (bel_up HB8.out hHeld (Nat.le_refl _))
              clear hHeld HT1 HT2 HT3 HT4 HS HB8 HCV
              go_wp2
              go_roundw
              case rel => exact ⟨j + 1, by omega, by rw [HP1.out]; simp only [ByteArray.append_assoc]; exact congrArg Value.string HSUM.out, by go_num, HB9⟩
              case measure => simp [intOf]; omega
            case s16r_8_4_12 =>
              intro K hK
              go_simp
              refine (HT3.out _ hHeld).mono ?_
              rintro e v3 ⟨rfl, hbv3⟩
              have hq3 := bel_up hHeld hbv3 (Nat.le_refl _)
              have hr4 := bel_row hr4 hbv3
              clear hbv3
              refine hK.out _ _ hq3 (fun hHeld => ?_)
              clear hK K
              refine Rn [5, 20] (Rc ?p5r_8_4_12_16 ?s5r_8_4_12_16 (Rc ?p20r_8_4_12_16 ?s20r_8_4_12_16 AllReadyH.nil))
              case s5r_8_4_12_16 =>
                intro K hK
                have hcv := HCV.out _ _ hr4
                go_simp
                clear hcv hr4
                refine hK.out _ _ hHeld (fun hHeld => ?_)
                clear hK K
                refine Tm 9 ?p9r_8_4_12_16_5 ?v9r_8_4_12_16_5 hHeld ?r9r_8_4_12_16_5
                refine Tm 13 ?p13r_8_4_12_16_5 ?v13r_8_4_12_16_5 hHeld ?r13r_8_4_12_16_5
                refine Tm 17 ?p17r_8_4_12_16_5 ?v17r_8_4_12_16_5 hHeld ?r17r_8_4_12_16_5
                simp only [Act.put, Pa, Pb, Pc]
                refine Rd 20 ?p20r_8_4_12_16_5 ?s20r_8_4_12_16_5
                intro K hK
                go_simp
                refine (HT4.out _ hHeld).mono ?_
                rintro e v4 ⟨rfl, hbv4⟩
                have hq4 := bel_up hHeld hbv4 (Nat.le_refl _)
                clear hbv4
                refine hK.out _ _ hq4 (fun hHeld => ?_)
                clear hK K
                refine Tm 21 ?p21r_8_4_12_16_5_20 ?v21r_8_4_12_16_5_20 hHeld ?r21r_8_4_12_16_5_20
                refine Tm 22 ?p22r_8_4_12_16_5_20 ?v22r_8_4_12_16_5_20 hHeld ?r22r_8_4_12_16_5_20
                refine Tm 23 ?p23r_8_4_12_16_5_20 ?v23r_8_4_12_16_5_20 hHeld ?r23r_8_4_12_16_5_20
                simp only [Act.put, Pa, Pb, Pc]
                refine wpAnyH_done (by kernel_rfl) ?_ _
                have HB9 := Hid_of (bel_up HB8.out hHeld (Nat.le_refl _))
                clear hHeld HT1 HT2 HT3 HT4 HS HB8 HCV
                go_wp2
                go_roundw
                case rel => exact ⟨j + 1, by omega, by rw [HP1.out]; simp only [ByteArray.append_assoc]; exact congrArg Value.string HSUM.out, by go_num, HB9⟩
                case measure => simp [intOf]; omega
              case s20r_8_4_12_16 =>
                intro K hK
                go_simp
                refine (HT4.out _ hHeld).mono ?_
                rintro e v4 ⟨rfl, hbv4⟩
                have hq4 := bel_up hHeld hbv4 (Nat.le_refl _)
                have hr4 := bel_row hr4 hbv4
                clear hbv4
                refine hK.out _ _ hq4 (fun hHeld => ?_)
                clear hK K
                refine Rd 5 ?p5r_8_4_12_16_20 ?s5r_8_4_12_16_20
                intro K hK
                have hcv := HCV.out _ _ hr4
                go_simp
                clear hcv hr4
                refine hK.out _ _ hHeld (fun hHeld => ?_)
                clear hK K
                refine Tm 9 ?p9r_8_4_12_16_20_5 ?v9r_8_4_12_16_20_5 hHeld ?r9r_8_4_12_16_20_5
                refine Tm 13 ?p13r_8_4_12_16_20_5 ?v13r_8_4_12_16_20_5 hHeld ?r13r_8_4_12_16_20_5
                refine Tm 17 ?p17r_8_4_12_16_20_5 ?v17r_8_4_12_16_20_5 hHeld ?r17r_8_4_12_16_20_5
                refine Tm 21 ?p21r_8_4_12_16_20_5 ?v21r_8_4_12_16_20_5 hHeld ?r21r_8_4_12_16_20_5
                refine Tm 22 ?p22r_8_4_12_16_20_5 ?v22r_8_4_12_16_20_5 hHeld ?r22r_8_4_12_16_20_5
                refine Tm 23 ?p23r_8_4_12_16_20_5 ?v23r_8_4_12_16_20_5 hHeld ?r23r_8_4_12_16_20_5
                simp only [Act.put, Pa, Pb, Pc]
                refine wpAnyH_done (by kernel_rfl) ?_ _
                have HB9 := Hid_of (bel_up HB8.out hHeld (Nat.le_refl _))
                clear hHeld HT1 HT2 HT3 HT4 HS HB8 HCV
                go_wp2
                go_roundw
                case rel => exact ⟨j + 1, by omega, by rw [HP1.out]; simp only [ByteArray.append_assoc]; exact congrArg Value.string HSUM.out, by go_num, HB9⟩
                case measure => simp [intOf]; omega
        case s12r_8 =>
          intro K hK
          go_simp
          refine (HT2.out _ hHeld).mono ?_
          rintro e v2 ⟨rfl, hbv2⟩
          have hq2 := bel_up hHeld hbv2 (Nat.le_refl _)
          clear hbv2
          refine hK.out _ _ hq2 (fun hHeld => ?_)
          clear hK K
          refine Rn [4, 16] (Rc ?p4r_8_12 ?s4r_8_12 (Rc ?p16r_8_12 ?s16r_8_12 AllReadyH.nil))
          case s4r_8_12 =>
            intro K hK
            go_simp
            obtain ⟨w4, hw4⟩ : ∃ w4, v2.alloc (.cells #[.int .u8 x.s.st] 5) = w4 := ⟨_, rfl⟩
            have hb4 : Below W8.heap.size W8 w4 := by rw [← hw4]; exact bel_up hHeld (bel1 _ _) (Nat.le_refl _)
            have hr4 : w4.heap[v2.heap.size]? = some (.cells #[.int .u8 x.s.st] 5 (0, 0)) := by rw [← hw4]; exact heap_alloc_last v2 _
            obtain ⟨n4, hn4⟩ : ∃ n4, v2.heap.size = n4 := ⟨_, rfl⟩
            rw [hw4, hn4]
            rw [hn4] at hr4
            clear hw4 hn4
            refine hK.out _ _ hb4 (fun hHeld => ?_)
            clear hK K
            refine Rn [5, 16] (Rc ?p5r_8_12_4 ?s5r_8_12_4 (Rc ?p16r_8_12_4 ?s16r_8_12_4 AllReadyH.nil))
            case s5r_8_12_4 =>
              intro K hK
              have hcv := HCV.out _ _ hr4
              go_simp
              clear hcv hr4
              refine hK.out _ _ hHeld (fun hHeld => ?_)
              clear hK K
              refine Tm 9 ?p9r_8_12_4_5 ?v9r_8_12_4_5 hHeld ?r9r_8_12_4_5
              refine Tm 13 ?p13r_8_12_4_5 ?v13r_8_12_4_5 hHeld ?r13r_8_12_4_5
              simp only [Act.put, Pa, Pb, Pc]
              refine Rd 16 ?p16r_8_12_4_5 ?s16r_8_12_4_5
              intro K hK
              go_simp
              refine (HT3.out _ hHeld).mono ?_
              rintro e v3 ⟨rfl, hbv3⟩
              have hq3 := bel_up hHeld hbv3 (Nat.le_refl _)
              clear hbv3
              refine hK.out _ _ hq3 (fun hHeld => ?_)
              clear hK K
              refine Tm 17 ?p17r_8_12_4_5_16 ?v17r_8_12_4_5_16 hHeld ?r17r_8_12_4_5_16
              simp only [Act.put, Pa, Pb, Pc]
              refine Rd 20 ?p20r_8_12_4_5_16 ?s20r_8_12_4_5_16
              intro K hK
              go_simp
              refine (HT4.out _ hHeld).mono ?_
              rintro e v4 ⟨rfl, hbv4⟩
              have hq4 := bel_up hHeld hbv4 (Nat.le_refl _)
              clear hbv4
              refine hK.out _ _ hq4 (fun hHeld => ?_)
              clear hK K
              refine Tm 21 ?p21r_8_12_4_5_16_20 ?v21r_8_12_4_5_16_20 hHeld ?r21r_8_12_4_5_16_20
              refine Tm 22 ?p22r_8_12_4_5_16_20 ?v22r_8_12_4_5_16_20 hHeld ?r22r_8_12_4_5_16_20
              refine Tm 23 ?p23r_8_12_4_5_16_20 ?v23r_8_12_4_5_16_20 hHeld ?r23r_8_12_4_5_16_20
              simp only [Act.put, Pa, Pb, Pc]
              refine wpAnyH_done (by kernel_rfl) ?_ _
              have HB9 := Hid_of (bel_up HB8.out hHeld (Nat.le_refl _))
              clear hHeld HT1 HT2 HT3 HT4 HS HB8 HCV
              go_wp2
              go_roundw
              case rel => exact ⟨j + 1, by omega, by rw [HP1.out]; simp only [ByteArray.append_assoc]; exact congrArg Value.string HSUM.out, by go_num, HB9⟩
              case measure => simp [intOf]; omega
            case s16r_8_12_4 =>
              intro K hK
              go_simp
              refine (HT3.out _ hHeld).mono ?_
              rintro e v3 ⟨rfl, hbv3⟩
              have hq3 := bel_up hHeld hbv3 (Nat.le_refl _)
              have hr4 := bel_row hr4 hbv3
              clear hbv3
              refine hK.out _ _ hq3 (fun hHeld => ?_)
              clear hK K
              refine Rn [5, 20] (Rc ?p5r_8_12_4_16 ?s5r_8_12_4_16 (Rc ?p20r_8_12_4_16 ?s20r_8_12_4_16 AllReadyH.nil))
              case s5r_8_12_4_16 =>
                intro K hK
                have hcv := HCV.out _ _ hr4
                go_simp
                clear hcv hr4
                refine hK.out _ _ hHeld (fun hHeld => ?_)
                clear hK K
                refine Tm 9 ?p9r_8_12_4_16_5 ?v9r_8_12_4_16_5 hHeld ?r9r_8_12_4_16_5
                refine Tm 13 ?p13r_8_12_4_16_5 ?v13r_8_12_4_16_5 hHeld ?r13r_8_12_4_16_5
                refine Tm 17 ?p17r_8_12_4_16_5 ?v17r_8_12_4_16_5 hHeld ?r17r_8_12_4_16_5
                simp only [Act.put, Pa, Pb, Pc]
                refine Rd 20 ?p20r_8_12_4_16_5 ?s20r_8_12_4_16_5
                intro K hK
                go_simp
                refine (HT4.out _ hHeld).mono ?_
                rintro e v4 ⟨rfl, hbv4⟩
                have hq4 := bel_up hHeld hbv4 (Nat.le_refl _)
                clear hbv4
                refine hK.out _ _ hq4 (fun hHeld => ?_)
                clear hK K
                refine Tm 21 ?p21r_8_12_4_16_5_20 ?v21r_8_12_4_16_5_20 hHeld ?r21r_8_12_4_16_5_20
                refine Tm 22 ?p22r_8_12_4_16_5_20 ?v22r_8_12_4_16_5_20 hHeld ?r22r_8_12_4_16_5_20
                refine Tm 23 ?p23r_8_12_4_16_5_20 ?v23r_8_12_4_16_5_20 hHeld ?r23r_8_12_4_16_5_20
                simp only [Act.put, Pa, Pb, Pc]
                refine wpAnyH_done (by kernel_rfl) ?_ _
                have HB9 := Hid_of (bel_up HB8.out hHeld (Nat.le_refl _))
                clear hHeld HT1 HT2 HT3 HT4 HS HB8 HCV
                go_wp2
                go_roundw
                case rel => exact ⟨j + 1, by omega, by rw [HP1.out]; simp only [ByteArray.append_assoc]; exact congrArg Value.string HSUM.out, by go_num, HB9⟩
                case measure => simp [intOf]; omega
              case s20r_8_12_4_16 =>
                intro K hK
                go_simp
                refine (HT4.out _ hHeld).mono ?_
                rintro e v4 ⟨rfl, hbv4⟩
                have hq4 := bel_up hHeld hbv4 (Nat.le_refl _)
                have hr4 := bel_row hr4 hbv4
                clear hbv4
                refine hK.out _ _ hq4 (fun hHeld => ?_)
                clear hK K
                refine Rd 5 ?p5r_8_12_4_16_20 ?s5r_8_12_4_16_20
                intro K hK
                have hcv := HCV.out _ _ hr4
                go_simp
                clear hcv hr4
                refine hK.out _ _ hHeld (fun hHeld => ?_)
                clear hK K
                refine Tm 9 ?p9r_8_12_4_16_20_5 ?v9r_8_12_4_16_20_5 hHeld ?r9r_8_12_4_16_20_5
                refine Tm 13 ?p13r_8_12_4_16_20_5 ?v13r_8_12_4_16_20_5 hHeld ?r13r_8_12_4_16_20_5
                refine Tm 17 ?p17r_8_12_4_16_20_5 ?v17r_8_12_4_16_20_5 hHeld ?r17r_8_12_4_16_20_5
                refine Tm 21 ?p21r_8_12_4_16_20_5 ?v21r_8_12_4_16_20_5 hHeld ?r21r_8_12_4_16_20_5
                refine Tm 22 ?p22r_8_12_4_16_20_5 ?v22r_8_12_4_16_20_5 hHeld ?r22r_8_12_4_16_20_5
                refine Tm 23 ?p23r_8_12_4_16_20_5 ?v23r_8_12_4_16_20_5 hHeld ?r23r_8_12_4_16_20_5
                simp only [Act.put, Pa, Pb, Pc]
                refine wpAnyH_done (by kernel_rfl) ?_ _
                have HB9 := Hid_of (bel_up HB8.out hHeld (Nat.le_refl _))
                clear hHeld HT1 HT2 HT3 HT4 HS HB8 HCV
                go_wp2
                go_roundw
                case rel => exact ⟨j + 1, by omega, by rw [HP1.out]; simp only [ByteArray.append_assoc]; exact congrArg Value.string HSUM.out, by go_num, HB9⟩
                case measure => simp [intOf]; omega
          case s16r_8_12 =>
            intro K hK
            go_simp
            refine (HT3.out _ hHeld).mono ?_
            rintro e v3 ⟨rfl, hbv3⟩
            have hq3 := bel_up hHeld hbv3 (Nat.le_refl _)
            clear hbv3
            refine hK.out _ _ hq3 (fun hHeld => ?_)
            clear hK K
            refine Rn [4, 20] (Rc ?p4r_8_12_16 ?s4r_8_12_16 (Rc ?p20r_8_12_16 ?s20r_8_12_16 AllReadyH.nil))
            case s4r_8_12_16 =>
              intro K hK
              go_simp
              obtain ⟨w4, hw4⟩ : ∃ w4, v3.alloc (.cells #[.int .u8 x.s.st] 5) = w4 := ⟨_, rfl⟩
              have hb4 : Below W8.heap.size W8 w4 := by rw [← hw4]; exact bel_up hHeld (bel1 _ _) (Nat.le_refl _)
              have hr4 : w4.heap[v3.heap.size]? = some (.cells #[.int .u8 x.s.st] 5 (0, 0)) := by rw [← hw4]; exact heap_alloc_last v3 _
              obtain ⟨n4, hn4⟩ : ∃ n4, v3.heap.size = n4 := ⟨_, rfl⟩
              rw [hw4, hn4]
              rw [hn4] at hr4
              clear hw4 hn4
              refine hK.out _ _ hb4 (fun hHeld => ?_)
              clear hK K
              refine Rn [5, 20] (Rc ?p5r_8_12_16_4 ?s5r_8_12_16_4 (Rc ?p20r_8_12_16_4 ?s20r_8_12_16_4 AllReadyH.nil))
              case s5r_8_12_16_4 =>
                intro K hK
                have hcv := HCV.out _ _ hr4
                go_simp
                clear hcv hr4
                refine hK.out _ _ hHeld (fun hHeld => ?_)
                clear hK K
                refine Tm 9 ?p9r_8_12_16_4_5 ?v9r_8_12_16_4_5 hHeld ?r9r_8_12_16_4_5
                refine Tm 13 ?p13r_8_12_16_4_5 ?v13r_8_12_16_4_5 hHeld ?r13r_8_12_16_4_5
                refine Tm 17 ?p17r_8_12_16_4_5 ?v17r_8_12_16_4_5 hHeld ?r17r_8_12_16_4_5
                simp only [Act.put, Pa, Pb, Pc]
                refine Rd 20 ?p20r_8_12_16_4_5 ?s20r_8_12_16_4_5
                intro K hK
                go_simp
                refine (HT4.out _ hHeld).mono ?_
                rintro e v4 ⟨rfl, hbv4⟩
                have hq4 := bel_up hHeld hbv4 (Nat.le_refl _)
                clear hbv4
                refine hK.out _ _ hq4 (fun hHeld => ?_)
                clear hK K
                refine Tm 21 ?p21r_8_12_16_4_5_20 ?v21r_8_12_16_4_5_20 hHeld ?r21r_8_12_16_4_5_20
                refine Tm 22 ?p22r_8_12_16_4_5_20 ?v22r_8_12_16_4_5_20 hHeld ?r22r_8_12_16_4_5_20
                refine Tm 23 ?p23r_8_12_16_4_5_20 ?v23r_8_12_16_4_5_20 hHeld ?r23r_8_12_16_4_5_20
                simp only [Act.put, Pa, Pb, Pc]
                refine wpAnyH_done (by kernel_rfl) ?_ _
                have HB9 := Hid_of (bel_up HB8.out hHeld (Nat.le_refl _))
                clear hHeld HT1 HT2 HT3 HT4 HS HB8 HCV
                go_wp2
                go_roundw
                case rel => exact ⟨j + 1, by omega, by rw [HP1.out]; simp only [ByteArray.append_assoc]; exact congrArg Value.string HSUM.out, by go_num, HB9⟩
                case measure => simp [intOf]; omega
              case s20r_8_12_16_4 =>
                intro K hK
                go_simp
                refine (HT4.out _ hHeld).mono ?_
                rintro e v4 ⟨rfl, hbv4⟩
                have hq4 := bel_up hHeld hbv4 (Nat.le_refl _)
                have hr4 := bel_row hr4 hbv4
                clear hbv4
                refine hK.out _ _ hq4 (fun hHeld => ?_)
                clear hK K
                refine Rd 5 ?p5r_8_12_16_4_20 ?s5r_8_12_16_4_20
                intro K hK
                have hcv := HCV.out _ _ hr4
                go_simp
                clear hcv hr4
                refine hK.out _ _ hHeld (fun hHeld => ?_)
                clear hK K
                refine Tm 9 ?p9r_8_12_16_4_20_5 ?v9r_8_12_16_4_20_5 hHeld ?r9r_8_12_16_4_20_5
                refine Tm 13 ?p13r_8_12_16_4_20_5 ?v13r_8_12_16_4_20_5 hHeld ?r13r_8_12_16_4_20_5
                refine Tm 17 ?p17r_8_12_16_4_20_5 ?v17r_8_12_16_4_20_5 hHeld ?r17r_8_12_16_4_20_5
                refine Tm 21 ?p21r_8_12_16_4_20_5 ?v21r_8_12_16_4_20_5 hHeld ?r21r_8_12_16_4_20_5
                refine Tm 22 ?p22r_8_12_16_4_20_5 ?v22r_8_12_16_4_20_5 hHeld ?r22r_8_12_16_4_20_5
                refine Tm 23 ?p23r_8_12_16_4_20_5 ?v23r_8_12_16_4_20_5 hHeld ?r23r_8_12_16_4_20_5
                simp only [Act.put, Pa, Pb, Pc]
                refine wpAnyH_done (by kernel_rfl) ?_ _
                have HB9 := Hid_of (bel_up HB8.out hHeld (Nat.le_refl _))
                clear hHeld HT1 HT2 HT3 HT4 HS HB8 HCV
                go_wp2
                go_roundw
                case rel => exact ⟨j + 1, by omega, by rw [HP1.out]; simp only [ByteArray.append_assoc]; exact congrArg Value.string HSUM.out, by go_num, HB9⟩
                case measure => simp [intOf]; omega
            case s20r_8_12_16 =>
              intro K hK
              go_simp
              refine (HT4.out _ hHeld).mono ?_
              rintro e v4 ⟨rfl, hbv4⟩
              have hq4 := bel_up hHeld hbv4 (Nat.le_refl _)
              clear hbv4
              refine hK.out _ _ hq4 (fun hHeld => ?_)
              clear hK K
              refine Rd 4 ?p4r_8_12_16_20 ?s4r_8_12_16_20
              intro K hK
              go_simp
              obtain ⟨w4, hw4⟩ : ∃ w4, v4.alloc (.cells #[.int .u8 x.s.st] 5) = w4 := ⟨_, rfl⟩
              have hb4 : Below W8.heap.size W8 w4 := by rw [← hw4]; exact bel_up hHeld (bel1 _ _) (Nat.le_refl _)
              have hr4 : w4.heap[v4.heap.size]? = some (.cells #[.int .u8 x.s.st] 5 (0, 0)) := by rw [← hw4]; exact heap_alloc_last v4 _
              obtain ⟨n4, hn4⟩ : ∃ n4, v4.heap.size = n4 := ⟨_, rfl⟩
              rw [hw4, hn4]
              rw [hn4] at hr4
              clear hw4 hn4
              refine hK.out _ _ hb4 (fun hHeld => ?_)
              clear hK K
              refine Rd 5 ?p5r_8_12_16_20_4 ?s5r_8_12_16_20_4
              intro K hK
              have hcv := HCV.out _ _ hr4
              go_simp
              clear hcv hr4
              refine hK.out _ _ hHeld (fun hHeld => ?_)
              clear hK K
              refine Tm 9 ?p9r_8_12_16_20_4_5 ?v9r_8_12_16_20_4_5 hHeld ?r9r_8_12_16_20_4_5
              refine Tm 13 ?p13r_8_12_16_20_4_5 ?v13r_8_12_16_20_4_5 hHeld ?r13r_8_12_16_20_4_5
              refine Tm 17 ?p17r_8_12_16_20_4_5 ?v17r_8_12_16_20_4_5 hHeld ?r17r_8_12_16_20_4_5
              refine Tm 21 ?p21r_8_12_16_20_4_5 ?v21r_8_12_16_20_4_5 hHeld ?r21r_8_12_16_20_4_5
              refine Tm 22 ?p22r_8_12_16_20_4_5 ?v22r_8_12_16_20_4_5 hHeld ?r22r_8_12_16_20_4_5
              refine Tm 23 ?p23r_8_12_16_20_4_5 ?v23r_8_12_16_20_4_5 hHeld ?r23r_8_12_16_20_4_5
              simp only [Act.put, Pa, Pb, Pc]
              refine wpAnyH_done (by kernel_rfl) ?_ _
              have HB9 := Hid_of (bel_up HB8.out hHeld (Nat.le_refl _))
              clear hHeld HT1 HT2 HT3 HT4 HS HB8 HCV
              go_wp2
              go_roundw
              case rel => exact ⟨j + 1, by omega, by rw [HP1.out]; simp only [ByteArray.append_assoc]; exact congrArg Value.string HSUM.out, by go_num, HB9⟩
              case measure => simp [intOf]; omega
    · have hjn : j = ds.length := by omega
      subst hjn
      have HT : Hid (Sm.pre (ds.map (·.s)) ds.length = Sm.txt (ds.map (·.s))) := Hid_of (by rw [← HML.out]; exact Sm.pre_all _)
      rw [HT.out]
      clear HT HX HSV HG
      go_wp2
      go_ret
      exact ⟨rfl, HB.out⟩
end

end Go.Proofs.Ytgcfpihfoekllaa
