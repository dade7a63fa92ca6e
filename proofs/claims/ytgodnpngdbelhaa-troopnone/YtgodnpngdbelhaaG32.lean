/-
  All that is under way arrives.
-/
import Derived.Test.YtgodnpngdbelhaaG31
import Derived.Test.YtgodnpngdbelhaaG27
namespace Go.Proofs.Ytgodnpngdbelhaa
open Go.RowKit Go.Maps
set_option linter.unusedVariables false
open M (E V)
open Rm (NT R)
open Tm (T)
set_option maxRecDepth 100000
set_option maxHeartbeats 1000000
section
variable {w0 w w' : World} {G : Nat → Prop} {b : Nat} {t : T} {D : ByteArray → Prop} {long : List ByteArray} {m : Nat}
theorem all_done (f : Nat) {t : T} (h : t.way.length = 0) : Tm.all f t = t := by
  cases f with
  | zero => rfl
  | succ f => unfold Tm.all; rw [if_pos h]
/-- All that is under way arrives, in order. -/
theorem TO.all (h : TO w0 w G b t) (f : Nat) (hf : f ≤ 300) (hw : Tm.Wel t D long) (hD : D ⟨#[]⟩) (hb : Tm.Bd t m) (hm : m + f ≤ 800) (he : (Tm.all f t).way.length = 0) :
    Calls Try.prog 15 #[ptr b] w fun e w' => e = .returned (.tuple #[]) ∧ ∃ G', TO w0 w' G' b (Tm.all f t) ∧ Fr w G w' G' ∧ Tm.Wel (Tm.all f t) D long ∧ Tm.Bd (Tm.all f t) (m + f) := by
  have HE := Hid_of he
  have HD := Hid_of hD
  have HL : Hid (∃ (i : Nat) (ti : T) (G' : Nat → Prop), i ≤ f ∧ (Value.int .i64 0) = .int .i64 i ∧ TO w0 w G' b ti ∧ Fr w G w G' ∧ Tm.Wel ti D long ∧ Tm.Bd ti (m + i) ∧ Tm.all (f - i) ti = Tm.all f t) := ⟨0, t, G, Nat.zero_le _, rfl, h, Fr.refl _ _, hw, hb, rfl⟩
  clear h hw hD hb he
  obtain ⟨tf, htf⟩ : ∃ tf, Tm.all f t = tf := ⟨_, rfl⟩
  rw [htf] at HE HL ⊢
  clear htf
  go_enter Try.func15, Try.ntmps15
  go_wp2_with fail
  go_loopw [2] (fun i' wr => ∃ (i : Nat) (ti : T) (G' : Nat → Prop), i ≤ f ∧ i' = .int .i64 i ∧ TO w0 wr G' b ti ∧ Fr w G wr G' ∧ Tm.Wel ti D long ∧ Tm.Bd ti (m + i) ∧ Tm.all (f - i) ti = tf) (fun i' _ => 300 - (intOf i').toNat)
  case atStart => exact HL.out
  case round =>
    clear HL
    obtain ⟨i, ti, G', hi, rfl, hto, hfr, hwl, hbd, hal⟩ := hrel
    by_cases h0 : ti.way.length = 0
    · have HQ : Hid (∃ G', TO w0 wr G' b tf ∧ Fr w G wr G' ∧ Tm.Wel tf D long ∧ Tm.Bd tf (m + f)) := by
        rw [all_done _ h0] at hal
        subst hal
        exact ⟨G', hto, hfr, hwl, Bd_le hbd (by omega)⟩
      have cw := hto.waiting
      rw [h0] at cw
      clear hto hfr hwl hbd hal h0
      by_cases h3 : i < 300
      · have hi3 : (i : Int) < 300 := by omega
        go_wp2_with fail
        refine cw.mono ?_
        clear cw
        rintro e w2 ⟨rfl, rfl⟩
        go_wp2
        go_end0
        exact ⟨rfl, HQ.out⟩
      · have hi3 : ¬ (i : Int) < 300 := by omega
        clear cw
        go_wp2
        go_end0
        exact ⟨rfl, HQ.out⟩
    · have hif : i < f := by
        rcases Nat.lt_or_ge i f with h' | h'
        · exact h'
        · have e0 : f - i = 0 := by omega
          rw [e0] at hal
          have := HE.out
          rw [← hal] at this
          exact absurd this h0
      have hi3 : (i : Int) < 300 := by omega
      have hnx : Tm.all (f - (i + 1)) (Tm.dlT ti 0) = tf := by
        rw [← hal, show f - i = (f - (i + 1)) + 1 by omega]
        conv => rhs; unfold Tm.all
        rw [if_neg h0]
      have cw := hto.waiting
      have cl := hto.deliver 0 (rdy_of hwl hbd (by omega) 0)
      have HN : Hid (∀ e w2, MO w0 wr G' b (.bool (!(ti.way.length == 0))) (Tm.dlT ti 0) e w2 → ∃ bo, e = .returned (.bool bo) ∧ ∃ (ti' : T) (G2 : Nat → Prop), TO w0 w2 G2 b ti' ∧ Fr w G w2 G2 ∧ Tm.Wel ti' D long ∧ Tm.Bd ti' (m + (i + 1)) ∧ Tm.all (f - (i + 1)) ti' = tf) := by
        rintro e w2 ⟨G2, rfl, k1, k2⟩
        exact ⟨_, rfl, _, G2, k1, hfr.trans k2, hwl.deliver HD.out 0, (hbd.deliver hwl 0), hnx⟩
      have hwi : (0 : Int) < (ti.way.length : Int) := by omega
      clear hto hfr hwl hbd hal hnx
      generalize ti.way.length = q at *
      go_wp2_with fail
      refine cw.mono ?_
      clear cw
      rintro e w2 ⟨rfl, rfl⟩
      go_wp2_with fail
      refine cl.mono ?_
      clear cl
      rintro e w3 hmo
      obtain ⟨bo, rfl, ti', G2, k1, k2, k3, k4, k5⟩ := HN.out e w3 hmo
      have K1 := Hid_of k1
      have K2 := Hid_of k2
      have K3 := Hid_of k3
      have K4 := Hid_of k4
      have K5 := Hid_of k5
      clear hmo k1 k2 k3 k4 k5 HN
      go_wp2_with fail
      go_roundw
      case rel => exact ⟨i + 1, ti', G2, hif, by go_num, K1.out, K2.out, K3.out, K4.out, K5.out⟩
      case measure => simp [intOf]; omega
end
end Go.Proofs.Ytgodnpngdbelhaa
namespace Go.Proofs.Ytgodnpngdbelhaa
open Go.RowKit Go.Maps
set_option linter.unusedVariables false
open M (E V)
open Rm (NT R)
open Tm (T)
def exv : ByteArray := ⟨#[118]⟩
def exx : ByteArray := ⟨#[120]⟩
def x1 : T := Tm.all 60 (Tm.ldT (Tm.t0 3) 0)
def x2 : T := Tm.all 60 (Tm.ppT x1 0 ⟨#[118]⟩)
theorem ex_1 : x1.way.length = 0 := by kernel_rfl
theorem ex_p : Tm.ppcT x1 0 ⟨#[118]⟩ = 0 := by kernel_rfl
theorem ex_2 : x2.way.length = 0 := by kernel_rfl
theorem ex_d : leadT x2 0 = true := by kernel_rfl
theorem ex_l0 : Tm.logT x2 0 = [⟨#[118]⟩] := by kernel_rfl
theorem ex_l2 : Tm.logT x2 2 = [⟨#[118]⟩] := by kernel_rfl
theorem ex_i : Tm.isT x2 3 = false := by kernel_rfl
theorem ex_i1 : Tm.isT (Tm.t0 3) 0 = true := by kernel_rfl
theorem ex_t : Tm.ldT x2 3 = x2 := by unfold Tm.ldT; rw [if_neg (by rw [ex_i]; decide)]
theorem ex_q : Tm.ppcT x2 1 ⟨#[120]⟩ = 16 := by kernel_rfl
theorem ex_w : (Tm.ppT x2 1 ⟨#[120]⟩).way.length = 0 := by kernel_rfl
set_option maxRecDepth 100000
set_option maxHeartbeats 1000000
theorem TO.all60 {w0 w : World} {G : Nat → Prop} {b : Nat} {t : T} {m : Nat} (h : TO w0 w G b t) (hw : Tm.Wel t (fun _ => True) []) (hb : Tm.Bd t m) (hm : m ≤ 740) (he : (Tm.all 60 t).way.length = 0) :
    Calls Try.prog 15 #[ptr b] w fun e w' => e = .returned (.tuple #[]) ∧ ∃ G', TO w0 w' G' b (Tm.all 60 t) ∧ Tm.Wel (Tm.all 60 t) (fun _ => True) [] ∧ Tm.Bd (Tm.all 60 t) (m + 60) := by
  refine (h.all 60 (by omega) hw trivial hb (by omega) he).mono fun e w' hx => ?_
  obtain ⟨h1, G', h2, -, h3, h4⟩ := hx
  exact ⟨h1, G', h2, h3, h4⟩
theorem awake_any (w : World) : Calls Try.prog 9 #[] w fun e w' => e = .returned (.bool true) ∧ Below w.heap.size w w' := by
  go_enter Try.func9, Try.ntmps9
  go_wp2_with fail
  refine (newT_any 3 w).mono ?_
  rintro e w1 (⟨h3, -⟩ | ⟨-, b, G, rfl, hto, -⟩)
  · exact absurd ⟨by decide, by decide⟩ h3
  have HT : Hid (TO w w1 G b (Tm.t0 3)) := Hid_of hto
  have HW0 : Hid (Tm.Wel (Tm.t0 3) (fun _ => True) [] ∧ Tm.Bd (Tm.t0 3) 0) := ⟨Tm.Wel.zero ⟨by decide, by decide⟩, Tm.Bd.zero 3⟩
  clear hto
  go_wp2_with fail
  refine (newT_any 0 w1).mono ?_
  rintro e w2 (⟨-, rfl, rfl⟩ | ⟨h3, -⟩)
  rotate_left
  · exact absurd h3 (by decide)
  have cl := HT.out.lead 0
  rw [ex_i1] at cl
  go_wp2_with fail
  refine cl.mono ?_
  clear cl
  rintro e w3 ⟨G2, rfl, hto, -⟩
  have HT := Hid_of hto
  have HW1 : Hid (Tm.Wel (Tm.ldT (Tm.t0 3) 0) (fun _ => True) [] ∧ Tm.Bd (Tm.ldT (Tm.t0 3) 0) 1) := ⟨HW0.out.1.lead 0, HW0.out.2.lead HW0.out.1 0⟩
  clear hto
  have cd := HT.out.all60 HW1.out.1 HW1.out.2 (by omega) ex_1
  go_wp2_with fail
  refine cd.mono ?_
  clear cd
  rintro e w4 ⟨rfl, G3, hto, hwl, hbd⟩
  have HT : Hid (TO w w4 G3 b x1) := Hid_of hto
  have HW2 : Hid (Tm.Wel x1 (fun _ => True) [] ∧ Tm.Bd x1 61) := ⟨hwl, hbd⟩
  clear hto hwl hbd
  have cp := HT.out.propose 0 ⟨#[118]⟩
  rw [ex_p] at cp
  go_wp2_with fail
  refine cp.mono ?_
  clear cp
  rintro e w5 ⟨G4, rfl, hto, -⟩
  have HT := Hid_of hto
  have HW3 : Hid (Tm.Wel (Tm.ppT x1 0 ⟨#[118]⟩) (fun _ => True) [] ∧ Tm.Bd (Tm.ppT x1 0 ⟨#[118]⟩) 62) := ⟨HW2.out.1.propose 0 (fun _ => trivial), HW2.out.2.propose HW2.out.1 0 _⟩
  clear hto
  have cd := HT.out.all60 HW3.out.1 HW3.out.2 (by omega) ex_2
  go_wp2_with fail
  refine cd.mono ?_
  clear cd
  rintro e w6 ⟨rfl, G5, hto, hwl, hbd⟩
  have HT : Hid (TO w w6 G5 b x2) := Hid_of hto
  have HW4 : Hid (Tm.Wel x2 (fun _ => True) [] ∧ Tm.Bd x2 122) := ⟨hwl, hbd⟩
  clear hto hwl hbd
  have cl := HT.out.leads 0
  rw [ex_d] at cl
  go_wp2_with fail
  refine cl.mono ?_
  clear cl
  rintro e w7 ⟨rfl, hw7⟩
  subst hw7
  have cg := HT.out.log 0
  rw [ex_l0] at cg
  go_wp2_with fail
  refine cg.mono ?_
  clear cg
  rintro e w8 ⟨ad, cc, rfl, hx, hk, hbg⟩
  obtain ⟨W, HW⟩ : ∃ W, Hid (w8.alloc (.cells #[.string ⟨#[118]⟩] 9) = W) := ⟨_, Hid_of rfl⟩
  have hbv : Below w8.heap.size w8 W := by rw [← HW.out]; exact bel1 _ _
  have hrv : W.heap[w8.heap.size]? = some (.cells (Nl.tl.cells [(⟨#[118]⟩ : ByteArray)]).toArray 9 (0, 0)) := by rw [← HW.out]; exact heap_alloc_last _ _
  have ct := Nl.texts_any ad cc (some ⟨w8.heap.size, 0, none⟩) 1 [(⟨#[118]⟩ : ByteArray)] W (by simp) (hx.keep hbv).at' (tl_at hrv)
  simp only [List.length_cons, List.length_nil, Nat.zero_add] at ct
  have HCT := Hid_of ct
  have HX := Hid_of (And.intro hbg hbv)
  clear ct hx hk hbg hbv hrv
  go_wp2_with (rw [HW.out])
  refine HCT.out.mono ?_
  clear HCT HW
  rintro e w9 ⟨rfl, hbt⟩
  obtain ⟨hbg, hbv⟩ := HX.out
  have HT := Hid_of (HT.out.keep (bel_up (bel_up hbg hbv (Nat.le_refl _)) hbt (Nat.le_refl _)))
  clear hbg hbv hbt HX
  have cg := HT.out.log 2
  rw [ex_l2] at cg
  go_wp2_with fail
  refine cg.mono ?_
  clear cg
  rintro e w10 ⟨ad, cc, rfl, hx, hk, hbg⟩
  obtain ⟨W, HW⟩ : ∃ W, Hid (w10.alloc (.cells #[.string ⟨#[118]⟩] 9) = W) := ⟨_, Hid_of rfl⟩
  have hbv : Below w10.heap.size w10 W := by rw [← HW.out]; exact bel1 _ _
  have hrv : W.heap[w10.heap.size]? = some (.cells (Nl.tl.cells [(⟨#[118]⟩ : ByteArray)]).toArray 9 (0, 0)) := by rw [← HW.out]; exact heap_alloc_last _ _
  have ct := Nl.texts_any ad cc (some ⟨w10.heap.size, 0, none⟩) 1 [(⟨#[118]⟩ : ByteArray)] W (by simp) (hx.keep hbv).at' (tl_at hrv)
  simp only [List.length_cons, List.length_nil, Nat.zero_add] at ct
  have HCT := Hid_of ct
  have HX := Hid_of (And.intro hbg hbv)
  clear ct hx hk hbg hbv hrv
  go_wp2_with (rw [HW.out])
  refine HCT.out.mono ?_
  clear HCT HW
  rintro e w11 ⟨rfl, hbt⟩
  obtain ⟨hbg, hbv⟩ := HX.out
  have HT := Hid_of (HT.out.keep (bel_up (bel_up hbg hbv (Nat.le_refl _)) hbt (Nat.le_refl _)))
  clear hbg hbv hbt HX
  have cl := HT.out.lead 3
  rw [ex_i, ex_t] at cl
  go_wp2_with fail
  refine cl.mono ?_
  clear cl
  rintro e w12 ⟨G6, rfl, hto, -⟩
  have HT := Hid_of hto
  clear hto
  have cp := HT.out.propose 1 ⟨#[120]⟩
  rw [ex_q] at cp
  go_wp2_with fail
  refine cp.mono ?_
  clear cp
  rintro e w13 ⟨G7, rfl, hto, -⟩
  have HT := Hid_of hto
  clear hto
  have cd := HT.out.deliver 0 (rdy_of (HW4.out.1.propose 1 (fun _ => trivial)) (HW4.out.2.propose HW4.out.1 1 _) (by omega) 0)
  rw [ex_w] at cd
  go_wp2_with fail
  refine cd.mono ?_
  clear cd
  rintro e w14 ⟨G8, rfl, hto, -⟩
  have HB := Hid_of hto.bel
  clear hto
  go_wp2
  go_ret
  exact ⟨rfl, HB.out⟩
end Go.Proofs.Ytgodnpngdbelhaa
