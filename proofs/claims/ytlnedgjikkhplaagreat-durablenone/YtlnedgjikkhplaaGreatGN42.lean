/-
  None; short records; the example.
-/
import Derived.Test.YtlnedgjikkhplaaGreatGN41
namespace Go.Proofs.YtlnedgjikkhplaaGreat.Du
open Go.RowKit
set_option linter.unusedVariables false
set_option linter.unusedSimpArgs false
open Na (Fr AS XL vl bV vV Hid_of bel1 bel2 bel_up bel_row row2 row4 blk OwnL AtL)
open Na.M (E V S S0)

open Ns.M (ofL)
open Nc.M (enc encT)
/-! none -/
theorem promise_nil (y : E) (k : Int) (w : World) : Calls Tryz.prog 22 #[.pointer none, bV y, .int .i64 k] w fun e w' => e = .returned (.tuple #[.slice none 0 0, .bool false, .int .i64 1]) ∧ Below w.heap.size w w' := by
  have HB := Hid_of (fun o => bel1 w o)
  have hr := fun W => refused_nil W
  go_enter Tryz.func22, Tryz.ntmps22
  go_wp2_with fail
  refine (hr _).mono ?_
  rintro e w1 ⟨rfl, hw⟩
  have HW := Hid_of hw
  clear hr hw
  go_wp2
  go_ret3
  rw [HW.out]
  exact ⟨rfl, HB.out _⟩
theorem accept_nil (v : V) (w : World) : Calls Tryz.prog 24 #[.pointer none, vV v] w fun e w' => e = .returned (.tuple #[.bool false, .int .i64 1]) ∧ Below w.heap.size w w' := by
  have HB := Hid_of (fun o => bel1 w o)
  have hr := fun W => refused_nil W
  go_enter Tryz.func24, Tryz.ntmps24
  go_wp2_with fail
  refine (hr _).mono ?_
  rintro e w1 ⟨rfl, hw⟩
  have HW := Hid_of hw
  clear hr hw
  go_wp2
  go_ret2
  rw [HW.out]
  exact ⟨rfl, HB.out _⟩
theorem trim_nil (u : Int) (w : World) : Calls Tryz.prog 26 #[.pointer none, .int .i64 u] w fun e w' => e = .returned (.int .i64 1) ∧ w' = w := by
  have hr := fun W => refused_nil W
  go_enter Tryz.func26, Tryz.ntmps26
  go_wp2_with fail
  refine (hr _).mono ?_
  rintro e w1 ⟨rfl, rfl⟩
  clear hr
  go_wp2
  go_ret
  exact ⟨rfl, rfl⟩
theorem compact_nil (s : Int) (w : World) : Calls Tryz.prog 28 #[.pointer none, .int .i64 s] w fun e w' => e = .returned (.int .i64 1) ∧ Below w.heap.size w w' := by
  obtain ⟨W1, HW1⟩ : ∃ W1, Hid (w.alloc (.cells #[.pointer none] 27) = W1) := ⟨_, Hid_of rfl⟩
  have HB1 : Hid (Below w.heap.size w W1) := by rw [← HW1.out]; exact bel1 w _
  have hr1 : W1.heap[w.heap.size]? = some (.cells #[.pointer none] 27 (0, 0)) := by rw [← HW1.out]; exact heap_alloc_last w _
  have c2 := row1 hr1
  have hr := fun W => refused_nil W
  clear hr1
  go_enter Tryz.func28, Tryz.ntmps28
  go_upto_region 1 with fail
  rw [HW1.out]
  clear HW1
  go_wp2_with fail
  refine (hr _).mono ?_
  rintro e w1 ⟨rfl, hw⟩
  obtain rfl := hw.symm
  clear hr hw
  go_wp2
  go_ret
  exact ⟨rfl, HB1.out⟩
theorem promised_nil (w : World) : Calls Tryz.prog 16 #[.pointer none] w fun e w' => e = .returned (.agg #[.int .i64 0, .int .i64 0]) ∧ Below w.heap.size w w' := by
  have HB := Hid_of (bel1 w (.cells #[.int .i64 0, .int .i64 0] 36))
  have hr := heap_alloc_last w (.cells #[.int .i64 0, .int .i64 0] 36)
  obtain ⟨W1, HW1⟩ : ∃ W1, Hid (w.alloc (.cells #[.int .i64 0, .int .i64 0] 36) = W1) := ⟨_, Hid_of rfl⟩
  rw [HW1.out] at HB hr
  obtain ⟨⟨x0, x1⟩, xf⟩ := row2 hr
  have f0 := xf 0
  have f1 := xf 1
  have HR := Hid_of hr
  clear hr xf
  go_enter Tryz.func16, Tryz.ntmps16
  go_upto_region 1 with fail
  rw [HW1.out]
  clear HW1
  go_wp2
  refine bodyPost_ret (v := .agg #[.int .i64 0, .int .i64 0]) ?_ rfl ⟨rfl, (HB.out.setCell (Nat.le_refl _) _).setCell (Nat.le_refl _) _⟩
  exact results_cell_row f16_res _ _ w.heap.size 36 _ (0, 0) _ rfl (heap_setCell_same _ w.heap.size 1 _ _ _ (heap_setCell_same W1 w.heap.size 0 _ _ _ HR.out)) Tryz.underlying36 rfl Na.Tryz.size36
theorem open_nil (w : World) : Calls Tryz.prog 10 #[.pointer none] w fun e w' => e = .returned (.tuple #[.pointer none, .int .i64 1]) ∧ w' = w := by
  go_enter Tryz.func10, Tryz.ntmps10
  go_wp2
  go_ret2
  exact ⟨rfl, rfl⟩
theorem open_small {w0 w : World} {F : Nat → Prop} {db n : Nat} {P : List Ns.M.Pl} {lost : Bool} (h : Ns.DS w0 w db F n P lost) (h9 : n < 10) : Calls Tryz.prog 10 #[ptr db] w fun e w' => e = .returned (.tuple #[.pointer none, .int .i64 1]) ∧ w' = w := by
  obtain ⟨v1, v2, hrow⟩ := h.row
  have hsec := sectors_any db n v1 v2 _ w hrow
  have hd10 : decide ((n : Int) < 10) = true := decide_eq_true (by omega)
  clear h hrow
  go_enter Tryz.func10, Tryz.ntmps10
  go_wp2_with fail
  refine hsec.mono ?_
  rintro e w1 ⟨rfl, rfl⟩
  clear hsec
  go_wp2
  go_ret2
  exact ⟨rfl, rfl⟩
/-! short records have one sector -/
theorem sec_one {e k : Nat} {r : R} (h : (body e k r).length ≤ 50) : sec e k r = 1 := by
  have h1 := raw_pos e k r
  have h2 : (raw e k r).length ≤ 64 := by
    unfold raw
    rw [Nc.M.encT, List.length_append, sealed_len]
    have := Nc.M.enc_ten (((body e k r).length + 4 : Nat) : Int) ⟨by omega, by omega⟩
    omega
  unfold sec
  omega
theorem enc1 {n : Nat} (h : n < 64) : (enc (n : Int)).length = 1 := by
  have e : Nc.M.zz (n : Int) = 2 * n := by unfold Nc.M.zz; rw [if_neg (by omega)]; omega
  rw [Nc.enc_small (n : Int) (2 * n) e (by omega)]
  rfl
theorem encN {n : Int} (h : 0 ≤ n) (h2 : n < 2147483648) : (enc n).length ≤ 5 := by
  have e : Nc.M.zz n < 128 ^ (4 + 1) := by unfold Nc.M.zz; rw [if_neg (by omega)]; omega
  exact Nc.M.grp_len 4 _ e
theorem sec_pr {e k : Nat} {y : E} (he : e ≤ 2147483647) (hk : k ≤ 2147483647) (hv : Na.M.vld y = true) : sec e k (.pr y) = 1 := by
  apply sec_one
  have h1 := encN (n := (e : Int)) (by omega) (by omega)
  have h2 := encN (n := (k : Int)) (by omega) (by omega)
  unfold Na.M.vld at hv
  simp at hv
  have h3 := encN (n := y.i) (by omega) (by omega)
  have h4 := encN (n := y.t) (by omega) (by omega)
  simp only [body, kb, encB, List.length_append, List.length_cons]
  omega
theorem sec_tr {e k : Nat} {u : Int} (he : e ≤ 2147483647) (hk : k ≤ 2147483647) (hu : I64 u) : sec e k (.tr u) = 1 := by
  apply sec_one
  have h1 := encN (n := (e : Int)) (by omega) (by omega)
  have h2 := encN (n := (k : Int)) (by omega) (by omega)
  have h3 := enc_le hu
  simp only [body, kb, List.length_append, List.length_cons]
  omega
/-! the chapter's example -/
def v0 : V := ⟨2, ⟨1, 0⟩, ⟨#[120]⟩⟩
def a1 : S := ⟨⟨1, 0⟩, 0, [v0]⟩
def x1 : X := ⟨0, 0, 1, 1, false, a1⟩
def x2 : X := ⟨1, 1, 2, 2, false, a1⟩
theorem sec_v0 (e k : Nat) (he : e < 64) (hk : k < 64) : sec e k (.vo v0) = 1 := by
  apply sec_one
  have h1 := enc1 he
  have h2 := enc1 hk
  have h3 := enc1 (n := 2) (by omega)
  have h4 := enc1 (n := 1) (by omega)
  have h5 := enc1 (n := 0) (by omega)
  simp only [body, kb, encB, encT, v0, List.length_append, List.length_cons, List.length_nil]
  have e2 : ((2 : Nat) : Int) = 2 := rfl
  have e1 : ((1 : Nat) : Int) = 1 := rfl
  have e0 : ((0 : Nat) : Int) = 0 := rfl
  rw [e2] at h3
  rw [e1] at h4
  rw [e0] at h5
  show (enc (e : Int)).length + ((enc (k : Int)).length + (((enc 2).length + (((enc 1).length + (enc 0).length) + ((enc ((0 + 1 : Nat) : Int)).length + (0 + 1)))) + 1)) ≤ 50
  rw [h1, h2, h3, h4, h5, show ((0 + 1 : Nat) : Int) = 1 from rfl, h4]
  omega
theorem few_a1 : few a1 = [.vo v0, .pr ⟨1, 0⟩] := rfl
theorem acb0 : Na.M.acb S0 v0 = true := by decide
theorem acs0 : Na.M.acs S0 v0 = a1 := Na.M.acs_yes acb0
theorem rm0 : rm 30 X0 (.vo v0) = true := by
  unfold rm
  rw [show sec X0.ep X0.n (.vo v0) = 1 from sec_v0 0 0 (by omega) (by omega)]
  rfl
theorem aw_acc : aab 30 X0 v0 = true ∧ aac 30 X0 v0 = 0 ∧ aax 30 X0 v0 = x1 := by
  have e1 : aab 30 X0 v0 = true := by
    unfold aab
    rw [show Na.M.acb X0.a v0 = true from acb0, rm0]
    rfl
  refine ⟨e1, ?_, ?_⟩
  · unfold aac
    rw [if_neg (by simp [X0]), if_neg (by rw [rm0]; simp)]
  · unfold aax
    rw [if_pos ⟨e1, rfl⟩]
    unfold addX
    rw [show sec X0.ep X0.n (.vo v0) = 1 from sec_v0 0 0 (by omega) (by omega), show redo X0.a (.vo v0) = a1 from acs0]
    rfl
theorem secs_x1 : secs (x1.ep + 1) 0 (few x1.a) = 2 := by
  show secs 1 0 (few a1) = 2
  rw [few_a1, secs, secs, secs, sec_v0 1 0 (by omega) (by omega), sec_pr (by omega) (by omega) (by decide)]
theorem aw_cmp : ccc 30 x1 (-1) = 0 ∧ ccx 30 x1 (-1) = x2 := by
  have e0 : ccr 30 x1 = true := by
    unfold ccr
    rw [secs_x1]
    rfl
  have e1 : ccs (-1) = false := by decide
  refine ⟨?_, ?_⟩
  · unfold ccc
    rw [if_neg (by simp [x1]), if_neg (by rw [e0]; simp), if_neg (by rw [e1]; simp)]
  · unfold ccx
    rw [if_neg (by rw [e0]; simp [x1]), if_neg (by rw [e1]; simp)]
    unfold cmpX
    rw [secs_x1, show few x1.a = [.vo v0, .pr ⟨1, 0⟩] from few_a1]
    rfl
set_option maxRecDepth 100000 in
set_option maxHeartbeats 2000000 in
theorem awake_any (w : World) : Calls Tryz.prog 8 #[] w fun e w' => e = .returned (.bool true) ∧ Below w.heap.size w w' := by
  have hnew := Ns.newD 30 w
  rw [show Ns.cntOf 30 = 30 from rfl] at hnew
  go_enter Tryz.func8, Tryz.ntmps8
  go_wp2_with fail
  refine hnew.mono ?_
  rintro e w1 ⟨db, FD, rfl, hd1⟩
  have hg1 := Gd.new 30 (by omega) (by omega)
  have hop := open_any hd1 hg1
  clear hnew
  go_wp2_with fail
  refine hop.mono ?_
  rintro e w2 ⟨b, ab, FA, rfl, hu2, _, _, _⟩
  have hu2 : DU w w2 FA FD b ab db 30 (Ns.new 30) X0 := hu2
  obtain ⟨W3, HW3⟩ : ∃ W3, Hid (w2.alloc (.cells #[.int .i64 2, .int .i64 1, .int .i64 0, .string ⟨#[120]⟩] 48) = W3) := ⟨_, Hid_of rfl⟩
  have hb3 : Below w2.heap.size w2 W3 := by rw [← HW3.out]; exact bel1 w2 _
  have hr3 : W3.heap[w2.heap.size]? = some (.cells #[.int .i64 2, .int .i64 1, .int .i64 0, .string ⟨#[120]⟩] 48 (0, 0)) := by rw [← HW3.out]; exact heap_alloc_last w2 _
  obtain ⟨⟨c0, c1, c2, c3⟩, _⟩ := row4 hr3
  have hac := (hu2.keep hb3).accept hg1 v0
  have HR3 := Hid_of hr3
  have HN3 : Hid (¬ fpd b FA FD w2.heap.size) := fun e => by have := (hu2.mine _ e).2; omega
  have HDL : Hid (w.heap.size ≤ w2.heap.size) := hu2.bel.size
  clear hop hd1 hg1 hu2 hb3 hr3
  unfold AaO at hac
  rw [aw_acc.1, aw_acc.2.1, aw_acc.2.2] at hac
  go_upto_region 6 with fail
  rw [HW3.out]
  clear HW3
  go_wp2_with fail
  refine hac.mono ?_
  rintro e w4 ⟨rfl, FA4, FD4, P4, rs4, hu4, hg4, hf4⟩
  have hro := hu4.room (by omega) (by show 1 ≤ hf 30; decide)
  have HR4 : Hid (w4.heap[w2.heap.size]? = some (.cells #[.int .i64 2, .int .i64 1, .int .i64 0, .string ⟨#[120]⟩] 48 (0, 0))) := (hf4.block _ (Array.getElem?_eq_some_iff.1 HR3.out).1 HN3.out).trans HR3.out
  have HU4 := Hid_of hu4
  have HG4 := Hid_of hg4
  have HN4 : Hid (¬ FD4 w2.heap.size) := fun e => by
    rcases hf4.n _ (.inr (.inr e)) with h' | h'
    · exact HN3.out h'
    · have := (Array.getElem?_eq_some_iff.1 HR3.out).1; omega
  clear hac hu4 hg4 hf4 HR3 HN3 c0 c1 c2 c3
  rw [show (hf 30 - x1.us : Nat) = 10 from rfl] at hro
  go_wp2_with fail
  refine hro.mono ?_
  rintro e w5 ⟨rfl, hb5⟩
  have hcr := (HU4.out.keep hb5).d.crash 0 0 (by omega)
  have HR5 := Hid_of (bel_row HR4.out hb5)
  clear hro hb5 HU4 HR4
  go_wp2_with fail
  refine hcr.mono ?_
  rintro e w6 ⟨FD6, rfl, d6, f6⟩
  have hg6 := HG4.out.crash 0
  have hop := open_any d6 hg6
  have HR6 : Hid (w6.heap[w2.heap.size]? = some (.cells #[.int .i64 2, .int .i64 1, .int .i64 0, .string ⟨#[120]⟩] 48 (0, 0))) := (f6.block _ (Array.getElem?_eq_some_iff.1 HR5.out).1 HN4.out).trans HR5.out
  have HN6 : Hid (¬ FD6 w2.heap.size) := fun e => by
    rcases f6.n _ e with h' | h'
    · exact HN4.out h'
    · have := (Array.getElem?_eq_some_iff.1 HR5.out).1; omega
  have HG6 : Hid (Gd 30 (Ns.M.crash P4 0 0) x1 rs4) := hg6
  clear hcr d6 f6 HG4 HR5 HN4 hg6
  go_wp2_with fail
  refine hop.mono ?_
  rintro e w7 ⟨b7, ab7, FA7, rfl, hu7, hb7, hbb7, hn7⟩
  have hu7 : DU w w7 FA7 FD6 b7 ab7 db 30 (Ns.M.crash P4 0 0) x1 := hu7
  have hvt := hu7.votes 0
  rw [show Na.M.vts x1.a.l 0 = [v0] from rfl] at hvt
  have HR7 := Hid_of (bel_row HR6.out hb7)
  have hlt6 : w2.heap.size < w6.heap.size := (Array.getElem?_eq_some_iff.1 HR6.out).1
  have HN7 : Hid (¬ fpd b7 FA7 FD6 w2.heap.size) := by
    rintro (e | e | e)
    · omega
    · have := hn7 _ e; omega
    · exact HN6.out e
  have HU7 := Hid_of hu7
  clear hop hu7 hb7 hbb7 hn7 HR6 HN6
  go_wp2_with fail
  refine hvt.mono ?_
  rintro e w8 ⟨ad, c, rfl, hx8, hbk8, hb8⟩
  have hcp := (HU7.out.keep hb8).compact HG6.out (by show (0 : Nat) < _; omega) (-1)
  unfold CpO at hcp
  rw [aw_cmp.1, aw_cmp.2] at hcp
  have HR8 := Hid_of (bel_row HR7.out hb8)
  have HX8 := Hid_of hx8
  have HAP : Hid (∀ k, blk ad k → ¬ fpd b7 FA7 FD6 k ∧ k < w8.heap.size) := fun k hk => ⟨fun e => by have := (HU7.out.mine k e).2; have := (hbk8 k hk).1; omega, (hbk8 k hk).2⟩
  clear hvt hx8 hbk8 hb8 HU7 HG6 HR7
  go_wp2_with fail
  refine hcp.mono ?_
  rintro e w9a ⟨rfl, FA9, FD9, P9, rs9, hu9, hg9, hf9⟩
  have hop := open_any hu9.d hg9
  have hx9 := HX8.out.keepBut (w' := w9a) (fun k hk hk2 => hf9.block k hk (HAP.out k hk2).1)
  have hr9 := (hf9.block _ (Array.getElem?_eq_some_iff.1 HR8.out).1 HN7.out).trans HR8.out
  have HX9 := Hid_of hx9
  have HR9 := Hid_of hr9
  have HRS : Hid (x2.us ≤ hf 30) := hg9.le
  clear hcp hu9 hg9 hf9 hx9 hr9 HX8 HR8 HAP HN7
  go_wp2_with fail
  refine hop.mono ?_
  rintro e w9 ⟨b9, ab9, FA9', rfl, hu9, hb9, _, _⟩
  have hu9 : DU w w9 FA9' FD9 b9 ab9 db 30 P9 x2 := hu9
  have honil := open_nil w9
  have hx := HX9.out.keep hb9
  have hr := bel_row HR9.out hb9
  obtain ⟨g, off, ead, _⟩ := hx.at'.getV 0 (by simp)
  subst ead
  have HS : Hid (∀ w', Below w9.heap.size w9 w' → (w'.cell? ⟨g, off, none⟩ = some (.int .i64 2) ∧ w'.cell? ⟨g, off + 1, none⟩ = some (.int .i64 1) ∧ w'.cell? ⟨g, off + 2, none⟩ = some (.int .i64 0) ∧ w'.cell? ⟨g, off + 3, none⟩ = some (.string ⟨#[120]⟩)) ∧ (w'.cell? ⟨w2.heap.size, 0, none⟩ = some (.int .i64 2) ∧ w'.cell? ⟨w2.heap.size, 1, none⟩ = some (.int .i64 1) ∧ w'.cell? ⟨w2.heap.size, 2, none⟩ = some (.int .i64 0) ∧ w'.cell? ⟨w2.heap.size, 3, none⟩ = some (.string ⟨#[120]⟩))) := by
    intro w' hb
    obtain ⟨g', off', e1, k0, k1, k2, k3⟩ := (hx.at'.keep hb).getV 0 (by simp)
    cases e1
    exact ⟨⟨k0, k1, k2, k3⟩, (row4 (bel_row hr hb)).1⟩
  have HPM : Hid (∀ w', Below w9.heap.size w9 w' → Calls Tryz.prog 16 #[ptr b9] w' fun e w'' => e = .returned (.agg #[.int .i64 1, .int .i64 0]) ∧ Below w'.heap.size w' w'') := fun w' hb => (hu9.keep hb).promised
  have HVT : Hid (∀ w', Below w9.heap.size w9 w' → Calls Tryz.prog 21 #[ptr b9, .int .i64 0] w' fun e w'' => ∃ ad c, e = .returned (.slice ad 1 c) ∧ XL vl w'' ad c [v0] ∧ (∀ j, blk ad j → w'.heap.size ≤ j ∧ j < w''.heap.size) ∧ Below w'.heap.size w' w'') := fun w' hb => (hu9.keep hb).votes 0
  have HRM : Hid (∀ w', Below w9.heap.size w9 w' → Calls Tryz.prog 18 #[ptr b9] w' fun e w'' => e = .returned (.int .i64 9) ∧ Below w'.heap.size w' w'') := fun w' hb => (hu9.keep hb).room (by omega) HRS.out
  have HBB := Hid_of hu9.bel
  clear hop hu9 hb9 hx hr HX9 HR9 HRS
  go_wp2_with fail
  refine honil.mono ?_
  rintro e w10 ⟨rfl, hw10⟩
  obtain rfl := hw10.symm
  clear honil hw10
  go_upto_region 18 with fail
  refine wp_region_held_drew (S := fun wq => Below (w9).heap.size (w9) wq) (by kernel_rfl) (Below.drew (Below.refl _ _)) (fun hHeld => ?_)
  refine wpAnyH_take (i := 0) (oi := ?p0a) (v := ?v0a) ?o0a (by kernel_rfl) (by kernel_rfl) (by kernel_rfl) ?q0a ?y0a hHeld ?r0a
  case o0a => simp only [List.getElem?_toArray, List.getElem?_cons_zero]; rfl
  case q0a => exact fun _ _ _ h => h
  case y0a => (refine Or.inl ⟨rfl, ?_⟩; intro wq hq; obtain ⟨⟨z0, z1, z2, z3⟩, ⟨y0, y1, y2, y3⟩⟩ := HS.out wq hq; go_simp; try with_reducible rfl)
  simp only [Act.put, List.setIfInBounds_toArray, List.set_cons_zero, List.set_cons_succ]
  refine wpAnyH_take (i := 1) (oi := ?p1a) (v := ?v1a) ?o1a (by kernel_rfl) (by kernel_rfl) (by kernel_rfl) ?q1a ?y1a hHeld ?r1a
  case o1a => simp only [List.getElem?_toArray, List.getElem?_cons_succ, List.getElem?_cons_zero]; rfl
  case q1a => exact fun _ _ _ h => h
  case y1a => (refine Or.inl ⟨rfl, ?_⟩; intro wq hq; obtain ⟨⟨z0, z1, z2, z3⟩, ⟨y0, y1, y2, y3⟩⟩ := HS.out wq hq; go_simp; try with_reducible rfl)
  simp only [Act.put, List.setIfInBounds_toArray, List.set_cons_zero, List.set_cons_succ]
  refine wpAnyH_take (i := 2) (oi := ?p2a) (v := ?v2a) ?o2a (by kernel_rfl) (by kernel_rfl) (by kernel_rfl) ?q2a ?y2a hHeld ?r2a
  case o2a => simp only [List.getElem?_toArray, List.getElem?_cons_succ, List.getElem?_cons_zero]; rfl
  case q2a => exact fun _ _ _ h => h
  case y2a => (refine Or.inl ⟨rfl, ?_⟩; intro wq hq; obtain ⟨⟨z0, z1, z2, z3⟩, ⟨y0, y1, y2, y3⟩⟩ := HS.out wq hq; go_simp; try with_reducible rfl)
  simp only [Act.put, List.setIfInBounds_toArray, List.set_cons_zero, List.set_cons_succ]
  refine wpAnyH_take (i := 3) (oi := ?p3a) (v := ?v3a) ?o3a (by kernel_rfl) (by kernel_rfl) (by kernel_rfl) ?q3a ?y3a hHeld ?r3a
  case o3a => simp only [List.getElem?_toArray, List.getElem?_cons_succ, List.getElem?_cons_zero]; rfl
  case q3a => exact fun _ _ _ h => h
  case y3a => (refine Or.inl ⟨rfl, ?_⟩; intro wq hq; obtain ⟨⟨z0, z1, z2, z3⟩, ⟨y0, y1, y2, y3⟩⟩ := HS.out wq hq; go_simp; try with_reducible rfl)
  simp only [Act.put, List.setIfInBounds_toArray, List.set_cons_zero, List.set_cons_succ]
  refine wpAnyH_take (i := 4) (oi := ?p4a) (v := ?v4a) ?o4a (by kernel_rfl) (by kernel_rfl) (by kernel_rfl) ?q4a ?y4a hHeld ?r4a
  case o4a => simp only [List.getElem?_toArray, List.getElem?_cons_succ, List.getElem?_cons_zero]; rfl
  case q4a => exact fun _ _ _ h => h
  case y4a => (refine Or.inl ⟨rfl, ?_⟩; intro wq hq; obtain ⟨⟨z0, z1, z2, z3⟩, ⟨y0, y1, y2, y3⟩⟩ := HS.out wq hq; go_simp; try with_reducible rfl)
  simp only [Act.put, List.setIfInBounds_toArray, List.set_cons_zero, List.set_cons_succ]
  refine wpAnyH_take (i := 5) (oi := ?p5a) (v := ?v5a) ?o5a (by kernel_rfl) (by kernel_rfl) (by kernel_rfl) ?q5a ?y5a hHeld ?r5a
  case o5a => simp only [List.getElem?_toArray, List.getElem?_cons_succ, List.getElem?_cons_zero]; rfl
  case q5a => exact fun _ _ _ h => h
  case y5a => (refine Or.inl ⟨rfl, ?_⟩; intro wq hq; obtain ⟨⟨z0, z1, z2, z3⟩, ⟨y0, y1, y2, y3⟩⟩ := HS.out wq hq; go_simp; try with_reducible rfl)
  simp only [Act.put, List.setIfInBounds_toArray, List.set_cons_zero, List.set_cons_succ]
  refine wpAnyH_take (i := 6) (oi := ?p6a) (v := ?v6a) ?o6a (by kernel_rfl) (by kernel_rfl) (by kernel_rfl) ?q6a ?y6a hHeld ?r6a
  case o6a => simp only [List.getElem?_toArray, List.getElem?_cons_succ, List.getElem?_cons_zero]; rfl
  case q6a => exact fun _ _ _ h => h
  case y6a => (refine Or.inl ⟨rfl, ?_⟩; intro wq hq; obtain ⟨⟨z0, z1, z2, z3⟩, ⟨y0, y1, y2, y3⟩⟩ := HS.out wq hq; go_simp; try with_reducible rfl)
  simp only [Act.put, List.setIfInBounds_toArray, List.set_cons_zero, List.set_cons_succ]
  refine wpAnyH_take (i := 7) (oi := ?p7a) (v := ?v7a) ?o7a (by kernel_rfl) (by kernel_rfl) (by kernel_rfl) ?q7a ?y7a hHeld ?r7a
  case o7a => simp only [List.getElem?_toArray, List.getElem?_cons_succ, List.getElem?_cons_zero]; rfl
  case q7a => exact fun _ _ _ h => h
  case y7a => (refine Or.inl ⟨rfl, ?_⟩; intro wq hq; obtain ⟨⟨z0, z1, z2, z3⟩, ⟨y0, y1, y2, y3⟩⟩ := HS.out wq hq; go_simp; try with_reducible rfl)
  simp only [Act.put, List.setIfInBounds_toArray, List.set_cons_zero, List.set_cons_succ]
  refine wpAnyH_take (i := 8) (oi := ?p8a) (v := ?v8a) ?o8a (by kernel_rfl) (by kernel_rfl) (by kernel_rfl) ?q8a ?y8a hHeld ?r8a
  case o8a => simp only [List.getElem?_toArray, List.getElem?_cons_succ, List.getElem?_cons_zero]; rfl
  case q8a => exact fun _ _ _ h => h
  case y8a => (refine Or.inl ⟨rfl, ?_⟩; intro wq hq; obtain ⟨⟨z0, z1, z2, z3⟩, ⟨y0, y1, y2, y3⟩⟩ := HS.out wq hq; go_simp; try with_reducible rfl)
  simp only [Act.put, List.setIfInBounds_toArray, List.set_cons_zero, List.set_cons_succ]
  refine wpAnyH_take (i := 9) (oi := ?p9a) (v := ?v9a) ?o9a (by kernel_rfl) (by kernel_rfl) (by kernel_rfl) ?q9a ?y9a hHeld ?r9a
  case o9a => simp only [List.getElem?_toArray, List.getElem?_cons_succ, List.getElem?_cons_zero]; rfl
  case q9a => exact fun _ _ _ h => h
  case y9a => (refine Or.inl ⟨rfl, ?_⟩; intro wq hq; obtain ⟨⟨z0, z1, z2, z3⟩, ⟨y0, y1, y2, y3⟩⟩ := HS.out wq hq; go_simp; try with_reducible rfl)
  simp only [Act.put, List.setIfInBounds_toArray, List.set_cons_zero, List.set_cons_succ]
  refine wpAnyH_take (i := 10) (oi := ?p10a) (v := ?v10a) ?o10a (by kernel_rfl) (by kernel_rfl) (by kernel_rfl) ?q10a ?y10a hHeld ?r10a
  case o10a => simp only [List.getElem?_toArray, List.getElem?_cons_succ, List.getElem?_cons_zero]; rfl
  case q10a => exact fun _ _ _ h => h
  case y10a => (refine Or.inl ⟨rfl, ?_⟩; intro wq hq; obtain ⟨⟨z0, z1, z2, z3⟩, ⟨y0, y1, y2, y3⟩⟩ := HS.out wq hq; go_simp; try with_reducible rfl)
  simp only [Act.put, List.setIfInBounds_toArray, List.set_cons_zero, List.set_cons_succ]
  refine wpAnyH_take (i := 11) (oi := ?p11a) (v := ?v11a) ?o11a (by kernel_rfl) (by kernel_rfl) (by kernel_rfl) ?q11a ?y11a hHeld ?r11a
  case o11a => simp only [List.getElem?_toArray, List.getElem?_cons_succ, List.getElem?_cons_zero]; rfl
  case q11a => exact fun _ _ _ h => h
  case y11a => (refine Or.inl ⟨rfl, ?_⟩; intro wq hq; obtain ⟨⟨z0, z1, z2, z3⟩, ⟨y0, y1, y2, y3⟩⟩ := HS.out wq hq; go_simp; try with_reducible rfl)
  simp only [Act.put, List.setIfInBounds_toArray, List.set_cons_zero, List.set_cons_succ]
  refine wpAnyH_take (i := 12) (oi := ?p12a) (v := ?v12a) ?o12a (by kernel_rfl) (by kernel_rfl) (by kernel_rfl) ?q12a ?y12a hHeld ?r12a
  case o12a => simp only [List.getElem?_toArray, List.getElem?_cons_succ, List.getElem?_cons_zero]; rfl
  case q12a => exact fun _ _ _ h => h
  case y12a => (refine Or.inl ⟨rfl, ?_⟩; intro wq hq; obtain ⟨⟨z0, z1, z2, z3⟩, ⟨y0, y1, y2, y3⟩⟩ := HS.out wq hq; go_simp; try with_reducible rfl)
  simp only [Act.put, List.setIfInBounds_toArray, List.set_cons_zero, List.set_cons_succ]
  refine wpAnyH_take (i := 13) (oi := ?p13a) (v := ?v13a) ?o13a (by kernel_rfl) (by kernel_rfl) (by kernel_rfl) ?q13a ?y13a hHeld ?r13a
  case o13a => simp only [List.getElem?_toArray, List.getElem?_cons_succ, List.getElem?_cons_zero]; rfl
  case q13a => exact fun _ _ _ h => h
  case y13a => (refine Or.inl ⟨rfl, ?_⟩; intro wq hq; obtain ⟨⟨z0, z1, z2, z3⟩, ⟨y0, y1, y2, y3⟩⟩ := HS.out wq hq; go_simp; try with_reducible rfl)
  simp only [Act.put, List.setIfInBounds_toArray, List.set_cons_zero, List.set_cons_succ]
  refine wpAnyH_take (i := 14) (oi := ?p14a) (v := ?v14a) ?o14a (by kernel_rfl) (by kernel_rfl) (by kernel_rfl) ?q14a ?y14a hHeld ?r14a
  case o14a => simp only [List.getElem?_toArray, List.getElem?_cons_succ, List.getElem?_cons_zero]; rfl
  case q14a => exact fun _ _ _ h => h
  case y14a => (refine Or.inl ⟨rfl, ?_⟩; intro wq hq; obtain ⟨⟨z0, z1, z2, z3⟩, ⟨y0, y1, y2, y3⟩⟩ := HS.out wq hq; go_simp; try with_reducible rfl)
  simp only [Act.put, List.setIfInBounds_toArray, List.set_cons_zero, List.set_cons_succ]
  refine wpAnyH_take (i := 15) (oi := ?p15a) (v := ?v15a) ?o15a (by kernel_rfl) (by kernel_rfl) (by kernel_rfl) ?q15a ?y15a hHeld ?r15a
  case o15a => simp only [List.getElem?_toArray, List.getElem?_cons_succ, List.getElem?_cons_zero]; rfl
  case q15a => exact fun _ _ _ h => h
  case y15a => (refine Or.inl ⟨rfl, ?_⟩; intro wq hq; obtain ⟨⟨z0, z1, z2, z3⟩, ⟨y0, y1, y2, y3⟩⟩ := HS.out wq hq; go_simp; try with_reducible rfl)
  simp only [Act.put, List.setIfInBounds_toArray, List.set_cons_zero, List.set_cons_succ]
  refine wpAnyH_take (i := 16) (oi := ?p16a) (v := ?v16a) ?o16a (by kernel_rfl) (by kernel_rfl) (by kernel_rfl) ?q16a ?y16a hHeld ?r16a
  case o16a => simp only [List.getElem?_toArray, List.getElem?_cons_succ, List.getElem?_cons_zero]; rfl
  case q16a => exact fun _ _ _ h => h
  case y16a => (refine Or.inl ⟨rfl, ?_⟩; intro wq hq; obtain ⟨⟨z0, z1, z2, z3⟩, ⟨y0, y1, y2, y3⟩⟩ := HS.out wq hq; go_simp; try with_reducible rfl)
  simp only [Act.put, List.setIfInBounds_toArray, List.set_cons_zero, List.set_cons_succ]
  refine wpAnyH_take (i := 17) (oi := ?p17a) (v := ?v17a) ?o17a (by kernel_rfl) (by kernel_rfl) (by kernel_rfl) ?q17a ?y17a hHeld ?r17a
  case o17a => simp only [List.getElem?_toArray, List.getElem?_cons_succ, List.getElem?_cons_zero]; rfl
  case q17a => exact fun _ _ _ h => h
  case y17a => (refine Or.inl ⟨rfl, ?_⟩; intro wq hq; obtain ⟨⟨z0, z1, z2, z3⟩, ⟨y0, y1, y2, y3⟩⟩ := HS.out wq hq; go_simp; try with_reducible rfl)
  simp only [Act.put, List.setIfInBounds_toArray, List.set_cons_zero, List.set_cons_succ]
  refine wpAnyH_take (i := 18) (oi := ?p18a) (v := ?v18a) ?o18a (by kernel_rfl) (by kernel_rfl) (by kernel_rfl) ?q18a ?y18a hHeld ?r18a
  case o18a => simp only [List.getElem?_toArray, List.getElem?_cons_succ, List.getElem?_cons_zero]; rfl
  case q18a => exact fun _ _ _ h => h
  case y18a => (refine Or.inl ⟨rfl, ?_⟩; intro wq hq; obtain ⟨⟨z0, z1, z2, z3⟩, ⟨y0, y1, y2, y3⟩⟩ := HS.out wq hq; go_simp; try with_reducible rfl)
  simp only [Act.put, List.setIfInBounds_toArray, List.set_cons_zero, List.set_cons_succ]
  refine wpAnyH_take (i := 19) (oi := ?p19a) (v := ?v19a) ?o19a (by kernel_rfl) (by kernel_rfl) (by kernel_rfl) ?q19a ?y19a hHeld ?r19a
  case o19a => simp only [List.getElem?_toArray, List.getElem?_cons_succ, List.getElem?_cons_zero]; rfl
  case q19a => exact fun _ _ _ h => h
  case y19a => (refine Or.inl ⟨rfl, ?_⟩; intro wq hq; obtain ⟨⟨z0, z1, z2, z3⟩, ⟨y0, y1, y2, y3⟩⟩ := HS.out wq hq; go_simp; try with_reducible rfl)
  simp only [Act.put, List.setIfInBounds_toArray, List.set_cons_zero, List.set_cons_succ]
  refine wpAnyH_take (i := 20) (oi := ?p20a) (v := ?v20a) ?o20a (by kernel_rfl) (by kernel_rfl) (by kernel_rfl) ?q20a ?y20a hHeld ?r20a
  case o20a => simp only [List.getElem?_toArray, List.getElem?_cons_succ, List.getElem?_cons_zero]; rfl
  case q20a => exact fun _ _ _ h => h
  case y20a => (refine Or.inl ⟨rfl, ?_⟩; intro wq hq; obtain ⟨⟨z0, z1, z2, z3⟩, ⟨y0, y1, y2, y3⟩⟩ := HS.out wq hq; go_simp; try with_reducible rfl)
  simp only [Act.put, List.setIfInBounds_toArray, List.set_cons_zero, List.set_cons_succ]
  refine wpAnyH_take (i := 21) (oi := ?p21a) (v := ?v21a) ?o21a (by kernel_rfl) (by kernel_rfl) (by kernel_rfl) ?q21a ?y21a hHeld ?r21a
  case o21a => simp only [List.getElem?_toArray, List.getElem?_cons_succ, List.getElem?_cons_zero]; rfl
  case q21a => exact fun _ _ _ h => h
  case y21a => (refine Or.inl ⟨rfl, ?_⟩; intro wq hq; obtain ⟨⟨z0, z1, z2, z3⟩, ⟨y0, y1, y2, y3⟩⟩ := HS.out wq hq; go_simp; try with_reducible rfl)
  simp only [Act.put, List.setIfInBounds_toArray, List.set_cons_zero, List.set_cons_succ]
  refine wpAnyH_take (i := 22) (oi := ?p22a) (v := ?v22a) ?o22a (by kernel_rfl) (by kernel_rfl) (by kernel_rfl) ?q22a ?y22a hHeld ?r22a
  case o22a => simp only [List.getElem?_toArray, List.getElem?_cons_succ, List.getElem?_cons_zero]; rfl
  case q22a => exact fun _ _ _ h => h
  case y22a => (refine Or.inl ⟨rfl, ?_⟩; intro wq hq; obtain ⟨⟨z0, z1, z2, z3⟩, ⟨y0, y1, y2, y3⟩⟩ := HS.out wq hq; go_simp; try with_reducible rfl)
  simp only [Act.put, List.setIfInBounds_toArray, List.set_cons_zero, List.set_cons_succ]
  refine wpAnyH_take (i := 23) (oi := ?p23a) (v := ?v23a) ?o23a (by kernel_rfl) (by kernel_rfl) (by kernel_rfl) ?q23a ?y23a hHeld ?r23a
  case o23a => simp only [List.getElem?_toArray, List.getElem?_cons_succ, List.getElem?_cons_zero]; rfl
  case q23a => exact fun _ _ _ h => h
  case y23a => (refine Or.inl ⟨rfl, ?_⟩; intro wq hq; obtain ⟨⟨z0, z1, z2, z3⟩, ⟨y0, y1, y2, y3⟩⟩ := HS.out wq hq; go_simp; try with_reducible rfl)
  simp only [Act.put, List.setIfInBounds_toArray, List.set_cons_zero, List.set_cons_succ]
  refine wpAnyH_take (i := 24) (oi := ?p24a) (v := ?v24a) ?o24a (by kernel_rfl) (by kernel_rfl) (by kernel_rfl) ?q24a ?y24a hHeld ?r24a
  case o24a => simp only [List.getElem?_toArray, List.getElem?_cons_succ, List.getElem?_cons_zero]; rfl
  case q24a => exact fun _ _ _ h => h
  case y24a => (refine Or.inl ⟨rfl, ?_⟩; intro wq hq; obtain ⟨⟨z0, z1, z2, z3⟩, ⟨y0, y1, y2, y3⟩⟩ := HS.out wq hq; go_simp; try with_reducible rfl)
  simp only [Act.put, List.setIfInBounds_toArray, List.set_cons_zero, List.set_cons_succ]
  refine wpAnyH_take (i := 25) (oi := ?p25a) (v := ?v25a) ?o25a (by kernel_rfl) (by kernel_rfl) (by kernel_rfl) ?q25a ?y25a hHeld ?r25a
  case o25a => simp only [List.getElem?_toArray, List.getElem?_cons_succ, List.getElem?_cons_zero]; rfl
  case q25a => exact fun _ _ _ h => h
  case y25a => (refine Or.inl ⟨rfl, ?_⟩; intro wq hq; obtain ⟨⟨z0, z1, z2, z3⟩, ⟨y0, y1, y2, y3⟩⟩ := HS.out wq hq; go_simp; try with_reducible rfl)
  simp only [Act.put, List.setIfInBounds_toArray, List.set_cons_zero, List.set_cons_succ]
  refine wpAnyH_take (i := 26) (oi := ?p26a) (v := ?v26a) ?o26a (by kernel_rfl) (by kernel_rfl) (by kernel_rfl) ?q26a ?y26a hHeld ?r26a
  case o26a => simp only [List.getElem?_toArray, List.getElem?_cons_succ, List.getElem?_cons_zero]; rfl
  case q26a => exact fun _ _ _ h => h
  case y26a => (refine Or.inl ⟨rfl, ?_⟩; intro wq hq; obtain ⟨⟨z0, z1, z2, z3⟩, ⟨y0, y1, y2, y3⟩⟩ := HS.out wq hq; go_simp; try with_reducible rfl)
  simp only [Act.put, List.setIfInBounds_toArray, List.set_cons_zero, List.set_cons_succ]
  refine wpAnyH_take (i := 28) (oi := ?p28a) (v := ?v28a) ?o28a (by kernel_rfl) (by kernel_rfl) (by kernel_rfl) ?q28a ?y28a hHeld ?r28a
  case o28a => simp only [List.getElem?_toArray, List.getElem?_cons_succ, List.getElem?_cons_zero]; rfl
  case q28a => exact fun _ _ _ h => h
  case y28a => (refine Or.inl ⟨rfl, ?_⟩; intro wq hq; obtain ⟨⟨z0, z1, z2, z3⟩, ⟨y0, y1, y2, y3⟩⟩ := HS.out wq hq; go_simp; try with_reducible rfl)
  simp only [Act.put, List.setIfInBounds_toArray, List.set_cons_zero, List.set_cons_succ]
  refine wpAnyH_take (i := 29) (oi := ?p29a) (v := ?v29a) ?o29a (by kernel_rfl) (by kernel_rfl) (by kernel_rfl) ?q29a ?y29a hHeld ?r29a
  case o29a => simp only [List.getElem?_toArray, List.getElem?_cons_succ, List.getElem?_cons_zero]; rfl
  case q29a => exact fun _ _ _ h => h
  case y29a => (refine Or.inl ⟨rfl, ?_⟩; intro wq hq; obtain ⟨⟨z0, z1, z2, z3⟩, ⟨y0, y1, y2, y3⟩⟩ := HS.out wq hq; go_simp; try with_reducible rfl)
  simp only [Act.put, List.setIfInBounds_toArray, List.set_cons_zero, List.set_cons_succ]
  refine wpAnyH_ready (rs := [27]) (by kernel_rfl) (by simp) ?_
  refine AllReadyH.cons (o := ?p27a) ?o27a ?s27a AllReadyH.nil
  case o27a => simp only [List.getElem?_toArray, List.getElem?_cons_succ, List.getElem?_cons_zero]; rfl
  intro K hK
  go_simp
  refine (HPM.out _ hHeld).mono ?_
  rintro e u27 ⟨rfl, hb27⟩
  have B27 : Below w9.heap.size w9 u27 := hHeld.trans (hb27.mono hHeld.size)
  clear hb27
  refine hK.out _ _ B27 (fun hHeld => ?_)
  clear hK K
  refine wpAnyH_take (i := 30) (oi := ?p30a) (v := ?v30a) ?o30a (by kernel_rfl) (by kernel_rfl) (by kernel_rfl) ?q30a ?y30a hHeld ?r30a
  case o30a => simp only [List.getElem?_toArray, List.getElem?_cons_succ, List.getElem?_cons_zero]; rfl
  case q30a => exact fun _ _ _ h => h
  case y30a => (refine Or.inl ⟨rfl, ?_⟩; intro wq hq; obtain ⟨⟨z0, z1, z2, z3⟩, ⟨y0, y1, y2, y3⟩⟩ := HS.out wq hq; go_simp; try with_reducible rfl)
  simp only [Act.put, List.setIfInBounds_toArray, List.set_cons_zero, List.set_cons_succ]
  refine wpAnyH_take (i := 31) (oi := ?p31a) (v := ?v31a) ?o31a (by kernel_rfl) (by kernel_rfl) (by kernel_rfl) ?q31a ?y31a hHeld ?r31a
  case o31a => simp only [List.getElem?_toArray, List.getElem?_cons_succ, List.getElem?_cons_zero]; rfl
  case q31a => exact fun _ _ _ h => h
  case y31a => (refine Or.inl ⟨rfl, ?_⟩; intro wq hq; obtain ⟨⟨z0, z1, z2, z3⟩, ⟨y0, y1, y2, y3⟩⟩ := HS.out wq hq; go_simp; try with_reducible rfl)
  simp only [Act.put, List.setIfInBounds_toArray, List.set_cons_zero, List.set_cons_succ]
  refine wpAnyH_take (i := 32) (oi := ?p32a) (v := ?v32a) ?o32a (by kernel_rfl) (by kernel_rfl) (by kernel_rfl) ?q32a ?y32a hHeld ?r32a
  case o32a => simp only [List.getElem?_toArray, List.getElem?_cons_succ, List.getElem?_cons_zero]; rfl
  case q32a => exact fun _ _ _ h => h
  case y32a => (refine Or.inl ⟨rfl, ?_⟩; intro wq hq; obtain ⟨⟨z0, z1, z2, z3⟩, ⟨y0, y1, y2, y3⟩⟩ := HS.out wq hq; go_simp; try with_reducible rfl)
  simp only [Act.put, List.setIfInBounds_toArray, List.set_cons_zero, List.set_cons_succ]
  refine wpAnyH_take (i := 33) (oi := ?p33a) (v := ?v33a) ?o33a (by kernel_rfl) (by kernel_rfl) (by kernel_rfl) ?q33a ?y33a hHeld ?r33a
  case o33a => simp only [List.getElem?_toArray, List.getElem?_cons_succ, List.getElem?_cons_zero]; rfl
  case q33a => exact fun _ _ _ h => h
  case y33a => (refine Or.inl ⟨rfl, ?_⟩; intro wq hq; obtain ⟨⟨z0, z1, z2, z3⟩, ⟨y0, y1, y2, y3⟩⟩ := HS.out wq hq; go_simp; try with_reducible rfl)
  simp only [Act.put, List.setIfInBounds_toArray, List.set_cons_zero, List.set_cons_succ]
  refine wpAnyH_ready (rs := [34]) (by kernel_rfl) (by simp) ?_
  refine AllReadyH.cons (o := ?p34a) ?o34a ?s34a AllReadyH.nil
  case o34a => simp only [List.getElem?_toArray, List.getElem?_cons_succ, List.getElem?_cons_zero]; rfl
  intro K hK
  go_simp
  refine (HVT.out _ hHeld).mono ?_
  rintro e u34 ⟨ad34, c34, rfl, _, _, hb34⟩
  have B34 : Below w9.heap.size w9 u34 := hHeld.trans (hb34.mono hHeld.size)
  clear hb34
  refine hK.out _ _ B34 (fun hHeld => ?_)
  clear hK K
  refine wpAnyH_take (i := 35) (oi := ?p35a) (v := ?v35a) ?o35a (by kernel_rfl) (by kernel_rfl) (by kernel_rfl) ?q35a ?y35a hHeld ?r35a
  case o35a => simp only [List.getElem?_toArray, List.getElem?_cons_succ, List.getElem?_cons_zero]; rfl
  case q35a => exact fun _ _ _ h => h
  case y35a => (refine Or.inl ⟨rfl, ?_⟩; intro wq hq; obtain ⟨⟨z0, z1, z2, z3⟩, ⟨y0, y1, y2, y3⟩⟩ := HS.out wq hq; go_simp; try with_reducible rfl)
  simp only [Act.put, List.setIfInBounds_toArray, List.set_cons_zero, List.set_cons_succ]
  refine wpAnyH_take (i := 36) (oi := ?p36a) (v := ?v36a) ?o36a (by kernel_rfl) (by kernel_rfl) (by kernel_rfl) ?q36a ?y36a hHeld ?r36a
  case o36a => simp only [List.getElem?_toArray, List.getElem?_cons_succ, List.getElem?_cons_zero]; rfl
  case q36a => exact fun _ _ _ h => h
  case y36a => (refine Or.inl ⟨rfl, ?_⟩; intro wq hq; obtain ⟨⟨z0, z1, z2, z3⟩, ⟨y0, y1, y2, y3⟩⟩ := HS.out wq hq; go_simp; try with_reducible rfl)
  simp only [Act.put, List.setIfInBounds_toArray, List.set_cons_zero, List.set_cons_succ]
  refine wpAnyH_take (i := 37) (oi := ?p37a) (v := ?v37a) ?o37a (by kernel_rfl) (by kernel_rfl) (by kernel_rfl) ?q37a ?y37a hHeld ?r37a
  case o37a => simp only [List.getElem?_toArray, List.getElem?_cons_succ, List.getElem?_cons_zero]; rfl
  case q37a => exact fun _ _ _ h => h
  case y37a => (refine Or.inl ⟨rfl, ?_⟩; intro wq hq; obtain ⟨⟨z0, z1, z2, z3⟩, ⟨y0, y1, y2, y3⟩⟩ := HS.out wq hq; go_simp; try with_reducible rfl)
  simp only [Act.put, List.setIfInBounds_toArray, List.set_cons_zero, List.set_cons_succ]
  refine wpAnyH_take (i := 38) (oi := ?p38a) (v := ?v38a) ?o38a (by kernel_rfl) (by kernel_rfl) (by kernel_rfl) ?q38a ?y38a hHeld ?r38a
  case o38a => simp only [List.getElem?_toArray, List.getElem?_cons_succ, List.getElem?_cons_zero]; rfl
  case q38a => exact fun _ _ _ h => h
  case y38a => (refine Or.inl ⟨rfl, ?_⟩; intro wq hq; obtain ⟨⟨z0, z1, z2, z3⟩, ⟨y0, y1, y2, y3⟩⟩ := HS.out wq hq; go_simp; try with_reducible rfl)
  simp only [Act.put, List.setIfInBounds_toArray, List.set_cons_zero, List.set_cons_succ]
  refine wpAnyH_take (i := 39) (oi := ?p39a) (v := ?v39a) ?o39a (by kernel_rfl) (by kernel_rfl) (by kernel_rfl) ?q39a ?y39a hHeld ?r39a
  case o39a => simp only [List.getElem?_toArray, List.getElem?_cons_succ, List.getElem?_cons_zero]; rfl
  case q39a => exact fun _ _ _ h => h
  case y39a => (refine Or.inl ⟨rfl, ?_⟩; intro wq hq; obtain ⟨⟨z0, z1, z2, z3⟩, ⟨y0, y1, y2, y3⟩⟩ := HS.out wq hq; go_simp; try with_reducible rfl)
  simp only [Act.put, List.setIfInBounds_toArray, List.set_cons_zero, List.set_cons_succ]
  refine wpAnyH_ready (rs := [40]) (by kernel_rfl) (by simp) ?_
  refine AllReadyH.cons (o := ?p40a) ?o40a ?s40a AllReadyH.nil
  case o40a => simp only [List.getElem?_toArray, List.getElem?_cons_succ, List.getElem?_cons_zero]; rfl
  intro K hK
  go_simp
  refine (HRM.out _ hHeld).mono ?_
  rintro e u40 ⟨rfl, hb40⟩
  have B40 : Below w9.heap.size w9 u40 := hHeld.trans (hb40.mono hHeld.size)
  clear hb40
  refine hK.out _ _ B40 (fun hHeld => ?_)
  clear hK K
  refine wpAnyH_take (i := 41) (oi := ?p41a) (v := ?v41a) ?o41a (by kernel_rfl) (by kernel_rfl) (by kernel_rfl) ?q41a ?y41a hHeld ?r41a
  case o41a => simp only [List.getElem?_toArray, List.getElem?_cons_succ, List.getElem?_cons_zero]; rfl
  case q41a => exact fun _ _ _ h => h
  case y41a => (refine Or.inl ⟨rfl, ?_⟩; intro wq hq; obtain ⟨⟨z0, z1, z2, z3⟩, ⟨y0, y1, y2, y3⟩⟩ := HS.out wq hq; go_simp; try with_reducible rfl)
  simp only [Act.put, List.setIfInBounds_toArray, List.set_cons_zero, List.set_cons_succ]
  refine wpAnyH_take (i := 42) (oi := ?p42a) (v := ?v42a) ?o42a (by kernel_rfl) (by kernel_rfl) (by kernel_rfl) ?q42a ?y42a hHeld ?r42a
  case o42a => simp only [List.getElem?_toArray, List.getElem?_cons_succ, List.getElem?_cons_zero]; rfl
  case q42a => exact fun _ _ _ h => h
  case y42a => (refine Or.inl ⟨rfl, ?_⟩; intro wq hq; obtain ⟨⟨z0, z1, z2, z3⟩, ⟨y0, y1, y2, y3⟩⟩ := HS.out wq hq; go_simp; try with_reducible rfl)
  simp only [Act.put, List.setIfInBounds_toArray, List.set_cons_zero, List.set_cons_succ]
  refine wpAnyH_take (i := 43) (oi := ?p43a) (v := ?v43a) ?o43a (by kernel_rfl) (by kernel_rfl) (by kernel_rfl) ?q43a ?y43a hHeld ?r43a
  case o43a => simp only [List.getElem?_toArray, List.getElem?_cons_succ, List.getElem?_cons_zero]; rfl
  case q43a => exact fun _ _ _ h => h
  case y43a => (refine Or.inl ⟨rfl, ?_⟩; intro wq hq; obtain ⟨⟨z0, z1, z2, z3⟩, ⟨y0, y1, y2, y3⟩⟩ := HS.out wq hq; go_simp; try with_reducible rfl)
  simp only [Act.put, List.setIfInBounds_toArray, List.set_cons_zero, List.set_cons_succ]
  refine wpAnyH_take (i := 44) (oi := ?p44a) (v := ?v44a) ?o44a (by kernel_rfl) (by kernel_rfl) (by kernel_rfl) ?q44a ?y44a hHeld ?r44a
  case o44a => simp only [List.getElem?_toArray, List.getElem?_cons_succ, List.getElem?_cons_zero]; rfl
  case q44a => exact fun _ _ _ h => h
  case y44a => (refine Or.inl ⟨rfl, ?_⟩; intro wq hq; obtain ⟨⟨z0, z1, z2, z3⟩, ⟨y0, y1, y2, y3⟩⟩ := HS.out wq hq; go_simp; try with_reducible rfl)
  simp only [Act.put, List.setIfInBounds_toArray, List.set_cons_zero, List.set_cons_succ]
  refine wpAnyH_take (i := 45) (oi := ?p45a) (v := ?v45a) ?o45a (by kernel_rfl) (by kernel_rfl) (by kernel_rfl) ?q45a ?y45a hHeld ?r45a
  case o45a => simp only [List.getElem?_toArray, List.getElem?_cons_succ, List.getElem?_cons_zero]; rfl
  case q45a => exact fun _ _ _ h => h
  case y45a => (refine Or.inl ⟨rfl, ?_⟩; intro wq hq; obtain ⟨⟨z0, z1, z2, z3⟩, ⟨y0, y1, y2, y3⟩⟩ := HS.out wq hq; go_simp; try with_reducible rfl)
  simp only [Act.put, List.setIfInBounds_toArray, List.set_cons_zero, List.set_cons_succ]
  refine wpAnyH_take (i := 46) (oi := ?p46a) (v := ?v46a) ?o46a (by kernel_rfl) (by kernel_rfl) (by kernel_rfl) ?q46a ?y46a hHeld ?r46a
  case o46a => simp only [List.getElem?_toArray, List.getElem?_cons_succ, List.getElem?_cons_zero]; rfl
  case q46a => exact fun _ _ _ h => h
  case y46a => (refine Or.inl ⟨rfl, ?_⟩; intro wq hq; obtain ⟨⟨z0, z1, z2, z3⟩, ⟨y0, y1, y2, y3⟩⟩ := HS.out wq hq; go_simp; try with_reducible rfl)
  simp only [Act.put, List.setIfInBounds_toArray, List.set_cons_zero, List.set_cons_succ]
  refine wpAnyH_take (i := 47) (oi := ?p47a) (v := ?v47a) ?o47a (by kernel_rfl) (by kernel_rfl) (by kernel_rfl) ?q47a ?y47a hHeld ?r47a
  case o47a => simp only [List.getElem?_toArray, List.getElem?_cons_succ, List.getElem?_cons_zero]; rfl
  case q47a => exact fun _ _ _ h => h
  case y47a => (refine Or.inl ⟨rfl, ?_⟩; intro wq hq; obtain ⟨⟨z0, z1, z2, z3⟩, ⟨y0, y1, y2, y3⟩⟩ := HS.out wq hq; go_simp; try with_reducible rfl)
  simp only [Act.put, List.setIfInBounds_toArray, List.set_cons_zero, List.set_cons_succ]
  refine wpAnyH_done (by kernel_rfl) ?_ _
  go_wp2
  go_ret
  exact ⟨rfl, HBB.out.trans (hHeld.mono HBB.out.size)⟩
end Go.Proofs.YtlnedgjikkhplaaGreat.Du
