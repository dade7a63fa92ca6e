/-
  The document's Ids, and Text.
-/
import Derived.Test.YtjbcchipbdkplaaQD
import Derived.Deep.CutRange
namespace Go.Proofs.Ytjbcchipbdkplaa
open Go.RowKit Go.Maps
set_option linter.unusedVariables false
open Rp (C fup)

set_option maxRecDepth 100000 in
set_option maxHeartbeats 1000000 in
theorem idsD_any {w : World} {T : Int → List C} {dv : Nat → Value} (room : Nat) (h : DR w T dv) (ok : Rp.Ok room T) (c : Int) : Calls Try.prog 18 #[.agg (DA room dv), .int .i64 c] w (IdOut w ((T c).map C.id)) := by
  obtain ⟨W1, HW1⟩ : ∃ W1, Hid (w.alloc (.cells (DA room dv) 30) = W1) := ⟨_, Hid_of rfl⟩
  have HB1 : Hid (Below w.heap.size w W1) := by rw [← HW1.out]; exact bel1 w _
  have hr1 : W1.heap[w.heap.size]? = some (.cells (DA room dv) 30 (0, 0)) := by rw [← HW1.out]; exact heap_alloc_last w _
  by_cases hbad : c < 0 ∨ 64 ≤ c
  · have hT : T c = [] := ok.out c (by
      unfold Rp.mayC
      rcases hbad with h' | h'
      · rw [decide_eq_false (by omega)]; rfl
      · rw [show decide (c ≤ 63) = false from decide_eq_false (by omega), Bool.and_false])
    have hd : decide (c < 0) = true ∨ decide (c < 0) = false ∧ decide (64 ≤ c) = true := by simp; omega
    have HK : Hid (IdOut w ((T c).map C.id) (.returned (.slice none 0 0)) W1) := ⟨_, rfl, by rw [hT]; exact OwnL.nil _ _ _, HB1.out⟩
    clear h ok hr1 hbad hT
    rcases hd with d1 | ⟨d1, d2⟩
    all_goals
      go_enter Try.func18, Try.ntmps18
      go_upto_region 1 with fail
      rw [HW1.out]
      go_wp2
      go_ret
      exact HK.out
  · obtain ⟨cn, rfl⟩ := Int.eq_ofNat_of_zero_le (show 0 ≤ c by omega)
    have d1 : decide ((cn : Int) < 0) = false := decide_eq_false (by omega)
    have d2 : decide ((64 : Int) ≤ (cn : Int)) = false := decide_eq_false (by omega)
    have d3 : decide (64 ≤ cn) = false := decide_eq_false (by omega)
    have hcn : cn < 64 := by omega
    obtain ⟨a, cap, hdv, hx⟩ := h.row cn
    have hl16 := (ok.l cn).le
    have h16 := ok.r16
    have hcc : W1.cell? ⟨w.heap.size, 1 + cn, none⟩ = some (.slice a (T cn).length cap) := by rw [cell_of_row W1 _ _ _ _ _ hr1, DA_get _ _ _ hcn, hdv]
    have HCC : Hid (∀ W, Below W1.heap.size W1 W → W.cell? ⟨w.heap.size, 1 + cn, none⟩ = some (.slice a (T cn).length cap)) := fun W hW => (hW.cell (p := ⟨w.heap.size, 1 + cn, none⟩) (World.block_lt_of_cell? W1 _ hcc)).trans hcc
    have HA := Hid_of (hx.keep HB1.out).at'
    have hs1 : W1.heap.size = w.heap.size + 1 := by rw [← HW1.out]; simp
    have HS1 := Hid_of hs1
    clear h ok hr1 hx hdv hbad hcc hs1
    go_enter Try.func18, Try.ntmps18
    go_upto_region 1 with fail
    rw [HW1.out]
    go_wp2
    go_loopw [6, 5] (fun i v wr => ∃ k : Nat, k ≤ (T cn).length ∧ i = .int .i64 k ∧ OwnL il 3 wr W1.heap.size v (((T cn).map C.id).take k) ∧ Below W1.heap.size W1 wr) (fun i v _ => (T cn).length - (intOf i).toNat)
    case atStart => exact ⟨0, Nat.zero_le _, rfl, OwnL.nil _ _ _, Below.refl _ _⟩
    case round =>
      obtain ⟨k, hk, rfl, ho, hbl⟩ := hrel
      obtain ⟨a1, cap1, hv1, hx1, _⟩ := ho.at
      have hlen : (((T cn).map C.id).take k).length = k := by simp; omega
      rw [hlen] at hv1
      subst hv1
      have hcr := HCC.out wr hbl
      by_cases hlt : k < (T cn).length
      · obtain ⟨g0, off, rfl, q0, q1, q2⟩ := (HA.out.keep hbl).getC k hlt
        have HT : Hid (((T cn).map C.id).take (k + 1) = ((T cn).map C.id).take k ++ [(T cn)[k].id]) := Hid_of (by rw [List.take_succ_eq_append_getElem (by simpa using hlt)]; simp)
        obtain ⟨a', c', w4, hrun, ho4, hr4⟩ := run_appL_ty tiI (wr.alloc (.cells #[.int .i64 (T cn)[k].id] 3)) W1.heap.size (.slice a1 k cap1) (((T cn).map C.id).take k) [(T cn)[k].id] wr.heap.size 0 1 1 (ho.keep (bel1 wr _)) (atL_one (t := 3) (heap_alloc_last wr _)) rfl (by have := hbl.size; simp; omega) (by rw [hlen]; simp; omega)
        rw [hlen] at hrun ho4 hr4
        have hr6 : Rw wr (.slice a1 k cap1) w4 (.slice a' (k + [(T cn)[k].id].length) c') := (Rw.ofBelow _ (bel1 wr _)).trans hr4
        have HB4 : Hid (Below W1.heap.size W1 w4) := hbl.trans (hr6.below (fun j hj => (ho.lt hj).1) hbl.size)
        have HO4 := Hid_of ho4
        have hki : (k : Int) < ((T cn).length : Int) := by omega
        clear ho ho4 hr4 hr6 hx1 hbl q1 q2
        generalize (T cn)[k].id = x0 at *
        simp only [List.length_cons, List.length_nil, Nat.zero_add] at hrun HO4
        generalize hL : (T cn).length = L at *
        go_wp2_with (at_builtin; refine wpList_append_known rfl _ _ 42 rfl _ _ rfl rfl _ _ (hrun _) ?_)
        go_roundw
        case rel => exact ⟨k + 1, by omega, by go_num, by rw [HT.out]; exact HO4.out, HB4.out⟩
        case measure => simp [intOf]; omega
      · obtain rfl : k = (T cn).length := by omega
        have HQ : Hid (IdOut w ((T cn).map C.id) (.returned (.slice a1 (T cn).length cap1)) wr) := ⟨_, rfl, by rw [List.take_of_length_le (by simp)] at ho; exact ho.low (by have := HS1.out; omega), bel_up HB1.out hbl (Nat.le_refl _)⟩
        clear ho hbl hx1 HCC HA
        generalize (T cn).length = L at *
        go_wp2
        go_ret
        exact HQ.out
namespace Rp
/-- The clients below a number that have a call kept; what they are told as. -/
def kpre (T : Int → List C) (c : Nat) : List Int := ((List.range c).map Int.ofNat).filter fun c => !(T c).isEmpty
def spre (T : Int → List C) (c : Nat) : List UInt8 := ((kpre T c).map fun c => (c, T c)).flatMap encP
theorem kpre_yes (T : Int → List C) (c : Nat) (h : T c ≠ []) : kpre T (c + 1) = kpre T c ++ [(c : Int)] := by
  unfold kpre
  rw [List.range_succ, List.map_append, List.filter_append]
  congr 1
  simp [h]
theorem kpre_no (T : Int → List C) (c : Nat) (h : T c = []) : kpre T (c + 1) = kpre T c := by
  unfold kpre
  rw [List.range_succ, List.map_append, List.filter_append]
  simp [h]
theorem kpre_len (T : Int → List C) (c : Nat) : (kpre T c).length ≤ c := by
  unfold kpre
  refine Nat.le_trans (List.length_filter_le _ _) ?_
  simp
theorem spre_yes (T : Int → List C) (c : Nat) (h : T c ≠ []) : spre T (c + 1) = spre T c ++ hd c (T c).length ++ encL (T c) := by
  unfold spre
  rw [kpre_yes T c h, List.map_append, List.flatMap_append]
  simp [encP]
theorem spre_no (T : Int → List C) (c : Nat) (h : T c = []) : spre T (c + 1) = spre T c := by unfold spre; rw [kpre_no T c h]
theorem spre_all (room : Nat) (T : Int → List C) : hd room (kpre T 64).length ++ spre T 64 = txt room T := rfl
theorem spre_len {room : Nat} {T : Int → List C} (h : Ok room T) (c : Nat) (hc : c ≤ 64) : (spre T c).length ≤ 10000000 := by
  have h2 := flat_le encP 100000 ((kpre T c).map fun c => (c, T c)) (fun p hp => by
    obtain ⟨d, _, rfl⟩ := List.mem_map.1 hp
    have ho := h.l d
    have h3 := ho.le
    have h16 := h.r16
    have h4 := hd_len d (T d).length (by omega)
    have h5 := encL_len ho (T d).length
    rw [List.take_of_length_le (Nat.le_refl _)] at h5
    unfold encP
    rw [List.length_append]
    simp only
    omega)
  have h3 : ((kpre T c).map fun c => (c, T c)).length ≤ 64 := by rw [List.length_map]; have := kpre_len T c; omega
  unfold spre
  omega
end Rp
set_option maxRecDepth 100000 in
theorem wrap8 (k : Int) (h : 0 ≤ k ∧ k ≤ 255) : IntKind.u8.wrap k = k := by
  simp [IntKind.wrap, IntKind.bits, IntKind.signed]
  omega
set_option maxRecDepth 100000 in
theorem conv1 {W : World} {g : Nat} {k : Int} (h : W.heap[g]? = some (.cells #[.int .u8 k] 5 (0, 0))) (hk : 0 ≤ k ∧ k ≤ 255) : (Go.convert 73 9 (.slice (some ⟨g, 0, none⟩) 1 1)).run Try.prog W = .ok (.string (ofL [UInt8.ofNat k.toNat])) W := by
  have e1 : k = ((UInt8.ofNat k.toNat).toNat : Int) := by rw [UInt8.toNat_ofNat']; omega
  refine run_convert_bytes_back _ 73 9 5 ⟨g, 0, none⟩ 1 [UInt8.ofNat k.toNat] Try.underlying73 Try.underlying5 Try.underlying9 fun j hj => ?_
  rw [show ((⟨g, 0, none⟩ : Addr).add j) = ⟨g, j, none⟩ by simp [Addr.add]; omega]
  rw [cell_of_row W g _ _ _ _ h]
  match j, hj with
  | 0, _ => show some (Value.int .u8 k) = some (.int .u8 ((UInt8.ofNat k.toNat).toNat : Int)); rw [← e1]
set_option maxRecDepth 100000 in
set_option maxHeartbeats 4000000 in
theorem textD_any {w : World} {T : Int → List C} {dv : Nat → Value} (room : Nat) (h : DR w T dv) (ok : Rp.Ok room T) : Calls Try.prog 20 #[.agg (DA room dv)] w fun e w' => e = .returned (.string (ofL (Rp.txt room T))) ∧ Below w.heap.size w w' := by
  obtain ⟨W1, HW1⟩ : ∃ W1, Hid (w.alloc (.cells (DA room dv) 30) = W1) := ⟨_, Hid_of rfl⟩
  have HB1 : Hid (Below w.heap.size w W1) := by rw [← HW1.out]; exact bel1 w _
  have hr1 : W1.heap[w.heap.size]? = some (.cells (DA room dv) 30 (0, 0)) := by rw [← HW1.out]; exact heap_alloc_last w _
  have HROW : Hid (∀ W, Below W1.heap.size W1 W → W.heap[w.heap.size]? = some (.cells (DA room dv) 30 (0, 0))) := fun W hW => (hW.block _ (Array.getElem?_eq_some_iff.1 hr1).1).trans hr1
  have HDR := Hid_of (h.keep HB1.out)
  have HDR0 := Hid_of h
  have HOK := Hid_of ok
  have h16 := ok.r16
  have h01 := ok.r1
  clear h ok hr1
  go_enter Try.func20, Try.ntmps20
  go_upto_region 1 with fail
  rw [HW1.out]
  go_wp2
  go_loopw [5, 3, 4] (fun i nv sv wr => ∃ c : Nat, c ≤ 64 ∧ i = .int .i64 c ∧ nv = .int .i64 ((Rp.kpre T c).length : Nat) ∧ sv = .string (ofL (Rp.spre T c)) ∧ Below W1.heap.size W1 wr) (fun i nv sv _ => 64 - (intOf i).toNat)
  case atStart => exact ⟨0, Nat.zero_le _, rfl, rfl, rfl, Below.refl _ _⟩
  case round =>
    obtain ⟨c, hc, rfl, rfl, rfl, hbl⟩ := hrel
    have hkl := Rp.kpre_len T c
    have hsl := Rp.spre_len HOK.out c hc
    by_cases hlt : c < 64
    · obtain ⟨a, cap, hdv, hx⟩ := HDR0.out.row c
      have hcc : wr.cell? ⟨w.heap.size, 1 + c, none⟩ = some (.slice a (T c).length cap) := by rw [cell_of_row wr _ _ _ _ _ (HROW.out wr hbl), DA_get _ _ _ hlt, hdv]
      have hci : (c : Int) < 64 := by omega
      by_cases he : T c = []
      · have hk1 := Rp.kpre_no T c he
        have hs1 := Rp.spre_no T c he
        have hl0 : (T c).length = 0 := by rw [he]; rfl
        rw [hl0] at hcc
        have HREL : Hid ((Value.int .i64 ((Rp.kpre T c).length : Nat)) = .int .i64 ((Rp.kpre T (c + 1)).length : Nat) ∧ Value.string (ofL (Rp.spre T c)) = .string (ofL (Rp.spre T (c + 1))) ∧ Below W1.heap.size W1 wr) := ⟨by rw [hk1], by rw [hs1], hbl⟩
        clear hx hdv hbl hk1 hs1 hl0 he
        generalize ofL (Rp.spre T c) = sA at *
        generalize (Rp.kpre T c).length = kn at *
        go_wp2
        go_roundw
        case rel => exact ⟨c + 1, by omega, by go_num, HREL.out.1, HREL.out.2.1, HREL.out.2.2⟩
        case measure => simp [intOf]; omega
      · have hokc := HOK.out.l c
        have hL16 := hokc.le
        have hk1 : ((Rp.kpre T c).length : Int) + 1 = ((Rp.kpre T (c + 1)).length : Nat) := by rw [Rp.kpre_yes T c he]; simp
        have HSY := Hid_of (Rp.spre_yes T c he)
        have HOC := Hid_of hokc
        have hpos : 0 < (T c).length := List.length_pos_iff.2 he
        have hint := fun W => refInt_any ((T c).length : Int) W (by omega)
        have HCV : Hid (∀ W g, W.heap[g]? = some (.cells #[.int .u8 (c : Int)] 5 (0, 0)) → (Go.convert 73 9 (.slice (some ⟨g, 0, none⟩) 1 1)).run Try.prog W = .ok (.string (ofL [UInt8.ofNat (c : Int).toNat])) W) := fun W g hh => conv1 hh (by omega)
        have hw8 : IntKind.u8.wrap (c : Int) = (c : Int) := wrap8 _ (by omega)
        have hm8 : (c : Int) % 256 = (c : Int) := by omega
        have HXA := Hid_of (hx.keep HB1.out)
        have HBL := Hid_of hbl
        have heL := enc_nat (T c).length (by omega)
        have HSUM : Hid (ofL (Rp.spre T c) ++ (ofL [UInt8.ofNat (c : Int).toNat] ++ ofL (M.enc ((T c).length : Int))) = ofL (Rp.spre T c ++ Rp.hd c (T c).length)) := Hid_of (by rw [ofL_app, ofL_app]; rfl)
        have hz1 : (ofL [UInt8.ofNat (c : Int).toNat]).size ≤ 1 := by rw [ofL_size]; simp
        have hz2 : (ofL (M.enc ((T c).length : Int))).size ≤ 10 := by rw [ofL_size]; exact heL
        have hz3 : (ofL (Rp.spre T c)).size ≤ 10000000 := by rw [ofL_size]; exact hsl
        have hkw : IntKind.i64.wrap (((Rp.kpre T c).length : Int) + 1) = ((Rp.kpre T (c + 1)).length : Nat) := by rw [hk1, IntKind.wrap_i64]; have := Rp.kpre_len T (c + 1); omega
        generalize ofL (Rp.spre T c) = sA at *
        generalize ofL [UInt8.ofNat (c : Int).toNat] = sB at *
        generalize ofL (M.enc ((T c).length : Int)) = sE at *
        have hx1 : (9223372036854775807 < sB.size + sE.size) = False := by simp; omega
        have hx2 : (9223372036854775807 < sA.size + (sB.size + sE.size)) = False := by simp; omega
        have hkc : ((Rp.kpre T c).length : Int) ≤ 64 := by omega
        clear hx hdv hbl he hz1 hz2 hz3 heL hokc hsl hk1
        generalize hKN : (Rp.kpre T (c + 1)).length = KN at *
        generalize (Rp.kpre T c).length = kn at *
        go_upto_region 8 with fail
        obtain ⟨wd, hwd⟩ : ∃ wd, wr.drew = wd := ⟨_, rfl⟩
        have bd : Below wr.heap.size wr wd := by rw [← hwd]; exact (Below.refl _ _).drew
        have HBD := Hid_of bd
        refine wp_region_held_drew (S := fun _ => True) (by kernel_rfl) trivial (fun hHeld => ?_)
        rw [hwd]
        clear hwd bd
        refine wpAnyH_take (i := 0) (oi := ?p0x1m) (v := ?v0x1m) ?o0x1m (by kernel_rfl) (by kernel_rfl) (by kernel_rfl) ?q0x1m ?y0x1m hHeld ?r0x1m
        case o0x1m => (simp only [List.getElem?_toArray, List.getElem?_cons_zero]; try rfl)
        case q0x1m => exact fun _ _ _ h => h
        case y0x1m => (refine Or.inl ⟨rfl, ?_⟩; intro wq hq; obtain q0 := hq; go_simp; try with_reducible rfl)
        simp only [Act.put, List.setIfInBounds_toArray, List.set_cons_zero, List.set_cons_succ]
        refine wpAnyH_take (i := 1) (oi := ?p1x2m) (v := ?v1x2m) ?o1x2m (by kernel_rfl) (by kernel_rfl) (by kernel_rfl) ?q1x2m ?y1x2m hHeld ?r1x2m
        case o1x2m => (simp only [List.getElem?_toArray, List.getElem?_cons_succ, List.getElem?_cons_zero]; try rfl)
        case q1x2m => exact fun _ _ _ h => h
        case y1x2m => (refine Or.inl ⟨rfl, ?_⟩; intro wq hq; obtain q0 := hq; go_simp; try with_reducible rfl)
        simp only [Act.put, List.setIfInBounds_toArray, List.set_cons_zero, List.set_cons_succ]
        refine wpAnyH_take (i := 2) (oi := ?p2x3m) (v := ?v2x3m) ?o2x3m (by kernel_rfl) (by kernel_rfl) (by kernel_rfl) ?q2x3m ?y2x3m hHeld ?r2x3m
        case o2x3m => (simp only [List.getElem?_toArray, List.getElem?_cons_succ, List.getElem?_cons_zero]; try rfl)
        case q2x3m => exact fun _ _ _ h => h
        case y2x3m => (refine Or.inl ⟨rfl, ?_⟩; intro wq hq; obtain q0 := hq; go_simp; try with_reducible rfl)
        simp only [Act.put, List.setIfInBounds_toArray, List.set_cons_zero, List.set_cons_succ]
        refine wpAnyH_take (i := 5) (oi := ?p5x4m) (v := ?v5x4m) ?o5x4m (by kernel_rfl) (by kernel_rfl) (by kernel_rfl) ?q5x4m ?y5x4m hHeld ?r5x4m
        case o5x4m => (simp only [List.getElem?_toArray, List.getElem?_cons_succ, List.getElem?_cons_zero]; try rfl)
        case q5x4m => exact fun _ _ _ h => h
        case y5x4m => (refine Or.inl ⟨rfl, ?_⟩; intro wq hq; obtain q0 := hq; go_simp; try with_reducible rfl)
        simp only [Act.put, List.setIfInBounds_toArray, List.set_cons_zero, List.set_cons_succ]
        refine wpAnyH_take (i := 6) (oi := ?p6x5m) (v := ?v6x5m) ?o6x5m (by kernel_rfl) (by kernel_rfl) (by kernel_rfl) ?q6x5m ?y6x5m hHeld ?r6x5m
        case o6x5m => (simp only [List.getElem?_toArray, List.getElem?_cons_succ, List.getElem?_cons_zero]; try rfl)
        case q6x5m => exact fun _ _ _ h => h
        case y6x5m => (refine Or.inl ⟨rfl, ?_⟩; intro wq hq; obtain q0 := hq; go_simp; try with_reducible rfl)
        simp only [Act.put, List.setIfInBounds_toArray, List.set_cons_zero, List.set_cons_succ]
        refine wpAnyH_ready (rs := [3, 7]) (by kernel_rfl) (by simp) ?_
        refine (AllReadyH.cons (o := ?p3x6m) ?o3x6m ?s3x6m (AllReadyH.cons (o := ?p7x6m) ?o7x6m ?s7x6m AllReadyH.nil))
        case o3x6m => (simp only [List.getElem?_toArray, List.getElem?_cons_succ, List.getElem?_cons_zero]; try rfl)
        case o7x6m => (simp only [List.getElem?_toArray, List.getElem?_cons_succ, List.getElem?_cons_zero]; try rfl)
        case s3x6m =>
          have HA := Hid_of (bel1 wd (.cells #[.int .u8 (c : Int)] 5))
          have hcv := HCV.out _ _ (heap_alloc_last wd (.cells #[.int .u8 (c : Int)] 5))
          intro Kk hK
          go_simp
          refine hK.out _ _ trivial (fun hHeld => ?_)
          clear hK Kk
          refine wpAnyH_ready (rs := [4, 7]) (by kernel_rfl) (by simp) ?_
          refine (AllReadyH.cons (o := ?p4x7m) ?o4x7m ?s4x7m (AllReadyH.cons (o := ?p7x7m) ?o7x7m ?s7x7m AllReadyH.nil))
          case o4x7m => (simp only [List.getElem?_toArray, List.getElem?_cons_succ, List.getElem?_cons_zero]; try rfl)
          case o7x7m => (simp only [List.getElem?_toArray, List.getElem?_cons_succ, List.getElem?_cons_zero]; try rfl)
          case s4x7m =>
            intro Kk hK
            go_simp
            refine hK.out _ _ trivial (fun hHeld => ?_)
            clear hK Kk
            refine wpAnyH_ready (rs := [7]) (by kernel_rfl) (by simp) ?_
            refine (AllReadyH.cons (o := ?p7x8m) ?o7x8m ?s7x8m AllReadyH.nil)
            case o7x8m => (simp only [List.getElem?_toArray, List.getElem?_cons_succ, List.getElem?_cons_zero]; try rfl)
            intro Kk hK
            go_simp
            refine (hint (wd.alloc (.cells #[.int .u8 (c : Int)] 5))).mono ?_
            rintro e w9 ⟨rfl, hb9⟩
            have HBw9 := Hid_of hb9
            clear hb9
            refine hK.out _ _ trivial (fun hHeld => ?_)
            clear hK Kk
            refine wpAnyH_take (i := 8) (oi := ?p8x9m) (v := ?v8x9m) ?o8x9m (by kernel_rfl) (by kernel_rfl) (by kernel_rfl) ?q8x9m ?y8x9m hHeld ?r8x9m
            case o8x9m => (simp only [List.getElem?_toArray, List.getElem?_cons_succ, List.getElem?_cons_zero]; try rfl)
            case q8x9m => exact fun _ _ _ h => h
            case y8x9m => (refine Or.inl ⟨rfl, ?_⟩; intro wq hq; obtain q0 := hq; go_simp; try with_reducible rfl)
            simp only [Act.put, List.setIfInBounds_toArray, List.set_cons_zero, List.set_cons_succ]
            refine wpAnyH_take (i := 9) (oi := ?p9x10m) (v := ?v9x10m) ?o9x10m (by kernel_rfl) (by kernel_rfl) (by kernel_rfl) ?q9x10m ?y9x10m hHeld ?r9x10m
            case o9x10m => (simp only [List.getElem?_toArray, List.getElem?_cons_succ, List.getElem?_cons_zero]; try rfl)
            case q9x10m => exact fun _ _ _ h => h
            case y9x10m => (refine Or.inl ⟨rfl, ?_⟩; intro wq hq; obtain q0 := hq; go_simp; try with_reducible rfl)
            simp only [Act.put, List.setIfInBounds_toArray, List.set_cons_zero, List.set_cons_succ]
            refine wpAnyH_take (i := 10) (oi := ?p10x11m) (v := ?v10x11m) ?o10x11m (by kernel_rfl) (by kernel_rfl) (by kernel_rfl) ?q10x11m ?y10x11m hHeld ?r10x11m
            case o10x11m => (simp only [List.getElem?_toArray, List.getElem?_cons_succ, List.getElem?_cons_zero]; try rfl)
            case q10x11m => exact fun _ _ _ h => h
            case y10x11m => (refine Or.inl ⟨rfl, ?_⟩; intro wq hq; obtain q0 := hq; go_simp; try with_reducible rfl)
            simp only [Act.put, List.setIfInBounds_toArray, List.set_cons_zero, List.set_cons_succ]
            refine wpAnyH_done (by kernel_rfl) ?_ _
            have HBQ : Hid (Below W1.heap.size W1 w9) := bel_up HBL.out (bel_up (bel_up HBD.out HA.out (Nat.le_refl _)) HBw9.out (Nat.le_refl _)) (Nat.le_refl _)
            obtain ⟨wq0, hwq0⟩ : ∃ wq0, w9 = wq0 := ⟨_, rfl⟩
            rw [hwq0] at HBQ ⊢
            rw [HSUM.out]
            clear hwq0 HBL HBD HCV HSUM hx1 hx2 hint 
            go_wp2
            go_loopw [7, 4] (fun i sv wq => ∃ j : Nat, j ≤ (T c).length ∧ i = .int .i64 j ∧ sv = .string (ofL (Rp.spre T c ++ Rp.hd c (T c).length ++ Rp.encL ((T c).take j))) ∧ Below W1.heap.size W1 wq) (fun i sv _ => (T c).length - (intOf i).toNat)
            case atStart => exact ⟨0, Nat.zero_le _, rfl, by simp [Rp.encL], HBQ.out⟩
            case round =>
              obtain ⟨j, hj, rfl, rfl, hbq⟩ := hrel
              by_cases hjl : j < (T c).length
              · obtain ⟨g0, off, rfl, q0, q1, q2⟩ := (HXA.out.keep hbq).at'.getC j hjl
                have hmem := List.getElem_mem hjl
                have hidb := HOC.out.ids _ hmem
                have hrpb := HOC.out.rep _ hmem
                have hint := fun W => refInt_any (T c)[j].id W (by omega)
                have htxt := fun W => refText_any (T c)[j].reply W (by omega)
                have hcl5 := Rp.encC_len (T c)[j] hidb hrpb
                have hel := Rp.encL_len HOC.out j
                have hhl := Rp.hd_len c (T c).length (by omega)
                have hsl := Rp.spre_len HOK.out c (by omega)
                have HES := Hid_of (Rp.encL_step (T c) j hjl)
                have hz1 : (ofL (Rp.spre T c ++ Rp.hd c (T c).length ++ Rp.encL ((T c).take j))).size ≤ 20000000 := by rw [ofL_size]; simp only [List.length_append]; omega
                have heE := M.enc_ten (T c)[j].id (by omega)
                have hz2 : (ofL (M.enc (T c)[j].id)).size ≤ 10 := by rw [ofL_size]; exact heE
                have hji : (j : Int) < ((T c).length : Int) := by omega
                have HBQ2 := Hid_of hbq
                clear hbq hmem
                cases hbu : (T c)[j].busy with
                | true =>
                  have HSUM : Hid (ofL (Rp.spre T c ++ Rp.hd c (T c).length ++ Rp.encL ((T c).take j)) ++ ofL (M.enc (T c)[j].id) ++ ⟨#[1]⟩ = ofL (Rp.spre T c ++ Rp.hd c (T c).length ++ Rp.encL ((T c).take (j + 1)))) := Hid_of (by
                    rw [HES.out]
                    unfold Rp.encC
                    rw [hbu, show (⟨#[1]⟩ : ByteArray) = ofL [1] from rfl, ofL_app, ofL_app]
                    simp)
                  rw [hbu] at q1
                  generalize ofL (Rp.spre T c ++ Rp.hd c (T c).length ++ Rp.encL ((T c).take j)) = sA at *
                  generalize ofL (M.enc (T c)[j].id) = sE at *
                  generalize (T c)[j].id = x0 at *
                  generalize (T c)[j].reply = x2 at *
                  have hx1 : (9223372036854775807 < sA.size + sE.size) = False := by simp; omega
                  have hx2 : (9223372036854775807 < sA.size + sE.size + 1) = False := by simp; omega
                  clear hbu hz1 hz2 htxt
                  go_wp2_with fail
                  refine (hint _).mono ?_
                  rintro e w9 ⟨rfl, hb9⟩
                  have HB9 : Hid (Below W1.heap.size W1 w9) := bel_up HBQ2.out hb9 (Nat.le_refl _)
                  have r1 := (hb9.cell (p := ⟨g0, off + j * 3 + 1, none⟩) (World.block_lt_of_cell? wr _ q1)).trans q1
                  clear hint hb9 HBQ2 q0 q1 q2
                  go_wp2
                  rw [HSUM.out]
                  go_roundw
                  case rel => exact ⟨j + 1, by omega, by go_num, rfl, HB9.out⟩
                  case measure => simp [intOf]; omega
                | false =>
                  have hel2 := enc_nat (T c)[j].reply.length (by omega)
                  have hz3 : (ofL (M.encT (T c)[j].reply)).size ≤ 5000 := by rw [ofL_size]; unfold M.encT; rw [List.length_append]; omega
                  have HSUM : Hid (ofL (Rp.spre T c ++ Rp.hd c (T c).length ++ Rp.encL ((T c).take j)) ++ ofL (M.enc (T c)[j].id) ++ (⟨#[0]⟩ ++ ofL (M.encT (T c)[j].reply)) = ofL (Rp.spre T c ++ Rp.hd c (T c).length ++ Rp.encL ((T c).take (j + 1)))) := Hid_of (by
                    rw [HES.out]
                    unfold Rp.encC
                    rw [hbu, show (⟨#[0]⟩ : ByteArray) = ofL [0] from rfl, ofL_app, ofL_app, ofL_app]
                    simp)
                  rw [hbu] at q1
                  generalize ofL (Rp.spre T c ++ Rp.hd c (T c).length ++ Rp.encL ((T c).take j)) = sA at *
                  generalize ofL (M.enc (T c)[j].id) = sE at *
                  generalize ofL (M.encT (T c)[j].reply) = sT at *
                  generalize (T c)[j].id = x0 at *
                  generalize (T c)[j].reply = x2 at *
                  have hx1 : (9223372036854775807 < sA.size + sE.size) = False := by simp; omega
                  have hx2 : (9223372036854775807 < 1 + sT.size) = False := by simp; omega
                  have hx3 : (9223372036854775807 < sA.size + sE.size + (1 + sT.size)) = False := by simp; omega
                  clear hbu hz1 hz2 hz3
                  go_wp2_with fail
                  refine (hint _).mono ?_
                  rintro e w9 ⟨rfl, hb9⟩
                  have HB9 : Hid (Below W1.heap.size W1 w9) := bel_up HBQ2.out hb9 (Nat.le_refl _)
                  have r1 := (hb9.cell (p := ⟨g0, off + j * 3 + 1, none⟩) (World.block_lt_of_cell? wr _ q1)).trans q1
                  have r2 := (hb9.cell (p := ⟨g0, off + j * 3 + 2, none⟩) (World.block_lt_of_cell? wr _ q2)).trans q2
                  clear hint hb9 HBQ2 q0 q1 q2
                  go_wp2_with fail
                  refine (htxt _).mono ?_
                  rintro e w10 ⟨rfl, hb10⟩
                  have HB10 : Hid (Below W1.heap.size W1 w10) := bel_up HB9.out hb10 (Nat.le_refl _)
                  clear htxt hb10 HB9 r1 r2
                  go_wp2
                  rw [HSUM.out]
                  go_roundw
                  case rel => exact ⟨j + 1, by omega, by go_num, rfl, HB10.out⟩
                  case measure => simp [intOf]; omega
              · obtain rfl : j = (T c).length := by omega
                have HREL : Hid (Value.string (ofL (Rp.spre T c ++ Rp.hd c (T c).length ++ Rp.encL ((T c).take (T c).length))) = .string (ofL (Rp.spre T (c + 1))) ∧ Below W1.heap.size W1 wr) := ⟨by rw [HSY.out, List.take_length], hbq⟩
                clear hbq HXA HBQ
                generalize ofL (Rp.spre T c ++ Rp.hd c (T c).length ++ Rp.encL ((T c).take (T c).length)) = sA at *
                generalize hLL : (T c).length = LL at *
                go_wp2
                go_roundw
                case rel => exact ⟨c + 1, by omega, by go_num, by rw [hKN], HREL.out.1, HREL.out.2⟩
                case measure => simp [intOf]; omega
            
          case s7x7m =>
            intro Kk hK
            go_simp
            refine (hint (wd.alloc (.cells #[.int .u8 (c : Int)] 5))).mono ?_
            rintro e w9 ⟨rfl, hb9⟩
            have HBw9 := Hid_of hb9
            clear hb9
            refine hK.out _ _ trivial (fun hHeld => ?_)
            clear hK Kk
            have hcv9 := HCV.out _ _ ((HBw9.out.block _ (by simp)).trans (heap_alloc_last wd (.cells #[.int .u8 (c : Int)] 5)))
            clear hcv
            refine wpAnyH_ready (rs := [4]) (by kernel_rfl) (by simp) ?_
            refine (AllReadyH.cons (o := ?p4x12m) ?o4x12m ?s4x12m AllReadyH.nil)
            case o4x12m => (simp only [List.getElem?_toArray, List.getElem?_cons_succ, List.getElem?_cons_zero]; try rfl)
            intro Kk hK
            go_simp
            refine hK.out _ _ trivial (fun hHeld => ?_)
            clear hK Kk
            refine wpAnyH_take (i := 8) (oi := ?p8x13m) (v := ?v8x13m) ?o8x13m (by kernel_rfl) (by kernel_rfl) (by kernel_rfl) ?q8x13m ?y8x13m hHeld ?r8x13m
            case o8x13m => (simp only [List.getElem?_toArray, List.getElem?_cons_succ, List.getElem?_cons_zero]; try rfl)
            case q8x13m => exact fun _ _ _ h => h
            case y8x13m => (refine Or.inl ⟨rfl, ?_⟩; intro wq hq; obtain q0 := hq; go_simp; try with_reducible rfl)
            simp only [Act.put, List.setIfInBounds_toArray, List.set_cons_zero, List.set_cons_succ]
            refine wpAnyH_take (i := 9) (oi := ?p9x14m) (v := ?v9x14m) ?o9x14m (by kernel_rfl) (by kernel_rfl) (by kernel_rfl) ?q9x14m ?y9x14m hHeld ?r9x14m
            case o9x14m => (simp only [List.getElem?_toArray, List.getElem?_cons_succ, List.getElem?_cons_zero]; try rfl)
            case q9x14m => exact fun _ _ _ h => h
            case y9x14m => (refine Or.inl ⟨rfl, ?_⟩; intro wq hq; obtain q0 := hq; go_simp; try with_reducible rfl)
            simp only [Act.put, List.setIfInBounds_toArray, List.set_cons_zero, List.set_cons_succ]
            refine wpAnyH_take (i := 10) (oi := ?p10x15m) (v := ?v10x15m) ?o10x15m (by kernel_rfl) (by kernel_rfl) (by kernel_rfl) ?q10x15m ?y10x15m hHeld ?r10x15m
            case o10x15m => (simp only [List.getElem?_toArray, List.getElem?_cons_succ, List.getElem?_cons_zero]; try rfl)
            case q10x15m => exact fun _ _ _ h => h
            case y10x15m => (refine Or.inl ⟨rfl, ?_⟩; intro wq hq; obtain q0 := hq; go_simp; try with_reducible rfl)
            simp only [Act.put, List.setIfInBounds_toArray, List.set_cons_zero, List.set_cons_succ]
            refine wpAnyH_done (by kernel_rfl) ?_ _
            have HBQ : Hid (Below W1.heap.size W1 w9) := bel_up HBL.out (bel_up (bel_up HBD.out HA.out (Nat.le_refl _)) HBw9.out (Nat.le_refl _)) (Nat.le_refl _)
            obtain ⟨wq0, hwq0⟩ : ∃ wq0, w9 = wq0 := ⟨_, rfl⟩
            rw [hwq0] at HBQ ⊢
            rw [HSUM.out]
            clear hwq0 HBL HBD HCV HSUM hx1 hx2 hint 
            go_wp2
            go_loopw [7, 4] (fun i sv wq => ∃ j : Nat, j ≤ (T c).length ∧ i = .int .i64 j ∧ sv = .string (ofL (Rp.spre T c ++ Rp.hd c (T c).length ++ Rp.encL ((T c).take j))) ∧ Below W1.heap.size W1 wq) (fun i sv _ => (T c).length - (intOf i).toNat)
            case atStart => exact ⟨0, Nat.zero_le _, rfl, by simp [Rp.encL], HBQ.out⟩
            case round =>
              obtain ⟨j, hj, rfl, rfl, hbq⟩ := hrel
              by_cases hjl : j < (T c).length
              · obtain ⟨g0, off, rfl, q0, q1, q2⟩ := (HXA.out.keep hbq).at'.getC j hjl
                have hmem := List.getElem_mem hjl
                have hidb := HOC.out.ids _ hmem
                have hrpb := HOC.out.rep _ hmem
                have hint := fun W => refInt_any (T c)[j].id W (by omega)
                have htxt := fun W => refText_any (T c)[j].reply W (by omega)
                have hcl5 := Rp.encC_len (T c)[j] hidb hrpb
                have hel := Rp.encL_len HOC.out j
                have hhl := Rp.hd_len c (T c).length (by omega)
                have hsl := Rp.spre_len HOK.out c (by omega)
                have HES := Hid_of (Rp.encL_step (T c) j hjl)
                have hz1 : (ofL (Rp.spre T c ++ Rp.hd c (T c).length ++ Rp.encL ((T c).take j))).size ≤ 20000000 := by rw [ofL_size]; simp only [List.length_append]; omega
                have heE := M.enc_ten (T c)[j].id (by omega)
                have hz2 : (ofL (M.enc (T c)[j].id)).size ≤ 10 := by rw [ofL_size]; exact heE
                have hji : (j : Int) < ((T c).length : Int) := by omega
                have HBQ2 := Hid_of hbq
                clear hbq hmem
                cases hbu : (T c)[j].busy with
                | true =>
                  have HSUM : Hid (ofL (Rp.spre T c ++ Rp.hd c (T c).length ++ Rp.encL ((T c).take j)) ++ ofL (M.enc (T c)[j].id) ++ ⟨#[1]⟩ = ofL (Rp.spre T c ++ Rp.hd c (T c).length ++ Rp.encL ((T c).take (j + 1)))) := Hid_of (by
                    rw [HES.out]
                    unfold Rp.encC
                    rw [hbu, show (⟨#[1]⟩ : ByteArray) = ofL [1] from rfl, ofL_app, ofL_app]
                    simp)
                  rw [hbu] at q1
                  generalize ofL (Rp.spre T c ++ Rp.hd c (T c).length ++ Rp.encL ((T c).take j)) = sA at *
                  generalize ofL (M.enc (T c)[j].id) = sE at *
                  generalize (T c)[j].id = x0 at *
                  generalize (T c)[j].reply = x2 at *
                  have hx1 : (9223372036854775807 < sA.size + sE.size) = False := by simp; omega
                  have hx2 : (9223372036854775807 < sA.size + sE.size + 1) = False := by simp; omega
                  clear hbu hz1 hz2 htxt
                  go_wp2_with fail
                  refine (hint _).mono ?_
                  rintro e w9 ⟨rfl, hb9⟩
                  have HB9 : Hid (Below W1.heap.size W1 w9) := bel_up HBQ2.out hb9 (Nat.le_refl _)
                  have r1 := (hb9.cell (p := ⟨g0, off + j * 3 + 1, none⟩) (World.block_lt_of_cell? wr _ q1)).trans q1
                  clear hint hb9 HBQ2 q0 q1 q2
                  go_wp2
                  rw [HSUM.out]
                  go_roundw
                  case rel => exact ⟨j + 1, by omega, by go_num, rfl, HB9.out⟩
                  case measure => simp [intOf]; omega
                | false =>
                  have hel2 := enc_nat (T c)[j].reply.length (by omega)
                  have hz3 : (ofL (M.encT (T c)[j].reply)).size ≤ 5000 := by rw [ofL_size]; unfold M.encT; rw [List.length_append]; omega
                  have HSUM : Hid (ofL (Rp.spre T c ++ Rp.hd c (T c).length ++ Rp.encL ((T c).take j)) ++ ofL (M.enc (T c)[j].id) ++ (⟨#[0]⟩ ++ ofL (M.encT (T c)[j].reply)) = ofL (Rp.spre T c ++ Rp.hd c (T c).length ++ Rp.encL ((T c).take (j + 1)))) := Hid_of (by
                    rw [HES.out]
                    unfold Rp.encC
                    rw [hbu, show (⟨#[0]⟩ : ByteArray) = ofL [0] from rfl, ofL_app, ofL_app, ofL_app]
                    simp)
                  rw [hbu] at q1
                  generalize ofL (Rp.spre T c ++ Rp.hd c (T c).length ++ Rp.encL ((T c).take j)) = sA at *
                  generalize ofL (M.enc (T c)[j].id) = sE at *
                  generalize ofL (M.encT (T c)[j].reply) = sT at *
                  generalize (T c)[j].id = x0 at *
                  generalize (T c)[j].reply = x2 at *
                  have hx1 : (9223372036854775807 < sA.size + sE.size) = False := by simp; omega
                  have hx2 : (9223372036854775807 < 1 + sT.size) = False := by simp; omega
                  have hx3 : (9223372036854775807 < sA.size + sE.size + (1 + sT.size)) = False := by simp; omega
                  clear hbu hz1 hz2 hz3
                  go_wp2_with fail
                  refine (hint _).mono ?_
                  rintro e w9 ⟨rfl, hb9⟩
                  have HB9 : Hid (Below W1.heap.size W1 w9) := bel_up HBQ2.out hb9 (Nat.le_refl _)
                  have r1 := (hb9.cell (p := ⟨g0, off + j * 3 + 1, none⟩) (World.block_lt_of_cell? wr _ q1)).trans q1
                  have r2 := (hb9.cell (p := ⟨g0, off + j * 3 + 2, none⟩) (World.block_lt_of_cell? wr _ q2)).trans q2
                  clear hint hb9 HBQ2 q0 q1 q2
                  go_wp2_with fail
                  refine (htxt _).mono ?_
                  rintro e w10 ⟨rfl, hb10⟩
                  have HB10 : Hid (Below W1.heap.size W1 w10) := bel_up HB9.out hb10 (Nat.le_refl _)
                  clear htxt hb10 HB9 r1 r2
                  go_wp2
                  rw [HSUM.out]
                  go_roundw
                  case rel => exact ⟨j + 1, by omega, by go_num, rfl, HB10.out⟩
                  case measure => simp [intOf]; omega
              · obtain rfl : j = (T c).length := by omega
                have HREL : Hid (Value.string (ofL (Rp.spre T c ++ Rp.hd c (T c).length ++ Rp.encL ((T c).take (T c).length))) = .string (ofL (Rp.spre T (c + 1))) ∧ Below W1.heap.size W1 wr) := ⟨by rw [HSY.out, List.take_length], hbq⟩
                clear hbq HXA HBQ
                generalize ofL (Rp.spre T c ++ Rp.hd c (T c).length ++ Rp.encL ((T c).take (T c).length)) = sA at *
                generalize hLL : (T c).length = LL at *
                go_wp2
                go_roundw
                case rel => exact ⟨c + 1, by omega, by go_num, by rw [hKN], HREL.out.1, HREL.out.2⟩
                case measure => simp [intOf]; omega
            
        case s7x6m =>
          intro Kk hK
          go_simp
          refine (hint wd).mono ?_
          rintro e w9 ⟨rfl, hb9⟩
          have HBw9 := Hid_of hb9
          clear hb9
          refine hK.out _ _ trivial (fun hHeld => ?_)
          clear hK Kk
          have HA := Hid_of (bel1 w9 (.cells #[.int .u8 (c : Int)] 5))
          have hcv := HCV.out _ _ (heap_alloc_last w9 (.cells #[.int .u8 (c : Int)] 5))
          refine wpAnyH_ready (rs := [3]) (by kernel_rfl) (by simp) ?_
          refine (AllReadyH.cons (o := ?p3x16m) ?o3x16m ?s3x16m AllReadyH.nil)
          case o3x16m => (simp only [List.getElem?_toArray, List.getElem?_cons_succ, List.getElem?_cons_zero]; try rfl)
          intro Kk hK
          go_simp
          refine hK.out _ _ trivial (fun hHeld => ?_)
          clear hK Kk
          refine wpAnyH_ready (rs := [4]) (by kernel_rfl) (by simp) ?_
          refine (AllReadyH.cons (o := ?p4x17m) ?o4x17m ?s4x17m AllReadyH.nil)
          case o4x17m => (simp only [List.getElem?_toArray, List.getElem?_cons_succ, List.getElem?_cons_zero]; try rfl)
          intro Kk hK
          go_simp
          refine hK.out _ _ trivial (fun hHeld => ?_)
          clear hK Kk
          refine wpAnyH_take (i := 8) (oi := ?p8x18m) (v := ?v8x18m) ?o8x18m (by kernel_rfl) (by kernel_rfl) (by kernel_rfl) ?q8x18m ?y8x18m hHeld ?r8x18m
          case o8x18m => (simp only [List.getElem?_toArray, List.getElem?_cons_succ, List.getElem?_cons_zero]; try rfl)
          case q8x18m => exact fun _ _ _ h => h
          case y8x18m => (refine Or.inl ⟨rfl, ?_⟩; intro wq hq; obtain q0 := hq; go_simp; try with_reducible rfl)
          simp only [Act.put, List.setIfInBounds_toArray, List.set_cons_zero, List.set_cons_succ]
          refine wpAnyH_take (i := 9) (oi := ?p9x19m) (v := ?v9x19m) ?o9x19m (by kernel_rfl) (by kernel_rfl) (by kernel_rfl) ?q9x19m ?y9x19m hHeld ?r9x19m
          case o9x19m => (simp only [List.getElem?_toArray, List.getElem?_cons_succ, List.getElem?_cons_zero]; try rfl)
          case q9x19m => exact fun _ _ _ h => h
          case y9x19m => (refine Or.inl ⟨rfl, ?_⟩; intro wq hq; obtain q0 := hq; go_simp; try with_reducible rfl)
          simp only [Act.put, List.setIfInBounds_toArray, List.set_cons_zero, List.set_cons_succ]
          refine wpAnyH_take (i := 10) (oi := ?p10x20m) (v := ?v10x20m) ?o10x20m (by kernel_rfl) (by kernel_rfl) (by kernel_rfl) ?q10x20m ?y10x20m hHeld ?r10x20m
          case o10x20m => (simp only [List.getElem?_toArray, List.getElem?_cons_succ, List.getElem?_cons_zero]; try rfl)
          case q10x20m => exact fun _ _ _ h => h
          case y10x20m => (refine Or.inl ⟨rfl, ?_⟩; intro wq hq; obtain q0 := hq; go_simp; try with_reducible rfl)
          simp only [Act.put, List.setIfInBounds_toArray, List.set_cons_zero, List.set_cons_succ]
          refine wpAnyH_done (by kernel_rfl) ?_ _
          have HBQ : Hid (Below W1.heap.size W1 (w9.alloc (.cells #[.int .u8 (c : Int)] 5))) := bel_up HBL.out (bel_up (bel_up HBD.out HBw9.out (Nat.le_refl _)) HA.out (Nat.le_refl _)) (Nat.le_refl _)
          obtain ⟨wq0, hwq0⟩ : ∃ wq0, (w9.alloc (.cells #[.int .u8 (c : Int)] 5)) = wq0 := ⟨_, rfl⟩
          rw [hwq0] at HBQ ⊢
          rw [HSUM.out]
          clear hwq0 HBL HBD HCV HSUM hx1 hx2 hint 
          go_wp2
          go_loopw [7, 4] (fun i sv wq => ∃ j : Nat, j ≤ (T c).length ∧ i = .int .i64 j ∧ sv = .string (ofL (Rp.spre T c ++ Rp.hd c (T c).length ++ Rp.encL ((T c).take j))) ∧ Below W1.heap.size W1 wq) (fun i sv _ => (T c).length - (intOf i).toNat)
          case atStart => exact ⟨0, Nat.zero_le _, rfl, by simp [Rp.encL], HBQ.out⟩
          case round =>
            obtain ⟨j, hj, rfl, rfl, hbq⟩ := hrel
            by_cases hjl : j < (T c).length
            · obtain ⟨g0, off, rfl, q0, q1, q2⟩ := (HXA.out.keep hbq).at'.getC j hjl
              have hmem := List.getElem_mem hjl
              have hidb := HOC.out.ids _ hmem
              have hrpb := HOC.out.rep _ hmem
              have hint := fun W => refInt_any (T c)[j].id W (by omega)
              have htxt := fun W => refText_any (T c)[j].reply W (by omega)
              have hcl5 := Rp.encC_len (T c)[j] hidb hrpb
              have hel := Rp.encL_len HOC.out j
              have hhl := Rp.hd_len c (T c).length (by omega)
              have hsl := Rp.spre_len HOK.out c (by omega)
              have HES := Hid_of (Rp.encL_step (T c) j hjl)
              have hz1 : (ofL (Rp.spre T c ++ Rp.hd c (T c).length ++ Rp.encL ((T c).take j))).size ≤ 20000000 := by rw [ofL_size]; simp only [List.length_append]; omega
              have heE := M.enc_ten (T c)[j].id (by omega)
              have hz2 : (ofL (M.enc (T c)[j].id)).size ≤ 10 := by rw [ofL_size]; exact heE
              have hji : (j : Int) < ((T c).length : Int) := by omega
              have HBQ2 := Hid_of hbq
              clear hbq hmem
              cases hbu : (T c)[j].busy with
              | true =>
                have HSUM : Hid (ofL (Rp.spre T c ++ Rp.hd c (T c).length ++ Rp.encL ((T c).take j)) ++ ofL (M.enc (T c)[j].id) ++ ⟨#[1]⟩ = ofL (Rp.spre T c ++ Rp.hd c (T c).length ++ Rp.encL ((T c).take (j + 1)))) := Hid_of (by
                  rw [HES.out]
                  unfold Rp.encC
                  rw [hbu, show (⟨#[1]⟩ : ByteArray) = ofL [1] from rfl, ofL_app, ofL_app]
                  simp)
                rw [hbu] at q1
                generalize ofL (Rp.spre T c ++ Rp.hd c (T c).length ++ Rp.encL ((T c).take j)) = sA at *
                generalize ofL (M.enc (T c)[j].id) = sE at *
                generalize (T c)[j].id = x0 at *
                generalize (T c)[j].reply = x2 at *
                have hx1 : (9223372036854775807 < sA.size + sE.size) = False := by simp; omega
                have hx2 : (9223372036854775807 < sA.size + sE.size + 1) = False := by simp; omega
                clear hbu hz1 hz2 htxt
                go_wp2_with fail
                refine (hint _).mono ?_
                rintro e w9 ⟨rfl, hb9⟩
                have HB9 : Hid (Below W1.heap.size W1 w9) := bel_up HBQ2.out hb9 (Nat.le_refl _)
                have r1 := (hb9.cell (p := ⟨g0, off + j * 3 + 1, none⟩) (World.block_lt_of_cell? wr _ q1)).trans q1
                clear hint hb9 HBQ2 q0 q1 q2
                go_wp2
                rw [HSUM.out]
                go_roundw
                case rel => exact ⟨j + 1, by omega, by go_num, rfl, HB9.out⟩
                case measure => simp [intOf]; omega
              | false =>
                have hel2 := enc_nat (T c)[j].reply.length (by omega)
                have hz3 : (ofL (M.encT (T c)[j].reply)).size ≤ 5000 := by rw [ofL_size]; unfold M.encT; rw [List.length_append]; omega
                have HSUM : Hid (ofL (Rp.spre T c ++ Rp.hd c (T c).length ++ Rp.encL ((T c).take j)) ++ ofL (M.enc (T c)[j].id) ++ (⟨#[0]⟩ ++ ofL (M.encT (T c)[j].reply)) = ofL (Rp.spre T c ++ Rp.hd c (T c).length ++ Rp.encL ((T c).take (j + 1)))) := Hid_of (by
                  rw [HES.out]
                  unfold Rp.encC
                  rw [hbu, show (⟨#[0]⟩ : ByteArray) = ofL [0] from rfl, ofL_app, ofL_app, ofL_app]
                  simp)
                rw [hbu] at q1
                generalize ofL (Rp.spre T c ++ Rp.hd c (T c).length ++ Rp.encL ((T c).take j)) = sA at *
                generalize ofL (M.enc (T c)[j].id) = sE at *
                generalize ofL (M.encT (T c)[j].reply) = sT at *
                generalize (T c)[j].id = x0 at *
                generalize (T c)[j].reply = x2 at *
                have hx1 : (9223372036854775807 < sA.size + sE.size) = False := by simp; omega
                have hx2 : (9223372036854775807 < 1 + sT.size) = False := by simp; omega
                have hx3 : (9223372036854775807 < sA.size + sE.size + (1 + sT.size)) = False := by simp; omega
                clear hbu hz1 hz2 hz3
                go_wp2_with fail
                refine (hint _).mono ?_
                rintro e w9 ⟨rfl, hb9⟩
                have HB9 : Hid (Below W1.heap.size W1 w9) := bel_up HBQ2.out hb9 (Nat.le_refl _)
                have r1 := (hb9.cell (p := ⟨g0, off + j * 3 + 1, none⟩) (World.block_lt_of_cell? wr _ q1)).trans q1
                have r2 := (hb9.cell (p := ⟨g0, off + j * 3 + 2, none⟩) (World.block_lt_of_cell? wr _ q2)).trans q2
                clear hint hb9 HBQ2 q0 q1 q2
                go_wp2_with fail
                refine (htxt _).mono ?_
                rintro e w10 ⟨rfl, hb10⟩
                have HB10 : Hid (Below W1.heap.size W1 w10) := bel_up HB9.out hb10 (Nat.le_refl _)
                clear htxt hb10 HB9 r1 r2
                go_wp2
                rw [HSUM.out]
                go_roundw
                case rel => exact ⟨j + 1, by omega, by go_num, rfl, HB10.out⟩
                case measure => simp [intOf]; omega
            · obtain rfl : j = (T c).length := by omega
              have HREL : Hid (Value.string (ofL (Rp.spre T c ++ Rp.hd c (T c).length ++ Rp.encL ((T c).take (T c).length))) = .string (ofL (Rp.spre T (c + 1))) ∧ Below W1.heap.size W1 wr) := ⟨by rw [HSY.out, List.take_length], hbq⟩
              clear hbq HXA HBQ
              generalize ofL (Rp.spre T c ++ Rp.hd c (T c).length ++ Rp.encL ((T c).take (T c).length)) = sA at *
              generalize hLL : (T c).length = LL at *
              go_wp2
              go_roundw
              case rel => exact ⟨c + 1, by omega, by go_num, by rw [hKN], HREL.out.1, HREL.out.2⟩
              case measure => simp [intOf]; omega
          
    · obtain rfl : c = 64 := by omega
      have hint := fun W => refInt_any (((Rp.kpre T 64).length : Nat) : Int) W (by omega)
      have HCV : Hid (∀ W g, W.heap[g]? = some (.cells #[.int .u8 (room : Int)] 5 (0, 0)) → (Go.convert 73 9 (.slice (some ⟨g, 0, none⟩) 1 1)).run Try.prog W = .ok (.string (ofL [UInt8.ofNat (room : Int).toNat])) W) := fun W g hh => conv1 hh (by omega)
      have hw8 : IntKind.u8.wrap (room : Int) = (room : Int) := wrap8 _ (by omega)
      have heL := enc_nat (Rp.kpre T 64).length (by omega)
      have HSUM : Hid (ofL [UInt8.ofNat (room : Int).toNat] ++ ofL (M.enc ((Rp.kpre T 64).length : Nat)) ++ ofL (Rp.spre T 64) = ofL (Rp.txt room T)) := Hid_of (by rw [ofL_app, ofL_app, ← Rp.spre_all]; rfl)
      have hz1 : (ofL [UInt8.ofNat (room : Int).toNat]).size ≤ 1 := by rw [ofL_size]; simp
      have hz2 : (ofL (M.enc ((Rp.kpre T 64).length : Nat))).size ≤ 10 := by rw [ofL_size]; exact heL
      have hz3 : (ofL (Rp.spre T 64)).size ≤ 10000000 := by rw [ofL_size]; exact hsl
      have HBL := Hid_of hbl
      have HC0 : Hid (∀ W, Below wr.heap.size wr W → W.cell? ⟨w.heap.size, 0, none⟩ = some (.int .i64 room)) := fun W hW => by rw [cell_of_row W _ _ _ _ _ (HROW.out W (bel_up hbl hW (Nat.le_refl _))), DA_zero]
      have hc0 := HC0.out wr (Below.refl _ _)
      generalize ofL (Rp.spre T 64) = sA at *
      generalize ofL [UInt8.ofNat (room : Int).toNat] = sB at *
      generalize ofL (M.enc ((Rp.kpre T 64).length : Nat)) = sE at *
      have hx1 : (9223372036854775807 < sB.size + sE.size) = False := by simp; omega
      have hx2 : (9223372036854775807 < sB.size + sE.size + sA.size) = False := by simp; omega
      clear hz1 hz2 hz3 heL hsl hbl HDR HDR0 HOK
      generalize (Rp.kpre T 64).length = kn at *
      go_upto_region 16 with fail
      obtain ⟨wd, hwd⟩ : ∃ wd, wr.drew = wd := ⟨_, rfl⟩
      have bd : Below wr.heap.size wr wd := by rw [← hwd]; exact (Below.refl _ _).drew
      have HBD := Hid_of bd
      refine wp_region_held_drew (S := fun wq => wq.cell? ⟨w.heap.size, 0, none⟩ = some (.int .i64 room)) (by kernel_rfl) hc0 (fun hHeld => ?_)
      rw [hwd] at hHeld ⊢
      clear hwd bd
      refine wpAnyH_take (i := 0) (oi := ?p0x1z) (v := ?v0x1z) ?o0x1z (by kernel_rfl) (by kernel_rfl) (by kernel_rfl) ?q0x1z ?y0x1z hHeld ?r0x1z
      case o0x1z => (simp only [List.getElem?_toArray, List.getElem?_cons_zero]; try rfl)
      case q0x1z => exact fun _ _ _ h => h
      case y0x1z => (refine Or.inl ⟨rfl, ?_⟩; intro wq hq; obtain q0 := hq; go_simp; try with_reducible rfl)
      simp only [Act.put, List.setIfInBounds_toArray, List.set_cons_zero, List.set_cons_succ]
      refine wpAnyH_take (i := 1) (oi := ?p1x2z) (v := ?v1x2z) ?o1x2z (by kernel_rfl) (by kernel_rfl) (by kernel_rfl) ?q1x2z ?y1x2z hHeld ?r1x2z
      case o1x2z => (simp only [List.getElem?_toArray, List.getElem?_cons_succ, List.getElem?_cons_zero]; try rfl)
      case q1x2z => exact fun _ _ _ h => h
      case y1x2z => (refine Or.inl ⟨rfl, ?_⟩; intro wq hq; obtain q0 := hq; go_simp; try with_reducible rfl)
      simp only [Act.put, List.setIfInBounds_toArray, List.set_cons_zero, List.set_cons_succ]
      refine wpAnyH_take (i := 2) (oi := ?p2x3z) (v := ?v2x3z) ?o2x3z (by kernel_rfl) (by kernel_rfl) (by kernel_rfl) ?q2x3z ?y2x3z hHeld ?r2x3z
      case o2x3z => (simp only [List.getElem?_toArray, List.getElem?_cons_succ, List.getElem?_cons_zero]; try rfl)
      case q2x3z => exact fun _ _ _ h => h
      case y2x3z => (refine Or.inl ⟨rfl, ?_⟩; intro wq hq; obtain q0 := hq; go_simp; try with_reducible rfl)
      simp only [Act.put, List.setIfInBounds_toArray, List.set_cons_zero, List.set_cons_succ]
      refine wpAnyH_take (i := 5) (oi := ?p5x4z) (v := ?v5x4z) ?o5x4z (by kernel_rfl) (by kernel_rfl) (by kernel_rfl) ?q5x4z ?y5x4z hHeld ?r5x4z
      case o5x4z => (simp only [List.getElem?_toArray, List.getElem?_cons_succ, List.getElem?_cons_zero]; try rfl)
      case q5x4z => exact fun _ _ _ h => h
      case y5x4z => (refine Or.inl ⟨rfl, ?_⟩; intro wq hq; obtain q0 := hq; go_simp; try with_reducible rfl)
      simp only [Act.put, List.setIfInBounds_toArray, List.set_cons_zero, List.set_cons_succ]
      refine wpAnyH_take (i := 8) (oi := ?p8x5z) (v := ?v8x5z) ?o8x5z (by kernel_rfl) (by kernel_rfl) (by kernel_rfl) ?q8x5z ?y8x5z hHeld ?r8x5z
      case o8x5z => (simp only [List.getElem?_toArray, List.getElem?_cons_succ, List.getElem?_cons_zero]; try rfl)
      case q8x5z => exact fun _ _ _ h => h
      case y8x5z => (refine Or.inl ⟨rfl, ?_⟩; intro wq hq; obtain q0 := hq; go_simp; try with_reducible rfl)
      simp only [Act.put, List.setIfInBounds_toArray, List.set_cons_zero, List.set_cons_succ]
      refine wpAnyH_ready (rs := [3, 6]) (by kernel_rfl) (by simp) ?_
      refine (AllReadyH.cons (o := ?p3x6z) ?o3x6z ?s3x6z (AllReadyH.cons (o := ?p6x6z) ?o6x6z ?s6x6z AllReadyH.nil))
      case o3x6z => (simp only [List.getElem?_toArray, List.getElem?_cons_succ, List.getElem?_cons_zero]; try rfl)
      case o6x6z => (simp only [List.getElem?_toArray, List.getElem?_cons_succ, List.getElem?_cons_zero]; try rfl)
      case s3x6z =>
        have HA := Hid_of (bel1 wd (.cells #[.int .u8 (room : Int)] 5))
        have hcv := HCV.out _ _ (heap_alloc_last wd (.cells #[.int .u8 (room : Int)] 5))
        intro Kk hK
        go_simp
        refine hK.out _ _ (HC0.out _ (bel_up HBD.out HA.out (Nat.le_refl _))) (fun hHeld => ?_)
        clear hK Kk
        refine wpAnyH_ready (rs := [4, 6]) (by kernel_rfl) (by simp) ?_
        refine (AllReadyH.cons (o := ?p4x7z) ?o4x7z ?s4x7z (AllReadyH.cons (o := ?p6x7z) ?o6x7z ?s6x7z AllReadyH.nil))
        case o4x7z => (simp only [List.getElem?_toArray, List.getElem?_cons_succ, List.getElem?_cons_zero]; try rfl)
        case o6x7z => (simp only [List.getElem?_toArray, List.getElem?_cons_succ, List.getElem?_cons_zero]; try rfl)
        case s4x7z =>
          intro Kk hK
          go_simp
          refine hK.out _ _ (HC0.out _ (bel_up HBD.out HA.out (Nat.le_refl _))) (fun hHeld => ?_)
          clear hK Kk
          refine wpAnyH_ready (rs := [6]) (by kernel_rfl) (by simp) ?_
          refine (AllReadyH.cons (o := ?p6x8z) ?o6x8z ?s6x8z AllReadyH.nil)
          case o6x8z => (simp only [List.getElem?_toArray, List.getElem?_cons_succ, List.getElem?_cons_zero]; try rfl)
          intro Kk hK
          go_simp
          refine (hint (wd.alloc (.cells #[.int .u8 (room : Int)] 5))).mono ?_
          rintro e w9 ⟨rfl, hb9⟩
          have HBw9 := Hid_of hb9
          clear hb9
          refine hK.out _ _ (HC0.out _ (bel_up (bel_up HBD.out HA.out (Nat.le_refl _)) HBw9.out (Nat.le_refl _))) (fun hHeld => ?_)
          clear hK Kk
          refine wpAnyH_take (i := 7) (oi := ?p7x9z) (v := ?v7x9z) ?o7x9z (by kernel_rfl) (by kernel_rfl) (by kernel_rfl) ?q7x9z ?y7x9z hHeld ?r7x9z
          case o7x9z => (simp only [List.getElem?_toArray, List.getElem?_cons_succ, List.getElem?_cons_zero]; try rfl)
          case q7x9z => exact fun _ _ _ h => h
          case y7x9z => (refine Or.inl ⟨rfl, ?_⟩; intro wq hq; obtain q0 := hq; go_simp; try with_reducible rfl)
          simp only [Act.put, List.setIfInBounds_toArray, List.set_cons_zero, List.set_cons_succ]
          refine wpAnyH_take (i := 9) (oi := ?p9x10z) (v := ?v9x10z) ?o9x10z (by kernel_rfl) (by kernel_rfl) (by kernel_rfl) ?q9x10z ?y9x10z hHeld ?r9x10z
          case o9x10z => (simp only [List.getElem?_toArray, List.getElem?_cons_succ, List.getElem?_cons_zero]; try rfl)
          case q9x10z => exact fun _ _ _ h => h
          case y9x10z => (refine Or.inl ⟨rfl, ?_⟩; intro wq hq; obtain q0 := hq; go_simp; try with_reducible rfl)
          simp only [Act.put, List.setIfInBounds_toArray, List.set_cons_zero, List.set_cons_succ]
          refine wpAnyH_take (i := 10) (oi := ?p10x11z) (v := ?v10x11z) ?o10x11z (by kernel_rfl) (by kernel_rfl) (by kernel_rfl) ?q10x11z ?y10x11z hHeld ?r10x11z
          case o10x11z => (simp only [List.getElem?_toArray, List.getElem?_cons_succ, List.getElem?_cons_zero]; try rfl)
          case q10x11z => exact fun _ _ _ h => h
          case y10x11z => (refine Or.inl ⟨rfl, ?_⟩; intro wq hq; obtain q0 := hq; go_simp; try with_reducible rfl)
          simp only [Act.put, List.setIfInBounds_toArray, List.set_cons_zero, List.set_cons_succ]
          refine wpAnyH_done (by kernel_rfl) ?_ _
          have HQ : Hid (Below w.heap.size w w9) := bel_up HB1.out (bel_up HBL.out (bel_up (bel_up HBD.out HA.out (Nat.le_refl _)) HBw9.out (Nat.le_refl _)) (Nat.le_refl _)) (Nat.le_refl _)
          rw [HSUM.out]
          clear HCV HSUM hx1 hx2 hint
          go_wp2
          go_ret
          exact ⟨rfl, HQ.out⟩
        case s6x7z =>
          intro Kk hK
          go_simp
          refine (hint (wd.alloc (.cells #[.int .u8 (room : Int)] 5))).mono ?_
          rintro e w9 ⟨rfl, hb9⟩
          have HBw9 := Hid_of hb9
          clear hb9
          refine hK.out _ _ (HC0.out _ (bel_up (bel_up HBD.out HA.out (Nat.le_refl _)) HBw9.out (Nat.le_refl _))) (fun hHeld => ?_)
          clear hK Kk
          have hcv9 := HCV.out _ _ ((HBw9.out.block _ (by simp)).trans (heap_alloc_last wd (.cells #[.int .u8 (room : Int)] 5)))
          clear hcv
          refine wpAnyH_ready (rs := [4]) (by kernel_rfl) (by simp) ?_
          refine (AllReadyH.cons (o := ?p4x12z) ?o4x12z ?s4x12z AllReadyH.nil)
          case o4x12z => (simp only [List.getElem?_toArray, List.getElem?_cons_succ, List.getElem?_cons_zero]; try rfl)
          intro Kk hK
          go_simp
          refine hK.out _ _ (HC0.out _ (bel_up (bel_up HBD.out HA.out (Nat.le_refl _)) HBw9.out (Nat.le_refl _))) (fun hHeld => ?_)
          clear hK Kk
          refine wpAnyH_take (i := 7) (oi := ?p7x13z) (v := ?v7x13z) ?o7x13z (by kernel_rfl) (by kernel_rfl) (by kernel_rfl) ?q7x13z ?y7x13z hHeld ?r7x13z
          case o7x13z => (simp only [List.getElem?_toArray, List.getElem?_cons_succ, List.getElem?_cons_zero]; try rfl)
          case q7x13z => exact fun _ _ _ h => h
          case y7x13z => (refine Or.inl ⟨rfl, ?_⟩; intro wq hq; obtain q0 := hq; go_simp; try with_reducible rfl)
          simp only [Act.put, List.setIfInBounds_toArray, List.set_cons_zero, List.set_cons_succ]
          refine wpAnyH_take (i := 9) (oi := ?p9x14z) (v := ?v9x14z) ?o9x14z (by kernel_rfl) (by kernel_rfl) (by kernel_rfl) ?q9x14z ?y9x14z hHeld ?r9x14z
          case o9x14z => (simp only [List.getElem?_toArray, List.getElem?_cons_succ, List.getElem?_cons_zero]; try rfl)
          case q9x14z => exact fun _ _ _ h => h
          case y9x14z => (refine Or.inl ⟨rfl, ?_⟩; intro wq hq; obtain q0 := hq; go_simp; try with_reducible rfl)
          simp only [Act.put, List.setIfInBounds_toArray, List.set_cons_zero, List.set_cons_succ]
          refine wpAnyH_take (i := 10) (oi := ?p10x15z) (v := ?v10x15z) ?o10x15z (by kernel_rfl) (by kernel_rfl) (by kernel_rfl) ?q10x15z ?y10x15z hHeld ?r10x15z
          case o10x15z => (simp only [List.getElem?_toArray, List.getElem?_cons_succ, List.getElem?_cons_zero]; try rfl)
          case q10x15z => exact fun _ _ _ h => h
          case y10x15z => (refine Or.inl ⟨rfl, ?_⟩; intro wq hq; obtain q0 := hq; go_simp; try with_reducible rfl)
          simp only [Act.put, List.setIfInBounds_toArray, List.set_cons_zero, List.set_cons_succ]
          refine wpAnyH_done (by kernel_rfl) ?_ _
          have HQ : Hid (Below w.heap.size w w9) := bel_up HB1.out (bel_up HBL.out (bel_up (bel_up HBD.out HA.out (Nat.le_refl _)) HBw9.out (Nat.le_refl _)) (Nat.le_refl _)) (Nat.le_refl _)
          rw [HSUM.out]
          clear HCV HSUM hx1 hx2 hint
          go_wp2
          go_ret
          exact ⟨rfl, HQ.out⟩
      case s6x6z =>
        intro Kk hK
        go_simp
        refine (hint wd).mono ?_
        rintro e w9 ⟨rfl, hb9⟩
        have HBw9 := Hid_of hb9
        clear hb9
        refine hK.out _ _ (HC0.out _ (bel_up HBD.out HBw9.out (Nat.le_refl _))) (fun hHeld => ?_)
        clear hK Kk
        have HA := Hid_of (bel1 w9 (.cells #[.int .u8 (room : Int)] 5))
        have hcv := HCV.out _ _ (heap_alloc_last w9 (.cells #[.int .u8 (room : Int)] 5))
        refine wpAnyH_ready (rs := [3]) (by kernel_rfl) (by simp) ?_
        refine (AllReadyH.cons (o := ?p3x16z) ?o3x16z ?s3x16z AllReadyH.nil)
        case o3x16z => (simp only [List.getElem?_toArray, List.getElem?_cons_succ, List.getElem?_cons_zero]; try rfl)
        intro Kk hK
        go_simp
        refine hK.out _ _ (HC0.out _ (bel_up (bel_up HBD.out HBw9.out (Nat.le_refl _)) HA.out (Nat.le_refl _))) (fun hHeld => ?_)
        clear hK Kk
        refine wpAnyH_ready (rs := [4]) (by kernel_rfl) (by simp) ?_
        refine (AllReadyH.cons (o := ?p4x17z) ?o4x17z ?s4x17z AllReadyH.nil)
        case o4x17z => (simp only [List.getElem?_toArray, List.getElem?_cons_succ, List.getElem?_cons_zero]; try rfl)
        intro Kk hK
        go_simp
        refine hK.out _ _ (HC0.out _ (bel_up (bel_up HBD.out HBw9.out (Nat.le_refl _)) HA.out (Nat.le_refl _))) (fun hHeld => ?_)
        clear hK Kk
        refine wpAnyH_take (i := 7) (oi := ?p7x18z) (v := ?v7x18z) ?o7x18z (by kernel_rfl) (by kernel_rfl) (by kernel_rfl) ?q7x18z ?y7x18z hHeld ?r7x18z
        case o7x18z => (simp only [List.getElem?_toArray, List.getElem?_cons_succ, List.getElem?_cons_zero]; try rfl)
        case q7x18z => exact fun _ _ _ h => h
        case y7x18z => (refine Or.inl ⟨rfl, ?_⟩; intro wq hq; obtain q0 := hq; go_simp; try with_reducible rfl)
        simp only [Act.put, List.setIfInBounds_toArray, List.set_cons_zero, List.set_cons_succ]
        refine wpAnyH_take (i := 9) (oi := ?p9x19z) (v := ?v9x19z) ?o9x19z (by kernel_rfl) (by kernel_rfl) (by kernel_rfl) ?q9x19z ?y9x19z hHeld ?r9x19z
        case o9x19z => (simp only [List.getElem?_toArray, List.getElem?_cons_succ, List.getElem?_cons_zero]; try rfl)
        case q9x19z => exact fun _ _ _ h => h
        case y9x19z => (refine Or.inl ⟨rfl, ?_⟩; intro wq hq; obtain q0 := hq; go_simp; try with_reducible rfl)
        simp only [Act.put, List.setIfInBounds_toArray, List.set_cons_zero, List.set_cons_succ]
        refine wpAnyH_take (i := 10) (oi := ?p10x20z) (v := ?v10x20z) ?o10x20z (by kernel_rfl) (by kernel_rfl) (by kernel_rfl) ?q10x20z ?y10x20z hHeld ?r10x20z
        case o10x20z => (simp only [List.getElem?_toArray, List.getElem?_cons_succ, List.getElem?_cons_zero]; try rfl)
        case q10x20z => exact fun _ _ _ h => h
        case y10x20z => (refine Or.inl ⟨rfl, ?_⟩; intro wq hq; obtain q0 := hq; go_simp; try with_reducible rfl)
        simp only [Act.put, List.setIfInBounds_toArray, List.set_cons_zero, List.set_cons_succ]
        refine wpAnyH_done (by kernel_rfl) ?_ _
        have HQ : Hid (Below w.heap.size w (w9.alloc (.cells #[.int .u8 (room : Int)] 5))) := bel_up HB1.out (bel_up HBL.out (bel_up (bel_up HBD.out HBw9.out (Nat.le_refl _)) HA.out (Nat.le_refl _)) (Nat.le_refl _)) (Nat.le_refl _)
        rw [HSUM.out]
        clear HCV HSUM hx1 hx2 hint
        go_wp2
        go_ret
        exact ⟨rfl, HQ.out⟩
end Go.Proofs.Ytjbcchipbdkplaa
