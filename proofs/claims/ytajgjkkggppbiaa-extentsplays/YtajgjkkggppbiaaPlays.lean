/-
  Proved: for every deeds the law ExtentsPlays of the program returns true, and the argument reads as it did.
-/
import Derived.Test.YtajgjkkggppbiaaGA
import Derived.Test.YtajgjkkggppbiaaEA
import Derived.OpenShut
import Derived.Deep.RegionHeld3
namespace Go.Proofs.Ytajgjkkggppbiaa
open Go.ChangeShapes Go.WideShapes Go.ChangeAt Go.RowKit
set_option linter.unusedVariables false
open M (E RX)

set_option maxRecDepth 100000 in
set_option maxHeartbeats 8000000 in
theorem plays_walk (a : Option Addr) (cap : Nat) (l : List Dd) (w : World) (hl : l.length ≤ maxLen) (hd : Dds w a l) (hok : ∀ d ∈ l, d.ok) :
    Calls Try.prog 3 #[.slice a l.length cap] w fun e w' => e = .returned (.bool true) ∧ Below w.heap.size w w' := by
  by_cases h30 : 30 < l.length
  · go_enter Try.func3, Try.ntmps3
    go_wp2_with fail
    refine (awake_any _).mono ?_
    rintro x w1 ⟨rfl, hb⟩
    go_wp2
    go_ret
    exact ⟨rfl, hb⟩
  · have h30' : l.length ≤ 30 := by omega
    have HOKD := Hid_of hok
    clear hok
    go_enter Try.func3, Try.ntmps3
    go_wp2_with fail
    refine (new_any w).mono ?_
    rintro x w1 h
    obtain ⟨b, rfl, hb, hx, B1⟩ := h
    have T1 : TwoB w (w1.alloc (.cells #[.slice none 0 0] 28)) b w1.heap.size (.slice none 0 0) [] none 0 [] := by
      have T0 : Two w w1 b (.slice none 0 0) [] none 0 [] := ⟨hx _, ⟨(fun j h => by simp at h), by simp, by decide, fun _ => rfl⟩, by simp, (fun k hk => by obtain ⟨_, _, h⟩ := hk; cases h), B1, by omega⟩
      refine ⟨T0.step (bel1 w1 _), heap_alloc_last w1 _, M.RX_nil, ?_, by simp [Value.ownBlock], (fun hk => by obtain ⟨_, _, h⟩ := hk; cases h), B1.size⟩
      have := T0.x.lt
      omega
    have HT1 := Hid_of T1
    clear hx B1 hb T1
    generalize hkb : w1.heap.size = kb at *
    go_wp2
    go_loopw [5] (fun i wr => ∃ (k : Nat) (v : Value) (P : List E) (a' : Option Addr) (cap' : Nat) (L : List (Int × Int)), k ≤ l.length ∧ i = .int .i64 k ∧ TwoB w wr b kb v P a' cap' L) (fun i _ => l.length - (intOf i).toNat)
    case atStart => exact ⟨0, _, _, _, _, _, by omega, rfl, HT1.out⟩
    case round =>
      obtain ⟨k, v, P, ay, cy, L, hk, rfl, T⟩ := hrel
      clear HT1
      by_cases hlt : k < l.length
      · have HS : Hid (∀ w', Below wr.heap.size wr w' → ∃ bb off, a = some ⟨bb, off, none⟩ ∧ w'.cell? ⟨kb, 0, none⟩ = some (.slice ay L.length cy) ∧ w'.cell? ⟨bb, off + k * 5, none⟩ = some (.int .i64 l[k].k) ∧ w'.cell? ⟨bb, off + k * 5 + 1, none⟩ = some (.int .i64 l[k].e.a) ∧ w'.cell? ⟨bb, off + k * 5 + 2, none⟩ = some (.int .i64 l[k].e.n) ∧ w'.cell? ⟨bb, off + k * 5 + 3, none⟩ = some (.int .i64 l[k].e.d) ∧ w'.cell? ⟨bb, off + k * 5 + 4, none⟩ = some (.int .i64 l[k].e.f)) := by
          intro w' hb'
          have T' := T.step hb'
          obtain ⟨bb, off, e, c0, c1, c2, c3, c4⟩ := (hd.keep T'.t.bel) k hlt
          exact ⟨bb, off, e, (row1 T'.box).1, c0, c1, c2, c3, c4⟩
        obtain ⟨bb, off, rfl, c0, c1, c2, c3, c4, c5⟩ := HS.out wr (Below.refl _ _)
        have HC : Hid (∀ w', Below wr.heap.size wr w' → Calls Try.prog 9 #[.pointer (some ⟨b, 0, none⟩), .agg #[.slice ay L.length cy], .agg #[.int .i64 l[k].k, .int .i64 l[k].e.a, .int .i64 l[k].e.n, .int .i64 l[k].e.d, .int .i64 l[k].e.f]] w' (DoOut w w' b v P ay L)) := fun w' hb' => do_any w w' b v P ay cy L l[k] (T.step hb').t (fb_of T.rx T.t.x.g) (HOKD.out _ (List.getElem_mem hlt))
        have HT := Hid_of T
        have HS2 : Hid (∀ w', Below wr.heap.size wr w' → w'.cell? ⟨kb, 0, none⟩ = some (.slice ay L.length cy) ∧ w'.cell? ⟨bb, off + k * 5, none⟩ = some (.int .i64 l[k].k) ∧ w'.cell? ⟨bb, off + k * 5 + 1, none⟩ = some (.int .i64 l[k].e.a) ∧ w'.cell? ⟨bb, off + k * 5 + 2, none⟩ = some (.int .i64 l[k].e.n) ∧ w'.cell? ⟨bb, off + k * 5 + 3, none⟩ = some (.int .i64 l[k].e.d) ∧ w'.cell? ⟨bb, off + k * 5 + 4, none⟩ = some (.int .i64 l[k].e.f)) := by
          intro w' hb'
          obtain ⟨bb', off', e, hh⟩ := HS.out w' hb'
          cases e
          exact hh
        have hbbw : bb < wr.heap.size := by
          have := World.block_lt_of_cell? wr _ c1
          exact this
        have HDD : Hid (∀ w', Below w.heap.size w w' → w'.cell? ⟨bb, off + k * 5, none⟩ = some (.int .i64 l[k].k) ∧ w'.cell? ⟨bb, off + k * 5 + 1, none⟩ = some (.int .i64 l[k].e.a) ∧ w'.cell? ⟨bb, off + k * 5 + 2, none⟩ = some (.int .i64 l[k].e.n) ∧ w'.cell? ⟨bb, off + k * 5 + 3, none⟩ = some (.int .i64 l[k].e.d) ∧ w'.cell? ⟨bb, off + k * 5 + 4, none⟩ = some (.int .i64 l[k].e.f)) := by
          intro w' hb'
          obtain ⟨bb', off', e, hh⟩ := (hd.keep hb') k hlt
          cases e
          exact hh
        have hkbw := T.lt
        clear hd HS T
        generalize l[k].k = dk at *
        generalize l[k].e.a = da at *
        generalize l[k].e.n = dn at *
        generalize l[k].e.d = dd at *
        generalize l[k].e.f = df at *
        have HAFT : Hid (∀ w5 w6 x, Below wr.heap.size wr w5 → DoOut w w5 b v P ay L x w6 → ∃ v6 P6 a6 cap6 L6, x = .returned (.tuple #[.agg #[.slice a6 (L6 : List (Int × Int)).length cap6], .bool true]) ∧
            (∀ w', Below w6.heap.size w6 w' → (w'.cell? ⟨kb, 0, none⟩ = some (.slice ay L.length cy) ∧ w'.cell? ⟨bb, off + k * 5, none⟩ = some (.int .i64 dk) ∧ w'.cell? ⟨bb, off + k * 5 + 1, none⟩ = some (.int .i64 da) ∧ w'.cell? ⟨bb, off + k * 5 + 2, none⟩ = some (.int .i64 dn) ∧ w'.cell? ⟨bb, off + k * 5 + 3, none⟩ = some (.int .i64 dd) ∧ w'.cell? ⟨bb, off + k * 5 + 4, none⟩ = some (.int .i64 df)) ∧ w'.frozen? ⟨kb, 0, none⟩ = false ∧ TwoB w (w'.setCell ⟨kb, 0, none⟩ (.slice a6 L6.length cap6)) b kb v6 P6 a6 cap6 L6) ∧
            (wr.heap.size < w5.heap.size → ∀ u, w6.cell? ⟨wr.heap.size, 0, none⟩ = some u → w6.frozen? ⟨wr.heap.size, 0, none⟩ = false → ((w6.setCell ⟨wr.heap.size, 0, none⟩ (.slice a6 L6.length cap6)).cell? ⟨kb, 0, none⟩ = some (.slice ay L.length cy) ∧ (w6.setCell ⟨wr.heap.size, 0, none⟩ (.slice a6 L6.length cap6)).cell? ⟨bb, off + k * 5, none⟩ = some (.int .i64 dk) ∧ (w6.setCell ⟨wr.heap.size, 0, none⟩ (.slice a6 L6.length cap6)).cell? ⟨bb, off + k * 5 + 1, none⟩ = some (.int .i64 da) ∧ (w6.setCell ⟨wr.heap.size, 0, none⟩ (.slice a6 L6.length cap6)).cell? ⟨bb, off + k * 5 + 2, none⟩ = some (.int .i64 dn) ∧ (w6.setCell ⟨wr.heap.size, 0, none⟩ (.slice a6 L6.length cap6)).cell? ⟨bb, off + k * 5 + 3, none⟩ = some (.int .i64 dd) ∧ (w6.setCell ⟨wr.heap.size, 0, none⟩ (.slice a6 L6.length cap6)).cell? ⟨bb, off + k * 5 + 4, none⟩ = some (.int .i64 df)) ∧ (w6.setCell ⟨wr.heap.size, 0, none⟩ (.slice a6 L6.length cap6)).frozen? ⟨kb, 0, none⟩ = false ∧ TwoB w ((w6.setCell ⟨wr.heap.size, 0, none⟩ (.slice a6 L6.length cap6)).setCell ⟨kb, 0, none⟩ (.slice a6 L6.length cap6)) b kb v6 P6 a6 cap6 L6) ∧
            (w5.heap[wr.heap.size]? = some (.cells #[.slice none 0 0] 28 (0, 0)) → w6.cell? ⟨wr.heap.size, 0, none⟩ = some (.slice none 0 0) ∧ w6.frozen? ⟨wr.heap.size, 0, none⟩ = false)) := by
          rintro w5 w6 x hb5 ⟨v6, P6, a6, cap6, L6, bq, rfl, T6, hrx6, C6, ap6⟩
          obtain ⟨hrx, rfl⟩ := hrx6 HT.out.rx
          obtain ⟨n1, n2, n3⟩ := HT.out.next hb5 T6 C6 ap6 hrx
          have hs5 := hb5.size
          refine ⟨v6, P6, a6, cap6, L6, rfl, fun w' hb' => ?_, fun h5 u hu hfu => ?_, fun h5 => ?_⟩
          · have hk6 := (hb'.block kb (Array.getElem?_eq_some_iff.1 n3).1)
            exact ⟨⟨(row1 (hk6.trans n3)).1, HDD.out w' (T6.step hb').bel⟩, (row1 (hk6.trans n3)).2, n2 w' (T6.step hb') hk6⟩
          · have key : ∀ y o z, y ≠ wr.heap.size → w6.cell? ⟨y, o, none⟩ = some z → (w6.setCell ⟨wr.heap.size, 0, none⟩ (.slice a6 L6.length cap6)).cell? ⟨y, o, none⟩ = some z := fun y o z hy h => (World.cell?_of_block (w := w6) (a := ⟨y, o, none⟩) (heap_setCell_other w6 ⟨wr.heap.size, 0, none⟩ y _ hy)).trans h
            obtain ⟨g0, g1, g2, g3, g4⟩ := HDD.out w6 T6.bel
            have hk6 : (w6.setCell ⟨wr.heap.size, 0, none⟩ (.slice a6 L6.length cap6)).heap[kb]? = w6.heap[kb]? := heap_setCell_other w6 ⟨wr.heap.size, 0, none⟩ kb _ (by show kb ≠ wr.heap.size; omega)
            exact ⟨⟨key _ _ _ (by omega) (row1 n3).1, key _ _ _ (by omega) g0, key _ _ _ (by omega) g1, key _ _ _ (by omega) g2, key _ _ _ (by omega) g3, key _ _ _ (by omega) g4⟩, (row1 (hk6.trans n3)).2, n2 _ (n1 _ (Nat.le_refl _) h5) hk6⟩
          · have hlt5 := (Array.getElem?_eq_some_iff.1 h5).1
            exact row1 ((C6.block wr.heap.size hlt5 (by have := HT.out.t.x.lt; omega) (fun e => by have := (HT.out.t.x.own.lt _ e).2; omega)).trans h5)
        go_wp2_with fail
        go_region_held3 (fun wq => wq.cell? ⟨kb, 0, none⟩ = some (.slice ay L.length cy) ∧ wq.cell? ⟨bb, off + k * 5, none⟩ = some (.int .i64 dk) ∧ wq.cell? ⟨bb, off + k * 5 + 1, none⟩ = some (.int .i64 da) ∧ wq.cell? ⟨bb, off + k * 5 + 2, none⟩ = some (.int .i64 dn) ∧ wq.cell? ⟨bb, off + k * 5 + 3, none⟩ = some (.int .i64 dd) ∧ wq.cell? ⟨bb, off + k * 5 + 4, none⟩ = some (.int .i64 df)) (first | exact HS2.out _ (Below.refl _ _) | exact HS2.out _ (Below.drew (Below.refl _ _)) | exact HS2.out _ (Below.alloc (Below.drew (Below.refl _ _)) (Nat.le_refl _) _) | exact (hs6 _ (Below.refl _ _)).1 | exact (hs6 _ (bel1 _ _)).1 | exact (hs6 _ (Below.setCell (bel1 _ _) (Nat.le_refl _) _)).1 | exact hs7.1) (first
          | (go_at_call 9; refine (HC.out (wr.drew) (Below.drew (Below.refl _ _))).mono ?_; rintro x w6 hx6; obtain ⟨v6, P6, a6, cap6, L6, rfl, hs6, hs7', hs8⟩ := HAFT.out _ w6 x (Below.drew (Below.refl _ _)) hx6; clear hs7' hs8 hx6)
          | (go_at_call 9; refine (HC.out _ (Below.alloc (Below.drew (Below.refl _ _)) (Nat.le_refl _) _)).mono ?_; rintro x w6 hx6; obtain ⟨v6, P6, a6, cap6, L6, rfl, hs6, hs7', hs8⟩ := HAFT.out _ w6 x (Below.alloc (Below.drew (Below.refl _ _)) (Nat.le_refl _) _) hx6; obtain ⟨z0, z1⟩ := hs8 (heap_alloc_last _ _); have hs7 := hs7' (by simp) _ z0 z1; clear hs7' hs8 hx6))
        · obtain ⟨W8, HW8⟩ : ∃ W8, Hid (w6.alloc (.cells #[.slice a6 L6.length cap6] 28) = W8) := ⟨_, rfl⟩
          have hz8 : W8.cell? ⟨w6.heap.size, 0, none⟩ = some (.slice a6 L6.length cap6) := by rw [← HW8.out]; exact boxB
          have ha8 := hs6 W8 (by rw [← HW8.out]; exact bel1 _ _)
          rw [HW8.out]
          clear HW8
          obtain ⟨⟨y0, _⟩, y1, TB⟩ := ha8
          obtain ⟨W9, HW9⟩ : ∃ W9, Hid (W8.setCell ⟨kb, 0, none⟩ (.slice a6 L6.length cap6) = W9) := ⟨_, rfl⟩
          rw [HW9.out] at TB
          have HTB := Hid_of TB
          have HS9 : Hid (∀ w', Below W9.heap.size W9 w' → w'.cell? ⟨kb, 0, none⟩ = some (.slice a6 L6.length cap6) ∧ w'.cell? ⟨bb, off + k * 5 + 3, none⟩ = some (.int .i64 dd)) := fun w' hb' => ⟨(row1 (TB.step hb').box).1, (HDD.out w' (TB.step hb').t.bel).2.2.2.1⟩
          have HE1 : Hid (∀ w', Below W9.heap.size W9 w' → Calls Try.prog 10 #[.pointer (some ⟨b, 0, none⟩)] w' fun x w'' => x = .returned (.int .i64 (endP P6)) ∧ Below w'.heap.size w' w'') := fun w' hb' => end_any w.heap.size b v6 P6 w' (TB.step hb').t.x
          have HE2 : Hid (∀ w', Below W9.heap.size W9 w' → Calls Try.prog 11 #[.agg #[.slice a6 L6.length cap6]] w' fun x w'' => x = .returned (.int .i64 (endP P6)) ∧ Below w'.heap.size w' w'') := fun w' hb' => (refEnd_any L6 a6 cap6 w' TB.t.ll (TB.step hb').t.y.at').mono fun x w'' ⟨r, hx, h1, h2, h3⟩ => ⟨by rw [hx, show endP P6 = (r : Int) from M.end_eq TB.rx TB.t.x.g r h1 h2], h3⟩
          have HU1 : Hid (∀ w', Below W9.heap.size W9 w' → Calls Try.prog 12 #[.pointer (some ⟨b, 0, none⟩), .int .i64 dd] w' fun x w'' => x = .returned (.int .i64 (usesP dd P6)) ∧ Below w'.heap.size w' w'') := fun w' hb' => uses_any w.heap.size b v6 P6 dd w' (TB.step hb').t.x
          have HU2 : Hid (∀ w', Below W9.heap.size W9 w' → Calls Try.prog 13 #[.agg #[.slice a6 L6.length cap6], .int .i64 dd] w' fun x w'' => x = .returned (.int .i64 (usesP dd P6)) ∧ Below w'.heap.size w' w'') := fun w' hb' => (refUses_any L6 a6 cap6 dd w' TB.t.ll (TB.step hb').t.y.at').mono fun x w'' ⟨hx, h3⟩ => ⟨by rw [hx, M.uses_eq TB.rx TB.t.x.g dd, uses_sum], h3⟩
          have s9 := HS9.out W9 (Below.refl _ _)
          clear TB hs6 HAFT HC HS2 HDD HT c0 c1 c2 c3 c4 c5
          generalize endP P6 = ee at *
          generalize usesP dd P6 = ue at *
          go_wp2_with fail
          rw [HW9.out]
          clear HW9 y0 y1 hz8
          obtain ⟨s90, s91⟩ := s9
          go_region_held3 (fun wq => wq.cell? ⟨kb, 0, none⟩ = some (.slice a6 L6.length cap6) ∧ wq.cell? ⟨bb, off + k * 5 + 3, none⟩ = some (.int .i64 dd)) (first | exact HS9.out _ (Below.refl _ _) | exact HS9.out _ (Below.drew (Below.refl _ _)) | exact HS9.out _ (by assumption)) (first
            | (go_at_call 10; refine (HE1.out _ (Below.drew (Below.refl _ _))).mono ?_; rintro x w10 ⟨rfl, b10⟩; have B10 : Below W9.heap.size W9 w10 := Below.trans (Below.drew (Below.refl _ _)) b10; clear b10)
            | (go_at_call 11; refine (HE2.out _ B10).mono ?_; rintro x w11 ⟨rfl, b11⟩; have B11 : Below W9.heap.size W9 w11 := bel_up B10 b11 (Nat.le_refl _); clear b11)
            | (go_at_call 12; refine (HU1.out _ B11).mono ?_; rintro x w12 ⟨rfl, b12⟩; have B12 : Below W9.heap.size W9 w12 := bel_up B11 b12 (Nat.le_refl _); clear b12)
            | (go_at_call 13; refine (HU2.out _ B12).mono ?_; rintro x w13 ⟨rfl, b13⟩; have B13 : Below W9.heap.size W9 w13 := bel_up B12 b13 (Nat.le_refl _); clear b13))
          all_goals
            have HTF := Hid_of (HTB.out.step B13)
            clear HE1 HE2 HU1 HU2 HS9 B10 B11 B12 B13 HTB s90 s91
            go_wp2
            go_roundw
            case rel => exact ⟨k + 1, v6, P6, a6, cap6, L6, by omega, by go_num, HTF.out⟩
            case measure => simp [intOf]; omega
        · obtain ⟨W8, HW8⟩ : ∃ W8, Hid (w6.setCell ⟨wr.heap.size, 0, none⟩ (.slice a6 L6.length cap6) = W8) := ⟨_, rfl⟩
          have hz8 : W8.cell? ⟨wr.heap.size, 0, none⟩ = some (.slice a6 L6.length cap6) := by rw [← HW8.out]; exact World.cell?_setCell_same' _ _ _ (by rw [z0]; rfl)
          have ha8 := hs7
          rw [HW8.out] at ha8 ⊢
          clear HW8 hs7 z0 z1
          obtain ⟨⟨y0, _⟩, y1, TB⟩ := ha8
          obtain ⟨W9, HW9⟩ : ∃ W9, Hid (W8.setCell ⟨kb, 0, none⟩ (.slice a6 L6.length cap6) = W9) := ⟨_, rfl⟩
          rw [HW9.out] at TB
          have HTB := Hid_of TB
          have HS9 : Hid (∀ w', Below W9.heap.size W9 w' → w'.cell? ⟨kb, 0, none⟩ = some (.slice a6 L6.length cap6) ∧ w'.cell? ⟨bb, off + k * 5 + 3, none⟩ = some (.int .i64 dd)) := fun w' hb' => ⟨(row1 (TB.step hb').box).1, (HDD.out w' (TB.step hb').t.bel).2.2.2.1⟩
          have HE1 : Hid (∀ w', Below W9.heap.size W9 w' → Calls Try.prog 10 #[.pointer (some ⟨b, 0, none⟩)] w' fun x w'' => x = .returned (.int .i64 (endP P6)) ∧ Below w'.heap.size w' w'') := fun w' hb' => end_any w.heap.size b v6 P6 w' (TB.step hb').t.x
          have HE2 : Hid (∀ w', Below W9.heap.size W9 w' → Calls Try.prog 11 #[.agg #[.slice a6 L6.length cap6]] w' fun x w'' => x = .returned (.int .i64 (endP P6)) ∧ Below w'.heap.size w' w'') := fun w' hb' => (refEnd_any L6 a6 cap6 w' TB.t.ll (TB.step hb').t.y.at').mono fun x w'' ⟨r, hx, h1, h2, h3⟩ => ⟨by rw [hx, show endP P6 = (r : Int) from M.end_eq TB.rx TB.t.x.g r h1 h2], h3⟩
          have HU1 : Hid (∀ w', Below W9.heap.size W9 w' → Calls Try.prog 12 #[.pointer (some ⟨b, 0, none⟩), .int .i64 dd] w' fun x w'' => x = .returned (.int .i64 (usesP dd P6)) ∧ Below w'.heap.size w' w'') := fun w' hb' => uses_any w.heap.size b v6 P6 dd w' (TB.step hb').t.x
          have HU2 : Hid (∀ w', Below W9.heap.size W9 w' → Calls Try.prog 13 #[.agg #[.slice a6 L6.length cap6], .int .i64 dd] w' fun x w'' => x = .returned (.int .i64 (usesP dd P6)) ∧ Below w'.heap.size w' w'') := fun w' hb' => (refUses_any L6 a6 cap6 dd w' TB.t.ll (TB.step hb').t.y.at').mono fun x w'' ⟨hx, h3⟩ => ⟨by rw [hx, M.uses_eq TB.rx TB.t.x.g dd, uses_sum], h3⟩
          have s9 := HS9.out W9 (Below.refl _ _)
          clear TB hs6 HAFT HC HS2 HDD HT c0 c1 c2 c3 c4 c5
          generalize endP P6 = ee at *
          generalize usesP dd P6 = ue at *
          go_wp2_with fail
          rw [HW9.out]
          clear HW9 y0 y1 hz8
          obtain ⟨s90, s91⟩ := s9
          go_region_held3 (fun wq => wq.cell? ⟨kb, 0, none⟩ = some (.slice a6 L6.length cap6) ∧ wq.cell? ⟨bb, off + k * 5 + 3, none⟩ = some (.int .i64 dd)) (first | exact HS9.out _ (Below.refl _ _) | exact HS9.out _ (Below.drew (Below.refl _ _)) | exact HS9.out _ (by assumption)) (first
            | (go_at_call 10; refine (HE1.out _ (Below.drew (Below.refl _ _))).mono ?_; rintro x w10 ⟨rfl, b10⟩; have B10 : Below W9.heap.size W9 w10 := Below.trans (Below.drew (Below.refl _ _)) b10; clear b10)
            | (go_at_call 11; refine (HE2.out _ B10).mono ?_; rintro x w11 ⟨rfl, b11⟩; have B11 : Below W9.heap.size W9 w11 := bel_up B10 b11 (Nat.le_refl _); clear b11)
            | (go_at_call 12; refine (HU1.out _ B11).mono ?_; rintro x w12 ⟨rfl, b12⟩; have B12 : Below W9.heap.size W9 w12 := bel_up B11 b12 (Nat.le_refl _); clear b12)
            | (go_at_call 13; refine (HU2.out _ B12).mono ?_; rintro x w13 ⟨rfl, b13⟩; have B13 : Below W9.heap.size W9 w13 := bel_up B12 b13 (Nat.le_refl _); clear b13))
          all_goals
            have HTF := Hid_of (HTB.out.step B13)
            clear HE1 HE2 HU1 HU2 HS9 B10 B11 B12 B13 HTB s90 s91
            go_wp2
            go_roundw
            case rel => exact ⟨k + 1, v6, P6, a6, cap6, L6, by omega, by go_num, HTF.out⟩
            case measure => simp [intOf]; omega
      · clear hd
        have HT := Hid_of T
        have c0 := (row1 T.box).1
        have HS : Hid (∀ w', Below wr.heap.size wr w' → w'.cell? ⟨kb, 0, none⟩ = some (.slice ay L.length cy)) := fun w' hb' => (row1 (T.step hb').box).1
        have HL : Hid (∀ w', Below wr.heap.size wr w' → Calls Try.prog 15 #[.pointer (some ⟨b, 0, none⟩)] w' fun x w'' => ∃ v', x = .returned v' ∧ Own w'' w'.heap.size v' P ∧ Below w'.heap.size w' w'') := fun w' hb' => all_any w.heap.size b v P w' (T.step hb').t.x
        have HR : Hid (∀ w5, Below wr.heap.size wr w5 → Calls Try.prog 16 #[.agg #[.slice ay L.length cy]] w5 (LookR w5 P)) := by
          intro w5 hb5
          have := refAll_any L ay cy w5 T.t.ll (T.step hb5).t.y.at' (lk_good T.rx T.t.x.g _)
          rw [look_same (c := 0) (n := 16384) T.rx T.t.x.g T.t.x.g (fun i => by
            rw [show wlo 0 16384 = 0 from rfl, show whi 0 16384 16384 = 16384 from rfl]
            by_cases hi : 0 ≤ i ∧ i < 16384
            · rw [if_pos hi]
            · rw [if_neg hi, M.rep_out T.t.x.g i (by omega)])] at this
          exact this
        have hgl := M.G_len T.t.x.g
        clear T
        go_wp2_with fail
        go_region_held3 (fun wq => wq.cell? ⟨kb, 0, none⟩ = some (.slice ay L.length cy)) (first | exact HS.out _ (Below.refl _ _) | exact HS.out _ (Below.drew (Below.refl _ _)) | exact HS.out _ (by assumption)) (first
          | (go_at_call 15; refine (HL.out _ (Below.drew (Below.refl _ _))).mono ?_; rintro x w5 hx5; obtain ⟨v5, rfl, o5, b5⟩ := hx5; have B5 : Below wr.heap.size wr w5 := Below.trans (Below.drew (Below.refl _ _)) b5; have hr5 := HR.out w5 B5; clear b5)
          | (go_at_call 16; refine hr5.mono ?_; rintro x w6 hx6; obtain ⟨v6, rfl, o6, b6⟩ := hx6; have B6 : Below wr.heap.size wr w6 := bel_up B5 b6 (Nat.le_refl _); have o5' := o5.keep b6; obtain ⟨a5, c5, rfl, at5, _, _⟩ := owns_atE o5'; obtain ⟨a6, c6, rfl, at6, _, _⟩ := owns_atE o6; have hsm := same_any a5 c5 a6 c6 P w6 hgl at5 at6; clear b6 o5 o5' o6 at5 at6 hr5)
          | (go_at_call 14; refine hsm.mono ?_; rintro x w7 ⟨rfl, b7⟩; have B7 : Below wr.heap.size wr w7 := bel_up B6 b7 (Nat.le_refl _); clear b7 hsm)
          | (go_at_call 7; refine (awake_any _).mono ?_; rintro x w8 ⟨rfl, b8⟩; have B8 : Below wr.heap.size wr w8 := bel_up B7 b8 (Nat.le_refl _); clear b8))
        all_goals
          have HB := Hid_of (bel_up HT.out.t.bel B8 (Nat.le_refl _))
          clear HS HL HR B5 B6 B7 B8 HT
          go_wp2
          go_ret
          exact ⟨rfl, HB.out⟩

set_option maxRecDepth 100000 in
theorem plays_lifted (os : Os) (started : os.Started) (H : Type) (enc : TypeId × Value → H) :
    ReturnsInHanded {} Try.checked os 3 .any (Rows.extentsPlaysSpec.pre6 enc Try.prog Try.f3 Rows.extentsPlaysRow.domain false) (Rows.extentsPlaysSpec.post enc Try.prog Try.f3 false true false false) := by
  refine returnsInHanded_of_change (C := Try.checked) own started (by kernel_rfl) Try.func3
    (ChangeSpec.witness6 (enc := enc) (C := Try.checked) false ⟨#[], #[.slice none 0 0], []⟩ 8 (by kernel_rfl) (by kernel_rfl) (by kernel_rfl) (by kernel_rfl)) ?_
  intro W base args ds gs before hval0 hW hcnd _
  have hval : ∀ (j : Nat) t v, Try.f3.params[j]? = some t → args[j]? = some v → Value.okWide Try.prog W .any base t v := hval0
  have hW' := hW
  obtain ⟨p, q, hA0, hV, rfl, hfz, hnd⟩ := hW
  have hA : DataW.TrodAll enc Try.prog W 0 (fun _ => true) true Try.f3.params.toList args.toList ds p := hA0
  rw [Try.params3] at hA hval
  obtain ⟨v1, vs1, d1, ds1, p1, q1, hargs, rfl, rfl, h1, r1⟩ := trodAll_cons hA
  obtain ⟨rfl, rfl, rfl⟩ := trodAll_nil r1
  obtain rfl : args = #[v1] := by cases args; simp_all
  obtain ⟨rfl, rfl⟩ := trodVars_none hV
  obtain ⟨a1, len1, cap1, rfl⟩ := okWide_slice Try.underlying22 (hval 0 22 v1 rfl rfl)
  have k1 := h1
  have lt1 : ∀ x ∈ p1, x.block < W.heap.size := by obtain ⟨m, hm⟩ := k1; exact DataW.trod_lt m _ _ _ hm
  obtain ⟨l, hlen, hit, hm, hok⟩ : ∃ l : List Dd, len1 = l.length ∧ Dds W a1 l ∧ l.length ≤ maxLen ∧ ∀ d ∈ l, d.ok := by
    obtain ⟨fuel, hf⟩ := h1
    obtain ⟨a', len', cap', l, hcs, hl, hi, hm, hok⟩ := open_deeds hf
    simp [Value.cells] at hcs
    obtain ⟨rfl, rfl, rfl⟩ := hcs
    exact ⟨l, hl, hi, hm, hok⟩
  clear hA0 hval0
  subst hlen
  refine (plays_walk a1 cap1 l W hm hit hok).mono fun e W' ⟨he, bel⟩ => ?_
  subst he
  exact ⟨_, rfl, _, _, _, [], _, [], hW', trodAll_mk1 (shut_bool Try.underlying4 _), (trodAll_cons_mk (Below.trod laidOut (by kernel_rfl) (of_decide_eq_true (by kernel_rfl)) k1 bel lt1) trodAll_mk0), rfl, bel.frame _, fun h => by cases h⟩

theorem plays_holds : Rows.ExtentsPlaysSaid :=
  OpenClaim.holds_of_wide 3 Try.f3 rfl rfl rfl rfl rfl rfl rfl ⟨rfl, rfl, rfl, rfl, rfl⟩ rfl rfl rfl rfl rfl (by kernel_rfl) Try.func3 (by kernel_rfl)
    (of_decide_eq_true (by kernel_rfl)) (by unfold Func.isWrapper; first | (rw [if_pos (by decide +kernel)]; kernel_rfl) | (rw [if_neg (by decide +kernel)]; exact ⟨rfl, rfl⟩))
    (fun os started H enc _ => plays_lifted os started H enc)
#print axioms plays_holds
end Go.Proofs.Ytajgjkkggppbiaa
