/-
  Open.
-/
import Derived.Test.YticjilpomdahbaaFN
namespace Go.Proofs.Yticjilpomdahbaa
open Go.RowKit
open M (ofL ofL_size ofL_of)
set_option linter.unusedVariables false

theorem LC_none (n : Nat) : ∀ j, j < n * 4 → (LC (List.replicate n none))[j]? = some (if j % 4 = 0 then .bool false else .int .i64 0) := by
  intro j hj
  have := LC_get (List.replicate n none) (j / 4) (j % 4) none (by rw [List.getElem?_replicate, if_pos (by omega)]) (by omega)
  rw [show j / 4 * 4 + j % 4 = j by omega] at this
  rw [this]
  have h4 : j % 4 < 4 := by omega
  generalize j % 4 = r at *
  match r, h4 with
  | 0, _ => rfl
  | 1, _ => rfl
  | 2, _ => rfl
  | 3, _ => rfl
theorem made4 (n : Nat) : (madeCells #[.bool false, .int .i64 0, .int .i64 0, .int .i64 0] (n * 4)).toList = LC (List.replicate n none) := by
  apply List.ext_getElem?
  intro j
  by_cases hj : j < n * 4
  · rw [LC_none n j hj]
    rw [List.getElem?_eq_getElem (by simpa [size_madeCells] using hj)]
    simp only [madeCells, Array.getElem_toList, Array.getElem_map, Array.getElem_range]
    have h4 : j % 4 < 4 := by omega
    have : (#[Value.bool false, .int .i64 0, .int .i64 0, .int .i64 0] : Array Value).size = 4 := rfl
    generalize j % 4 = r at *
    match r, h4 with
    | 0, _ => simp
    | 1, _ => simp
    | 2, _ => simp
    | 3, _ => simp
  · rw [List.getElem?_eq_none (by simp [size_madeCells]; omega), List.getElem?_eq_none (by rw [LC_len, List.length_replicate]; omega)]
theorem lr_of_owns {w : World} {base g n : Nat} {L : List Fr.Sl} (hl : L.length = n) (h : w.ownsRow base 50 4 (.slice (some ⟨g, 0, none⟩) n n) n (LC L)) : LR w g L := by
  rcases h.2 with ⟨h', _⟩ | ⟨g', cap, cur, h', _, hh, _, _, hs, ht⟩
  · cases h'
  · simp only [Value.slice.injEq, Option.some.injEq, Addr.mk.injEq, and_true, true_and] at h'
    obtain ⟨rfl, rfl⟩ := h'
    rw [List.take_of_length_le (by rw [Array.length_toList, hs]; exact Nat.le_refl _)] at ht
    unfold LR
    rw [hh, ← ht]
theorem Try.info50 : (Try.prog.info? 50).map (fun i => (i.zero, i.size, i.bytes)) = some (some (.agg #[.bool false, .int .i64 0, .int .i64 0, .int .i64 0]), 4, 32) := by kernel_rfl
theorem sectors_any {w0 w : World} {d : Nat} {F : Nat → Prop} {n : Nat} {P : List M.Pl} {lost : Bool} (h : DS w0 w d F n P lost) : Calls Try.prog 15 #[.pointer (some ⟨d, 0, none⟩)] w fun e w' => e = .returned (.int .i64 n) ∧ w' = w := by
  obtain ⟨v1, v2, hr⟩ := h.row
  obtain ⟨⟨c0, _, _, _⟩, _⟩ := row4 hr
  clear h hr
  go_enter Try.func15, Try.ntmps15
  go_wp2
  go_ret
  exact ⟨rfl, rfl⟩
/-- The first k slots are known. -/
def fil (L : List Fr.Sl) (k : Nat) : List Fr.Sl := L.take k ++ List.replicate (L.length - k) none
theorem fil_len (L : List Fr.Sl) (k : Nat) (h : k ≤ L.length) : (fil L k).length = L.length := by
  unfold fil
  rw [List.length_append, List.length_take, List.length_replicate]
  omega
theorem fil_zero (L : List Fr.Sl) : fil L 0 = List.replicate L.length none := by simp [fil]
theorem fil_all (L : List Fr.Sl) : fil L L.length = L := by simp [fil]
theorem fil_get (L : List Fr.Sl) (k j : Nat) (x : Fr.Sl) (hx : L[j]? = some x) (hk : k ≤ L.length) (hj : j < k) : (fil L k)[j]? = some x := by
  unfold fil
  rw [List.getElem?_append_left (by rw [List.length_take]; omega), List.getElem?_take, if_pos hj, hx]
theorem fil_at (L : List Fr.Sl) (k : Nat) (hk : k < L.length) : (fil L k)[k]? = some none := by
  unfold fil
  rw [List.getElem?_append_right (by rw [List.length_take]; omega), List.length_take, List.getElem?_replicate, if_pos (by omega)]
theorem fil_set (L : List Fr.Sl) (k : Nat) (x : Fr.Sl) (hx : L[k]? = some x) : (fil L k).set k x = fil L (k + 1) := by
  have hk := lt_of_some hx
  apply List.ext_getElem?
  intro j
  rw [List.getElem?_set, fil_len L k (by omega)]
  by_cases e : k = j
  · subst e
    rw [if_pos rfl, if_pos hk, fil_get L (k + 1) k x hx (by omega) (by omega)]
  · rw [if_neg e]
    rcases Nat.lt_or_ge j k with h | h
    · obtain ⟨y, hy⟩ : ∃ y, L[j]? = some y := ⟨_, List.getElem?_eq_getElem (by omega)⟩
      rw [fil_get L k j y hy (by omega) h, fil_get L (k + 1) j y hy (by omega) (by omega)]
    · unfold fil
      rw [List.getElem?_append_right (by rw [List.length_take]; omega), List.getElem?_append_right (by rw [List.length_take]; omega), List.length_take, List.length_take, List.getElem?_replicate, List.getElem?_replicate]
      by_cases hj : j < L.length
      · rw [if_pos (by omega), if_pos (by omega)]
      · rw [if_neg (by omega), if_neg (by omega)]
theorem fil_none (L : List Fr.Sl) (k : Nat) (hx : L[k]? = some none) : fil L k = fil L (k + 1) := by
  rw [← fil_set L k none hx, Fr.set_none (fil_at L k (lt_of_some hx))]
/-- What Open leaves. -/
def OpOut (w0 w : World) (d : Nat) (F : Nat → Prop) (n : Nat) (P : List M.Pl) (L : List Fr.Sl) (e : Ending) (w' : World) : Prop := ∃ b s, e = .returned (.tuple #[.pointer (some ⟨b, 0, none⟩), .int .i64 0]) ∧ Sto w0 w' b s d F n P L false ∧ (w.heap.size ≤ b ∧ w.heap.size ≤ s) ∧ Below w.heap.size w w'
/-- Half opened. -/
structure HO (w W : World) (b s d : Nat) (L : List Fr.Sl) (k : Nat) : Prop where
  o : FO W b s d (fil L k) false
  low : w.heap.size ≤ b ∧ w.heap.size ≤ s
  bel : Below w.heap.size w W
theorem HO.keep {w W W' : World} {b s d : Nat} {L : List Fr.Sl} {k : Nat} (h : HO w W b s d L k) (hb : Below W.heap.size W W') : HO w W' b s d L k := ⟨h.o.keep hb, h.low, bel_up h.bel hb (Nat.le_refl _)⟩
theorem HO.row {w W : World} {b s d : Nat} {L : List Fr.Sl} {k : Nat} (h : HO w W b s d L k) (hk : k ≤ L.length) : (W.cell? ⟨b, 0, none⟩ = some (.pointer (some ⟨d, 0, none⟩)) ∧ W.cell? ⟨b, 1, none⟩ = some (.slice (some ⟨s, 0, none⟩) L.length L.length) ∧ W.cell? ⟨b, 2, none⟩ = some (.bool false)) := by
  have := (row3f h.o.row).1
  rw [fil_len L k hk] at this
  exact this
theorem HO.set {w W : World} {b s d : Nat} {L : List Fr.Sl} {k : Nat} (h : HO w W b s d L k) (v0 v1 v2 v3 : Value) (x : Fr.Sl) (hx : L[k]? = some x) (hv : SV x = #[v0, v1, v2, v3]) :
    HO w ((((W.setCell ⟨s, k * 4, none⟩ v0).setCell ⟨s, k * 4 + 1, none⟩ v1).setCell ⟨s, k * 4 + 2, none⟩ v2).setCell ⟨s, k * 4 + 3, none⟩ v3) b s d L (k + 1) := by
  have hk := lt_of_some hx
  have hR := h.o.sl.set k (by rw [fil_len L k (by omega)]; exact hk) v0 v1 v2 v3 x hv
  rw [fil_set L k x hx] at hR
  refine ⟨⟨?_, hR, h.o.ne, ?_⟩, h.low, (((h.bel.setCell (p := ⟨s, k * 4, none⟩) h.low.2 _).setCell (p := ⟨s, k * 4 + 1, none⟩) h.low.2 _).setCell (p := ⟨s, k * 4 + 2, none⟩) h.low.2 _).setCell (p := ⟨s, k * 4 + 3, none⟩) h.low.2 _⟩
  · have := h.o.row
    rw [fil_len L k (by omega)] at this
    rw [fil_len L (k + 1) (by omega), heap_setCell_other _ ⟨s, k * 4 + 3, none⟩ b _ h.o.ne, heap_setCell_other _ ⟨s, k * 4 + 2, none⟩ b _ h.o.ne, heap_setCell_other _ ⟨s, k * 4 + 1, none⟩ b _ h.o.ne, heap_setCell_other _ ⟨s, k * 4, none⟩ b _ h.o.ne]
    exact this
  · have := h.o.len
    rw [fil_len L k (by omega)] at this
    rw [fil_len L (k + 1) (by omega)]
    exact this
set_option maxRecDepth 100000 in
set_option maxHeartbeats 1000000 in
theorem open_any {w0 w : World} {d : Nat} {F : Nat → Prop} {n : Nat} {P : List M.Pl} {L : List Fr.Sl} (h : DS w0 w d F n P false) (hg : Fr.Good P L) :
    Calls Try.prog 5 #[.pointer (some ⟨d, 0, none⟩)] w fun e w' => OpOut w0 w d F n P L e w' := by
  obtain ⟨i0, hi, hz0, hz1, hz2⟩ := info_parts Try.info50
  have hln := h.len
  have hn1 := h.n1
  have hgl := hg.len
  have hm1 : L.length ≤ 256 := by omega
  obtain ⟨z, hz⟩ : ∃ z : Nat, n / 9 = z := ⟨_, rfl⟩
  have hmin : min (z : Int) 256 = (L.length : Int) := by omega
  have hq : (n : Int) / 9 = (z : Int) := by omega
  have HG := Hid_of hg
  have HD := Hid_of h
  have hc := sectors_any h
  have HRD : Hid (∀ W k x, Below w.heap.size w W → L[k]? = some x → Calls Try.prog 12 #[.pointer (some ⟨d, 0, none⟩), .int .i64 ((9 * k : Nat) : Int), .int .i64 9] W fun e w' => ∃ t, e = .returned (.tuple #[.string t, .int .i64 0]) ∧ Hid (t.size = 576 ∧ Fr.so t.data.toList = x) ∧ Below W.heap.size W w') := fun W k x hW hx => by
    have hk := lt_of_some hx
    have hr := hg.room k hk
    obtain ⟨e1, e2⟩ := read_in n (9 * k) 9 P (by omega) (by omega)
    have e1 : M.refused n false ((9 * k : Nat) : Int) 9 = 0 := e1
    have e2 : M.rtext n false P ((9 * k : Nat) : Int) 9 = Fr.tx P (9 * k) 9 := e2
    have hd : DS w0 W d F n P false := h.keepBut (fun k hk hF => hW.block k hk) (bel_up h.bel hW (Nat.le_refl _))
    have := hd.read ((9 * k : Nat) : Int) 9 (by omega)
    rw [e1, e2] at this
    obtain ⟨g1, g2⟩ := hg.so hx
    exact this.mono fun e w' h => ⟨_, h.1, ⟨g2, g1⟩, h.2.1⟩
  clear h hg hgl hln
  go_enter Try.func5, Try.ntmps5
  go_wp2_with fail
  go_step3
  go_wp2_with fail
  refine hc.mono ?_
  rintro e w1 ⟨rfl, rfl⟩
  clear hc
  go_wp2_with (at_make; refine wpList_make_full _ rfl (.tmp 17) (.tmp 17) 43 rfl w1.heap.size 50 i0 (.agg #[.bool false, .int .i64 0, .int .i64 0, .int .i64 0]) 4 Try.underlying43 hi hz0 hz1 .i64 .i64 _ _ L.length rfl rfl rfl rfl (by rw [hz2]; omega) (by unfold maxLen; omega) (Nat.le_refl _) ?_; intro w2 ho hg; rw [show (Value.agg #[.bool false, .int .i64 0, .int .i64 0, .int .i64 0]).cells = #[.bool false, .int .i64 0, .int .i64 0, .int .i64 0] from rfl, made4] at ho; have hp2 := lr_of_owns (List.length_replicate) ho; clear ho)
  go_step3
  have hb2 : Below w1.heap.size w1 w2 := (Below.refl _ _).grown hg (Nat.le_refl _) (by simp)
  obtain ⟨W3, hW3⟩ : ∃ W3, w2.alloc (.cells #[.pointer (some ⟨d, 0, none⟩), .slice (some ⟨w1.heap.size, 0, none⟩) L.length L.length, .bool false] 45) = W3 := ⟨_, rfl⟩
  have hb3 : Below w2.heap.size w2 W3 := by rw [← hW3]; exact bel1 w2 _
  have hO : HO w1 W3 w2.heap.size w1.heap.size d L 0 := by
    have hr : W3.heap[w2.heap.size]? = some (.cells #[.pointer (some ⟨d, 0, none⟩), .slice (some ⟨w1.heap.size, 0, none⟩) L.length L.length, .bool false] 45 (0, 0)) := by rw [← hW3]; exact heap_alloc_last w2 _
    have hs : w1.heap.size < w2.heap.size := hp2.lt
    refine ⟨⟨by rw [fil_zero, List.length_replicate]; exact hr, by rw [fil_zero]; exact hp2.keep hb3, by omega, by rw [fil_zero, List.length_replicate]; exact hm1⟩, ⟨by omega, Nat.le_refl _⟩, bel_up hb2 hb3 (Nat.le_refl _)⟩
  obtain ⟨c0, c1, c2⟩ := hO.row (by omega)
  have HW3 := Hid_of hW3
  have HOO := Hid_of hO
  generalize w2.heap.size = b at *
  generalize w1.heap.size = s at c0 c1 c2 HOO HW3 ⊢
  clear hb2 hb3 hO hp2 hg hW3 hi hz0 hz1 hz2 hmin hq
  rw [HW3.out]
  go_wp2
  go_loopw [26] (fun i wr => ∃ k : Nat, k ≤ L.length ∧ i = .int .i64 k ∧ HO w1 wr b s d L k) (fun i _ => L.length - (intOf i).toNat)
  case atStart => exact ⟨0, by omega, rfl, HOO.out⟩
  case round =>
    obtain ⟨k, hk, rfl, hO⟩ := hrel
    clear c0 c1 c2 HOO HW3
    by_cases hlt : k < L.length
    · obtain ⟨x, hx⟩ : ∃ x, L[k]? = some x := ⟨_, List.getElem?_eq_getElem hlt⟩
      have c19 := headAt_any k (by omega) wr
      have c18 := HRD.out wr k x hO.bel hx
      have HX := Hid_of hx
      have HO0 := Hid_of hO
      clear hx hO
      go_wp2_with fail
      refine c19.mono ?_
      rintro e w4 ⟨rfl, rfl⟩
      clear c19
      go_wp2_with fail
      refine c18.mono ?_
      rintro e w5 ⟨t, rfl, HT, hb5⟩
      have HO5 := Hid_of (HO0.out.keep hb5)
      have c20 := slotOf_any t w5 HT.out.1
      rw [HT.out.2] at c20
      clear c18 hb5 HO0
      cases x with
      | none =>
        have c20 : Calls Try.prog 17 #[.string t] w5 fun e w' => e = .returned (.agg #[.bool false, .int .i64 0, .int .i64 0, .int .i64 0]) ∧ Below w5.heap.size w5 w' := c20
        go_wp2_with fail
        refine c20.mono ?_
        rintro e w6 ⟨rfl, hb6⟩
        have HO6 := Hid_of (HO5.out.keep (hb6.trans ((bel1 w6 (.cells #[.bool false, .int .i64 0, .int .i64 0, .int .i64 0] 50)).mono hb6.size)))
        clear c20 hb6 HO5 HT
        go_wp2
        go_roundw
        case rel =>
          refine ⟨k + 1, by omega, by go_num, ?_⟩
          have h6 := HO6.out
          exact ⟨by rw [← fil_none L k HX.out]; exact h6.o, h6.low, h6.bel⟩
        case measure => simp [intOf]; omega
      | some y =>
        obtain ⟨⟨p, q⟩, tt⟩ := y
        have c20 : Calls Try.prog 17 #[.string t] w5 fun e w' => e = .returned (.agg #[.bool true, .int .i64 p, .int .i64 q, .int .i64 tt.size]) ∧ Below w5.heap.size w5 w' := c20
        have HSV : Hid (SV (some ((p, q), tt)) = #[.bool true, .int .i64 p, .int .i64 q, .int .i64 tt.size]) := (rfl : SV (some ((p, q), tt)) = #[.bool true, .int .i64 p, .int .i64 q, .int .i64 tt.size])
        generalize tt.size = m at *
        go_wp2_with fail
        refine c20.mono ?_
        rintro e w6 ⟨rfl, hb6⟩
        obtain ⟨W7, hW7⟩ : ∃ W7, w6.alloc (.cells #[.bool true, .int .i64 p, .int .i64 q, .int .i64 m] 50) = W7 := ⟨_, rfl⟩
        have hb7 : Below w6.heap.size w6 W7 := by rw [← hW7]; exact bel1 w6 _
        have hr7 : W7.heap[w6.heap.size]? = some (.cells #[.bool true, .int .i64 p, .int .i64 q, .int .i64 m] 50 (0, 0)) := by rw [← hW7]; exact heap_alloc_last w6 _
        have HO7 := Hid_of ((HO5.out.keep hb6).keep hb7)
        have HR7 := Hid_of hr7
        have HW7 := Hid_of hW7
        obtain ⟨x0, x1, x2⟩ := HO7.out.row (by omega)
        obtain ⟨⟨r0, r1, r2, r3⟩, _⟩ := row4 hr7
        clear c20 hb6 hb7 hr7 hW7 HO5 HT
        go_upto_region 12 with fail
        rw [HW7.out]
        obtain ⟨B, hB⟩ : ∃ B, w6.heap.size = B := ⟨_, rfl⟩
        rw [hB] at HR7 r0 r1 r2 r3 ⊢
        clear hB HW7
        go_wp2
        go_loopw [51] (fun i wq => ∃ j : Nat, j ≤ k ∧ i = .int .i64 j ∧ Below W7.heap.size W7 wq) (fun i _ => k - (intOf i).toNat)
        case atStart => exact ⟨0, by omega, rfl, Below.refl _ _⟩
        case round =>
          obtain ⟨j, hj, rfl, hbj⟩ := hrel
          clear x0 x1 x2 r0 r1 r2 r3
          have HBJ := Hid_of hbj
          have HOJ := Hid_of (HO7.out.keep hbj)
          have HRJ := Hid_of (bel_row HR7.out hbj)
          obtain ⟨⟨r0, r1, r2, r3⟩, _⟩ := row4 HRJ.out
          clear hbj
          by_cases hjk : j < k
          · obtain ⟨y, hy⟩ : ∃ y, L[j]? = some y := ⟨_, List.getElem?_eq_getElem (by omega)⟩
            have hfy := fil_get L k j y hy (by omega) hjk
            cases y with
            | none =>
              obtain ⟨k0, k1, k2, k3⟩ := HOJ.out.o.sl.none hfy
              have HB8 : Hid (Below W7.heap.size W7 (wr.alloc (.cells #[.bool false, .int .i64 0, .int .i64 0, .int .i64 0] 50))) := bel_up HBJ.out (bel1 wr _) (Nat.le_refl _)
              clear hy hfy
              go_wp2
              go_roundw
              case rel => exact ⟨j + 1, by omega, by go_num, HB8.out⟩
              case measure => simp [intOf]; omega
            | some y' =>
              obtain ⟨⟨p', q'⟩, tt'⟩ := y'
              obtain ⟨k0, k1, k2, k3⟩ := HOJ.out.o.sl.some hfy
              have heq : ∀ W, (binOp .eql 23 (.agg #[.int .i64 p', .int .i64 q']) (.agg #[.int .i64 p, .int .i64 q])).run Try.prog W = .ok (.bool false) W := fun W => by
                rw [eq24]
                have hne : ¬ (p' = p ∧ q' = q) := fun ⟨e1, e2⟩ => by
                  subst e1 e2
                  have := HG.out.once j k _ _ _ hy HX.out
                  omega
                have : (decide ((p' : Int) = p) && decide ((q' : Int) = q)) = false := by
                  simp only [Bool.and_eq_false_iff, decide_eq_false_iff_not]
                  omega
                rw [this]
              generalize tt'.size = m' at *
              have HB8 : Hid (Below W7.heap.size W7 (wr.alloc (.cells #[.bool true, .int .i64 p', .int .i64 q', .int .i64 m'] 50))) := bel_up HBJ.out (bel1 wr _) (Nat.le_refl _)
              have hr8 := bel_row HRJ.out (bel1 wr (.cells #[.bool true, .int .i64 p', .int .i64 q', .int .i64 m'] 50))
              obtain ⟨⟨v0, v1, v2, v3⟩, _⟩ := row4 hr8
              clear hy hfy hr8
              go_wp2
              go_roundw
              case rel => exact ⟨j + 1, by omega, by go_num, HB8.out⟩
              case measure => simp [intOf]; omega
          · obtain ⟨x0, x1, x2⟩ := HOJ.out.row (by omega)
            have hfk := fil_at L k hlt
            obtain ⟨k0, k1, k2, k3⟩ := HOJ.out.o.sl.none hfk
            have g0 := HOJ.out.o.sl.free (k * 4)
            have g1 := HOJ.out.o.sl.free (k * 4 + 1)
            have g2 := HOJ.out.o.sl.free (k * 4 + 2)
            have g3 := HOJ.out.o.sl.free (k * 4 + 3)
            clear hfk
            go_wp2_with fail
            go_region
            all_goals
              go_wp2
              go_roundw
              case rel =>
                refine ⟨k + 1, by omega, by go_num, ?_⟩
                exact (HOJ.out.keep (Below.drew (Below.refl _ _))).set _ _ _ _ _ HX.out HSV.out
              case measure => simp [intOf]; omega
    · obtain rfl : k = L.length := by omega
      have HF : Hid (OpOut w0 w1 d F n P L (.returned (.tuple #[.pointer (some ⟨b, 0, none⟩), .int .i64 0])) wr) := by
        have h1 := hO.o
        rw [fil_all] at h1
        have hD := HD.out
        refine ⟨b, s, rfl, ⟨hD.keepBut (fun k hk hF => hO.bel.block k hk) (bel_up hD.bel hO.bel (Nat.le_refl _)), h1, ⟨fun hF => ?_, fun hF => ?_⟩, Nat.le_trans hD.bel.size hO.low.1, Nat.le_trans hD.bel.size hO.low.2⟩, hO.low, hO.bel⟩
        · have := (hD.own _ hF).2; have := hO.low.1; omega
        · have := (hD.own _ hF).2; have := hO.low.2; omega
      clear hO
      go_wp2
      go_ret2
      exact HF.out
end Go.Proofs.Yticjilpomdahbaa
