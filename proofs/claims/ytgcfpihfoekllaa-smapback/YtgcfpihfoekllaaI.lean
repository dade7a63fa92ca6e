/-
  The document's reader: a byte, an int, a text: each returns what the plain functions of the text M say, and writes nothing that was there.
-/
import Derived.Test.YtgcfpihfoekllaaH
import Derived.Laws.ResultCell
namespace Go.Proofs.Ytgcfpihfoekllaa
open Go.RowKit
set_option linter.unusedVariables false

/-- The document's reader as a value. -/
def RV (st : Option (List UInt8)) : Value := .agg #[.string (ofL (lft st)), .bool st.isNone]

theorem text_nil (l : List UInt8) (h : l ≠ []) : (ofL l).toList.isEmpty = false := by
  cases l with
  | nil => exact absurd rfl h
  | cons c r =>
    rw [ByteArray.toList_eq]
    simp [ofL]

theorem f79_res : Try.f79.results = #[.cell 2 97] := rfl
theorem Try.size97 : (Try.prog.info? 97).map (·.size) = some 2 := by kernel_rfl
theorem Try.und97 : ∃ fs, Try.prog.underlying 97 = some (.struct fs) := ⟨_, Try.underlying97⟩
set_option maxHeartbeats 400000 in
theorem bad_any (s : ByteArray) (q : Bool) (w : World) :
    Calls Try.prog 79 #[.agg #[.string s, .bool q]] w fun x w' => x = .returned (.agg #[.string { data := #[] }, .bool true]) ∧ w' = (w.alloc (.cells #[.string s, .bool q] 97)).alloc (.cells #[.string { data := #[] }, .bool true] 97) := by
  go_enter Try.func79, Try.ntmps79
  go_wp2
  refine bodyPost_ret (v := .agg #[.string { data := #[] }, .bool true]) ?_ rfl ⟨rfl, rfl⟩
  obtain ⟨fs, hf⟩ := Try.und97
  exact results_cell_row f79_res _ _ (w.heap.size + 1) 97 _ (0, 0) _ rfl (heap_alloc2_new w _ _) hf rfl Try.size97

set_option maxHeartbeats 400000 in
theorem takeByte_any (l : List UInt8) (q : Bool) (w : World) (hl : l.length ≤ 140737488351232) :
    Calls Try.prog 55 #[.agg #[.string (ofL l), .bool q]] w fun x w' => x = .returned (.tuple #[RV (nx (M.byte l)), .int .i64 (vl 0 (M.byte l))]) ∧ Below w.heap.size w w' := by
  cases l with
  | nil =>
    have h0 : ofL [] = { data := #[] } := rfl
    go_enter Try.func55, Try.ntmps55
    go_wp2_with fail
    refine (bad_any _ _ _).mono ?_
    rintro x w1 ⟨rfl, rfl⟩
    go_wp2
    refine bodyPost_ret (v := .tuple #[RV none, .int .i64 0]) ?_ rfl ⟨rfl, ?_⟩
    · rw [results_cell_tmp rfl]
      go_simp
      rfl
    · (repeat' (first | exact Below.refl _ _ | refine Below.drew ?_ | refine Below.alloc ?_ (by simp <;> omega) _))
  | cons c r =>
    have h0 := text_nil (c :: r) (by simp)
    have hz : 1 ≤ (ofL (c :: r)).size := by rw [ofL_size]; simp
    have hz0 : 0 < (ofL (c :: r)).size := by omega
    have hc : (ofL (c :: r))[0].toNat < 256 := c.toNat_lt
    have HX : Hid ((ofL (c :: r)).extract 1 (ofL (c :: r)).size = ofL r) := ofL_drop (c :: r) 1 _ (by rw [ofL_size]; exact Nat.le_refl _)
    go_enter Try.func55, Try.ntmps55
    go_wp2_with fail
    go_region
    all_goals go_wp2
    all_goals refine bodyPost_ret (v := .tuple #[RV (some r), .int .i64 c.toNat]) ?_ rfl ⟨rfl, ?_⟩
    all_goals first
      | (rw [results_cell_tmp rfl]; go_simp; rw [HX.out]; exact ⟨rfl, rfl⟩)
      | (repeat' (first | exact Below.refl _ _ | refine Below.drew ?_ | refine Below.alloc ?_ (by simp <;> omega) _))

theorem and127 (x : Nat) (h : x < 256) : bits .and .u64 (x : Int) 127 = (x : Int) % 128 := by
  have h2 : bits .and .u64 (x : Int) 127 = ((x &&& 127 : Nat) : Int) := u64_and_nat x 127 (by omega) (by decide)
  rw [h2, Nat.and_two_pow_sub_one_eq_mod x 7]
  rfl
theorem sg_odd (u : Nat) (h : u % 2 = 1) : -((u : Int) / 2) - 1 = M.sg u := by rw [M.sg, if_pos h]; omega
theorem sg_even (u : Nat) (h : u % 2 ≠ 1) : ((u : Int) / 2) = M.sg u := by rw [M.sg, if_neg h]; omega
theorem get_ofL (l : List UInt8) (k : Nat) (h : k < l.length) (h2 : k < (ofL l).size) : (ofL l)[k]'h2 = l[k] := rfl

set_option maxRecDepth 100000 in
set_option maxHeartbeats 2000000 in
theorem takeInt_any (l : List UInt8) (q : Bool) (w : World) (hl : l.length ≤ 140737488351232) :
    Calls Try.prog 54 #[.agg #[.string (ofL l), .bool q]] w fun x w' => x = .returned (.tuple #[RV (nx (M.int l)), .int .i64 (vl 0 (M.int l))]) ∧ Below w.heap.size w w' := by
  have HI : Hid (M.int l = (M.rd 10 0 0 l).map fun x => (M.sg x.1, x.2)) := rfl
  have hsz := ofL_size l
  go_enter Try.func54, Try.ntmps54
  go_wp2
  go_loop [4, 5] (fun u i => ∃ (k x : Nat), k ≤ 10 ∧ k ≤ l.length ∧ i = .int .i64 k ∧ u = .int .u64 x ∧ x < 18446744073709551616 ∧ Hid (M.rd (10 - k) k x (l.drop k) = M.rd 10 0 0 l)) (fun _ i => 10 - (intOf i).toNat)
  case atStart => exact ⟨0, 0, by omega, by omega, rfl, rfl, by omega, rfl⟩
  case round =>
    obtain ⟨k, x, hk, hkl, rfl, rfl, hx, hrd⟩ := hrel
    by_cases hlt : k < l.length
    · by_cases hlt2 : k < 10
      · have hk2 : k < (ofL l).size := by omega
        obtain ⟨c, hc⟩ : ∃ c, (ofL l)[k] = c := ⟨_, rfl⟩
        have hdr : l.drop k = c :: l.drop (k + 1) := by rw [← hc]; exact M.drop_cons l k hlt
        rw [hdr] at hrd
        have hc2 : c.toNat < 256 := c.toNat_lt
        have ha := acc_bits x k c.toNat hx
        have h127 := and127 c.toNat hc2
        clear hdr
        by_cases hbad : (k = 9 ∧ 1 < c.toNat) ∨ (0 < k ∧ c.toNat = 0)
        · have HN : Hid (M.int l = none) := by
            show _ = _
            rw [HI.out, ← hrd.out, show 10 - k = (9 - k) + 1 by omega]
            simp only [M.rd]
            by_cases h128 : 128 ≤ c.toNat
            · rw [if_pos h128, show 9 - k = 0 by omega]; rfl
            · rw [if_neg h128, if_pos (by omega)]; rfl
          have d2 : ((k : Int) == 9) = true ∧ decide ((1 : Int) < (c.toNat : Int)) = true ∨ ((k : Int) == 9) = true ∧ decide ((1 : Int) < (c.toNat : Int)) = false ∧ 0 < k ∧ ((c.toNat : Int) == 0) = true ∨ ((k : Int) == 9) = false ∧ 0 < k ∧ ((c.toNat : Int) == 0) = true := by simp; omega
          clear hbad
          rcases d2 with ⟨d1, d2⟩ | ⟨d1, d2, d3, d4⟩ | ⟨d1, d3, d4⟩
          all_goals
            go_wp2_with fail
            refine (bad_any _ _ _).mono ?_
            rintro y w1 ⟨rfl, rfl⟩
            go_wp2
            refine bodyPost_ret (v := .tuple #[RV none, .int .i64 0]) ?_ rfl ⟨by rw [HN.out]; rfl, ?_⟩
            · rw [results_cell_tmp rfl]
              go_simp
              rfl
            · (repeat' (first | exact Below.refl _ _ | refine Below.drew ?_ | refine Below.alloc ?_ (by simp <;> omega) _))
        · have d1 : ((k : Int) == 9) = false ∧ (0 < k) = False ∨ ((k : Int) == 9) = false ∧ 0 < k ∧ ((c.toNat : Int) == 0) = false ∨ ((k : Int) == 9) = true ∧ decide ((1 : Int) < (c.toNat : Int)) = false ∧ 0 < k ∧ ((c.toNat : Int) == 0) = false := by simp; omega
          by_cases h128 : 128 ≤ c.toNat
          · have hd : (c.toNat < 128) = False := by simp; omega
            have hk9 : k < 9 := by omega
            clear hbad
            rcases d1 with ⟨d1, d2⟩ | ⟨d1, d3, d4⟩ | ⟨d1, d2, d3, d4⟩
            all_goals
              go_wp2
              go_round
              case rel =>
                refine ⟨k + 1, M.acc x k c.toNat, by omega, by omega, by go_num, rfl, M.acc_lt _ _ _ hx, ?_⟩
                show _ = _
                rw [← hrd.out, show 10 - k = (10 - (k + 1)) + 1 by omega]
                simp only [M.rd]
                rw [if_pos h128]
              case measure => simp [intOf]; omega
          · have hd : c.toNat < 128 := by omega
            have HN : Hid (M.int l = some (M.sg (M.acc x k c.toNat), l.drop (k + 1))) := by
              show _ = _
              rw [HI.out, ← hrd.out, show 10 - k = (9 - k) + 1 by omega]
              simp only [M.rd]
              rw [if_neg h128, if_neg (by omega)]
              rfl
            obtain ⟨z, hz⟩ : ∃ z : Nat, z = k + 1 := ⟨_, rfl⟩
            have hz' : ((k : Int) + 1) = (z : Int) := by omega
            have hzl : z ≤ (ofL l).size := by omega
            have HX : Hid ((ofL l).extract z l.length = ofL (l.drop (k + 1))) := by rw [hz]; exact ofL_drop l (k + 1) _ (Nat.le_refl _)
            have hal := M.acc_lt x k c.toNat hx
            obtain ⟨u, hu⟩ : ∃ u, M.acc x k c.toNat = u := ⟨_, rfl⟩
            rw [hu] at ha hal HN
            clear hbad hz hu
            have h1 := Lib.u64_and1 (u : Int) (by omega) (by omega)
            by_cases hodd : u % 2 = 1
            · have hp : ((u : Int) % 2) = 1 := by omega
              rw [hp] at h1
              have HS : Hid (_ = _) := sg_odd u hodd
              clear hodd hp
              rcases d1 with ⟨d1, d2⟩ | ⟨d1, d3, d4⟩ | ⟨d1, d2, d3, d4⟩
              all_goals
                go_wp2
                refine bodyPost_ret (v := .tuple #[RV (some (l.drop (k + 1))), .int .i64 (M.sg u)]) ?_ rfl ⟨by rw [HN.out]; rfl, ?_⟩
                · rw [results_cell_tmp rfl]
                  go_simp
                  rw [HX.out]
                  exact ⟨rfl, HS.out⟩
                · (repeat' (first | exact Below.refl _ _ | refine Below.drew ?_ | refine Below.alloc ?_ (by simp <;> omega) _))
            · have hp : ((u : Int) % 2) = 0 := by omega
              rw [hp] at h1
              have HS : Hid (_ = _) := sg_even u hodd
              clear hodd hp
              rcases d1 with ⟨d1, d2⟩ | ⟨d1, d3, d4⟩ | ⟨d1, d2, d3, d4⟩
              all_goals
                go_wp2
                refine bodyPost_ret (v := .tuple #[RV (some (l.drop (k + 1))), .int .i64 (M.sg u)]) ?_ rfl ⟨by rw [HN.out]; rfl, ?_⟩
                · rw [results_cell_tmp rfl]
                  go_simp
                  rw [HX.out]
                  exact ⟨rfl, HS.out⟩
                · (repeat' (first | exact Below.refl _ _ | refine Below.drew ?_ | refine Below.alloc ?_ (by simp <;> omega) _))
      · have hd2 : decide ((k : Int) < 10) = false := by simp; omega
        have HN : Hid (M.int l = none) := by
          show _ = _
          rw [HI.out, ← hrd.out, show 10 - k = 0 by omega]; rfl
        go_wp2_with fail
        refine (bad_any _ _ _).mono ?_
        rintro y w1 ⟨rfl, rfl⟩
        go_wp2
        refine bodyPost_ret (v := .tuple #[RV none, .int .i64 0]) ?_ rfl ⟨by rw [HN.out]; rfl, ?_⟩
        · rw [results_cell_tmp rfl]
          go_simp
          rfl
        · (repeat' (first | exact Below.refl _ _ | refine Below.drew ?_ | refine Below.alloc ?_ (by simp <;> omega) _))
    · have HN : Hid (M.int l = none) := by
        show _ = _
        rw [HI.out, ← hrd.out, List.drop_of_length_le (by omega)]
        cases 10 - k <;> rfl
      go_wp2_with fail
      refine (bad_any _ _ _).mono ?_
      rintro y w1 ⟨rfl, rfl⟩
      go_wp2
      refine bodyPost_ret (v := .tuple #[RV none, .int .i64 0]) ?_ rfl ⟨by rw [HN.out]; rfl, ?_⟩
      · rw [results_cell_tmp rfl]
        go_simp
        rfl
      · (repeat' (first | exact Below.refl _ _ | refine Below.drew ?_ | refine Below.alloc ?_ (by simp <;> omega) _))

end Go.Proofs.Ytgcfpihfoekllaa
