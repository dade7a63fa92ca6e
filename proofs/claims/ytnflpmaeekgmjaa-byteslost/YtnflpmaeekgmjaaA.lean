/-
  The calls that only read texts: how many bytes are alike, and whether all are 0, return what the plain functions of the text M say, for every input, and leave memory as it was.
-/
import Derived.Test.YtnflpmaeekgmjaaRows
import Derived.Test.YtnflpmaeekgmjaaM
import Derived.WalkKit
import Derived.WalkSpells
import Derived.WalkLawsBesides
import Derived.Deep.QuietTactic
import Derived.BigQuiet
namespace Go.Proofs.Ytnflpmaeekgmjaa
open Go.RowKit
set_option linter.unusedVariables false

theorem ret_int {k : IntKind} {a b : Int} (h : a = b) : Ending.returned (.int k a) = .returned (.int k b) := by rw [h]
theorem ret_bool {a b : Bool} (h : a = b) : Ending.returned (.bool a) = .returned (.bool b) := by rw [h]
theorem byte_ne {x : UInt8} (h : ((x.toNat : Int) != 0) = true) : x ≠ 0 := by
  rintro rfl
  simp at h
theorem byte_eq {x : UInt8} (h : ((x.toNat : Int) != 0) = false) : x = 0 := by
  have : x.toNat = 0 := by simpa using h
  exact UInt8.toNat_inj.1 (by simpa using this)
theorem byte_eq' {x : UInt8} (h : ¬ ((x.toNat : Int) != 0) = true) : x = 0 := byte_eq (by simpa using h)
theorem bytes_ne {x y : UInt8} (h : ((x.toNat : Int) != (y.toNat : Int)) = true) : x ≠ y := by
  rintro rfl
  simp at h
theorem bytes_eq {x y : UInt8} (h : ((x.toNat : Int) != (y.toNat : Int)) = false) : x = y := by
  have : x.toNat = y.toNat := by
    have : (x.toNat : Int) = (y.toNat : Int) := by simpa using h
    omega
  exact UInt8.toNat_inj.1 this
theorem len_data (s : ByteArray) : s.data.toList.length = s.size := Array.length_toList

theorem zero_stop (s : ByteArray) (k : Nat) (h : k < s.size) (e : ((s[k].toNat : Int) != 0) = true) : M.zero s.data.toList = false :=
  M.zero_hit _ k (by rw [len_data]; exact h) (byte_ne e)
theorem zero_on (s : ByteArray) (k : Nat) (h : k < s.size) (e : ((s[k].toNat : Int) != 0) = false) (hz : M.zero (s.data.toList.take k) = true) : M.zero (s.data.toList.take (k + 1)) = true :=
  M.zero_snoc _ k (by rw [len_data]; exact h) (byte_eq e) hz

set_option maxHeartbeats 400000 in
theorem zero_any (s : ByteArray) (w : World) (hs : s.size ≤ maxLen) :
    Calls Try.prog 16 #[.string s] w fun e w' => e = .returned (.bool (M.zero s.data.toList)) ∧ w' = w := by
  unfold maxLen at hs
  go_enter Try.func16, Try.ntmps16
  go_wp2
  go_loop [6] (fun i => ∃ k : Nat, k ≤ s.size ∧ i = .int .i64 k ∧ M.zero (s.data.toList.take k) = true) (fun i => s.size - (intOf i).toNat)
  case atStart => exact ⟨0, Nat.zero_le _, rfl, rfl⟩
  case round =>
    obtain ⟨k, hk, rfl, hz⟩ := hrel
    have HZ : Hid (M.zero (s.data.toList.take k) = true) := hz
    clear hz
    by_cases hlt : k < s.size
    · cases hb : ((s[k].toNat : Int) != 0)
      · go_wp2
        go_round
        case rel => exact ⟨k + 1, by omega, by go_num, zero_on s k hlt hb HZ.out⟩
        case measure => simp [intOf]; omega
      · go_wp2
        go_ret
        exact ⟨ret_bool (zero_stop s k hlt hb).symm, rfl⟩
    · go_wp2
      go_ret
      have h1 := HZ.out
      rw [List.take_of_length_le (by rw [len_data]; omega)] at h1
      exact ⟨ret_bool h1.symm, rfl⟩

set_option maxHeartbeats 400000 in
theorem refZero_any (s : ByteArray) (w : World) (hs : s.size ≤ maxLen) :
    Calls Try.prog 17 #[.string s] w fun e w' => e = .returned (.bool (M.zero s.data.toList)) ∧ w' = w := by
  unfold maxLen at hs
  go_enter Try.func17, Try.ntmps17
  go_wp2
  go_loop [3] (fun i => ∃ k : Nat, k ≤ s.size ∧ i = .int .i64 k ∧ M.zero (s.data.toList.take k) = true) (fun i => s.size - (intOf i).toNat)
  case atStart => exact ⟨0, Nat.zero_le _, rfl, rfl⟩
  case round =>
    obtain ⟨k, hk, rfl, hz⟩ := hrel
    have HZ : Hid (M.zero (s.data.toList.take k) = true) := hz
    clear hz
    by_cases hlt : k < s.size
    · cases hb : ((s[k].toNat : Int) != 0)
      · go_wp2
        go_round
        case rel => exact ⟨k + 1, by omega, by go_num, zero_on s k hlt hb HZ.out⟩
        case measure => simp [intOf]; omega
      · go_wp2
        go_ret
        exact ⟨ret_bool (zero_stop s k hlt hb).symm, rfl⟩
    · go_wp2
      go_ret
      have h1 := HZ.out
      rw [List.take_of_length_le (by rw [len_data]; omega)] at h1
      exact ⟨ret_bool h1.symm, rfl⟩

theorem same_on (a b : ByteArray) (k : Nat) (ha : k < a.size) (hb : k < b.size) (e : ((a[k].toNat : Int) != (b[k].toNat : Int)) = false) (h : a.data.toList.take k = b.data.toList.take k) :
    a.data.toList.take (k + 1) = b.data.toList.take (k + 1) :=
  M.take_eq_snoc _ _ k (by rw [len_data]; exact ha) (by rw [len_data]; exact hb) h (bytes_eq e)
theorem same_off (a b : ByteArray) (k : Nat) (ha : k < a.size) (hb : k < b.size) (e : ((a[k].toNat : Int) != (b[k].toNat : Int)) = true) (h : a.data.toList.take k = b.data.toList.take k) :
    M.same a.data.toList b.data.toList = k := by
  refine M.same_stop k _ _ (by rw [len_data]; omega) (by rw [len_data]; omega) h (.inr (.inr ?_))
  rw [List.getElem?_eq_getElem (by rw [len_data]; exact ha), List.getElem?_eq_getElem (by rw [len_data]; exact hb)]
  intro he
  exact bytes_ne e (Option.some.inj he)
theorem same_end (a b : ByteArray) (k : Nat) (ha : k ≤ a.size) (hb : k ≤ b.size) (e : ¬ (k < a.size ∧ k < b.size)) (h : a.data.toList.take k = b.data.toList.take k) :
    M.same a.data.toList b.data.toList = k :=
  M.same_stop k _ _ (by rw [len_data]; omega) (by rw [len_data]; omega) h (by rw [len_data, len_data]; omega)

set_option maxHeartbeats 400000 in
theorem same_any (a b : ByteArray) (w : World) (ha : a.size ≤ maxLen) (hb : b.size ≤ maxLen) :
    Calls Try.prog 14 #[.string a, .string b] w fun e w' => e = .returned (.int .i64 (M.same a.data.toList b.data.toList : Nat)) ∧ Below w.heap.size w w' := by
  unfold maxLen at ha hb
  go_enter Try.func14, Try.ntmps14
  go_wp2
  all_goals
    go_loopw [13] (fun i wr => ∃ k : Nat, k ≤ a.size ∧ k ≤ b.size ∧ i = .int .i64 k ∧ a.data.toList.take k = b.data.toList.take k ∧ Below w.heap.size w wr) (fun i _ => a.size - (intOf i).toNat)
    case atStart => exact ⟨0, Nat.zero_le _, Nat.zero_le _, rfl, rfl, Below.refl _ _⟩
    case round =>
      obtain ⟨k, hka, hkb, rfl, hz, hbel⟩ := hrel
      have HZ : Hid (a.data.toList.take k = b.data.toList.take k) := hz
      clear hz
      by_cases hlt : k < a.size ∧ k < b.size
      · obtain ⟨h1, h2⟩ := hlt
        cases hq : ((a[k].toNat : Int) != (b[k].toNat : Int))
        · go_wp2
          go_quiet (fail)
          go_wp2
          go_roundw
          case rel => exact ⟨k + 1, by omega, by omega, by go_num, same_on a b k h1 h2 hq HZ.out, below_drewN hbel _⟩
          case measure => simp [intOf]; omega
        · go_wp2
          go_quiet (fail)
          go_wp2
          go_ret
          exact ⟨ret_int (by rw [same_off a b k h1 h2 hq HZ.out]), below_drewN hbel _⟩
      · go_wp2
        go_ret
        exact ⟨ret_int (by rw [same_end a b k hka hkb hlt HZ.out]; omega), hbel⟩

theorem same_on' (a b : ByteArray) (k : Nat) (ha : k < a.size) (hb : k < b.size) (e : ((a[k].toNat : Int) == (b[k].toNat : Int)) = true) (h : a.data.toList.take k = b.data.toList.take k) :
    a.data.toList.take (k + 1) = b.data.toList.take (k + 1) :=
  same_on a b k ha hb (by rw [bne, e]; rfl) h
theorem same_off' (a b : ByteArray) (k : Nat) (ha : k < a.size) (hb : k < b.size) (e : ((a[k].toNat : Int) == (b[k].toNat : Int)) = false) (h : a.data.toList.take k = b.data.toList.take k) :
    M.same a.data.toList b.data.toList = k :=
  same_off a b k ha hb (by rw [bne, e]; rfl) h

set_option maxHeartbeats 400000 in
theorem refSame_any (a b : ByteArray) (w : World) (ha : a.size ≤ maxLen) (hb : b.size ≤ maxLen) :
    Calls Try.prog 15 #[.string a, .string b] w fun e w' => e = .returned (.int .i64 (M.same a.data.toList b.data.toList : Nat)) ∧ Below w.heap.size w w' := by
  unfold maxLen at ha hb
  go_enter Try.func15, Try.ntmps15
  go_wp2
  go_loopw [5] (fun i wr => ∃ k : Nat, k ≤ a.size ∧ k ≤ b.size ∧ i = .int .i64 k ∧ a.data.toList.take k = b.data.toList.take k ∧ Below w.heap.size w wr) (fun i _ => a.size - (intOf i).toNat)
  case atStart => exact ⟨0, Nat.zero_le _, Nat.zero_le _, rfl, rfl, Below.refl _ _⟩
  case round =>
    obtain ⟨k, hka, hkb, rfl, hz, hbel⟩ := hrel
    have HZ : Hid (a.data.toList.take k = b.data.toList.take k) := hz
    clear hz
    by_cases h1 : k < a.size
    · by_cases h2 : k < b.size
      · cases hq : ((a[k].toNat : Int) == (b[k].toNat : Int))
        · go_wp2
          go_quiet (fail)
          go_wp2
          go_ret
          exact ⟨ret_int (by rw [same_off' a b k h1 h2 hq HZ.out]), below_drewN hbel _⟩
        · go_wp2
          go_quiet (fail)
          go_wp2
          go_roundw
          case rel => exact ⟨k + 1, by omega, by omega, by go_num, same_on' a b k h1 h2 hq HZ.out, below_drewN hbel _⟩
          case measure => simp [intOf]; omega
      · have hd : decide (k < b.size) = false := by simpa using h2
        have hd' : decide ((k : Int) < (b.size : Int)) = false := by simp; omega
        go_wp2
        go_quiet (fail)
        go_wp2
        go_ret
        exact ⟨ret_int (by rw [same_end a b k hka hkb (by omega) HZ.out]), below_drewN hbel _⟩
    · have hd : decide (k < a.size) = false := by simpa using h1
      have hd' : decide ((k : Int) < (a.size : Int)) = false := by simp; omega
      go_wp2
      go_quiet (fail)
      go_wp2
      go_ret
      exact ⟨ret_int (by rw [same_end a b k hka hkb (by omega) HZ.out]), below_drewN hbel _⟩

end Go.Proofs.Ytnflpmaeekgmjaa
