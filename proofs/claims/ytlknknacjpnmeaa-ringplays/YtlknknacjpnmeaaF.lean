/-
  The first text is taken; all of them; rows held against each other; a row that is none.
-/
import Derived.Test.YtlknknacjpnmeaaD
import Derived.Test.YtlknknacjpnmeaaE
namespace Go.Proofs.Ytlknknacjpnmeaa
open Go.RowKit
set_option linter.unusedVariables false

set_option maxHeartbeats 1000000 in
theorem take_any (base b : Nat) (v : Value) (mo : Int) (P : List ByteArray) (w : World) (h : RI w base b v mo P) :
    Calls Try.prog 15 #[.pointer (some ⟨b, 0, none⟩)] w (ChOut w base b v mo (P.drop (M.cut P 1)) (.tuple #[.string (M.peek P 0), .bool (M.has P 0)])) := by
  have hp := peek_any base b v mo P 0 w h
  have hd := fun w1 (hb : Below w.heap.size w w1) => drop_any base b v mo P 1 w1 (h.keep hb)
  have HD := Hid_of hd
  clear hd h
  unfold PkOut at hp
  generalize M.peek P 0 = s at *
  generalize M.has P 0 = x at *
  go_enter Try.func15, Try.ntmps15
  go_wp2_with fail
  refine hp.mono ?_
  rintro e w1 ⟨rfl, hb1⟩
  have hd := HD.out w1 hb1
  have HB1 := Hid_of hb1
  clear hp HD hb1
  go_wp2_with fail
  refine hd.mono ?_
  rintro e w2 ⟨v2, rfl, x2, ch2⟩
  have HK : Hid (ChOut w base b v mo (P.drop (M.cut P 1)) (.tuple #[.string s, .bool x]) (.returned (.tuple #[.string s, .bool x])) w2) := ⟨v2, rfl, x2, (Ch.ofBelow HB1.out).trans ch2⟩
  clear x2 ch2 hd HB1
  go_wp2
  go_ret2
  exact HK.out
def AllOut (w : World) (P : List ByteArray) (e : Ending) (w' : World) : Prop := ∃ u, e = .returned u ∧ OwnT w' w.heap.size u P ∧ Below w.heap.size w w'
theorem peek_at {P : List ByteArray} {k : Nat} (hk : k < P.length) : M.peek P (k : Int) = P[k] ∧ M.has P (k : Int) = true := by
  have h : M.has P (k : Int) = true := by simp [M.has]; omega
  obtain ⟨j, hj, e, hp⟩ := M.has_yes h
  obtain rfl : j = k := by omega
  exact ⟨hp, h⟩
set_option maxRecDepth 100000 in
set_option maxHeartbeats 2000000 in
theorem all_any (base b : Nat) (v : Value) (mo : Int) (P : List ByteArray) (w : World) (h : RI w base b v mo P) : Calls Try.prog 21 #[.pointer (some ⟨b, 0, none⟩)] w (AllOut w P) := by
  have hlen := len_any base b v mo P w h
  have hP : P.length ≤ 64 := by have := h.len; have := h.m.2; omega
  have HX := Hid_of h
  clear h
  go_enter Try.func21, Try.ntmps21
  go_wp2_with fail
  refine hlen.mono ?_
  rintro e w1 ⟨rfl, rfl⟩
  clear hlen
  go_wp2_with fail
  go_loopw [3, 9] (fun x i wr => ∃ k : Nat, k ≤ P.length ∧ i = .int .i64 k ∧ Hid (OwnT wr w1.heap.size x (P.take k)) ∧ Hid (Below w1.heap.size w1 wr)) (fun _ i _ => P.length - (intOf i).toNat)
  case atStart => exact ⟨0, by omega, rfl, OwnT.nil _ _, Below.refl _ _⟩
  case round =>
    obtain ⟨k, hk, rfl, HO, HB⟩ := hrel
    by_cases hlt : k < P.length
    · have hp := peek_any base b v mo P k wr (HX.out.keep HB.out)
      unfold PkOut at hp
      rw [(peek_at hlt).1, (peek_at hlt).2] at hp
      have htl : (P.take k).length = k := by simp; omega
      obtain ⟨ax, cx, rfl, _⟩ := HO.out.at
      rw [htl]
      have HN : Hid (SC (P.take (k + 1)) = SC (P.take k) ++ [.string P[k]] ∧ (P.take (k + 1)).length = k + 1) := by
        refine ⟨?_, by simp; omega⟩
        rw [List.take_succ_eq_append_getElem hlt, SC_app]
        rfl
      have HO' : Hid (wr.ownsRow w1.heap.size 9 1 (.slice ax k cx) k (SC (P.take k))) := by have := HO.out; unfold OwnT at this; rw [htl] at this; exact this
      have hsz := HB.out.size
      have HF : Hid (∀ x w3, w3.ownsRow w1.heap.size 9 1 x (k + 1) (SC (P.take k) ++ [.string P[k]]) → OwnT w3 w1.heap.size x (P.take (k + 1))) := by
        intro x w3 ho
        unfold OwnT
        rw [HN.out.1, HN.out.2]
        exact ho
      clear HO htl HN HX
      generalize SC (P.take k) = xs at *
      generalize P[k] = s at *
      go_wp2_with fail
      refine hp.mono ?_
      rintro e w2 ⟨rfl, hb2⟩
      have HO2 : Hid (w2.ownsRow w1.heap.size 9 1 (.slice ax k cx) k xs) := owns_keepBut HO'.out fun q hq _ => hb2.block q hq
      have HB2 : Hid (Below w1.heap.size w1 w2) := bel_up HB.out hb2 (Nat.le_refl _)
      have hsz2 : w1.heap.size ≤ w2.heap.size := HB2.out.size
      clear hp HB HO' hb2
      go_wp2_with (at_builtin; refine wpList_append_lies _ rfl _ _ 27 rfl w1.heap.size 9 Try.t9 _ 1 16 Try.underlying27 hi9 hz9 hs9 hb9 rfl (by decide) _ _ _ rfl (HO2.out.alloc _) ⟨w2.heap.size, 0, none⟩ 1 1 [.string s] rfl rfl (cell_one _ _ _ _ (heap_alloc_last _ _)) (by simp; rfl) (by decide) (by unfold maxLen; omega) (by omega) (by simp; omega) _ rfl ?_; intro g3 cp w3 hown3 hgrow hat hlt3; have hrw := rw_lies (v := .slice ax k cx) (n := k + 1) (cp := cp) hgrow hat rfl; have HB5 : Hid (Below w1.heap.size w1 w3) := (HB2.out.alloc hsz2 _).trans (hrw.below (fun k hk => (World.ownsRow.lt HO2.out k hk).1) (by simp; omega)); have HO5 := Hid_of (HF.out _ _ hown3); clear hrw hgrow hat hown3)
      go_roundw
      case rel => exact ⟨k + 1, by omega, by go_num, HO5.out, HB5.out⟩
      case measure => simp [intOf]; omega
    · have hkn : k = P.length := by omega
      subst hkn
      have HO2 := HO
      rw [List.take_length] at HO2
      obtain ⟨ax, cx, rfl, _⟩ := HO2.out.at
      have HK : Hid (AllOut w1 P (.returned (.slice ax P.length cx)) wr) := ⟨_, rfl, HO2.out, HB.out⟩
      clear HO HO2 HB
      go_wp2
      go_ret
      exact HK.out
set_option maxRecDepth 100000 in
set_option maxHeartbeats 1000000 in
theorem texts_any (a : Option Addr) (ca : Nat) (b : Option Addr) (cb : Nat) (l : List ByteArray) (w : World) (hl : l.length ≤ 1000000) (ha : AtT w a l) (hb : AtT w b l) :
    Calls Try.prog 20 #[.slice a l.length ca, .slice b l.length cb] w fun e w' => e = .returned (.bool true) ∧ Below w.heap.size w w' := by
  go_enter Try.func20, Try.ntmps20
  go_wp2
  go_loopw [5] (fun i wr => ∃ k : Nat, k ≤ l.length ∧ i = .int .i64 k ∧ Below w.heap.size w wr) (fun i _ => l.length - (intOf i).toNat)
  case atStart => exact ⟨0, by omega, rfl, Below.refl _ _⟩
  case round =>
    obtain ⟨k, hk, rfl, hbel⟩ := hrel
    by_cases hlt : k < l.length
    · obtain ⟨b1, o1, rfl, c1⟩ := (ha.keep hbel) k hlt
      obtain ⟨b2, o2, rfl, c2⟩ := (hb.keep hbel) k hlt
      generalize l[k] = x at *
      have HB : Hid (∀ n, Below w.heap.size w (wr.drewN n)) := fun n => below_drewN hbel n
      clear ha hb hbel
      go_wp2_with fail
      go_quiet (fail)
      go_wp2
      go_roundw
      case rel => exact ⟨k + 1, by omega, by go_num, HB.out _⟩
      case measure => simp [intOf]; omega
    · have hkn : k = l.length := by omega
      subst hkn
      go_wp2
      go_ret
      exact ⟨rfl, hbel⟩
theorem nil_len (w : World) : Calls Try.prog 18 #[.pointer none] w fun e w' => e = .returned (.int .i64 0) ∧ w' = w := by
  go_enter Try.func18, Try.ntmps18
  go_wp2
  go_ret
  exact ⟨rfl, rfl⟩
theorem nil_room (w : World) : Calls Try.prog 19 #[.pointer none] w fun e w' => e = .returned (.int .i64 0) ∧ w' = w := by
  go_enter Try.func19, Try.ntmps19
  go_wp2
  go_ret
  exact ⟨rfl, rfl⟩
set_option maxHeartbeats 1000000 in
theorem nil_peek (i : Int) (w : World) : Calls Try.prog 17 #[.pointer none, .int .i64 i] w fun e w' => e = .returned (.tuple #[.string ByteArray.empty, .bool false]) ∧ w' = w := by
  by_cases hi : i < 0
  · have hd : decide (i < 0) = true := by simpa using hi
    go_enter Try.func17, Try.ntmps17
    go_wp2
    go_ret2
    exact ⟨rfl, rfl⟩
  · have hd : decide (i < 0) = false := by simpa using hi
    have hi' : (0 : Int) ≤ i := by omega
    go_enter Try.func17, Try.ntmps17
    go_wp2_with fail
    refine (nil_len w).mono ?_
    rintro e w1 ⟨rfl, rfl⟩
    go_wp2
    go_ret2
    exact ⟨rfl, rfl⟩
set_option maxHeartbeats 1000000 in
theorem nil_put (s : ByteArray) (w : World) : Calls Try.prog 12 #[.pointer none, .string s] w fun e w' => e = .returned (.bool false) ∧ w' = w := by
  go_enter Try.func12, Try.ntmps12
  go_wp2_with fail
  refine (nil_room w).mono ?_
  rintro e w1 ⟨rfl, rfl⟩
  go_wp2
  go_ret
  exact ⟨rfl, rfl⟩
set_option maxHeartbeats 1000000 in
theorem nil_drop (n : Int) (w : World) : Calls Try.prog 16 #[.pointer none, .int .i64 n] w fun e w' => e = .returned (.int .i64 0) ∧ w' = w := by
  obtain ⟨mx, hmx⟩ : ∃ x, max n 0 = x := ⟨_, rfl⟩
  have hmn : min mx 0 = 0 := by omega
  go_enter Try.func16, Try.ntmps16
  go_wp2_with fail
  refine (nil_len w).mono ?_
  rintro e w1 ⟨rfl, rfl⟩
  go_wp2
  go_ret
  exact ⟨rfl, rfl⟩
set_option maxHeartbeats 1000000 in
theorem nil_all (w : World) : Calls Try.prog 21 #[.pointer none] w fun e w' => e = .returned (.slice none 0 0) ∧ w' = w := by
  go_enter Try.func21, Try.ntmps21
  go_wp2_with fail
  refine (nil_len w).mono ?_
  rintro e w1 ⟨rfl, rfl⟩
  go_wp2
  go_loop [3, 9] (fun x i => x = .slice none 0 0 ∧ i = .int .i64 0) (fun _ _ => 0)
  case atStart => exact ⟨rfl, rfl⟩
  case round =>
    obtain ⟨rfl, rfl⟩ := hrel
    go_wp2
    go_ret
    exact ⟨rfl, rfl⟩
set_option maxHeartbeats 1000000 in
theorem nil_take (w : World) : Calls Try.prog 15 #[.pointer none] w fun e w' => e = .returned (.tuple #[.string ByteArray.empty, .bool false]) ∧ w' = w := by
  go_enter Try.func15, Try.ntmps15
  go_wp2_with fail
  refine (nil_peek 0 w).mono ?_
  rintro e w1 ⟨rfl, rfl⟩
  go_wp2_with fail
  refine (nil_drop 1 _).mono ?_
  rintro e w1 ⟨rfl, rfl⟩
  go_wp2
  go_ret2
  exact ⟨rfl, rfl⟩
end Go.Proofs.Ytlknknacjpnmeaa
