/-
  A bounded row in memory that is new; the chapter's example.
-/
import Derived.Test.YtlknknacjpnmeaaF
namespace Go.Proofs.Ytlknknacjpnmeaa
open Go.RowKit
set_option linter.unusedVariables false

/-- A bounded row in memory that is new since w0. -/
structure TS (w0 w : World) (b : Nat) (v : Value) (mo : Int) (P : List ByteArray) : Prop where
  x : RI w w0.heap.size b v mo P
  bel : Below w0.heap.size w0 w
  b : w0.heap.size ≤ b
theorem TS.step {w0 w w' : World} {b : Nat} {v v' : Value} {mo : Int} {P P' : List ByteArray} (h : TS w0 w b v mo P) (hx : RI w' w0.heap.size b v' mo P') (hc : Ch w b v w' v') : TS w0 w' b v' mo P' :=
  ⟨hx, h.bel.trans (hc.below h.b (fun k e => (h.x.low k e).1) h.bel.size), h.b⟩
theorem TS.keep {w0 w w' : World} {b : Nat} {v : Value} {mo : Int} {P : List ByteArray} (h : TS w0 w b v mo P) (hb : Below w.heap.size w w') : TS w0 w' b v mo P := ⟨h.x.keep hb, bel_up h.bel hb (Nat.le_refl _), h.b⟩
theorem TS.n {w0 w : World} {b : Nat} {v : Value} {mo : Int} {P : List ByteArray} (h : TS w0 w b v mo P) : P.length ≤ 64 ∧ (P.length : Int) ≤ mo ∧ 1 ≤ mo ∧ mo ≤ 64 := by
  have h1 := h.x.len
  have h2 := h.x.m
  omega
theorem newT (n : Int) (w : World) : Calls Try.prog 9 #[.int .i64 n] w fun e w' => ∃ b, e = .returned (.pointer (some ⟨b, 0, none⟩)) ∧ TS w w' b (.slice none 0 0) (M.lim n) [] :=
  (new_any n w).mono fun e w' h => ⟨w.heap.size, h.1, h.2.1, h.2.2, Nat.le_refl _⟩
theorem TS.put {w0 w : World} {b : Nat} {v : Value} {mo : Int} {P : List ByteArray} (h : TS w0 w b v mo P) (s : ByteArray) (hs : s.size ≤ maxLen) : Calls Try.prog 12 #[.pointer (some ⟨b, 0, none⟩), .string s] w fun e w' => ∃ v', e = .returned (.bool (M.ok mo P s)) ∧ TS w0 w' b v' mo (M.put mo P s) ∧ Ch w b v w' v' :=
  (put_any _ b v mo P s w hs h.bel.size h.x).mono fun e w' ⟨v', h1, h2, h3⟩ => ⟨v', h1, h.step h2 h3, h3⟩
theorem TS.take {w0 w : World} {b : Nat} {v : Value} {mo : Int} {P : List ByteArray} (h : TS w0 w b v mo P) : Calls Try.prog 15 #[.pointer (some ⟨b, 0, none⟩)] w fun e w' => ∃ v', e = .returned (.tuple #[.string (M.peek P 0), .bool (M.has P 0)]) ∧ TS w0 w' b v' mo (P.drop (M.cut P 1)) ∧ Ch w b v w' v' :=
  (take_any _ b v mo P w h.x).mono fun e w' ⟨v', h1, h2, h3⟩ => ⟨v', h1, h.step h2 h3, h3⟩
theorem TS.drop {w0 w : World} {b : Nat} {v : Value} {mo : Int} {P : List ByteArray} (h : TS w0 w b v mo P) (n : Int) : Calls Try.prog 16 #[.pointer (some ⟨b, 0, none⟩), .int .i64 n] w fun e w' => ∃ v', e = .returned (.int .i64 (M.cut P n)) ∧ TS w0 w' b v' mo (P.drop (M.cut P n)) ∧ Ch w b v w' v' :=
  (drop_any _ b v mo P n w h.x).mono fun e w' ⟨v', h1, h2, h3⟩ => ⟨v', h1, h.step h2 h3, h3⟩
theorem TS.peek {w0 w : World} {b : Nat} {v : Value} {mo : Int} {P : List ByteArray} (h : TS w0 w b v mo P) (i : Int) : Calls Try.prog 17 #[.pointer (some ⟨b, 0, none⟩), .int .i64 i] w fun e w' => e = .returned (.tuple #[.string (M.peek P i), .bool (M.has P i)]) ∧ Below w.heap.size w w' ∧ TS w0 w' b v mo P :=
  (peek_any _ b v mo P i w h.x).mono fun e w' h1 => ⟨h1.1, h1.2, h.keep h1.2⟩
theorem TS.len {w0 w : World} {b : Nat} {v : Value} {mo : Int} {P : List ByteArray} (h : TS w0 w b v mo P) : Calls Try.prog 18 #[.pointer (some ⟨b, 0, none⟩)] w fun e w' => e = .returned (.int .i64 P.length) ∧ w' = w := len_any _ b v mo P w h.x
theorem TS.room {w0 w : World} {b : Nat} {v : Value} {mo : Int} {P : List ByteArray} (h : TS w0 w b v mo P) : Calls Try.prog 19 #[.pointer (some ⟨b, 0, none⟩)] w fun e w' => e = .returned (.int .i64 (mo - P.length)) ∧ Below w.heap.size w w' ∧ TS w0 w' b v mo P :=
  (room_any _ b v mo P w h.x).mono fun e w' h1 => ⟨h1.1, h1.2, h.keep h1.2⟩
theorem TS.all {w0 w : World} {b : Nat} {v : Value} {mo : Int} {P : List ByteArray} (h : TS w0 w b v mo P) : Calls Try.prog 21 #[.pointer (some ⟨b, 0, none⟩)] w fun e w' => ∃ a cap, e = .returned (.slice a P.length cap) ∧ AtT w' a P ∧ (a = none → cap = 0) ∧ Below w.heap.size w w' ∧ TS w0 w' b v mo P :=
  (all_any _ b v mo P w h.x).mono fun e w' ⟨u, h1, h2, h3⟩ => by
    obtain ⟨a, cap, rfl, hat, _, _, _, hz⟩ := h2.at
    exact ⟨a, cap, h1, hat, hz, h3, h.keep h3⟩
def sx : ByteArray := ⟨#[120]⟩
def sy : ByteArray := ⟨#[121]⟩
theorem aw0 : M.lim 1 = 1 := rfl
theorem aw1 : M.put 1 [] sx = [sx] ∧ M.ok 1 [] sx = true := ⟨by decide +kernel, by decide +kernel⟩
theorem aw2 : M.put 1 [sx] sy = [sx] ∧ M.ok 1 [sx] sy = false := ⟨by decide +kernel, by decide +kernel⟩
theorem aw3 : M.peek [sx] 0 = sx ∧ M.has [sx] 0 = true := ⟨by decide +kernel, by decide +kernel⟩
theorem aw4 : [sx].drop (M.cut [sx] 1) = [] := by decide +kernel
theorem aw5 : M.peek [] 0 = ByteArray.empty ∧ M.has [] 0 = false ∧ ([] : List ByteArray).drop (M.cut [] 1) = [] := ⟨by decide +kernel, by decide +kernel, by decide +kernel⟩
set_option maxRecDepth 100000 in
set_option maxHeartbeats 4000000 in
theorem awake_any (w : World) : Calls Try.prog 8 #[] w fun e w' => e = .returned (.bool true) ∧ Below w.heap.size w w' := by
  have hsx : (sx.toList == [120]) = true := by decide +kernel
  go_enter Try.func8, Try.ntmps8
  go_wp2_with fail
  refine (newT 1 w).mono ?_
  rintro x w1 ⟨b, rfl, S1⟩
  rw [aw0] at S1
  have hc := S1.put sx (by decide)
  rw [aw1.1, aw1.2] at hc
  clear S1
  go_wp2_with fail
  refine hc.mono ?_
  rintro x w2 ⟨v2, rfl, S2, _⟩
  have hc2 := S2.put sy (by decide)
  rw [aw2.1, aw2.2] at hc2
  clear S2 hc
  go_wp2_with fail
  refine hc2.mono ?_
  rintro x w3 ⟨v3, rfl, S3, _⟩
  have hc3 := S3.peek 0
  rw [aw3.1, aw3.2] at hc3
  clear S3 hc2
  go_wp2_with fail
  refine hc3.mono ?_
  rintro x w4 ⟨rfl, _, S4⟩
  have hc4 := S4.take
  rw [aw3.1, aw3.2, aw4] at hc4
  clear S4 hc3
  go_wp2_with fail
  refine hc4.mono ?_
  rintro x w5 ⟨v5, rfl, S5, _⟩
  have hc5 := S5.take
  rw [aw5.1, aw5.2.1, aw5.2.2] at hc5
  clear S5 hc4
  go_wp2_with fail
  refine hc5.mono ?_
  rintro x w6 ⟨v6, rfl, S6, _⟩
  have hc6 := S6.len
  have HS6 := Hid_of S6
  clear S6 hc5
  simp only [List.length_nil] at hc6
  go_wp2_with fail
  refine hc6.mono ?_
  rintro x w7 ⟨rfl, rfl⟩
  have hc7 := HS6.out.room
  simp only [List.length_nil] at hc7
  clear hc6 HS6
  go_wp2_with fail
  refine hc7.mono ?_
  rintro x w8 ⟨rfl, _, S8⟩
  have HB := Hid_of S8.bel
  clear hc7 S8
  go_wp2
  go_ret
  exact ⟨rfl, HB.out⟩
end Go.Proofs.Ytlknknacjpnmeaa
