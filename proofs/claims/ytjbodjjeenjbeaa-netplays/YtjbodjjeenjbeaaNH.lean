/-
  A message is picked, and a closure does something to it.
-/
import Derived.Test.YtjbodjjeenjbeaaNF
import Derived.Test.YtjbodjjeenjbeaaNG
namespace Go.Proofs.Ytjbodjjeenjbeaa
open Go.RowKit
set_option linter.unusedVariables false
open Nt (Pk)

set_option maxHeartbeats 400000 in
theorem pick_none {w : World} {base b m : Nat} {v : Value} {n : Nat} {N : Int} {C : Int → Int → Bool} (h : NI w base b m v n N [] C) (i : Int) (u : Value) :
    Calls Try.prog 32 #[.pointer (some ⟨b, 0, none⟩), .int .i64 i, u] w fun e w' => e = .returned (.bool false) ∧ w' = w := by
  have c := waiting_any h
  simp only [List.length_nil] at c
  clear h
  go_enter Try.func32, Try.ntmps32
  go_wp2_with fail
  refine c.mono ?_
  rintro e w1 ⟨rfl, rfl⟩
  go_wp2
  go_ret
  exact ⟨rfl, rfl⟩
set_option maxHeartbeats 400000 in
theorem pick_nil (i : Int) (u : Value) (w : World) :
    Calls Try.prog 32 #[.pointer none, .int .i64 i, u] w fun e w' => e = .returned (.bool false) ∧ w' = w := by
  go_enter Try.func32, Try.ntmps32
  go_wp2_with fail
  refine (waiting_nil w).mono ?_
  rintro e w1 ⟨rfl, rfl⟩
  go_wp2
  go_ret
  exact ⟨rfl, rfl⟩
set_option maxHeartbeats 400000 in
theorem pick_33 {w : World} {base b m : Nat} {v : Value} {n : Nat} {N : Int} {L : List Pk} {C : Int → Int → Bool} (h : NI w base b m v n N L C) (i : Int) (hL : 0 < L.length) (x0 x1 : Nat) {R : Bool → World → Prop}
    (c : Calls Try.prog 33 #[.int .i64 (Nt.wr i L.length : Nat), .pointer (some ⟨x0, 0, none⟩), .pointer (some ⟨x1, 0, none⟩)] w fun e w' => ∃ r : Bool, e = .returned (.bool r) ∧ R r w') :
    Calls Try.prog 32 #[.pointer (some ⟨b, 0, none⟩), .int .i64 i, .func (.func 33) #[] #[.pointer (some ⟨x0, 0, none⟩), .pointer (some ⟨x1, 0, none⟩)]] w fun e w' => ∃ r : Bool, e = .returned (.bool r) ∧ R r w' := by
  have c1 := waiting_any h
  have c2 := fun W => wrap_any i L.length hL (by have := h.ok.n; omega) W
  have d1 : decide ((0 : Int) < (L.length : Int)) = true := decide_eq_true (by omega)
  have d2 : 0 < L.length := hL
  generalize L.length = len at *
  generalize Nt.wr i len = j at *
  clear h hL
  go_enter Try.func32, Try.ntmps32
  go_wp2_with fail
  refine c1.mono ?_
  rintro e w1 ⟨rfl, rfl⟩
  go_wp2_with fail
  refine (c2 _).mono ?_
  rintro e w2 ⟨rfl, rfl⟩
  go_wp2_with fail
  refine c.mono ?_
  rintro e w3 ⟨r, rfl, hq⟩
  have HQ := Hid_of hq
  clear hq c c1 c2
  go_wp2
  go_ret
  exact ⟨r, rfl, HQ.out⟩
set_option maxHeartbeats 400000 in
theorem pick_37 {w : World} {base b m : Nat} {v : Value} {n : Nat} {N : Int} {L : List Pk} {C : Int → Int → Bool} (h : NI w base b m v n N L C) (i : Int) (hL : 0 < L.length) (x0 : Nat) {R : Bool → World → Prop}
    (c : Calls Try.prog 37 #[.int .i64 (Nt.wr i L.length : Nat), .pointer (some ⟨x0, 0, none⟩)] w fun e w' => ∃ r : Bool, e = .returned (.bool r) ∧ R r w') :
    Calls Try.prog 32 #[.pointer (some ⟨b, 0, none⟩), .int .i64 i, .func (.func 37) #[] #[.pointer (some ⟨x0, 0, none⟩)]] w fun e w' => ∃ r : Bool, e = .returned (.bool r) ∧ R r w' := by
  have c1 := waiting_any h
  have c2 := fun W => wrap_any i L.length hL (by have := h.ok.n; omega) W
  have d1 : decide ((0 : Int) < (L.length : Int)) = true := decide_eq_true (by omega)
  have d2 : 0 < L.length := hL
  generalize L.length = len at *
  generalize Nt.wr i len = j at *
  clear h hL
  go_enter Try.func32, Try.ntmps32
  go_wp2_with fail
  refine c1.mono ?_
  rintro e w1 ⟨rfl, rfl⟩
  go_wp2_with fail
  refine (c2 _).mono ?_
  rintro e w2 ⟨rfl, rfl⟩
  go_wp2_with fail
  refine c.mono ?_
  rintro e w3 ⟨r, rfl, hq⟩
  have HQ := Hid_of hq
  clear hq c c1 c2
  go_wp2
  go_ret
  exact ⟨r, rfl, HQ.out⟩
set_option maxHeartbeats 400000 in
theorem pick_38 {w : World} {base b m : Nat} {v : Value} {n : Nat} {N : Int} {L : List Pk} {C : Int → Int → Bool} (h : NI w base b m v n N L C) (i : Int) (hL : 0 < L.length) (x0 : Nat) {R : Bool → World → Prop}
    (c : Calls Try.prog 38 #[.int .i64 (Nt.wr i L.length : Nat), .pointer (some ⟨x0, 0, none⟩)] w fun e w' => ∃ r : Bool, e = .returned (.bool r) ∧ R r w') :
    Calls Try.prog 32 #[.pointer (some ⟨b, 0, none⟩), .int .i64 i, .func (.func 38) #[] #[.pointer (some ⟨x0, 0, none⟩)]] w fun e w' => ∃ r : Bool, e = .returned (.bool r) ∧ R r w' := by
  have c1 := waiting_any h
  have c2 := fun W => wrap_any i L.length hL (by have := h.ok.n; omega) W
  have d1 : decide ((0 : Int) < (L.length : Int)) = true := decide_eq_true (by omega)
  have d2 : 0 < L.length := hL
  generalize L.length = len at *
  generalize Nt.wr i len = j at *
  clear h hL
  go_enter Try.func32, Try.ntmps32
  go_wp2_with fail
  refine c1.mono ?_
  rintro e w1 ⟨rfl, rfl⟩
  go_wp2_with fail
  refine (c2 _).mono ?_
  rintro e w2 ⟨rfl, rfl⟩
  go_wp2_with fail
  refine c.mono ?_
  rintro e w3 ⟨r, rfl, hq⟩
  have HQ := Hid_of hq
  clear hq c c1 c2
  go_wp2
  go_ret
  exact ⟨r, rfl, HQ.out⟩
set_option maxHeartbeats 400000 in
theorem pick_39 {w : World} {base b m : Nat} {v : Value} {n : Nat} {N : Int} {L : List Pk} {C : Int → Int → Bool} (h : NI w base b m v n N L C) (i : Int) (hL : 0 < L.length) (x0 x1 x2 : Nat) {R : Bool → World → Prop}
    (c : Calls Try.prog 39 #[.int .i64 (Nt.wr i L.length : Nat), .pointer (some ⟨x0, 0, none⟩), .pointer (some ⟨x1, 0, none⟩), .pointer (some ⟨x2, 0, none⟩)] w fun e w' => ∃ r : Bool, e = .returned (.bool r) ∧ R r w') :
    Calls Try.prog 32 #[.pointer (some ⟨b, 0, none⟩), .int .i64 i, .func (.func 39) #[] #[.pointer (some ⟨x0, 0, none⟩), .pointer (some ⟨x1, 0, none⟩), .pointer (some ⟨x2, 0, none⟩)]] w fun e w' => ∃ r : Bool, e = .returned (.bool r) ∧ R r w' := by
  have c1 := waiting_any h
  have c2 := fun W => wrap_any i L.length hL (by have := h.ok.n; omega) W
  have d1 : decide ((0 : Int) < (L.length : Int)) = true := decide_eq_true (by omega)
  have d2 : 0 < L.length := hL
  generalize L.length = len at *
  generalize Nt.wr i len = j at *
  clear h hL
  go_enter Try.func32, Try.ntmps32
  go_wp2_with fail
  refine c1.mono ?_
  rintro e w1 ⟨rfl, rfl⟩
  go_wp2_with fail
  refine (c2 _).mono ?_
  rintro e w2 ⟨rfl, rfl⟩
  go_wp2_with fail
  refine c.mono ?_
  rintro e w3 ⟨r, rfl, hq⟩
  have HQ := Hid_of hq
  clear hq c c1 c2
  go_wp2
  go_ret
  exact ⟨r, rfl, HQ.out⟩
end Go.Proofs.Ytjbodjjeenjbeaa
