/-
  All that are set; rows held against each other; timers that are none.
-/
import Derived.Test.YtcjibgpbfcedlaaP
import Derived.Test.YtcjibgpbfcedlaaQ
namespace Go.Proofs.Ytcjibgpbfcedlaa
open Go.RowKit
set_option linter.unusedVariables false
open M (E)

def AllOut (w : World) (P : List E) (e : Ending) (w' : World) : Prop := ∃ u, e = .returned u ∧ Own w' w.heap.size u P ∧ Below w.heap.size w w'
theorem q26 (w : World) (a : Option Addr) (n c n' c' : Nat) : (binOp .eql 26 (.slice a n c) (.slice none n' c')).run Try.prog w = .ok (.bool a.isNone) w := Lib.run_eql_slice_nil w _ _ a n c n' c' Try.underlying26
set_option maxHeartbeats 1000000 in
theorem clone_any (base : Nat) (v : Value) (P : List E) (w : World) (hl : P.length ≤ 64) (h : Own w base v P) : Calls Try.prog 24 #[v] w (AllOut w P) := by
  have q := q26
  rcases h.row with ⟨rfl, rfl⟩ | ⟨g, cap, cur, rfl, hbg, hr⟩
  · have HK : Hid (AllOut w [] (.returned (.slice none 0 0)) w) := ⟨_, rfl, Own.nil _ _, Below.refl _ _⟩
    clear h
    go_enter Try.func24, Try.ntmps24
    go_wp2
    go_ret
    exact HK.out
  · have hgw : g < w.heap.size := (Array.getElem?_eq_some_iff.1 hr.h).1
    have HO : Hid ((w.alloc (.cells #[] 42)).ownsRow w.heap.size 42 2 (.slice (some ⟨w.heap.size, 0, none⟩) 0 0) 0 []) := ⟨rfl, .inr ⟨w.heap.size, 0, #[], rfl, Nat.le_refl _, heap_alloc_last w _, Nat.le_refl _, by decide, rfl, rfl⟩⟩
    have HR : Hid (∀ j u, (EC P)[j]? = some u → (w.alloc (.cells #[] 42)).cell? ((⟨g, 0, none⟩ : Addr).add j) = some u) := (hr.of (w' := w.alloc (.cells #[] 42)) ((bel1 w _).block g hgw)).at0
    have HE : Hid ((EC P).length = P.length * 2) := EC_len P
    have H1 : Hid (∀ u ∈ EC P, u.oneCell' = true) := EC_one P
    have HK : Hid (∀ v' w3, w3.ownsRow w.heap.size 42 2 v' (0 + P.length) ([] ++ EC P) → (w.alloc (.cells #[] 42)).grownBy w3 (some w.heap.size) → AllOut w P (.returned v') w3) := by
      intro v' w3 h1 h2
      rw [Nat.zero_add, List.nil_append] at h1
      refine ⟨v', rfl, h1, ?_⟩
      have hs := h2.size
      simp at hs
      exact ⟨h2.os, h2.tape, h2.output, by omega, fun k hk => by rw [h2.block k (by simp; omega) (by simp; omega)]; exact Below.heap_alloc w _ _ hk⟩
    clear h hr
    generalize EC P = ec at *
    generalize hn : P.length = n at *
    clear hn
    go_enter Try.func24, Try.ntmps24
    go_wp2_with (at_builtin; refine wpList_append_own _ rfl _ _ 26 rfl w.heap.size 42 Try.t42 _ 2 16 Try.underlying26 hi42 hz42 hs42 hb42 rfl (by decide) _ _ _ rfl HO.out ⟨g, 0, none⟩ n cap ec rfl HE.out HR.out H1.out (by unfold maxLen; omega) (by omega) (by simp) ?_; intro v' w3 hown hgrow _; have HQ := Hid_of (HK.out v' w3 hown hgrow); clear hown hgrow HK)
    go_ret
    exact HQ.out
set_option maxHeartbeats 1000000 in
theorem all_any (base b : Nat) (v : Value) (P : List E) (w : World) (h : XI w base b v P) : Calls Try.prog 19 #[.pointer (some ⟨b, 0, none⟩)] w (AllOut w P) := by
  have hc := clone_any base v P w h.len h.own
  have c0 := h.c0
  obtain ⟨a, cap, rfl, _⟩ := h.own.at
  clear h
  go_enter Try.func19, Try.ntmps19
  go_wp2_with fail
  refine hc.mono ?_
  rintro e w1 ⟨u, rfl, o, hb⟩
  have HK : Hid (AllOut w P (.returned u) w1) := ⟨u, rfl, o, hb⟩
  clear o hb hc
  go_wp2
  go_ret
  exact HK.out
set_option maxRecDepth 100000 in
set_option maxHeartbeats 1000000 in
theorem ints_any (a : Option Addr) (ca : Nat) (b : Option Addr) (cb : Nat) (l : List Int) (w : World) (hl : l.length ≤ 1000000) (ha : AtI w a l) (hb : AtI w b l) :
    Calls Try.prog 14 #[.slice a l.length ca, .slice b l.length cb] w fun e w' => e = .returned (.bool true) ∧ Below w.heap.size w w' := by
  go_enter Try.func14, Try.ntmps14
  go_wp2
  go_loopw [5] (fun i wr => ∃ k : Nat, k ≤ l.length ∧ i = .int .i64 k ∧ Below w.heap.size w wr) (fun i _ => l.length - (intOf i).toNat)
  case atStart => exact ⟨0, by omega, rfl, Below.refl _ _⟩
  case round =>
    obtain ⟨k, hk, rfl, hbel⟩ := hrel
    by_cases hlt : k < l.length
    · obtain ⟨b1, o1, rfl, c1⟩ := (ha.keep hbel) k hlt
      obtain ⟨b2, o2, rfl, c2⟩ := (hb.keep hbel) k hlt
      generalize l[k] = x at *
      have HB : Hid (∀ n, Below w.heap.size w (wr.drewN n)) := fun n => below_drewN hbel n
      clear ha hb hbel
      go_wp2_with fail
      go_quiet (fail)
      go_wp2
      go_roundw
      case rel => exact ⟨k + 1, by omega, by go_num, HB.out _⟩
      case measure => simp [intOf]; omega
    · have hkn : k = l.length := by omega
      subst hkn
      go_wp2
      go_ret
      exact ⟨rfl, hbel⟩
set_option maxRecDepth 100000 in
set_option maxHeartbeats 1000000 in
theorem same_any (a : Option Addr) (ca : Nat) (b : Option Addr) (cb : Nat) (l : List E) (w : World) (hl : l.length ≤ 1000000) (ha : AtE w a l) (hb : AtE w b l) :
    Calls Try.prog 18 #[.slice a l.length ca, .slice b l.length cb] w fun e w' => e = .returned (.bool true) ∧ Below w.heap.size w w' := by
  go_enter Try.func18, Try.ntmps18
  go_wp2
  go_loopw [5] (fun i wr => ∃ k : Nat, k ≤ l.length ∧ i = .int .i64 k ∧ Below w.heap.size w wr) (fun i _ => l.length - (intOf i).toNat)
  case atStart => exact ⟨0, by omega, rfl, Below.refl _ _⟩
  case round =>
    obtain ⟨k, hk, rfl, hbel⟩ := hrel
    by_cases hlt : k < l.length
    · obtain ⟨b1, o1, rfl, c1, c2⟩ := (ha.keep hbel) k hlt
      obtain ⟨b2, o2, rfl, d1, d2⟩ := (hb.keep hbel) k hlt
      generalize l[k].i = x at *
      generalize l[k].t = y at *
      have HB : Hid (∀ n, Below w.heap.size w (wr.drewN n)) := fun n => below_drewN hbel n
      clear ha hb hbel
      go_wp2_with fail
      go_quiet (fail)
      go_wp2
      go_roundw
      case rel => exact ⟨k + 1, by omega, by go_num, HB.out _⟩
      case measure => simp [intOf]; omega
    · have hkn : k = l.length := by omega
      subst hkn
      go_wp2
      go_ret
      exact ⟨rfl, hbel⟩
theorem nil_set (k a : Int) (w : World) : Calls Try.prog 10 #[.pointer none, .int .i64 k, .int .i64 a] w fun e w' => e = .returned (.int .i64 1) ∧ w' = w := by
  go_enter Try.func10, Try.ntmps10
  go_wp2
  go_ret
  exact ⟨rfl, rfl⟩
theorem nil_stop (k : Int) (w : World) : Calls Try.prog 12 #[.pointer none, .int .i64 k] w fun e w' => e = .returned (.bool false) ∧ w' = w := by
  go_enter Try.func12, Try.ntmps12
  go_wp2
  go_ret
  exact ⟨rfl, rfl⟩
theorem nil_due (k : Int) (w : World) : Calls Try.prog 15 #[.pointer none, .int .i64 k] w fun e w' => e = .returned (.slice none 0 0) ∧ w' = w := by
  go_enter Try.func15, Try.ntmps15
  go_wp2
  go_ret
  exact ⟨rfl, rfl⟩
theorem nil_len (w : World) : Calls Try.prog 17 #[.pointer none] w fun e w' => e = .returned (.int .i64 0) ∧ w' = w := by
  go_enter Try.func17, Try.ntmps17
  go_wp2
  go_ret
  exact ⟨rfl, rfl⟩
theorem nil_all (w : World) : Calls Try.prog 19 #[.pointer none] w fun e w' => e = .returned (.slice none 0 0) ∧ w' = w := by
  go_enter Try.func19, Try.ntmps19
  go_wp2
  go_ret
  exact ⟨rfl, rfl⟩
theorem nil_next (w : World) : Calls Try.prog 16 #[.pointer none] w fun e w' => e = .returned (.tuple #[.agg #[.int .i64 0, .int .i64 0], .bool false]) ∧ Below w.heap.size w w' := by
  have HB : Hid (Below w.heap.size w (w.alloc (.cells #[.int .i64 0, .int .i64 0] 42))) := bel1 w _
  have HL : Hid ((w.alloc (.cells #[.int .i64 0, .int .i64 0] 42)).heap[w.heap.size]? = some (.cells #[.int .i64 0, .int .i64 0] 42 (0, 0))) := heap_alloc_last w _
  go_enter Try.func16, Try.ntmps16
  go_wp2
  refine bodyPost_ret (v := .tuple #[.agg #[.int .i64 0, .int .i64 0], .bool false]) ?_ rfl ⟨rfl, HB.out⟩
  exact res_cell_tmp f16_res _ _ w.heap.size _ _ rfl HL.out
end Go.Proofs.Ytcjibgpbfcedlaa
