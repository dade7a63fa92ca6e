/-
  The rows of a map, and what Find tells.
-/
import Derived.Test.YtigoadfbccpmkaaC
import Derived.Laws.AppendOwn
namespace Go.Proofs.Ytigoadfbccpmkaa
open Go.RowKit
set_option linter.unusedVariables false

set_option maxHeartbeats 1000000 in
theorem next_any (b n : Nat) (f : Nat → Bool) (a : Nat) (on : Bool) (w : World) (h : MIs w b n f) (ha : a ≤ n) :
    Calls Try.prog 38 #[.pointer (some ⟨b, 0, none⟩), .int .i64 a, .bool on] w fun e w' => e = .returned (.int .i64 (M.nxt f n on a)) ∧ w' = w := by
  have hle := h.le
  have c0 := h.c0
  go_enter Try.func38, Try.ntmps38
  go_wp2
  go_loopw [1] (fun i wr => ∃ k : Nat, k ≤ n ∧ i = .int .i64 k ∧ wr = w ∧ Hid (M.nxt f n on k = M.nxt f n on a)) (fun i _ => n - (intOf i).toNat)
  case atStart => exact ⟨a, ha, rfl, rfl, rfl⟩
  case round =>
    obtain ⟨k, hk, rfl, rfl, HK⟩ := hrel
    by_cases hlt : k < n
    · have hg := get_in b n f k wr h hlt
      have HS : Hid (f k ≠ on → M.nxt f n on (k + 1) = M.nxt f n on k) := fun hh => (M.nxt_step f n on k hlt hh).symm
      have HA : Hid (f k = on → M.nxt f n on k = k) := fun hh => M.nxt_at f n on k hh
      generalize f k = v at *
      cases v <;> cases on
      · go_wp2_with fail
        refine hg.mono ?_
        rintro e w1 ⟨rfl, rfl⟩
        go_wp2
        go_ret
        rw [← HK.out, HA.out (by first | rfl | trivial)]
        exact ⟨rfl, rfl⟩
      · go_wp2_with fail
        refine hg.mono ?_
        rintro e w1 ⟨rfl, rfl⟩
        go_wp2
        go_roundw
        case rel => exact ⟨k + 1, by omega, by go_num, by first | rfl | trivial, (HS.out (by simp)).trans HK.out⟩
        case measure => simp [intOf]; omega
      · go_wp2_with fail
        refine hg.mono ?_
        rintro e w1 ⟨rfl, rfl⟩
        go_wp2
        go_roundw
        case rel => exact ⟨k + 1, by omega, by go_num, by first | rfl | trivial, (HS.out (by simp)).trans HK.out⟩
        case measure => simp [intOf]; omega
      · go_wp2_with fail
        refine hg.mono ?_
        rintro e w1 ⟨rfl, rfl⟩
        go_wp2
        go_ret
        rw [← HK.out, HA.out (by first | rfl | trivial)]
        exact ⟨rfl, rfl⟩
    · have HE : Hid (M.nxt f n on k = k) := M.nxt_end f n on k (by omega)
      go_wp2
      go_ret
      rw [← HK.out, HE.out]
      exact ⟨rfl, rfl⟩

/-- The cells of rows. -/
def RC : List (Nat × Nat) → List Value
  | [] => []
  | p :: r => .int .i64 p.1 :: .int .i64 p.2 :: RC r
theorem RC_app : ∀ l q, RC (l ++ q) = RC l ++ RC q
  | [], q => rfl
  | p :: r, q => by rw [List.cons_append, RC, RC_app r q]; rfl
theorem RC_len : ∀ l, (RC l).length = l.length * 2
  | [] => rfl
  | p :: r => by rw [RC]; simp [RC_len r]; omega
theorem RC_get : ∀ (l : List (Nat × Nat)) (j : Nat) (h : j < l.length), (RC l)[j * 2]? = some (.int .i64 (l[j].1 : Nat)) ∧ (RC l)[j * 2 + 1]? = some (.int .i64 (l[j].2 : Nat))
  | [], j, h => by simp at h
  | p :: r, 0, h => by simp [RC]
  | p :: r, j + 1, h => by
    have := RC_get r j (by simpa using h)
    rw [RC, show (j + 1) * 2 = j * 2 + 1 + 1 by omega]
    simpa using this
/-- A slice of rows in memory. -/
def AtR (w : World) (a : Option Addr) (l : List (Nat × Nat)) : Prop :=
  ∀ j (h : j < l.length), ∃ b off, a = some ⟨b, off, none⟩ ∧ w.cell? ⟨b, off + j * 2, none⟩ = some (.int .i64 (l[j].1 : Nat)) ∧ w.cell? ⟨b, off + j * 2 + 1, none⟩ = some (.int .i64 (l[j].2 : Nat))
theorem AtR.keep {w w' : World} {a : Option Addr} {l : List (Nat × Nat)} (h : AtR w a l) (hb : Below w.heap.size w w') : AtR w' a l := by
  intro j hj
  obtain ⟨b, off, rfl, hc, hd⟩ := h j hj
  exact ⟨b, off, rfl, (hb.cell (p := ⟨b, off + j * 2, none⟩) (World.block_lt_of_cell? w _ hc)).trans hc, (hb.cell (p := ⟨b, off + j * 2 + 1, none⟩) (World.block_lt_of_cell? w _ hd)).trans hd⟩
/-- The blocks that a slice lies in. -/
def blk (a : Option Addr) (k : Nat) : Prop := ∃ off s, a = some ⟨k, off, s⟩
theorem owns_atR {w : World} {base : Nat} {v : Value} {l : List (Nat × Nat)} (h : w.ownsRow base 41 2 v l.length (RC l)) :
    ∃ a cap, v = .slice a l.length cap ∧ AtR w a l ∧ ∀ k, blk a k → base ≤ k := by
  rcases h.2 with ⟨rfl, h0⟩ | ⟨g, cap, cur, rfl, hb', hh, hc, hm, hs, ht⟩
  · have e : l = [] := List.length_eq_zero_iff.1 h0
    subst e
    exact ⟨none, 0, rfl, fun j h => by simp at h, fun k ⟨_, _, h⟩ => by cases h⟩
  · refine ⟨some ⟨g, 0, none⟩, cap, rfl, fun j hj => ⟨g, 0, rfl, ?_⟩, fun k ⟨_, _, h⟩ => by simp at h; omega⟩
    have hr := RC_get l j hj
    have key : ∀ (i : Nat) (u : Value), (RC l)[i]? = some u → w.cell? ⟨g, 0 + i, none⟩ = some u := fun i u hu => by
      have := h.cells (g := g) rfl i u hu
      rwa [show ((⟨g, 0, none⟩ : Addr).add i) = ⟨g, 0 + i, none⟩ by unfold Addr.add; split <;> simp_all] at this
    exact ⟨key _ _ hr.1, key _ _ hr.2⟩
/-- What Runs returns. -/
def RunsOut (w : World) (l : List (Nat × Nat)) (e : Ending) (w' : World) : Prop := ∃ v, e = .returned v ∧ w'.ownsRow w.heap.size 41 2 v l.length (RC l) ∧ Below w.heap.size w w'

theorem below_append {B : Nat} {w w2 w3 : World} {n : Nat} {e : TypeId} {size : Nat} {v : Value} {xs : List Value} {o : Obj} (hb : Below B w w2) (hB : B ≤ w.heap.size) (hown : w2.ownsRow B e size v n xs) (hgrow : (w2.alloc o).grownBy w3 v.ownBlock) : Below B w w3 := by
  have hz := hb.size
  refine ⟨hgrow.os.trans hb.os, hgrow.tape.trans hb.tape, hgrow.output.trans hb.output, ?_, fun k hk => ?_⟩
  · have := hgrow.size
    simp at this
    omega
  · rw [hgrow.block k (by simp; omega) (fun e => by have := (hown.lt k e.symm).1; omega), Below.heap_alloc _ _ _ (by omega)]
    exact hb.block k hk
theorem cell_two_new (w : World) (u v : Value) (t : TypeId) : ∀ (j : Nat) (x : Value), [u, v][j]? = some x → (w.alloc (.cells #[u, v] t)).cell? ((⟨w.heap.size, 0, none⟩ : Addr).add j) = some x := by
  intro j x hx
  have hadd : (⟨w.heap.size, 0, none⟩ : Addr).add j = ⟨w.heap.size, j, none⟩ := by unfold Addr.add; split <;> simp_all
  rw [hadd, cell_of_row _ _ j _ _ _ (heap_alloc_last w _)]
  simpa using hx
theorem hi41 : Try.prog.info? 41 = some Try.t41 := rfl
theorem hz41 : Try.t41.zero = some (.agg #[.int .i64 0, .int .i64 0]) := rfl
theorem hs41 : Try.t41.size = 2 := rfl
theorem hb41 : Try.t41.bytes = 16 := rfl

set_option maxHeartbeats 2000000 in
theorem runs_any (b n : Nat) (f : Nat → Bool) (on : Bool) (w : World) (h : MIs w b n f) :
    Calls Try.prog 26 #[.pointer (some ⟨b, 0, none⟩), .bool on] w (RunsOut w (M.runs f n on)) := by
  have hle := h.le
  have hb := h.lt
  have hn0 := next_any b n f 0 on w h (by omega)
  have HR : Hid (M.runs f n on = M.runsA f n on (M.nxt f n on 0)) := rfl
  have hnl := M.nxt_le f n on 0 (by omega)
  have HNI : Hid (M.nxt f n on 0 < n → f (M.nxt f n on 0) = on) := M.nxt_is f n on 0
  generalize hrs : M.runs f n on = rs at *
  clear hrs
  generalize M.nxt f n on 0 = a0 at *
  go_enter Try.func26, Try.ntmps26
  go_wp2_with fail
  refine hn0.mono ?_
  rintro e w1 ⟨rfl, rfl⟩
  go_wp2
  go_loopw [5, 6] (fun v i wr => ∃ (a : Nat) (l : List (Nat × Nat)), a ≤ n ∧ i = .int .i64 a ∧ wr.ownsRow w1.heap.size 41 2 v l.length (RC l) ∧ Below w1.heap.size w1 wr ∧ l.length ≤ a ∧ Hid (a < n → f a = on) ∧ Hid (rs = l ++ M.runsA f n on a)) (fun _ i _ => n - (intOf i).toNat)
  case atStart => exact ⟨a0, [], hnl, rfl, World.ownsRow_nil _ _ _ _, Below.refl _ _, by simp, HNI, HR⟩
  case round =>
    obtain ⟨a, l, ha, rfl, hown, hbel, hll, HF, HL⟩ := hrel
    have hm := h.below hbel
    have c0 := hm.c0
    by_cases hlt : a < n
    · have h1 := M.nxt_gt f n on a hlt (HF.out hlt)
      have h2 := M.nxt_le f n (!on) a ha
      have hx1 := next_any b n f a (!on) wr hm ha
      have HST : Hid (M.runsA f n on a = (a, M.nxt f n (!on) a - a) :: M.runsA f n on (M.nxt f n on (M.nxt f n (!on) a))) := M.runsA_step f n on a hlt (HF.out hlt)
      generalize M.nxt f n (!on) a = e1 at *
      have h3 := M.nxt_ge f n on e1
      have h4 := M.nxt_le f n on e1 h2
      have HNI2 : Hid (M.nxt f n on e1 < n → f (M.nxt f n on e1) = on) := M.nxt_is f n on e1
      have hxx := fun w' hm' => next_any b n f e1 on w' hm' h2
      generalize M.nxt f n on e1 = a2 at *
      have hz := hbel.size
      have hsub : (e1 : Int) - a = ((e1 - a : Nat) : Int) := by omega
      go_wp2_with fail
      refine hx1.mono ?_
      rintro e w2 ⟨rfl, rfl⟩
      go_wp2_with (at_builtin; refine wpList_append_own _ rfl _ _ 52 rfl w1.heap.size 41 Try.t41 _ 2 16 Try.underlying52 hi41 hz41 hs41 hb41 rfl (by decide) _ _ _ rfl (hown.alloc _) ⟨w2.heap.size, 0, none⟩ 1 1 [.int .i64 a, .int .i64 (e1 - a : Nat)] rfl rfl (cell_two_new _ _ _ _) (by simp; exact ⟨rfl, rfl⟩) (by unfold maxLen; omega) (by omega) (by simp; omega) ?_; intro v' w3 hown3 hgrow hnil)
      have hb3 := below_append hbel (Nat.le_refl _) hown hgrow
      have hm3 := h.below hb3
      go_wp2_with fail
      refine (hxx _ hm3).mono ?_
      rintro e w4 ⟨rfl, rfl⟩
      go_wp2
      go_roundw
      case rel =>
        refine ⟨a2, l ++ [(a, e1 - a)], by omega, rfl, ?_, hb3, by simp; omega, HNI2, ?_⟩
        · rw [List.length_append, RC_app]; exact hown3
        · show _ = _
          rw [HL.out, HST.out, List.append_assoc]
          rfl
      case measure => simp [intOf]; omega
    · go_wp2
      go_ret
      have HL' := HL.out
      rw [M.runsA_end f n on a (by omega), List.append_nil] at HL'
      subst HL'
      exact ⟨_, rfl, hown, hbel⟩
set_option maxHeartbeats 400000 in
theorem runs_nil (on : Bool) (w : World) : Calls Try.prog 26 #[.pointer none, .bool on] w fun e w' => e = .returned (.slice none 0 0) ∧ w' = w := by
  go_enter Try.func26, Try.ntmps26
  go_wp2
  go_ret
  exact ⟨rfl, rfl⟩

set_option maxHeartbeats 400000 in
theorem find_nil (m : Int) (w : World) : Calls Try.prog 19 #[.pointer none, .int .i64 m] w fun e w' => e = .returned (.int .i64 (-1)) ∧ w' = w := by
  cases hd : decide (m < 1)
  · go_enter Try.func19, Try.ntmps19
    go_wp2_with fail
    refine (runs_nil false w).mono ?_
    rintro e w1 ⟨rfl, rfl⟩
    go_wp2
    go_loopw [12] (fun i wr => i = .int .i64 0 ∧ wr = w1) (fun i _ => 0)
    case atStart => exact ⟨rfl, rfl⟩
    case round =>
      obtain ⟨rfl, rfl⟩ := hrel
      go_wp2
      go_ret
      exact ⟨rfl, rfl⟩
  · go_enter Try.func19, Try.ntmps19
    go_wp2
    go_ret
    exact ⟨rfl, rfl⟩

theorem Hid_of {p : Prop} (h : p) : Hid p := h
theorem fnd_drop (m : Int) (l : List (Nat × Nat)) (k : Nat) (h : k < l.length) : M.fnd m (l.drop k) = if m ≤ (l[k].2 : Int) then (l[k].1 : Int) else M.fnd m (l.drop (k + 1)) := by
  rw [List.drop_eq_getElem_cons h, M.fnd]
set_option maxRecDepth 100000 in
set_option maxHeartbeats 2000000 in
theorem find_any (b n : Nat) (f : Nat → Bool) (m : Int) (w : World) (h : MIs w b n f) :
    Calls Try.prog 19 #[.pointer (some ⟨b, 0, none⟩), .int .i64 m] w fun e w' => e = .returned (.int .i64 (M.find f n m)) ∧ Below w.heap.size w w' := by
  by_cases h1 : m < 1
  · rw [show M.find f n m = -1 by unfold M.find; rw [if_pos h1]]
    have hd : decide (m < 1) = true := by simpa using h1
    go_enter Try.func19, Try.ntmps19
    go_wp2
    go_ret
    exact ⟨rfl, Below.refl _ _⟩
  · rw [show M.find f n m = M.fnd m (M.runs f n false) by unfold M.find; rw [if_neg h1]]
    have hd : decide (m < 1) = false := by simpa using h1
    have hle := h.le
    have hlen := M.runs_len f n false
    have hr := runs_any b n f false w h
    generalize M.runs f n false = l at *
    go_enter Try.func19, Try.ntmps19
    go_wp2_with fail
    refine hr.mono ?_
    rintro e w1 h
    obtain ⟨v, rfl, hown, hbel⟩ := h
    obtain ⟨a, cap, rfl, hat, hbk⟩ := owns_atR hown
    clear hown
    go_wp2
    go_loopw [12] (fun i wr => ∃ k : Nat, k ≤ l.length ∧ i = .int .i64 k ∧ Below w1.heap.size w1 wr ∧ Hid (M.fnd m l = M.fnd m (l.drop k))) (fun i _ => l.length - (intOf i).toNat)
    case atStart => exact ⟨0, by omega, rfl, Below.refl _ _, rfl⟩
    case round =>
      obtain ⟨k, hk, rfl, hb2, HF⟩ := hrel
      have HB := hbel.trans (hb2.mono hbel.size)
      have hz := hbel.size
      have hz2 := hb2.size
      by_cases hlt : k < l.length
      · obtain ⟨bb, off, rfl, hc0, hc1⟩ := (hat.keep hb2) k hlt
        have HS := Hid_of (fnd_drop m l k hlt)
        generalize l[k].1 = p at *
        generalize l[k].2 = q at *
        clear hat hbk
        by_cases hq : m ≤ (q : Int)
        · have hq' : decide (m ≤ (q : Int)) = true := by simpa using hq
          rw [if_pos hq] at HS
          go_wp2
          go_ret
          refine ⟨by rw [HF.out, HS.out]; rfl, HB.alloc (by omega) _⟩
        · have hq' : decide (m ≤ (q : Int)) = false := by simpa using hq
          rw [if_neg hq] at HS
          go_wp2
          go_roundw
          case rel => exact ⟨k + 1, by omega, by go_num, hb2.alloc hz2 _, HF.out.trans HS.out⟩
          case measure => simp [intOf]; omega
      · go_wp2
        go_ret
        rw [HF.out, List.drop_of_length_le (by omega)]
        exact ⟨rfl, HB⟩
end Go.Proofs.Ytigoadfbccpmkaa
