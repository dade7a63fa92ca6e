/-
  The document's bytes in memory: what is asked of them.
-/
import Derived.Test.YtajgjkkggppbiaaR
import Derived.Test.YtajgjkkggppbiaaMM
namespace Go.Proofs.Ytajgjkkggppbiaa
open Go.RowKit
set_option linter.unusedVariables false
open M (E)

/-- The cells of bytes. -/
def BC : List (Int × Int) → List Value
  | [] => []
  | p :: r => .int .i64 p.1 :: .int .i64 p.2 :: BC r
theorem BC_app : ∀ l q, BC (l ++ q) = BC l ++ BC q
  | [], q => rfl
  | p :: r, q => by rw [List.cons_append, BC, BC_app r q]; rfl
theorem BC_len : ∀ l, (BC l).length = l.length * 2
  | [] => rfl
  | p :: r => by rw [BC]; simp [BC_len r]; omega
theorem BC_get : ∀ (l : List (Int × Int)) (j : Nat) (h : j < l.length), (BC l)[j * 2]? = some (.int .i64 l[j].1) ∧ (BC l)[j * 2 + 1]? = some (.int .i64 l[j].2)
  | [], j, h => by simp at h
  | p :: r, 0, h => by simp [BC]
  | p :: r, j + 1, h => by
    have := BC_get r j (by simpa using h)
    rw [BC, show (j + 1) * 2 = j * 2 + 1 + 1 by omega]
    simpa using this
theorem BC_one : ∀ (l : List (Int × Int)), ∀ v ∈ BC l, v.oneCell' = true
  | [], v, h => by simp [BC] at h
  | p :: r, v, h => by
    simp only [BC, List.mem_cons] at h
    rcases h with rfl | rfl | h
    · rfl
    · rfl
    · exact BC_one r v h
/-- A slice of bytes in memory. -/
def AtB (w : World) (a : Option Addr) (l : List (Int × Int)) : Prop :=
  ∀ j (h : j < l.length), ∃ b off, a = some ⟨b, off, none⟩ ∧ w.cell? ⟨b, off + j * 2, none⟩ = some (.int .i64 l[j].1) ∧ w.cell? ⟨b, off + j * 2 + 1, none⟩ = some (.int .i64 l[j].2)
theorem AtB.keepBut {w w' : World} {a : Option Addr} {l : List (Int × Int)} (h : AtB w a l) (hb : ∀ k, k < w.heap.size → blk a k → w'.heap[k]? = w.heap[k]?) : AtB w' a l := by
  intro j hj
  obtain ⟨b, off, rfl, h0, h1⟩ := h j hj
  have hlt := World.block_lt_of_cell? w _ h0
  have hk := hb b hlt ⟨off, none, rfl⟩
  exact ⟨b, off, rfl, (World.cell?_of_block (w := w) (a := ⟨b, off + j * 2, none⟩) hk).trans h0, (World.cell?_of_block (w := w) (a := ⟨b, off + j * 2 + 1, none⟩) hk).trans h1⟩
theorem AtB.keep {w w' : World} {a : Option Addr} {l : List (Int × Int)} (h : AtB w a l) (hb : Below w.heap.size w w') : AtB w' a l := h.keepBut fun k hk _ => hb.block k hk
theorem getD_in (l : List (Int × Int)) (j : Nat) (h : j < l.length) : l.getD j (-1, 0) = l[j] := by rw [List.getD_eq_getElem?_getD, List.getElem?_eq_getElem h]; rfl

/-- Is a place one of n from a on? -/
def inn (i a n : Int) : Bool := decide (0 < n) && decide (a ≤ i) && decide (i - n < a)
set_option maxHeartbeats 400000 in
theorem in_any (i a n : Int) (w : World) (h0 : 0 ≤ i) (h1 : i ≤ 1099511627776) (hn : n ≤ 9223372036854775807) :
    Calls Try.prog 32 #[.int .i64 i, .int .i64 a, .int .i64 n] w fun x w' => x = .returned (.bool (inn i a n)) ∧ w' = w := by
  have HE : Hid (inn i a n = (decide (0 < n) && decide (a ≤ i) && decide (i - n < a))) := rfl
  by_cases hp : 0 < n
  · have d1 : decide (0 < n) = true := by simpa using hp
    have hw : IntKind.i64.wrap (i - n) = i - n := by rw [IntKind.wrap_i64]; omega
    rw [d1] at HE
    clear hp h0 h1 hn
    cases d2 : decide (a ≤ i)
    · rw [d2] at HE
      go_enter Try.func32, Try.ntmps32
      go_wp2
      go_ret
      exact ⟨by rw [HE.out]; rfl, rfl⟩
    · rw [d2] at HE
      go_enter Try.func32, Try.ntmps32
      go_wp2
      go_ret
      exact ⟨by rw [HE.out]; rfl, rfl⟩
  · have d1 : decide (0 < n) = false := by simpa using hp
    rw [d1] at HE
    clear hp h0 h1 hn
    go_enter Try.func32, Try.ntmps32
    go_wp2
    go_ret
    exact ⟨by rw [HE.out]; rfl, rfl⟩

/-- The document's file by value, boxed. -/
theorem boxB {w : World} {a : Option Addr} {n cap : Nat} : (w.alloc (.cells #[.slice a n cap] 28)).cell? ⟨w.heap.size, 0, none⟩ = some (.slice a n cap) := by
  rw [cell_of_row _ _ 0 _ _ _ (heap_alloc_last w _)]; rfl
def EndR (w : World) (L : List (Int × Int)) (x : Ending) (w' : World) : Prop := ∃ r : Nat, x = .returned (.int .i64 r) ∧ (∀ j, r ≤ j → (L.getD j (-1, 0)).1 < 0) ∧ (r = 0 ∨ 0 ≤ (L.getD (r - 1) (-1, 0)).1) ∧ Below w.heap.size w w'
set_option maxRecDepth 100000 in
set_option maxHeartbeats 2000000 in
theorem refEnd_any (L : List (Int × Int)) (a : Option Addr) (cap : Nat) (w : World) (hl : L.length ≤ 16384) (ha : AtB w a L) :
    Calls Try.prog 11 #[.agg #[.slice a L.length cap]] w (EndR w L) := by
  have c0 := boxB (w := w) (a := a) (n := L.length) (cap := cap)
  have HB : Hid (Below w.heap.size w (w.alloc (.cells #[.slice a L.length cap] 28))) := bel1 w _
  have HA : Hid (AtB (w.alloc (.cells #[.slice a L.length cap] 28)) a L) := ha.keep (bel1 w _)
  have hw0 : IntKind.i64.wrap ((L.length : Int) - 1) = (L.length : Int) - 1 := by rw [IntKind.wrap_i64]; omega
  clear ha
  go_enter Try.func11, Try.ntmps11
  go_wp2
  go_loopw [3] (fun i wr => ∃ k : Nat, k ≤ L.length ∧ i = .int .i64 ((k : Int) - 1) ∧ wr = w.alloc (.cells #[.slice a L.length cap] 28) ∧ Hid (∀ j, k ≤ j → (L.getD j (-1, 0)).1 < 0)) (fun i _ => (intOf i + 1).toNat)
  case atStart => exact ⟨L.length, Nat.le_refl _, rfl, rfl, fun j hj => by rw [M.getD_ge _ _ _ hj]; decide⟩
  case round =>
    obtain ⟨k, hk, rfl, rfl, HF⟩ := hrel
    cases k with
    | zero =>
      go_wp2
      go_ret
      exact ⟨0, rfl, HF.out, .inl rfl, HB.out⟩
    | succ k =>
      obtain ⟨b, off, rfl, d0, d1⟩ := HA.out k (by omega)
      have HG : Hid (L.getD k (-1, 0) = L[k]) := getD_in L k (by omega)
      have he : (((k + 1 : Nat) : Int) - 1) = (k : Int) := by omega
      rw [he]
      have hkl : k < L.length := by omega
      have HD : Hid (0 ≤ L[k].1 → ∃ r : Nat, (r : Int) = (k : Int) + 1 ∧ (∀ j, r ≤ j → (L.getD j (-1, 0)).1 < 0) ∧ (r = 0 ∨ 0 ≤ (L.getD (r - 1) (-1, 0)).1)) := fun h => ⟨k + 1, by omega, HF.out, .inr (by rw [Nat.add_sub_cancel, HG.out]; exact h)⟩
      have HN : Hid (L[k].1 < 0 → ∀ j, k ≤ j → (L.getD j (-1, 0)).1 < 0) := by
        intro h j hj
        rcases Nat.eq_or_lt_of_le hj with rfl | hj
        · rw [HG.out]; exact h
        · exact HF.out j hj
      generalize L[k].1 = d at *
      generalize L[k].2 = f at *
      clear HA HG HF
      have hw1 : IntKind.i64.wrap ((k : Int) - 1) = (k : Int) - 1 := by rw [IntKind.wrap_i64]; omega
      by_cases hd : 0 ≤ d
      · have hdd : decide (0 ≤ d) = true := by simpa using hd
        obtain ⟨r, hr1, hr2, hr3⟩ := HD.out hd
        have HK : Hid (EndR w L (.returned (.int .i64 ((k : Int) + 1))) (w.alloc (.cells #[.slice (some ⟨b, off, none⟩) L.length cap] 28))) := ⟨r, by rw [hr1], hr2, hr3, HB.out⟩
        clear HD HN hr1 hr2 hr3 hd
        go_wp2
        go_ret
        exact HK.out
      · have hdd : decide (0 ≤ d) = false := by simpa using hd
        have HN2 := Hid_of (HN.out (by omega))
        clear HD HN hd
        go_wp2
        go_roundw
        case rel => exact ⟨k, by omega, by go_num, by first | rfl | trivial, HN2.out⟩
        case measure => first | (simp [intOf]; done) | (simp [intOf]; omega)

set_option maxRecDepth 100000 in
set_option maxHeartbeats 2000000 in
theorem refUses_any (L : List (Int × Int)) (a : Option Addr) (cap : Nat) (id : Int) (w : World) (hl : L.length ≤ 16384) (ha : AtB w a L) :
    Calls Try.prog 13 #[.agg #[.slice a L.length cap], .int .i64 id] w fun x w' => x = .returned (.int .i64 (M.cnt (fun j => decide (0 ≤ id) && ((L.getD j (-1, 0)).1 == id)) L.length)) ∧ Below w.heap.size w w' := by
  have c0 := boxB (w := w) (a := a) (n := L.length) (cap := cap)
  have HB : Hid (Below w.heap.size w (w.alloc (.cells #[.slice a L.length cap] 28))) := bel1 w _
  have HA : Hid (AtB (w.alloc (.cells #[.slice a L.length cap] 28)) a L) := ha.keep (bel1 w _)
  obtain ⟨q, hq⟩ : ∃ q : Nat → Bool, (fun j => decide (0 ≤ id) && ((L.getD j (-1, 0)).1 == id)) = q := ⟨_, rfl⟩
  have HQ : Hid (∀ j, q j = (decide (0 ≤ id) && ((L.getD j (-1, 0)).1 == id))) := fun j => by rw [← hq]
  rw [hq]
  clear ha hq
  go_enter Try.func13, Try.ntmps13
  go_wp2
  go_loopw [5, 6] (fun c i wr => ∃ k : Nat, k ≤ L.length ∧ i = .int .i64 k ∧ c = .int .i64 (M.cnt q k) ∧ wr = w.alloc (.cells #[.slice a L.length cap] 28)) (fun _ i _ => L.length - (intOf i).toNat)
  case atStart => exact ⟨0, by omega, rfl, rfl, rfl⟩
  case round =>
    obtain ⟨k, hk, rfl, rfl, rfl⟩ := hrel
    by_cases hlt : k < L.length
    · obtain ⟨b, off, rfl, d0, d1⟩ := HA.out k hlt
      have HC : Hid (M.cnt q (k + 1) = M.cnt q k + if (decide (0 ≤ id) && (L[k].1 == id)) then 1 else 0) := by
        show _ = _
        rw [M.cnt, HQ.out, getD_in L k hlt]
      have hbd := M.cnt_bd q k
      generalize L[k].1 = d at *
      generalize L[k].2 = f at *
      have hw1 : IntKind.i64.wrap (M.cnt q k + 1) = M.cnt q k + 1 := by rw [IntKind.wrap_i64]; omega
      clear HA HQ
      generalize M.cnt q k = c at *
      cases e1 : decide (0 ≤ id)
      · rw [e1] at HC
        go_wp2
        go_roundw
        case rel => exact ⟨k + 1, by omega, by go_num, by rw [HC.out]; simp, by first | rfl | trivial⟩
        case measure => simp [intOf]; omega
      · rw [e1] at HC
        cases e2 : (d == id)
        · rw [e2] at HC
          go_wp2
          go_roundw
          case rel => exact ⟨k + 1, by omega, by go_num, by rw [HC.out]; simp, by first | rfl | trivial⟩
          case measure => simp [intOf]; omega
        · rw [e2] at HC
          go_wp2
          go_roundw
          case rel => exact ⟨k + 1, by omega, by go_num, by rw [HC.out]; simp, by first | rfl | trivial⟩
          case measure => simp [intOf]; omega
    · have hkn : k = L.length := by omega
      subst hkn
      go_wp2
      go_ret
      exact ⟨rfl, HB.out⟩

set_option maxHeartbeats 1000000 in
theorem same_any (a1 : Option Addr) (cap1 : Nat) (a2 : Option Addr) (cap2 : Nat) (l : List E) (w : World) (hl : l.length ≤ 16384) (hc1 : AtE w a1 l) (hc2 : AtE w a2 l) :
    Calls Try.prog 14 #[.slice a1 l.length cap1, .slice a2 l.length cap2] w fun e w' => e = .returned (.bool true) ∧ Below w.heap.size w w' := by
  go_enter Try.func14, Try.ntmps14
  go_wp2
  go_loopw [5] (fun i wr => ∃ k : Nat, k ≤ l.length ∧ i = .int .i64 k ∧ Below w.heap.size w wr) (fun i _ => l.length - (intOf i).toNat)
  case atStart => exact ⟨0, Nat.zero_le _, rfl, Below.refl _ _⟩
  case round =>
    obtain ⟨k, hk, rfl, hbel⟩ := hrel
    by_cases hlt : k < l.length
    · obtain ⟨b, off, rfl, x0, x1, x2, x3⟩ := (hc1.keep hbel) k hlt
      obtain ⟨b2, off2, rfl, y0, y1, y2, y3⟩ := (hc2.keep hbel) k hlt
      generalize l[k].a = pa at *
      generalize l[k].n = pn at *
      generalize l[k].d = pd at *
      generalize l[k].f = pf at *
      clear hc1 hc2
      go_wp2
      go_quiet (fail)
      go_wp2
      go_roundw
      case rel => exact ⟨k + 1, by omega, by go_num, below_drewN hbel _⟩
      case measure => simp [intOf]; omega
    · go_wp2
      go_ret
      exact ⟨rfl, hbel⟩
end Go.Proofs.Ytajgjkkggppbiaa
