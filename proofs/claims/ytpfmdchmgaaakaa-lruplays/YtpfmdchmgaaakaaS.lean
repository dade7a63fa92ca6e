/-
  The document's cache: a row of entries by value; what is asked of it.
-/
import Derived.Test.YtpfmdchmgaaakaaK
namespace Go.Proofs.Ytpfmdchmgaaakaa
open Go.RowKit
set_option linter.unusedVariables false
open M (K)

/-- The cells of entries. -/
def EC : List K → List Value
  | [] => []
  | p :: r => .int .i64 p.key :: .string p.val :: .bool p.pin :: EC r
theorem EC_app : ∀ l q, EC (l ++ q) = EC l ++ EC q
  | [], q => rfl
  | p :: r, q => by rw [List.cons_append, EC, EC_app r q]; rfl
theorem EC_len : ∀ l, (EC l).length = l.length * 3
  | [] => rfl
  | p :: r => by rw [EC]; simp [EC_len r]; omega
theorem EC_get : ∀ (l : List K) (j : Nat) (h : j < l.length), (EC l)[j * 3]? = some (.int .i64 l[j].key) ∧ (EC l)[j * 3 + 1]? = some (.string l[j].val) ∧ (EC l)[j * 3 + 2]? = some (.bool l[j].pin)
  | [], j, h => by simp at h
  | p :: r, 0, h => by simp [EC]
  | p :: r, j + 1, h => by
    have := EC_get r j (by simpa using h)
    rw [EC, show (j + 1) * 3 = j * 3 + 1 + 1 + 1 by omega]
    simpa using this
theorem EC_one : ∀ (l : List K), ∀ v ∈ EC l, v.oneCell' = true
  | [], v, h => by simp [EC] at h
  | p :: r, v, h => by
    simp only [EC, List.mem_cons] at h
    rcases h with rfl | rfl | rfl | h
    · rfl
    · rfl
    · rfl
    · exact EC_one r v h
/-- A slice of entries in memory. -/
def AtE (w : World) (a : Option Addr) (l : List K) : Prop :=
  ∀ j (h : j < l.length), ∃ b off, a = some ⟨b, off, none⟩ ∧ w.cell? ⟨b, off + j * 3, none⟩ = some (.int .i64 l[j].key) ∧ w.cell? ⟨b, off + j * 3 + 1, none⟩ = some (.string l[j].val) ∧ w.cell? ⟨b, off + j * 3 + 2, none⟩ = some (.bool l[j].pin)
theorem AtE.keepBut {w w' : World} {a : Option Addr} {l : List K} (h : AtE w a l) (hb : ∀ k, k < w.heap.size → blk a k → w'.heap[k]? = w.heap[k]?) : AtE w' a l := by
  intro j hj
  obtain ⟨b, off, rfl, h0, h1, h2⟩ := h j hj
  have hk := hb b (World.block_lt_of_cell? w _ h0) ⟨off, none, rfl⟩
  exact ⟨b, off, rfl, (World.cell?_of_block (w := w) (a := ⟨b, off + j * 3, none⟩) hk).trans h0, (World.cell?_of_block (w := w) (a := ⟨b, off + j * 3 + 1, none⟩) hk).trans h1, (World.cell?_of_block (w := w) (a := ⟨b, off + j * 3 + 2, none⟩) hk).trans h2⟩
theorem AtE.keep {w w' : World} {a : Option Addr} {l : List K} (h : AtE w a l) (hb : Below w.heap.size w w') : AtE w' a l := h.keepBut fun k hk _ => hb.block k hk
theorem atE_cells {w : World} {b off : Nat} {l : List K} (h : AtE w (some ⟨b, off, none⟩) l) : ∀ j u, (EC l)[j]? = some u → w.cell? ((⟨b, off, none⟩ : Addr).add j) = some u := by
  intro j u hu
  have hjl : j < l.length * 3 := by
    have := (List.getElem?_eq_some_iff.1 hu).1
    rw [EC_len] at this
    exact this
  have hadd : (⟨b, off, none⟩ : Addr).add j = ⟨b, off + j, none⟩ := by unfold Addr.add; split <;> simp_all
  rw [hadd]
  have hq : j / 3 < l.length := by omega
  obtain ⟨b', off', e, h0, h1, h2⟩ := h (j / 3) hq
  cases e
  have hr := EC_get l (j / 3) hq
  rcases (by omega : j = j / 3 * 3 ∨ j = j / 3 * 3 + 1 ∨ j = j / 3 * 3 + 2) with hj | hj | hj
  · rw [hj] at hu ⊢; rw [hr.1] at hu; rw [h0, hu]
  · rw [hj] at hu ⊢; rw [hr.2.1] at hu; rw [← Nat.add_assoc, h1, hu]
  · rw [hj] at hu ⊢; rw [hr.2.2] at hu; rw [← Nat.add_assoc, h2, hu]
theorem row2 {w : World} {k : Nat} {v0 v1 : Value} {t : TypeId} (h : w.heap[k]? = some (.cells #[v0, v1] t (0, 0))) : (w.cell? ⟨k, 0, none⟩ = some v0 ∧ w.cell? ⟨k, 1, none⟩ = some v1) ∧ ∀ j, w.frozen? ⟨k, j, none⟩ = false :=
  ⟨⟨by rw [cell_of_row w k 0 _ _ _ h]; rfl, by rw [cell_of_row w k 1 _ _ _ h]; rfl⟩, fun j => frozen_of_row w k j _ _ h⟩
/-- A key's place, or -1. -/
def fi (l : List K) (k : Int) : Int := if M.has l k then (M.fnd l k : Int) else -1
set_option maxRecDepth 100000 in
set_option maxHeartbeats 1000000 in
theorem rfind_any (mo : Int) (a : Option Addr) (cap : Nat) (l : List K) (k : Int) (w : World) (hl : l.length ≤ 1000000) (ha : AtE w a l) :
    Calls Try.prog 32 #[.agg #[.int .i64 mo, .slice a l.length cap], .int .i64 k] w fun e w' => e = .returned (.int .i64 (fi l k)) ∧ Below w.heap.size w w' := by
  obtain ⟨W1, HW1⟩ : ∃ W1, Hid (w.alloc (.cells #[.int .i64 mo, .slice a l.length cap] 29) = W1) := ⟨_, rfl⟩
  have HB : Hid (Below w.heap.size w W1) := by rw [← HW1.out]; exact bel1 w _
  have hrow : W1.heap[w.heap.size]? = some (.cells #[.int .i64 mo, .slice a l.length cap] 29 (0, 0)) := by rw [← HW1.out]; exact heap_alloc_last w _
  obtain ⟨⟨c0, c1⟩, _⟩ := row2 hrow
  have HA := Hid_of (ha.keep HB.out)
  clear ha hrow
  go_enter Try.func32, Try.ntmps32
  go_wp2
  rw [HW1.out]
  clear HW1
  go_loopw [5] (fun i wr => ∃ q : Nat, q ≤ l.length ∧ i = .int .i64 q ∧ wr = W1 ∧ Hid (∀ j (h : j < l.length), j < q → l[j].key ≠ k)) (fun i _ => l.length - (intOf i).toNat)
  case atStart => exact ⟨0, by omega, rfl, rfl, fun j h hj => by omega⟩
  case round =>
    obtain ⟨q, hq, rfl, rfl, HF⟩ := hrel
    by_cases hlt : q < l.length
    · obtain ⟨b, off, rfl, d0, d1, d2⟩ := HA.out q hlt
      by_cases hk : l[q].key = k
      · have hkd : (l[q].key == k) = true := by simpa using hk
        have HK : Hid ((fi l k) = (q : Int)) := by
          have : M.fnd l k = q := M.fnd_eq l k q (by omega) (fun i hi hiq => HF.out i hi hiq) (fun _ => hk)
          show fi l k = _
          unfold fi M.has
          rw [this, decide_eq_true hlt, if_pos rfl]
        generalize l[q].key = x at *
        clear HA HF hk d1 d2
        go_wp2
        go_ret
        exact ⟨by rw [HK.out]; rfl, HB.out⟩
      · have hkd : (l[q].key == k) = false := by simpa using hk
        have HN : Hid (∀ j (h : j < l.length), j < q + 1 → l[j].key ≠ k) := fun j hj hjq => by
          rcases Nat.lt_or_ge j q with h' | h'
          · exact HF.out j hj h'
          · obtain rfl : j = q := by omega
            exact hk
        generalize l[q].key = x at *
        clear HA HF hk d1 d2
        go_wp2
        go_roundw
        case rel => exact ⟨q + 1, by omega, by go_num, by first | rfl | trivial, HN.out⟩
        case measure => simp [intOf]; omega
    · have hqn : q = l.length := by omega
      subst hqn
      have HK : Hid ((fi l k) = (-1 : Int)) := by
        have := M.has_no l k (fun e he => by obtain ⟨i, hi, rfl⟩ := List.getElem_of_mem he; exact HF.out i hi hi)
        show fi l k = _
        unfold fi
        rw [this]
        rfl
      clear HF HA
      go_wp2
      go_ret
      exact ⟨by rw [HK.out]; rfl, HB.out⟩
theorem bytes_take (l : List K) (q : Nat) (h : q < l.length) : M.bytes (l.take (q + 1)) = M.bytes (l.take q) + l[q].val.size := by
  rw [List.take_succ_eq_append_getElem h, M.bytes_app, M.bytes_one]
theorem bytes_take_le (l : List K) (q : Nat) : M.bytes (l.take q) ≤ M.bytes l := by
  have := M.bytes_app (l.take q) (l.drop q)
  rw [List.take_append_drop] at this
  omega
set_option maxRecDepth 100000 in
set_option maxHeartbeats 1000000 in
theorem rbytes_any (mo : Int) (a : Option Addr) (cap : Nat) (l : List K) (w : World) (hl : l.length ≤ 1000000) (hb : M.bytes l ≤ 65536) (ha : AtE w a l) :
    Calls Try.prog 23 #[.agg #[.int .i64 mo, .slice a l.length cap]] w fun e w' => e = .returned (.int .i64 (M.bytes l)) ∧ Below w.heap.size w w' := by
  obtain ⟨W1, HW1⟩ : ∃ W1, Hid (w.alloc (.cells #[.int .i64 mo, .slice a l.length cap] 29) = W1) := ⟨_, rfl⟩
  have HB : Hid (Below w.heap.size w W1) := by rw [← HW1.out]; exact bel1 w _
  have hrow : W1.heap[w.heap.size]? = some (.cells #[.int .i64 mo, .slice a l.length cap] 29 (0, 0)) := by rw [← HW1.out]; exact heap_alloc_last w _
  obtain ⟨⟨c0, c1⟩, _⟩ := row2 hrow
  have HA := Hid_of (ha.keep HB.out)
  clear ha hrow
  go_enter Try.func23, Try.ntmps23
  go_wp2
  rw [HW1.out]
  clear HW1
  go_loopw [3, 4] (fun x i wr => ∃ q : Nat, q ≤ l.length ∧ i = .int .i64 q ∧ x = .int .i64 (M.bytes (l.take q)) ∧ wr = W1) (fun _ i _ => l.length - (intOf i).toNat)
  case atStart => exact ⟨0, by omega, rfl, rfl, rfl⟩
  case round =>
    obtain ⟨q, hq, rfl, rfl, rfl⟩ := hrel
    by_cases hlt : q < l.length
    · obtain ⟨b, off, rfl, d0, d1, d2⟩ := HA.out q hlt
      have ht := bytes_take l q hlt
      have h1 := bytes_take_le l (q + 1)
      obtain ⟨nn, hnn⟩ : ∃ nn, l.take (q + 1) = nn := ⟨_, rfl⟩
      rw [hnn] at ht h1
      have HT : Hid ((M.bytes (l.take (q + 1)) : Int) = (M.bytes (l.take q) : Int) + (l[q].val.size : Int)) := by show _ = _; rw [hnn]; omega
      have hw : IntKind.i64.wrap ((M.bytes (l.take q) : Int) + (l[q].val.size : Int)) = (M.bytes (l.take q) : Int) + (l[q].val.size : Int) := by rw [IntKind.wrap_i64]; omega
      generalize M.bytes (l.take q) = nb at *
      generalize l[q].val = s at *
      clear HA d0 d2 ht h1 hnn
      go_wp2
      go_roundw
      case rel => exact ⟨q + 1, by omega, by go_num, by rw [HT.out], by first | rfl | trivial⟩
      case measure => simp [intOf]; omega
    · have hqn : q = l.length := by omega
      subst hqn
      rw [List.take_length]
      clear HA
      go_wp2
      go_ret
      exact ⟨rfl, HB.out⟩
/-- The place of the first that is not pinned; how many there are, if all are. -/
def lse : List K → Nat
  | [] => 0
  | e :: r => if e.pin then lse r + 1 else 0
theorem lse_le : ∀ l, lse l ≤ l.length
  | [] => Nat.le_refl _
  | e :: r => by
    rw [lse]
    have := lse_le r
    split
    · simp; omega
    · omega
theorem lse_split : ∀ l, (lse l < l.length → ∃ P e R, l = P ++ e :: R ∧ P.length = lse l ∧ (∀ x ∈ P, x.pin = true) ∧ e.pin = false) ∧ (¬ lse l < l.length → ∀ x ∈ l, x.pin = true)
  | [] => ⟨fun h => by simp at h, fun _ x hx => by simp at hx⟩
  | e :: r => by
    obtain ⟨h1, h2⟩ := lse_split r
    cases hp : e.pin
    · refine ⟨fun _ => ⟨[], e, r, rfl, by rw [lse, hp]; rfl, by simp, hp⟩, fun h => ?_⟩
      rw [lse, hp] at h
      simp at h
    · refine ⟨fun h => ?_, fun h x hx => ?_⟩
      · rw [lse, hp, if_pos rfl] at h
        obtain ⟨P, y, R, rfl, hl, hP, hy⟩ := h1 (by simpa using h)
        exact ⟨e :: P, y, R, rfl, by rw [lse, hp, if_pos rfl]; simp [hl], fun x hx => by rcases List.mem_cons.1 hx with rfl | hx; exact hp; exact hP x hx, hy⟩
      · rw [lse, hp, if_pos rfl] at h
        rcases List.mem_cons.1 hx with rfl | hx
        · exact hp
        · exact h2 (by simpa using h) x hx
theorem lse_eq (l : List K) (j : Nat) (hj : j ≤ l.length) (hlo : ∀ i (h : i < l.length), i < j → l[i].pin = true) (hhi : ∀ h : j < l.length, l[j].pin = false) : lse l = j := by
  induction l generalizing j with
  | nil => simp at hj; subst hj; rfl
  | cons e r ih =>
    cases j with
    | zero =>
      have := hhi (by simp)
      simp at this
      rw [lse, this]
      rfl
    | succ j =>
      have h0 := hlo 0 (by simp) (by omega)
      simp at h0
      rw [lse, h0, if_pos rfl, ih j (by simpa using hj) (fun i hi hij => by have := hlo (i + 1) (by simpa using hi) (by omega); simpa using this) (fun h => by have := hhi (by simpa using h); simpa using this)]
/-- .. or -1. -/
def li (l : List K) : Int := if lse l < l.length then (lse l : Int) else -1
set_option maxRecDepth 100000 in
set_option maxHeartbeats 1000000 in
theorem rloose_any (mo : Int) (a : Option Addr) (cap : Nat) (l : List K) (w : World) (hl : l.length ≤ 1000000) (ha : AtE w a l) :
    Calls Try.prog 26 #[.agg #[.int .i64 mo, .slice a l.length cap]] w fun e w' => e = .returned (.int .i64 (li l)) ∧ Below w.heap.size w w' := by
  obtain ⟨W1, HW1⟩ : ∃ W1, Hid (w.alloc (.cells #[.int .i64 mo, .slice a l.length cap] 29) = W1) := ⟨_, rfl⟩
  have HB : Hid (Below w.heap.size w W1) := by rw [← HW1.out]; exact bel1 w _
  have hrow : W1.heap[w.heap.size]? = some (.cells #[.int .i64 mo, .slice a l.length cap] 29 (0, 0)) := by rw [← HW1.out]; exact heap_alloc_last w _
  obtain ⟨⟨c0, c1⟩, _⟩ := row2 hrow
  have HA := Hid_of (ha.keep HB.out)
  clear ha hrow
  go_enter Try.func26, Try.ntmps26
  go_wp2
  rw [HW1.out]
  clear HW1
  go_loopw [3] (fun i wr => ∃ q : Nat, q ≤ l.length ∧ i = .int .i64 q ∧ wr = W1 ∧ Hid (∀ j (h : j < l.length), j < q → l[j].pin = true)) (fun i _ => l.length - (intOf i).toNat)
  case atStart => exact ⟨0, by omega, rfl, rfl, fun j h hj => by omega⟩
  case round =>
    obtain ⟨q, hq, rfl, rfl, HF⟩ := hrel
    by_cases hlt : q < l.length
    · obtain ⟨b, off, rfl, d0, d1, d2⟩ := HA.out q hlt
      cases hk : l[q].pin
      · have HK : Hid ((li l) = (q : Int)) := by
          have : lse l = q := lse_eq l q (by omega) (fun i hi hiq => HF.out i hi hiq) (fun _ => hk)
          show li l = _
          unfold li
          rw [this, if_pos hlt]
        rw [hk] at d2
        clear HA HF hk d1 d0
        go_wp2
        go_ret
        exact ⟨by rw [HK.out]; rfl, HB.out⟩
      · have HN : Hid (∀ j (h : j < l.length), j < q + 1 → l[j].pin = true) := fun j hj hjq => by
          rcases Nat.lt_or_ge j q with h' | h'
          · exact HF.out j hj h'
          · obtain rfl : j = q := by omega
            exact hk
        rw [hk] at d2
        clear HA HF hk d1 d0
        go_wp2
        go_roundw
        case rel => exact ⟨q + 1, by omega, by go_num, by first | rfl | trivial, HN.out⟩
        case measure => simp [intOf]; omega
    · have hqn : q = l.length := by omega
      subst hqn
      have HK : Hid ((li l) = (-1 : Int)) := by
        have : lse l = l.length := lse_eq l _ (Nat.le_refl _) (fun i hi _ => HF.out i hi hi) (fun h => by omega)
        show li l = _
        unfold li
        rw [this, if_neg (by omega)]
      clear HF HA
      go_wp2
      go_ret
      exact ⟨by rw [HK.out]; rfl, HB.out⟩
end Go.Proofs.Ytpfmdchmgaaakaa
