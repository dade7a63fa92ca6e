/-
  Rows of pieces in memory; places that are searched.
-/
import Derived.Test.YtajgjkkggppbiaaB
namespace Go.Proofs.Ytajgjkkggppbiaa
open Go.RowKit
set_option linter.unusedVariables false
open M (E)

/-- The cells of pieces. -/
def EC : List E → List Value
  | [] => []
  | p :: r => .int .i64 p.a :: .int .i64 p.n :: .int .i64 p.d :: .int .i64 p.f :: EC r
theorem EC_app : ∀ l q, EC (l ++ q) = EC l ++ EC q
  | [], q => rfl
  | p :: r, q => by rw [List.cons_append, EC, EC_app r q]; rfl
theorem EC_len : ∀ l, (EC l).length = l.length * 4
  | [] => rfl
  | p :: r => by rw [EC]; simp [EC_len r]; omega
theorem EC_get : ∀ (l : List E) (j : Nat) (h : j < l.length), (EC l)[j * 4]? = some (.int .i64 l[j].a) ∧ (EC l)[j * 4 + 1]? = some (.int .i64 l[j].n) ∧ (EC l)[j * 4 + 2]? = some (.int .i64 l[j].d) ∧ (EC l)[j * 4 + 3]? = some (.int .i64 l[j].f)
  | [], j, h => by simp at h
  | p :: r, 0, h => by simp [EC]
  | p :: r, j + 1, h => by
    have := EC_get r j (by simpa using h)
    rw [EC, show (j + 1) * 4 = j * 4 + 1 + 1 + 1 + 1 by omega]
    simpa using this
theorem EC_take : ∀ (l : List E) (k : Nat), (EC l).take (k * 4) = EC (l.take k)
  | l, 0 => by simp [EC]
  | [], k + 1 => by simp [EC]
  | p :: r, k + 1 => by
    rw [EC, show (k + 1) * 4 = k * 4 + 1 + 1 + 1 + 1 by omega]
    simp only [List.take_succ_cons, EC, EC_take r k]
theorem EC_drop : ∀ (l : List E) (k : Nat), (EC l).drop (k * 4) = EC (l.drop k)
  | l, 0 => by simp
  | [], k + 1 => by simp [EC]
  | p :: r, k + 1 => by
    rw [EC, show (k + 1) * 4 = k * 4 + 1 + 1 + 1 + 1 by omega]
    simp only [List.drop_succ_cons, EC_drop r k]
theorem EC_one : ∀ (l : List E), ∀ v ∈ EC l, v.oneCell' = true
  | [], v, h => by simp [EC] at h
  | p :: r, v, h => by
    simp only [EC, List.mem_cons] at h
    rcases h with rfl | rfl | rfl | rfl | h
    · rfl
    · rfl
    · rfl
    · rfl
    · exact EC_one r v h
/-- The blocks that a slice lies in. -/
def blk (a : Option Addr) (k : Nat) : Prop := ∃ off s, a = some ⟨k, off, s⟩
/-- A slice of pieces in memory. -/
def AtE (w : World) (a : Option Addr) (l : List E) : Prop :=
  ∀ j (h : j < l.length), ∃ b off, a = some ⟨b, off, none⟩ ∧ w.cell? ⟨b, off + j * 4, none⟩ = some (.int .i64 l[j].a) ∧ w.cell? ⟨b, off + j * 4 + 1, none⟩ = some (.int .i64 l[j].n) ∧ w.cell? ⟨b, off + j * 4 + 2, none⟩ = some (.int .i64 l[j].d) ∧ w.cell? ⟨b, off + j * 4 + 3, none⟩ = some (.int .i64 l[j].f)
theorem AtE.keepBut {w w' : World} {a : Option Addr} {l : List E} (h : AtE w a l) (hb : ∀ k, k < w.heap.size → blk a k → w'.heap[k]? = w.heap[k]?) : AtE w' a l := by
  intro j hj
  obtain ⟨b, off, rfl, h0, h1, h2, h3⟩ := h j hj
  have hlt := World.block_lt_of_cell? w _ h0
  have hk := hb b hlt ⟨off, none, rfl⟩
  exact ⟨b, off, rfl, (World.cell?_of_block (w := w) (a := ⟨b, off + j * 4, none⟩) hk).trans h0, (World.cell?_of_block (w := w) (a := ⟨b, off + j * 4 + 1, none⟩) hk).trans h1, (World.cell?_of_block (w := w) (a := ⟨b, off + j * 4 + 2, none⟩) hk).trans h2, (World.cell?_of_block (w := w) (a := ⟨b, off + j * 4 + 3, none⟩) hk).trans h3⟩
theorem AtE.keep {w w' : World} {a : Option Addr} {l : List E} (h : AtE w a l) (hb : Below w.heap.size w w') : AtE w' a l := h.keepBut fun k hk _ => hb.block k hk
theorem owns_atE {w : World} {base : Nat} {v : Value} {l : List E} (h : w.ownsRow base 32 4 v l.length (EC l)) :
    ∃ a cap, v = .slice a l.length cap ∧ AtE w a l ∧ (∀ k, blk a k → base ≤ k ∧ v.ownBlock = some k) ∧ l.length ≤ cap := by
  rcases h.2 with ⟨rfl, h0⟩ | ⟨g, cap, cur, rfl, hb', hh, hc, hm, hs, ht⟩
  · have e : l = [] := List.length_eq_zero_iff.1 h0
    subst e
    exact ⟨none, 0, rfl, (fun j h => by simp at h), (fun k hk => by obtain ⟨_, _, h⟩ := hk; cases h), by simp⟩
  · refine ⟨some ⟨g, 0, none⟩, cap, rfl, fun j hj => ⟨g, 0, rfl, ?_⟩, (fun k hk => by obtain ⟨_, _, h⟩ := hk; simp at h; exact ⟨by omega, by simp [Value.ownBlock]; omega⟩), hc⟩
    have hr := EC_get l j hj
    have key : ∀ (i : Nat) (u : Value), (EC l)[i]? = some u → w.cell? ⟨g, 0 + i, none⟩ = some u := fun i u hu => by
      have := h.cells (g := g) rfl i u hu
      rwa [show ((⟨g, 0, none⟩ : Addr).add i) = ⟨g, 0 + i, none⟩ by unfold Addr.add; split <;> simp_all] at this
    exact ⟨key _ _ hr.1, key _ _ hr.2.1, key _ _ hr.2.2.1, key _ _ hr.2.2.2⟩

/-- Where a search ends. -/
structure Srch (key : E → Int) (l : List E) (c : Int) (r : Nat) : Prop where
  le : r ≤ l.length
  lo : ∀ j (h : j < l.length), j < r → key l[j] < c
  hi : ∀ j (h : j < l.length), r ≤ j → c ≤ key l[j]
def SrchOut (w : World) (key : E → Int) (l : List E) (c : Int) (e : Ending) (w' : World) : Prop := ∃ r : Nat, e = .returned (.int .i64 r) ∧ Srch key l c r ∧ Below w.heap.size w w'
def kE (e : E) : Int := e.a + e.n
def kB (e : E) : Int := e.a
set_option maxRecDepth 100000 in
set_option maxHeartbeats 1000000 in
theorem search_ending (a : Option Addr) (cap : Nat) (l : List E) (c : Int) (w : World) (hl : l.length ≤ 16384) (ha : AtE w a l) (hs : ∀ p ∈ l, SmE p) (hm : ∀ i j (hi : i < l.length) (hj : j < l.length), i ≤ j → kE l[i] ≤ kE l[j]) :
    Calls Try.prog 29 #[.slice a l.length cap, .func (.func 27) #[] #[], .int .i64 c] w (SrchOut w kE l c) := by
  go_enter Try.func29, Try.ntmps29
  go_wp2
  go_loopw [7, 8] (fun x y wr => ∃ p q : Nat, p ≤ q ∧ q ≤ l.length ∧ x = .int .i64 p ∧ y = .int .i64 q ∧ Below w.heap.size w wr ∧ Hid ((∀ j (h : j < l.length), j < p → kE l[j] < c) ∧ (∀ j (h : j < l.length), q ≤ j → c ≤ kE l[j]))) (fun x y _ => (intOf y).toNat - (intOf x).toNat)
  case atStart => exact ⟨0, l.length, by omega, by omega, rfl, rfl, Below.refl _ _, fun j h h' => by omega, fun j h h' => by omega⟩
  case round =>
    obtain ⟨p, q, hpq, hq, rfl, rfl, hbel, HI⟩ := hrel
    by_cases hlt : p < q
    · obtain ⟨m, hmm⟩ : ∃ m : Nat, m = p + (q - p) / 2 := ⟨_, rfl⟩
      have hml : m < l.length := by omega
      obtain ⟨b, off, rfl, c0, c1, c2, c3⟩ := (ha.keep hbel) m hml
      have hsm := hs l[m] (List.getElem_mem hml)
      have hk : ∀ w, Calls Try.prog 27 #[.agg #[.int .i64 l[m].a, .int .i64 l[m].n, .int .i64 l[m].d, .int .i64 l[m].f]] w fun e w' => e = .returned (.int .i64 (kE l[m])) ∧ Below w.heap.size w w' := fun w => ending_any _ _ _ _ w hsm.1 hsm.2.1
      have H1 : Hid (kE l[m] < c → ∀ j (h : j < l.length), j < m + 1 → kE l[j] < c) := fun h j hj hj' => Int.lt_of_le_of_lt (hm j m hj hml (by omega)) h
      have H2 : Hid (c ≤ kE l[m] → ∀ j (h : j < l.length), m ≤ j → c ≤ kE l[j]) := fun h j hj hj' => Int.le_trans h (hm m j hml hj hj')
      generalize kE l[m] = kv at *
      generalize l[m].a = ea at *
      generalize l[m].n = en at *
      generalize l[m].d = ed at *
      generalize l[m].f = ef at *
      have hsub : (p : Int) + ((q : Int) - p) / 2 = (m : Int) := by omega
      have hsub2 : IntKind.i64.wrap ((q : Int) - p) = (q : Int) - p := by rw [IntKind.wrap_i64]; omega
      have hsub3 : (p : Int) + ((q - p : Nat) : Int) / 2 = (m : Int) := by omega
      have HM : Hid (p ≤ m ∧ m < q) := ⟨by omega, by omega⟩
      clear ha hs hm hsm hmm
      by_cases hkc : kv < c
      · have hd : decide (kv < c) = true := by simpa using hkc
        clear hkc
        go_wp2_with fail
        refine (hk _).mono ?_
        rintro e w1 ⟨rfl, hb⟩
        have HB := Hid_of (bel_up hbel hb (Nat.le_refl _))
        clear hb hbel
        go_wp2
        go_roundw
        case rel => exact ⟨m + 1, q, by have := HM.out; omega, hq, by go_num, rfl, HB.out, H1.out (of_decide_eq_true hd), HI.out.2⟩
        case measure => have := HM.out; simp [intOf]; omega
      · have hd : decide (kv < c) = false := by simpa using hkc
        have H2' := Hid_of (H2.out (by omega))
        clear hkc
        go_wp2_with fail
        refine (hk _).mono ?_
        rintro e w1 ⟨rfl, hb⟩
        have HB := Hid_of (bel_up hbel hb (Nat.le_refl _))
        clear hb hbel
        go_wp2
        go_roundw
        case rel => exact ⟨p, m, by have := HM.out; omega, by have := HM.out; omega, rfl, rfl, HB.out, HI.out.1, H2'.out⟩
        case measure => have := HM.out; simp [intOf]; omega
    · go_wp2
      go_ret
      have : p = q := by omega
      subst this
      exact ⟨p, rfl, ⟨hq, HI.out.1, HI.out.2⟩, hbel⟩
set_option maxRecDepth 100000 in
set_option maxHeartbeats 1000000 in
theorem search_beginning (a : Option Addr) (cap : Nat) (l : List E) (c : Int) (w : World) (hl : l.length ≤ 16384) (ha : AtE w a l) (hs : ∀ p ∈ l, SmE p) (hm : ∀ i j (hi : i < l.length) (hj : j < l.length), i ≤ j → kB l[i] ≤ kB l[j]) :
    Calls Try.prog 29 #[.slice a l.length cap, .func (.func 30) #[] #[], .int .i64 c] w (SrchOut w kB l c) := by
  go_enter Try.func29, Try.ntmps29
  go_wp2
  go_loopw [7, 8] (fun x y wr => ∃ p q : Nat, p ≤ q ∧ q ≤ l.length ∧ x = .int .i64 p ∧ y = .int .i64 q ∧ Below w.heap.size w wr ∧ Hid ((∀ j (h : j < l.length), j < p → kB l[j] < c) ∧ (∀ j (h : j < l.length), q ≤ j → c ≤ kB l[j]))) (fun x y _ => (intOf y).toNat - (intOf x).toNat)
  case atStart => exact ⟨0, l.length, by omega, by omega, rfl, rfl, Below.refl _ _, fun j h h' => by omega, fun j h h' => by omega⟩
  case round =>
    obtain ⟨p, q, hpq, hq, rfl, rfl, hbel, HI⟩ := hrel
    by_cases hlt : p < q
    · obtain ⟨m, hmm⟩ : ∃ m : Nat, m = p + (q - p) / 2 := ⟨_, rfl⟩
      have hml : m < l.length := by omega
      obtain ⟨b, off, rfl, c0, c1, c2, c3⟩ := (ha.keep hbel) m hml
      have hsm := hs l[m] (List.getElem_mem hml)
      have hk : ∀ w, Calls Try.prog 30 #[.agg #[.int .i64 l[m].a, .int .i64 l[m].n, .int .i64 l[m].d, .int .i64 l[m].f]] w fun e w' => e = .returned (.int .i64 (kB l[m])) ∧ Below w.heap.size w w' := fun w => beginning_any _ _ _ _ w
      have H1 : Hid (kB l[m] < c → ∀ j (h : j < l.length), j < m + 1 → kB l[j] < c) := fun h j hj hj' => Int.lt_of_le_of_lt (hm j m hj hml (by omega)) h
      have H2 : Hid (c ≤ kB l[m] → ∀ j (h : j < l.length), m ≤ j → c ≤ kB l[j]) := fun h j hj hj' => Int.le_trans h (hm m j hml hj hj')
      generalize kB l[m] = kv at *
      generalize l[m].a = ea at *
      generalize l[m].n = en at *
      generalize l[m].d = ed at *
      generalize l[m].f = ef at *
      have hsub : (p : Int) + ((q : Int) - p) / 2 = (m : Int) := by omega
      have hsub2 : IntKind.i64.wrap ((q : Int) - p) = (q : Int) - p := by rw [IntKind.wrap_i64]; omega
      have hsub3 : (p : Int) + ((q - p : Nat) : Int) / 2 = (m : Int) := by omega
      have HM : Hid (p ≤ m ∧ m < q) := ⟨by omega, by omega⟩
      clear ha hs hm hsm hmm
      by_cases hkc : kv < c
      · have hd : decide (kv < c) = true := by simpa using hkc
        clear hkc
        go_wp2_with fail
        refine (hk _).mono ?_
        rintro e w1 ⟨rfl, hb⟩
        have HB := Hid_of (bel_up hbel hb (Nat.le_refl _))
        clear hb hbel
        go_wp2
        go_roundw
        case rel => exact ⟨m + 1, q, by have := HM.out; omega, hq, by go_num, rfl, HB.out, H1.out (of_decide_eq_true hd), HI.out.2⟩
        case measure => have := HM.out; simp [intOf]; omega
      · have hd : decide (kv < c) = false := by simpa using hkc
        have H2' := Hid_of (H2.out (by omega))
        clear hkc
        go_wp2_with fail
        refine (hk _).mono ?_
        rintro e w1 ⟨rfl, hb⟩
        have HB := Hid_of (bel_up hbel hb (Nat.le_refl _))
        clear hb hbel
        go_wp2
        go_roundw
        case rel => exact ⟨p, m, by have := HM.out; omega, by have := HM.out; omega, rfl, rfl, HB.out, HI.out.1, H2'.out⟩
        case measure => have := HM.out; simp [intOf]; omega
    · go_wp2
      go_ret
      have : p = q := by omega
      subst this
      exact ⟨p, rfl, ⟨hq, HI.out.1, HI.out.2⟩, hbel⟩
end Go.Proofs.Ytajgjkkggppbiaa
