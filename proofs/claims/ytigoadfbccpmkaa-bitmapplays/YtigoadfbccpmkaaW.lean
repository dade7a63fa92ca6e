/-
  The document's answers: bits that are taken, bits that are free again; what the program's Free does, in one.
-/
import Derived.Test.YtigoadfbccpmkaaV
import Derived.Test.YtigoadfbccpmkaaG
namespace Go.Proofs.Ytigoadfbccpmkaa
open Go.RowKit
set_option linter.unusedVariables false

/-- A document's map behind a call: the one that was there, or one that is new. -/
def RRes (w w' : World) (a : Option Addr) (cap : Nat) (v : Value) (n : Nat) (f f' : Nat → Bool) : Prop := (v = .slice a n cap ∧ f' = f) ∨ RMap w w' v n f'
theorem SetR.res {w w' : World} {a : Option Addr} {cap n : Nat} {f : Nat → Bool} {i : Int} {on : Bool} {e : Ending} (h : SetR w a cap n f i on e w') :
    Below w.heap.size w w' ∧ ∃ v, e = .returned (.tuple #[v, .bool (inb n i)]) ∧ RRes w w' a cap v n f (setf n f i on) := by
  obtain ⟨hb, v, he, hv⟩ := h
  refine ⟨hb, v, he, ?_⟩
  cases hd : inb n i
  · rw [hd] at hv
    exact .inl ⟨hv, by unfold setf; rw [hd]; rfl⟩
  · rw [hd] at hv
    exact .inr hv

/-- What the document's Take returns. -/
def TakR (w : World) (a : Option Addr) (cap n : Nat) (f : Nat → Bool) (k : Int) (e : Ending) (w' : World) : Prop :=
  Below w.heap.size w w' ∧ ∃ v, e = .returned (.tuple #[v, .int .i64 (takp n f k), .int .i64 (take n f k)]) ∧ RRes w w' a cap v n f (takf n f k)
set_option maxRecDepth 100000 in
set_option maxHeartbeats 1000000 in
theorem refTake_any (n : Nat) (f : Nat → Bool) (a : Option Addr) (cap : Nat) (k : Int) (w : World) (hn : n ≤ 4096) (ha : At w a Value.bool (bl n f)) :
    Calls Try.prog 13 #[.slice a n cap, .int .i64 k] w (TakR w a cap n f k) := by
  by_cases h1 : k < 1
  · have hd : decide (k < 1) = true := by simpa using h1
    have HK : Hid (TakR w a cap n f k (.returned (.tuple #[.slice a n cap, .int .i64 0, .int .i64 1])) w) := by
      refine ⟨Below.refl _ _, _, ?_, .inl ⟨rfl, ?_⟩⟩
      · simp only [takp, take, if_pos h1]
      · simp only [takf, if_pos h1]
    go_enter Try.func13, Try.ntmps13
    go_wp2
    go_ret3
    exact HK.out
  · have hd : decide (k < 1) = false := by simpa using h1
    have hf := refFind_any n f a cap k w hn ha
    rcases M.find_cases f n k with he | ⟨p, m, rfl, hm1, he, ham, hfree⟩
    · have HK : Hid (∀ w', Below w.heap.size w w' → TakR w a cap n f k (.returned (.tuple #[.slice a n cap, .int .i64 0, .int .i64 5])) w') := by
        intro w' hb
        refine ⟨hb, _, ?_, .inl ⟨rfl, ?_⟩⟩
        · simp only [takp, take, if_neg h1, if_pos (show M.find f n k < 0 by omega)]
        · simp only [takf, if_neg h1, if_pos (show M.find f n k < 0 by omega)]
      rw [he] at hf
      go_enter Try.func13, Try.ntmps13
      go_wp2_with fail
      refine hf.mono ?_
      rintro e w1 ⟨rfl, hb1⟩
      go_wp2
      go_ret3
      exact HK.out _ hb1
    · have HK : Hid (∀ w' v, Below w.heap.size w w' → RMap w w' v n (M.orf f (M.rowf p m)) → TakR w a cap n f m (.returned (.tuple #[v, .int .i64 p, .int .i64 0])) w') := by
        intro w' v hb hv
        refine ⟨hb, v, ?_, .inr ?_⟩
        · simp only [takp, take, if_neg h1, if_neg (show ¬ M.find f n (m : Int) < 0 by omega)]
          rw [he]
        · simp only [takf, if_neg h1, if_neg (show ¬ M.find f n (m : Int) < 0 by omega)]
          rw [he]
          exact hv
      rw [he] at hf
      clear hfree he
      go_enter Try.func13, Try.ntmps13
      go_wp2_with fail
      refine hf.mono ?_
      rintro e w1 ⟨rfl, hb1⟩
      have ha1 := ha.keep hb1
      go_wp2_with fail
      refine (refRow_any n f a cap p m true w1 hn hm1 ham ha1).mono ?_
      rintro e w2 ⟨v, rfl, hv, hb2⟩
      go_wp2
      go_ret3
      refine HK.out _ _ (hb1.trans (hb2.mono hb1.size)) ?_
      obtain ⟨a', cap', rfl, hat, hbk⟩ := hv
      exact ⟨a', cap', rfl, hat, fun k hk => Nat.le_trans hb1.size (hbk k hk)⟩

/-- What Free tells, and leaves. -/
def frE (n : Nat) (f : Nat → Bool) (a l : Int) : Int := if frok n a l then (if eqw (M.andf f (M.rowf a.toNat l.toNat)) (M.rowf a.toNat l.toNat) then 0 else 7) else 1
def frf (n : Nat) (f : Nat → Bool) (a l : Int) : Nat → Bool := if frok n a l then (if eqw (M.andf f (M.rowf a.toNat l.toNat)) (M.rowf a.toNat l.toNat) then M.notf f (M.rowf a.toNat l.toNat) else f) else f
theorem frok_nat {n : Nat} {a l : Int} (h : frok n a l = true) : ∃ i m : Nat, a = i ∧ l = m ∧ 1 ≤ m ∧ i + m ≤ n := by
  simp [frok] at h
  exact ⟨a.toNat, l.toNat, by omega, by omega, by omega, by omega⟩
theorem ite_t {α : Type} (x y : α) : (if true = true then x else y) = x := rfl
theorem ite_f {α : Type} (x y : α) : (if false = true then x else y) = y := rfl
theorem frE_in {n i m : Nat} (f : Nat → Bool) (hk : frok n i m = true) : frE n f i m = if eqw (M.andf f (M.rowf i m)) (M.rowf i m) then 0 else 7 := by
  unfold frE
  rw [hk, ite_t]
  simp only [Int.toNat_natCast]
theorem frf_in {n i m : Nat} (f : Nat → Bool) (hk : frok n i m = true) : frf n f i m = if eqw (M.andf f (M.rowf i m)) (M.rowf i m) then M.notf f (M.rowf i m) else f := by
  unfold frf
  rw [hk, ite_t]
  simp only [Int.toNat_natCast]
theorem fr_out {n : Nat} {a l : Int} (f : Nat → Bool) (hk : frok n a l = false) : frE n f a l = 1 ∧ frf n f a l = f := by
  unfold frE frf
  rw [hk, ite_f, ite_f]
  exact ⟨rfl, rfl⟩
theorem free_any (b n : Nat) (f : Nat → Bool) (a l : Int) (w : World) (h : MIs w b n f) :
    Calls Try.prog 16 #[.pointer (some ⟨b, 0, none⟩), .agg #[.int .i64 a, .int .i64 l]] w fun e w' => e = .returned (.int .i64 (frE n f a l)) ∧ MIs w' b n (frf n f a l) ∧ w.grownBy w' (some b) := by
  cases hk : frok n a l
  · rw [(fr_out f hk).1, (fr_out f hk).2]
    refine (free_arg b n f a l w h hk).mono ?_
    rintro e w1 ⟨rfl, hb⟩
    exact ⟨rfl, h.below hb, grown_below hb⟩
  · obtain ⟨i, m, rfl, rfl, hm, him⟩ := frok_nat hk
    rw [frE_in f hk, frf_in f hk]
    exact free_in b n f i m w h hm him
theorem eqw_yes (f : Nat → Bool) (i m : Nat) (h : ∀ j, j < m → f (i + j) = true) : eqw (M.andf f (M.rowf i m)) (M.rowf i m) = true := by
  rw [eqw_iff]
  intro j _
  simp only [M.andf, M.rowf]
  by_cases hj : i ≤ j ∧ j < i + m
  · have := h (j - i) (by omega)
    rw [show i + (j - i) = j by omega] at this
    simp [this]
  · have : (decide (i ≤ j) && decide (j < i + m)) = false := by simp; omega
    rw [this]; simp
theorem eqw_no (f : Nat → Bool) (i m k : Nat) (hk : k < m) (him : i + m ≤ 4096) (h : f (i + k) = false) : eqw (M.andf f (M.rowf i m)) (M.rowf i m) = false := by
  cases he : eqw (M.andf f (M.rowf i m)) (M.rowf i m)
  · rfl
  · rw [eqw_iff] at he
    have := he (i + k) (by omega)
    simp [M.andf, M.rowf, h] at this
    omega
/-- What the document's Free returns. -/
def FreR (w : World) (a : Option Addr) (cap n : Nat) (f : Nat → Bool) (p l : Int) (e : Ending) (w' : World) : Prop :=
  Below w.heap.size w w' ∧ ∃ v, e = .returned (.tuple #[v, .int .i64 (frE n f p l)]) ∧ RRes w w' a cap v n f (frf n f p l)
set_option maxRecDepth 100000 in
set_option maxHeartbeats 1000000 in
theorem refFree_arg (n : Nat) (f : Nat → Bool) (a : Option Addr) (cap : Nat) (p l : Int) (w : World) (hn : n ≤ 4096) (hk : frok n p l = false) :
    Calls Try.prog 15 #[.slice a n cap, .agg #[.int .i64 p, .int .i64 l]] w (FreR w a cap n f p l) := by
  have HK : Hid (∀ w', Below w.heap.size w w' → FreR w a cap n f p l (.returned (.tuple #[.slice a n cap, .int .i64 1])) w') := by
    intro w' hb
    refine ⟨hb, _, ?_, .inl ⟨rfl, ?_⟩⟩
    · rw [(fr_out f hk).1]
    · exact (fr_out f hk).2
  have HB : Hid (Below w.heap.size w (w.alloc (.cells #[.int .i64 p, .int .i64 l] 41))) := (Below.refl w.heap.size w).alloc (Nat.le_refl _) _
  by_cases h1 : p < 0
  · have hd : decide (p < 0) = true := by simpa using h1
    go_enter Try.func15, Try.ntmps15
    go_wp2
    go_ret2
    exact HK.out _ HB.out
  have hd1 : decide (p < 0) = false := by simpa using h1
  by_cases h2 : l < 1
  · have hd : decide (l < 1) = true := by simpa using h2
    go_enter Try.func15, Try.ntmps15
    go_wp2
    go_ret2
    exact HK.out _ HB.out
  have hd2 : decide (l < 1) = false := by simpa using h2
  by_cases h3 : (n : Int) ≤ p
  · have hd : decide ((n : Int) ≤ p) = true := by simpa using h3
    go_enter Try.func15, Try.ntmps15
    go_wp2
    go_ret2
    exact HK.out _ HB.out
  have hd3 : decide ((n : Int) ≤ p) = false := by simpa using h3
  obtain ⟨i, rfl⟩ := Int.eq_ofNat_of_zero_le (show 0 ≤ p by omega)
  have hin : i < n := by omega
  have hd4 : decide ((n : Int) - i < l) = true := by simp [frok] at hk ⊢; omega
  go_enter Try.func15, Try.ntmps15
  go_wp2
  go_ret2
  exact HK.out _ HB.out
set_option maxRecDepth 100000 in
set_option maxHeartbeats 2000000 in
theorem refFree_in (n : Nat) (f : Nat → Bool) (a : Option Addr) (cap i m : Nat) (w : World) (hn : n ≤ 4096) (hm : 1 ≤ m) (him : i + m ≤ n) (hk : frok n i m = true) (ha : At w a Value.bool (bl n f)) :
    Calls Try.prog 15 #[.slice a n cap, .agg #[.int .i64 i, .int .i64 m]] w (FreR w a cap n f i m) := by
  have H7 : Hid (∀ w' k, k < m → f (i + k) = false → Below w.heap.size w w' → FreR w a cap n f i m (.returned (.tuple #[.slice a n cap, .int .i64 7])) w') := by
    intro w' k hkm hf hb
    have he := eqw_no f i m k hkm (by omega) hf
    refine ⟨hb, _, ?_, .inl ⟨rfl, ?_⟩⟩
    · rw [frE_in f hk, he, ite_f]
    · rw [frf_in f hk, he, ite_f]
  have H0 : Hid (∀ w' v, (∀ j, j < m → f (i + j) = true) → Below w.heap.size w w' → RMap w w' v n (M.notf f (M.rowf i m)) → FreR w a cap n f i m (.returned (.tuple #[v, .int .i64 0])) w') := by
    intro w' v hf hb hv
    have he := eqw_yes f i m hf
    refine ⟨hb, v, ?_, .inr ?_⟩
    · rw [frE_in f hk, he, ite_t]
    · rw [frf_in f hk, he, ite_t]; exact hv
  have hw0 : Below w.heap.size w (w.alloc (.cells #[.int .i64 i, .int .i64 m] 41)) := (Below.refl w.heap.size w).alloc (Nat.le_refl _) _
  have r0 : (w.alloc (.cells #[.int .i64 i, .int .i64 m] 41)).heap[w.heap.size]? = some (.cells #[.int .i64 i, .int .i64 m] 41 (0, 0)) := heap_alloc_last w _
  have HA : Hid (At w a Value.bool (bl n f)) := ha
  have hd1 : decide ((n : Int) ≤ (i : Int)) = false := by simp; omega
  have hd2 : decide ((m : Int) < 1) = false := by simp; omega
  have hd3 : decide ((n : Int) - i < (m : Int)) = false := by simp; omega
  have HW : Hid _ := hw0
  have HR0 : Hid _ := r0
  clear ha hk hw0 r0
  go_enter Try.func15, Try.ntmps15
  go_wp2
  go_loopw [6] (fun s wr => ∃ k : Nat, k ≤ m ∧ s = .int .i64 k ∧ Below w.heap.size w wr ∧ Hid (wr.heap[w.heap.size]? = some (.cells #[.int .i64 i, .int .i64 m] 41 (0, 0))) ∧ Hid (∀ j, j < k → f (i + j) = true)) (fun s _ => m - (intOf s).toNat)
  case atStart => exact ⟨0, by omega, rfl, HW.out, HR0.out, fun j h => by omega⟩
  case round =>
    obtain ⟨k, hk, rfl, hbel, HR, HF⟩ := hrel
    have c0 : wr.cell? ⟨w.heap.size, 0, none⟩ = some (.int .i64 i) := by rw [cell_of_row wr _ 0 _ _ _ HR.out]; rfl
    have c1 : wr.cell? ⟨w.heap.size, 1, none⟩ = some (.int .i64 m) := by rw [cell_of_row wr _ 1 _ _ _ HR.out]; rfl
    have ha2 := HA.out.keep hbel
    clear HW HR0
    by_cases hlt : k < m
    · obtain ⟨z, HZ⟩ : ∃ z : Nat, Hid (i + k = z) := ⟨_, rfl⟩
      have hzz : (i : Int) + k = (z : Int) := by have := HZ.out; omega
      have hzn : z < n := by have := HZ.out; omega
      obtain ⟨b, off, rfl, hc⟩ := ha2 z (by rw [bl_len]; exact hzn)
      rw [bl_get] at hc
      clear ha2
      cases hfz : f z
      · rw [hfz] at hc
        have HX : Hid (f (i + k) = false) := by show _ = _; rw [HZ.out]; exact hfz
        clear hfz
        go_wp2
        go_ret2
        exact H7.out _ k hlt HX.out hbel
      · rw [hfz] at hc
        have HX : Hid (∀ j, j < k + 1 → f (i + j) = true) := by
          intro j hj
          by_cases e : j = k
          · subst e; rw [HZ.out]; exact hfz
          · exact HF.out j (by omega)
        clear hfz HF
        go_wp2
        go_roundw
        case rel => exact ⟨k + 1, by omega, by go_num, hbel, HR, HX⟩
        case measure => simp [intOf]; omega
    · have hkm : k = m := by omega
      subst hkm
      go_wp2_with fail
      refine (refRow_any n f a cap i k false wr hn hm him ha2).mono ?_
      rintro e w2 ⟨v, rfl, hv, hb2⟩
      go_wp2
      go_ret2
      refine H0.out _ _ HF.out (hbel.trans (hb2.mono hbel.size)) ?_
      obtain ⟨a', cap', rfl, hat, hbk⟩ := hv
      exact ⟨a', cap', rfl, hat, fun k hk => Nat.le_trans hbel.size (hbk k hk)⟩
theorem refFree_any (n : Nat) (f : Nat → Bool) (a : Option Addr) (cap : Nat) (p l : Int) (w : World) (hn : n ≤ 4096) (ha : At w a Value.bool (bl n f)) :
    Calls Try.prog 15 #[.slice a n cap, .agg #[.int .i64 p, .int .i64 l]] w (FreR w a cap n f p l) := by
  cases hk : frok n p l
  · exact refFree_arg n f a cap p l w hn hk
  · have hk' := hk
    obtain ⟨i, m, rfl, rfl, hm, him⟩ := frok_nat hk
    exact refFree_in n f a cap i m w hn hm him hk' ha
end Go.Proofs.Ytigoadfbccpmkaa
