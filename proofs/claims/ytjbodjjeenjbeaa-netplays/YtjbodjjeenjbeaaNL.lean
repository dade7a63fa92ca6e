/-
  What is picked is dropped, doubled, spoilt, delivered.
-/
import Derived.Test.YtjbodjjeenjbeaaNK
namespace Go.Proofs.Ytjbodjjeenjbeaa
open Go.RowKit
set_option linter.unusedVariables false
open Nt (Pk)

section
variable {w : World} {base b m : Nat} {v : Value} {n : Nat} {N : Int} {L : List Pk} {C : Int → Int → Bool}
/-- What a call leaves, its answer apart. -/
def NR (w : World) (base b m : Nat) (v : Value) (n : Nat) (N : Int) (L' : List Pk) (C : Int → Int → Bool) (r : Bool) (r' : Bool) (w' : World) : Prop := r' = r ∧ ∃ v', NI w' base b m v' n N L' C ∧ Ch w (fp b m v) w' (fp b m v')
theorem NOut.nr {L' : List Pk} {r : Bool} {e : Ending} {w' : World} (h : NOut w base b m v n N L' C (.bool r) e w') : ∃ r' : Bool, e = .returned (.bool r') ∧ NR w base b m v n N L' C r r' w' := by
  obtain ⟨v', h1, h2, h3⟩ := h
  exact ⟨r, h1, rfl, v', h2, h3⟩
theorem at_drp {i : Int} (hL : 0 < L.length) : Nt.drp L i = L.eraseIdx (Nt.wr i L.length) := rfl
theorem dbl_at {i : Int} (hi : Nt.wr i L.length < L.length) : Nt.dbl L i = Nt.add (Nt.room L) L (L[Nt.wr i L.length]'hi) := by
  unfold Nt.dbl Nt.add
  have h1 : Nt.is L = true := decide_eq_true (by omega)
  rw [h1, Bool.true_and, List.getElem?_eq_getElem hi]
  rfl
theorem spo_at {i : Int} (at' by' : Int) (hi : Nt.wr i L.length < L.length) : Nt.spo L i at' by' = L.set (Nt.wr i L.length) ⟨(L[Nt.wr i L.length]'hi).a, (L[Nt.wr i L.length]'hi).b, Nt.spl (L[Nt.wr i L.length]'hi).s at' by'⟩ := by
  unfold Nt.spo
  rw [List.getElem?_eq_getElem hi]
theorem out_at {i : Int} (hi : Nt.wr i L.length < L.length) : Nt.out L C i = arr C (L[Nt.wr i L.length]'hi) := by
  unfold Nt.out arr
  rw [List.getElem?_eq_getElem hi]
theorem heap_alloc3 (w : World) (A B D : Obj) : (((w.alloc A).alloc B).alloc D).heap[w.heap.size]? = some A ∧ (((w.alloc A).alloc B).alloc D).heap[w.heap.size + 1]? = some B ∧ (((w.alloc A).alloc B).alloc D).heap[w.heap.size + 2]? = some D := by
  have hB : Below ((w.alloc A).alloc B).heap.size ((w.alloc A).alloc B) (((w.alloc A).alloc B).alloc D) := bel1 _ D
  refine ⟨?_, ?_, ?_⟩
  · rw [hB.block _ (by simp; omega)]; exact heap_alloc2_old w A B
  · rw [hB.block _ (by simp)]; exact heap_alloc2_new w A B
  · have := heap_alloc_last ((w.alloc A).alloc B) D
    simpa using this
set_option maxRecDepth 100000 in
set_option maxHeartbeats 400000 in
theorem drop_any (h : NI w base b m v n N L C) (hbw : base ≤ w.heap.size) (i : Int) :
    Calls Try.prog 16 #[.pointer (some ⟨b, 0, none⟩), .int .i64 i] w (NOut w base b m v n N (Nt.drp L i) C (.bool (Nt.is L))) := by
  obtain ⟨W1, HW1⟩ : ∃ W1, Hid (w.alloc (.cells #[.pointer (some ⟨b, 0, none⟩)] 25) = W1) := ⟨_, rfl⟩
  have hB1 : Below w.heap.size w W1 := by rw [← HW1.out]; exact bel1 w _
  have hr1 : W1.heap[w.heap.size]? = some (.cells #[.pointer (some ⟨b, 0, none⟩)] 25 (0, 0)) := by rw [← HW1.out]; exact heap_alloc_last w _
  obtain ⟨x0, _⟩ := rw1 hr1
  have h1 := h.keep hB1
  have hbw1 : base ≤ W1.heap.size := Nat.le_trans hbw hB1.size
  cases e1 : Nt.is L with
  | false =>
    have hnil := Nt.is_nil e1
    subst hnil
    have c := pick_none h1 i (.func (.func 37) #[] #[.pointer (some ⟨w.heap.size, 0, none⟩)])
    have HK : Hid (NOut w base b m v n N (Nt.drp [] i) C (.bool false) (.returned (.bool false)) W1) := ⟨v, rfl, h1, Ch.ofBelow hB1⟩
    clear h h1 hr1 hB1 e1
    go_enter Try.func16, Try.ntmps16
    go_upto_region 1 with fail
    rw [HW1.out]
    go_wp2_with fail
    refine c.mono ?_
    rintro e w2 ⟨rfl, rfl⟩
    go_wp2
    go_ret
    exact HK.out
  | true =>
    have hL := Nt.is_lt e1
    have hi := Nt.wr_lt i hL
    have c := pick_37 h1 i hL w.heap.size ((drop1_any h1 hbw1 _ hi w.heap.size x0).mono fun e w' k => k.nr)
    have HK : Hid (∀ r w', NR W1 base b m v n N (Nt.drp L i) C true r w' → NOut w base b m v n N (Nt.drp L i) C (.bool true) (.returned (.bool r)) w') := by
      rintro r w' ⟨rfl, v', k1, k2⟩
      exact ⟨v', rfl, k1, (Ch.ofBelow hB1).trans k2⟩
    rw [← at_drp hL] at c
    generalize Nt.drp L i = LL at *
    clear h h1 hr1 hB1 e1 hi hL
    go_enter Try.func16, Try.ntmps16
    go_upto_region 1 with fail
    rw [HW1.out]
    go_wp2_with fail
    refine c.mono ?_
    rintro e w2 ⟨r, rfl, hq⟩
    have HQ := Hid_of (HK.out r w2 hq)
    clear hq HK c
    go_wp2
    go_ret
    exact HQ.out
set_option maxRecDepth 100000 in
set_option maxHeartbeats 400000 in
theorem double_any (h : NI w base b m v n N L C) (hbw : base ≤ w.heap.size) (i : Int) :
    Calls Try.prog 18 #[.pointer (some ⟨b, 0, none⟩), .int .i64 i] w (NOut w base b m v n N (Nt.dbl L i) C (.bool (Nt.is L && Nt.room L))) := by
  obtain ⟨W1, HW1⟩ : ∃ W1, Hid (w.alloc (.cells #[.pointer (some ⟨b, 0, none⟩)] 25) = W1) := ⟨_, rfl⟩
  have hB1 : Below w.heap.size w W1 := by rw [← HW1.out]; exact bel1 w _
  have hr1 : W1.heap[w.heap.size]? = some (.cells #[.pointer (some ⟨b, 0, none⟩)] 25 (0, 0)) := by rw [← HW1.out]; exact heap_alloc_last w _
  obtain ⟨x0, _⟩ := rw1 hr1
  have h1 := h.keep hB1
  have hbw1 : base ≤ W1.heap.size := Nat.le_trans hbw hB1.size
  cases e1 : Nt.is L with
  | false =>
    have hnil := Nt.is_nil e1
    subst hnil
    have c := pick_none h1 i (.func (.func 38) #[] #[.pointer (some ⟨w.heap.size, 0, none⟩)])
    have HK : Hid (NOut w base b m v n N (Nt.dbl [] i) C (.bool false) (.returned (.bool false)) W1) := ⟨v, rfl, h1, Ch.ofBelow hB1⟩
    clear h h1 hr1 hB1 e1
    go_enter Try.func18, Try.ntmps18
    go_upto_region 1 with fail
    rw [HW1.out]
    go_wp2_with fail
    refine c.mono ?_
    rintro e w2 ⟨rfl, rfl⟩
    go_wp2
    go_ret
    exact HK.out
  | true =>
    rw [Bool.true_and]
    have hL := Nt.is_lt e1
    have hi := Nt.wr_lt i hL
    have c := pick_38 h1 i hL w.heap.size ((double1_any h1 hbw1 _ hi w.heap.size x0).mono fun e w' k => k.nr)
    have HK : Hid (∀ r w', NR W1 base b m v n N (Nt.dbl L i) C (Nt.room L) r w' → NOut w base b m v n N (Nt.dbl L i) C (.bool (Nt.room L)) (.returned (.bool r)) w') := by
      rintro r w' ⟨rfl, v', k1, k2⟩
      exact ⟨v', rfl, k1, (Ch.ofBelow hB1).trans k2⟩
    rw [← dbl_at hi] at c
    generalize Nt.dbl L i = LL at *
    generalize Nt.room L = rm at *
    clear h h1 hr1 hB1 e1 hi hL
    go_enter Try.func18, Try.ntmps18
    go_upto_region 1 with fail
    rw [HW1.out]
    go_wp2_with fail
    refine c.mono ?_
    rintro e w2 ⟨r, rfl, hq⟩
    have HQ := Hid_of (HK.out r w2 hq)
    clear hq HK c
    go_wp2
    go_ret
    exact HQ.out
set_option maxRecDepth 100000 in
set_option maxHeartbeats 400000 in
theorem spoil_any (h : NI w base b m v n N L C) (hbw : base ≤ w.heap.size) (i at' by' : Int) :
    Calls Try.prog 20 #[.pointer (some ⟨b, 0, none⟩), .int .i64 i, .int .i64 at', .int .i64 by'] w (NOut w base b m v n N (Nt.spo L i at' by') C (.bool (Nt.is L))) := by
  obtain ⟨W1, HW1⟩ : ∃ W1, Hid (((w.alloc (.cells #[.pointer (some ⟨b, 0, none⟩)] 25)).alloc (.cells #[.int .i64 at'] 3)).alloc (.cells #[.int .i64 by'] 3) = W1) := ⟨_, rfl⟩
  have hB1 : Below w.heap.size w W1 := by rw [← HW1.out]; exact (bel2 w _ _).alloc (by simp; omega) _
  obtain ⟨hr1, hr2, hr3⟩ : W1.heap[w.heap.size]? = some (.cells #[.pointer (some ⟨b, 0, none⟩)] 25 (0, 0)) ∧ W1.heap[w.heap.size + 1]? = some (.cells #[.int .i64 at'] 3 (0, 0)) ∧ W1.heap[w.heap.size + 2]? = some (.cells #[.int .i64 by'] 3 (0, 0)) := by
    rw [← HW1.out]
    exact heap_alloc3 w _ _ _
  obtain ⟨x0, _⟩ := rw1 hr1
  have h1 := h.keep hB1
  have hbw1 : base ≤ W1.heap.size := Nat.le_trans hbw hB1.size
  cases e1 : Nt.is L with
  | false =>
    have hnil := Nt.is_nil e1
    subst hnil
    have c := pick_none h1 i (.func (.func 39) #[] #[.pointer (some ⟨w.heap.size, 0, none⟩), .pointer (some ⟨w.heap.size + 1, 0, none⟩), .pointer (some ⟨w.heap.size + 2, 0, none⟩)])
    have HK : Hid (NOut w base b m v n N (Nt.spo [] i at' by') C (.bool false) (.returned (.bool false)) W1) := ⟨v, rfl, h1, Ch.ofBelow hB1⟩
    clear h h1 hr1 hr2 hr3 hB1 e1
    go_enter Try.func20, Try.ntmps20
    go_upto_region 1 with fail
    rw [HW1.out]
    go_wp2_with fail
    refine c.mono ?_
    rintro e w2 ⟨rfl, rfl⟩
    go_wp2
    go_ret
    exact HK.out
  | true =>
    have hL := Nt.is_lt e1
    have hi := Nt.wr_lt i hL
    have c := pick_39 h1 i hL w.heap.size (w.heap.size + 1) (w.heap.size + 2) ((spoil1_any h1 hbw1 _ hi at' by' w.heap.size (w.heap.size + 1) (w.heap.size + 2) hr1 hr2 hr3).mono fun e w' k => k.nr)
    have HK : Hid (∀ r w', NR W1 base b m v n N (Nt.spo L i at' by') C true r w' → NOut w base b m v n N (Nt.spo L i at' by') C (.bool true) (.returned (.bool r)) w') := by
      rintro r w' ⟨rfl, v', k1, k2⟩
      exact ⟨v', rfl, k1, (Ch.ofBelow hB1).trans k2⟩
    rw [← spo_at at' by' hi] at c
    generalize Nt.spo L i at' by' = LL at *
    clear h h1 hr1 hr2 hr3 hB1 e1 hi hL
    go_enter Try.func20, Try.ntmps20
    go_upto_region 1 with fail
    rw [HW1.out]
    go_wp2_with fail
    refine c.mono ?_
    rintro e w2 ⟨r, rfl, hq⟩
    have HQ := Hid_of (HK.out r w2 hq)
    clear hq HK c
    go_wp2
    go_ret
    exact HQ.out
def DlvOut (w : World) (base b m : Nat) (v : Value) (n : Nat) (N : Int) (L' : List Pk) (C : Int → Int → Bool) (o : Option ByteArray) (e : Ending) (w' : World) : Prop := ∃ v', e = .returned (.tuple #[.agg (mc o), .bool (Nt.gok o)]) ∧ NI w' base b m v' n N L' C ∧ Ch w (fp b m v) w' (fp b m v')
theorem f14_res : Try.f14.results = #[.cell 4 33, .tmp 5] := rfl
theorem mc_row (o : Option ByteArray) : ∃ k f t i s, mc o = #[.int .i64 k, .int .i64 f, .int .i64 t, .int .i64 i, .string s] := ⟨_, _, _, _, _, rfl⟩
set_option maxRecDepth 100000 in
set_option maxHeartbeats 400000 in
theorem deliver_any (h : NI w base b m v n N L C) (hbw : base ≤ w.heap.size) (i : Int) :
    Calls Try.prog 14 #[.pointer (some ⟨b, 0, none⟩), .int .i64 i] w (DlvOut w base b m v n N (Nt.drp L i) C (Nt.out L C i)) := by
  obtain ⟨W1, HW1⟩ : ∃ W1, Hid (((w.alloc (.cells #[.pointer (some ⟨b, 0, none⟩)] 25)).alloc (.cells #[.int .i64 0, .int .i64 0, .int .i64 0, .int .i64 0, .string ⟨#[]⟩] 33)).alloc (.cells #[.int .i64 0, .int .i64 0, .int .i64 0, .int .i64 0, .string ⟨#[]⟩] 33) = W1) := ⟨_, rfl⟩
  have hB1 : Below w.heap.size w W1 := by rw [← HW1.out]; exact (bel2 w _ _).alloc (by simp; omega) _
  have hs1 : W1.heap.size = w.heap.size + 3 := by rw [← HW1.out]; simp
  obtain ⟨hr1, hr2, hr3⟩ : W1.heap[w.heap.size]? = some (.cells #[.pointer (some ⟨b, 0, none⟩)] 25 (0, 0)) ∧ W1.heap[w.heap.size + 1]? = some (.cells #[.int .i64 0, .int .i64 0, .int .i64 0, .int .i64 0, .string ⟨#[]⟩] 33 (0, 0)) ∧ W1.heap[w.heap.size + 2]? = some (.cells #[.int .i64 0, .int .i64 0, .int .i64 0, .int .i64 0, .string ⟨#[]⟩] 33 (0, 0)) := by
    rw [← HW1.out]
    exact heap_alloc3 w _ _ _
  obtain ⟨x0, _⟩ := rw1 hr1
  have h1 := h.keep hB1
  have hbw1 : base ≤ W1.heap.size := Nat.le_trans hbw hB1.size
  have hno : ∀ k, w.heap.size ≤ k → ¬ fp b m v k := fun k hk hF => by have := (h.mine k hF).2; omega
  -- the message goes from its box into the result's
  have HK : Hid (∀ v' w' o, NI w' base b m v' n N (Nt.drp L i) C → w'.heap[w.heap.size + 2]? = some (.cells (mc o) 33 (0, 0)) → w'.heap[w.heap.size + 1]? = some (.cells #[.int .i64 0, .int .i64 0, .int .i64 0, .int .i64 0, .string ⟨#[]⟩] 33 (0, 0)) → ¬ fp b m v' (w.heap.size + 1) → Ch w (fp b m v) w' (fp b m v') → o = Nt.out L C i → ∀ k1 k2 k3 k4 k5, mc o = #[k1, k2, k3, k4, k5] → (put5 w' (w.heap.size + 1) k1 k2 k3 k4 k5).heap[w.heap.size + 1]? = some (.cells #[k1, k2, k3, k4, k5] 33 (0, 0)) ∧ DlvOut w base b m v n N (Nt.drp L i) C (Nt.out L C i) (.returned (.tuple #[.agg #[k1, k2, k3, k4, k5], .bool (Nt.gok o)])) (put5 w' (w.heap.size + 1) k1 k2 k3 k4 k5)) := by
    intro v' w' o k1 k2 k3 k4 k5 k6 a1 a2 a3 a4 a5 hmc
    subst k6
    refine ⟨put5_row k3 _ _ _ _ _, v', by rw [hmc], k1.keepBut (fun k _ hk => put5_oth (fun e => k4 (by rw [← e]; exact hk)) _ _ _ _ _), ?_⟩
    have hA := (k5.also (w.heap.size + 1)).put5 (k := w.heap.size + 1) (.inr rfl) a1 a2 a3 a4 a5
    refine ⟨hA.os, hA.tape, hA.output, hA.size, fun k hk hF => hA.block k hk (fun e => ?_), k5.n⟩
    rcases e with e | e
    · exact hF e
    · omega
  cases e1 : Nt.is L with
  | false =>
    have hnil := Nt.is_nil e1
    subst hnil
    have c := pick_none h1 i (.func (.func 33) #[] #[.pointer (some ⟨w.heap.size, 0, none⟩), .pointer (some ⟨w.heap.size + 2, 0, none⟩)])
    obtain ⟨q1, q2⟩ := HK.out v W1 none h1 hr3 hr2 (hno _ (by omega)) (Ch.ofBelow hB1) rfl _ _ _ _ _ mc_none
    have HQ1 := Hid_of q1
    have HQ2 := Hid_of q2
    obtain ⟨⟨y0, y1, y2, y3, y4⟩, yf⟩ := row5 hr2
    obtain ⟨⟨z0, z1, z2, z3, z4⟩, _⟩ := row5 hr3
    have yf0 := yf 0
    have yf1 := yf 1
    have yf2 := yf 2
    have yf3 := yf 3
    have yf4 := yf 4
    clear h h1 hr1 hr2 hr3 hB1 e1 HK hno q1 q2 yf hs1
    go_enter Try.func14, Try.ntmps14
    go_upto_region 2 with fail
    rw [HW1.out]
    go_wp2_with fail
    refine c.mono ?_
    rintro e w2 ⟨rfl, rfl⟩
    go_wp2
    refine bodyPost_ret (v := .tuple #[.agg #[.int .i64 0, .int .i64 0, .int .i64 0, .int .i64 0, .string ⟨#[]⟩], .bool (Nt.gok none)]) ?_ rfl HQ2.out
    exact res5 f14_res _ _ (w.heap.size + 1) _ _ _ _ _ rfl HQ1.out
  | true =>
    have hL := Nt.is_lt e1
    have hi := Nt.wr_lt i hL
    have ho := out_at (C := C) hi
    have c := pick_33 h1 i hL w.heap.size (w.heap.size + 2) (R := fun r w' => r = Nt.gok (arr C (L[Nt.wr i L.length]'hi)) ∧ ∃ v', NI w' base b m v' n N (L.eraseIdx (Nt.wr i L.length)) C ∧ w'.heap[w.heap.size + 2]? = some (.cells (mc (arr C (L[Nt.wr i L.length]'hi))) 33 (0, 0)) ∧ Ch W1 (fun k => fp b m v k ∨ k = w.heap.size + 2) w' (fun k => fp b m v' k ∨ k = w.heap.size + 2))
      ((deliver1_any h1 hbw1 _ hi w.heap.size (w.heap.size + 2) hr1 hr3 (hno _ (Nat.le_refl _)) (hno _ (by omega))).mono fun e w' ⟨v', q1, q2, q3, q4, q5⟩ => ⟨_, q1, rfl, v', q2, q3, q5⟩)
    rw [← ho, ← at_drp hL] at c
    have HF : Hid (∀ r w2, (r = Nt.gok (Nt.out L C i) ∧ ∃ v', NI w2 base b m v' n N (Nt.drp L i) C ∧ w2.heap[w.heap.size + 2]? = some (.cells (mc (Nt.out L C i)) 33 (0, 0)) ∧ Ch W1 (fun k => fp b m v k ∨ k = w.heap.size + 2) w2 (fun k => fp b m v' k ∨ k = w.heap.size + 2)) → ∃ k1 k2 k3 k4 k5, w2.heap[w.heap.size + 1]? = some (.cells #[.int .i64 0, .int .i64 0, .int .i64 0, .int .i64 0, .string ⟨#[]⟩] 33 (0, 0)) ∧ w2.heap[w.heap.size + 2]? = some (.cells #[.int .i64 k1, .int .i64 k2, .int .i64 k3, .int .i64 k4, .string k5] 33 (0, 0)) ∧ (put5 w2 (w.heap.size + 1) (.int .i64 k1) (.int .i64 k2) (.int .i64 k3) (.int .i64 k4) (.string k5)).heap[w.heap.size + 1]? = some (.cells #[.int .i64 k1, .int .i64 k2, .int .i64 k3, .int .i64 k4, .string k5] 33 (0, 0)) ∧ DlvOut w base b m v n N (Nt.drp L i) C (Nt.out L C i) (.returned (.tuple #[.agg #[.int .i64 k1, .int .i64 k2, .int .i64 k3, .int .i64 k4, .string k5], .bool r])) (put5 w2 (w.heap.size + 1) (.int .i64 k1) (.int .i64 k2) (.int .i64 k3) (.int .i64 k4) (.string k5))) := by
      rintro r w2 ⟨rfl, v', q2, q3, q5⟩
      obtain ⟨k1, k2, k3, k4, k5, hmc⟩ := mc_row (Nt.out L C i)
      have hy : w2.heap[w.heap.size + 1]? = some (.cells #[.int .i64 0, .int .i64 0, .int .i64 0, .int .i64 0, .string ⟨#[]⟩] 33 (0, 0)) := (q5.block _ (by omega) (fun e => by
        rcases e with e | e
        · exact hno _ (by omega) e
        · omega)).trans hr2
      have hv' : ¬ fp b m v' (w.heap.size + 1) := fun e => by
        rcases q5.n _ (.inl e) with h' | h'
        · rcases h' with h' | h'
          · exact hno _ (by omega) h'
          · omega
        · omega
      have hC : Ch w (fp b m v) w2 (fp b m v') := by
        refine ⟨q5.os.trans hB1.os, q5.tape.trans hB1.tape, q5.output.trans hB1.output, Nat.le_trans hB1.size q5.size, fun k hk hF => ?_, fun k hk => ?_⟩
        · rw [q5.block k (by omega) (fun e => by
            rcases e with e | e
            · exact hF e
            · omega)]
          exact hB1.block k hk
        · rcases q5.n k (.inl hk) with h' | h'
          · rcases h' with h' | h'
            · exact .inl h'
            · exact .inr (by omega)
          · exact .inr (by omega)
      obtain ⟨j1, j2⟩ := HK.out v' w2 _ q2 q3 hy hv' hC rfl _ _ _ _ _ hmc
      rw [hmc] at q3
      exact ⟨k1, k2, k3, k4, k5, hy, q3, j1, j2⟩
    generalize Nt.drp L i = LL at *
    generalize Nt.out L C i = oo at *
    clear h h1 hr1 hr2 hr3 hB1 e1 hi hL HK hno ho hs1
    go_enter Try.func14, Try.ntmps14
    go_upto_region 2 with fail
    rw [HW1.out]
    go_wp2_with fail
    refine c.mono ?_
    rintro e w2 ⟨r, rfl, hq⟩
    obtain ⟨k1, k2, k3, k4, k5, hy, hz, j1, j2⟩ := HF.out r w2 hq
    have HQ1 := Hid_of j1
    have HQ2 := Hid_of j2
    obtain ⟨⟨y0, y1, y2, y3, y4⟩, yf⟩ := row5 hy
    obtain ⟨⟨z0, z1, z2, z3, z4⟩, _⟩ := row5 hz
    have yf0 := yf 0
    have yf1 := yf 1
    have yf2 := yf 2
    have yf3 := yf 3
    have yf4 := yf 4
    clear hq HF c hy hz j1 j2 yf x0 HW1
    go_wp2
    refine bodyPost_ret (v := .tuple #[.agg #[.int .i64 k1, .int .i64 k2, .int .i64 k3, .int .i64 k4, .string k5], .bool r]) ?_ rfl HQ2.out
    exact res5 f14_res _ _ (w.heap.size + 1) _ _ _ _ _ rfl HQ1.out
end
end Go.Proofs.Ytjbodjjeenjbeaa
