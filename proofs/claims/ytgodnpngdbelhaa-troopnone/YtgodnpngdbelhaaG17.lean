/-
  Votes are trimmed.
-/
import Derived.Test.YtgodnpngdbelhaaG16
namespace Go.Proofs.Ytgodnpngdbelhaa.Na
open Go.RowKit
set_option linter.unusedVariables false
open Go.Proofs.Ytgodnpngdbelhaa.M (E V)

/-- What a Trim leaves. -/
def TrOut (w : World) (base b : Nat) (v : Value) (a : M.S) (u : Int) (e : Ending) (w' : World) : Prop :=
  ∃ v', e = .returned (.int .i64 (M.trn a u : Nat)) ∧ AI w' base b v' (M.trs a u) ∧ Fr w (fpa b v) w' (fpa b v')
theorem copy_nil (w : World) (ty : TypeId) : (Builtin.copy_ #[61, 61] ty #[.slice none 0 0, .slice none 0 0]).run Try.prog w = .ok (goInt 0) w := by
  have hi := hi84
  simp [Builtin.copy_, run_underlying Try.underlying61, Builtin.lenOf, Builtin.firstCells, sizeOf, typeInfo, hi]
theorem clear_nil (w : World) (ty : TypeId) : (Builtin.clear_ #[61] ty #[.slice none 0 0]).run Try.prog w = .ok (.tuple #[]) w := by
  simp [Builtin.clear_, run_underlying Try.underlying61]
theorem AI.setB {w : World} {base b : Nat} {v : Value} {a : M.S} (h : AI w base b v a) (x : Int) : AI (w.setCell ⟨b, 2, none⟩ (.int .i64 x)) base b v ⟨a.p, x, a.l⟩ :=
  ⟨heap_setCell_same w b 2 _ _ _ h.row, h.own.keepBut fun k hk e => heap_setCell_other w ⟨b, 2, none⟩ k _ (fun e' => h.ap (e.trans (congrArg some e'))), h.ap, h.lo⟩
end Go.Proofs.Ytgodnpngdbelhaa.Na
namespace Go.Proofs.Ytgodnpngdbelhaa.Na
open Go.RowKit
set_option linter.unusedVariables false
open Go.Proofs.Ytgodnpngdbelhaa.M (E V)

/-- An acceptor, new since w0, at block b; F: its own. -/
structure AS (w0 w : World) (F : Nat → Prop) (b : Nat) (a : M.S) : Prop where
  ai : ∃ v, F = fpa b v ∧ AI w w0.heap.size b v a
  bel : Below w0.heap.size w0 w
  ok : M.Ok a
section
variable {w0 w w' : World} {F G G' : Nat → Prop} {b : Nat} {a : M.S}
theorem AS.keep (h : AS w0 w F b a) (hb : Below w.heap.size w w') : AS w0 w' F b a := by
  obtain ⟨v, hF, hX⟩ := h.ai
  exact ⟨⟨v, hF, hX.keep hb⟩, bel_up h.bel hb (Nat.le_refl _), h.ok⟩
theorem AS.mine (h : AS w0 w F b a) : ∀ k, F k → w0.heap.size ≤ k ∧ k < w.heap.size := by
  obtain ⟨v, rfl, hX⟩ := h.ai
  exact hX.mine
/-- Something else has changed. -/
theorem AS.step (h : AS w0 w F b a) (hF : Fr w G w' G') (hap : ∀ k, F k → ¬ G k) (hG : ∀ k, G k → w0.heap.size ≤ k) : AS w0 w' F b a ∧ ∀ k, F k → ¬ G' k := by
  have hm := h.mine
  obtain ⟨v, e, hX⟩ := h.ai
  refine ⟨⟨⟨v, e, hX.keepBut (fun k hk hk2 => hF.block k hk (hap k (by rw [e]; exact hk2)))⟩, h.bel.trans (hF.below hG h.bel.size), h.ok⟩, fun k hk hg => ?_⟩
  rcases hF.n k hg with h' | h'
  · exact hap k hk h'
  · have := (hm k hk).2; omega
theorem newA_any (w0 w : World) (hb : Below w0.heap.size w0 w) : Calls Try.prog 42 #[] w fun e w' => ∃ b F, e = .returned (.pointer (some ⟨b, 0, none⟩)) ∧ AS w0 w' F b M.S0 ∧ Below w.heap.size w w' ∧ ∀ k, F k → w.heap.size ≤ k :=
  (new_any w).mono fun e w' ⟨b, h1, h2, h3, h4⟩ => ⟨b, _, h1, ⟨⟨_, rfl, ⟨h2.row, h2.own.low hb.size, h2.ap, Nat.le_trans hb.size h2.lo⟩⟩, bel_up hb h3 (Nat.le_refl _), M.Ok.zero⟩, h3, fun k hk => (h2.mine k hk).1⟩
theorem AS.fr (h : AS w0 w F b a) (hF : Fr w F w' G) : Below w0.heap.size w0 w' := h.bel.trans (hF.below (fun k hk => (h.mine k hk).1) h.bel.size)
theorem AS.promise (h : AS w0 w F b a) (x : E) (k : Int) : Calls Try.prog 50 #[.pointer (some ⟨b, 0, none⟩), bV x, .int .i64 k] w fun e w' => ∃ ad c, e = .returned (.tuple #[.slice ad (M.prl a x k).length c, .bool (M.prb a x k)]) ∧ XL vl w' ad c (M.prl a x k) ∧ (∀ j, blk ad j → w.heap.size ≤ j ∧ j < w'.heap.size) ∧ AS w0 w' F b (M.prs a x k) ∧ Fr w F w' F := by
  have h0 := h
  obtain ⟨v, rfl, hX⟩ := h.ai
  refine (promise_any hX h.ok x k).mono ?_
  rintro e w' ⟨u, h1, h2, h3, h4⟩
  obtain ⟨ad, c, rfl, hx, hbk⟩ := h2.at
  exact ⟨ad, c, h1, hx, fun j hj => ⟨(hbk j hj).1, (hbk j hj).2.2⟩, ⟨⟨v, rfl, h3⟩, h0.fr h4, M.prs_ok h.ok x k⟩, h4⟩
theorem AS.accept (h : AS w0 w F b a) (x : V) : Calls Try.prog 85 #[.pointer (some ⟨b, 0, none⟩), vV x] w fun e w' => ∃ G, e = .returned (.bool (M.acb a x)) ∧ AS w0 w' G b (M.acs a x) ∧ Fr w F w' G := by
  have h0 := h
  obtain ⟨v, rfl, hX⟩ := h.ai
  have key : Calls Try.prog 85 #[.pointer (some ⟨b, 0, none⟩), vV x] w (AcOut w w0.heap.size b v a x) := by
    cases hb : M.acb a x with
    | false => exact accept_no hX x hb
    | true => exact accept_yes hX h.bel.size h.ok x hb
  refine key.mono ?_
  rintro e w' ⟨v', h1, h2, h3⟩
  exact ⟨_, h1, ⟨⟨v', rfl, h2⟩, h0.fr h3, M.acs_ok h.ok x⟩, h3⟩
theorem AS.promised (h : AS w0 w F b a) : Calls Try.prog 49 #[.pointer (some ⟨b, 0, none⟩)] w fun e w' => e = .returned (bV a.p) ∧ Below w.heap.size w w' := by
  obtain ⟨v, rfl, hX⟩ := h.ai
  exact promised_any hX
theorem AS.base (h : AS w0 w F b a) : Calls Try.prog 58 #[.pointer (some ⟨b, 0, none⟩)] w fun e w' => e = .returned (.int .i64 a.base) ∧ w' = w := by
  obtain ⟨v, rfl, hX⟩ := h.ai
  exact base_any hX
theorem AS.votes (h : AS w0 w F b a) (k : Int) : Calls Try.prog 67 #[.pointer (some ⟨b, 0, none⟩), .int .i64 k] w fun e w' => ∃ ad c, e = .returned (.slice ad (M.vts a.l k).length c) ∧ XL vl w' ad c (M.vts a.l k) ∧ (∀ j, blk ad j → w.heap.size ≤ j ∧ j < w'.heap.size) ∧ Below w.heap.size w w' := by
  obtain ⟨v, rfl, hX⟩ := h.ai
  refine (votes_any hX h.ok k).mono ?_
  rintro e w' ⟨u, h1, h2, h3⟩
  obtain ⟨ad, c, rfl, hx, hbk⟩ := h2.at
  exact ⟨ad, c, h1, hx, fun j hj => ⟨(hbk j hj).1, (hbk j hj).2.2⟩, h3⟩
end
theorem promise_nil (x : E) (k : Int) (w : World) : Calls Try.prog 50 #[.pointer none, bV x, .int .i64 k] w fun e w' => e = .returned (.tuple #[.slice none 0 0, .bool false]) ∧ Below w.heap.size w w' := by
  have HB := Hid_of (fun o => bel1 w o)
  go_enter Try.func50, Try.ntmps50
  go_wp2
  go_ret2
  exact ⟨rfl, HB.out _⟩
theorem accept_nil (x : V) (w : World) : Calls Try.prog 85 #[.pointer none, vV x] w fun e w' => e = .returned (.bool false) ∧ Below w.heap.size w w' := by
  have HB := Hid_of (fun o => bel1 w o)
  go_enter Try.func85, Try.ntmps85
  go_wp2
  go_ret
  exact ⟨rfl, HB.out _⟩
theorem votes_nil (k : Int) (w : World) : Calls Try.prog 67 #[.pointer none, .int .i64 k] w fun e w' => e = .returned (.slice none 0 0) ∧ w' = w := by
  go_enter Try.func67, Try.ntmps67
  go_wp2
  go_ret
  exact ⟨rfl, rfl⟩
theorem base_nil (w : World) : Calls Try.prog 58 #[.pointer none] w fun e w' => e = .returned (.int .i64 0) ∧ w' = w := by
  go_enter Try.func58, Try.ntmps58
  go_wp2
  go_ret
  exact ⟨rfl, rfl⟩
theorem promised_nil (w : World) : Calls Try.prog 49 #[.pointer none] w fun e w' => e = .returned (.agg #[.int .i64 0, .int .i64 0]) ∧ Below w.heap.size w w' := by
  have HB := Hid_of (bel1 w (.cells #[.int .i64 0, .int .i64 0] 60))
  have hr := heap_alloc_last w (.cells #[.int .i64 0, .int .i64 0] 60)
  obtain ⟨W1, HW1⟩ : ∃ W1, Hid (w.alloc (.cells #[.int .i64 0, .int .i64 0] 60) = W1) := ⟨_, Hid_of rfl⟩
  rw [HW1.out] at HB hr
  obtain ⟨⟨x0, x1⟩, xf⟩ := row2 hr
  have f0 := xf 0
  have f1 := xf 1
  have HR := Hid_of hr
  clear hr xf
  go_enter Try.func49, Try.ntmps49
  go_upto_region 1 with fail
  rw [HW1.out]
  clear HW1
  go_wp2
  refine bodyPost_ret (v := .agg #[.int .i64 0, .int .i64 0]) ?_ rfl ⟨rfl, (HB.out.setCell (Nat.le_refl _) _).setCell (Nat.le_refl _) _⟩
  exact results_cell_row f49_res _ _ w.heap.size 60 _ (0, 0) _ rfl (heap_setCell_same _ w.heap.size 1 _ _ _ (heap_setCell_same W1 w.heap.size 0 _ _ _ HR.out)) Try.underlying60 rfl Try.size60
/-- A row beside what has F for its own. -/
structure XB (w : World) (F : Nat → Prop) (ad : Option Addr) (c : Nat) (l : List V) : Prop where
  xl : XL vl w ad c l
  lt : ∀ k, blk ad k → k < w.heap.size
  ap : ∀ k, blk ad k → ¬ F k
theorem XB.step {w w' : World} {F G : Nat → Prop} {ad : Option Addr} {c : Nat} {l : List V} (h : XB w F ad c l) (hF : Fr w F w' G) : XB w' G ad c l :=
  ⟨h.xl.keepBut fun k hk hb => hF.block k hk (h.ap k hb), fun k hk => Nat.lt_of_lt_of_le (h.lt k hk) hF.size, fun k hk hG => by
    rcases hF.n k hG with h' | h'
    · exact h.ap k hk h'
    · have := h.lt k hk; omega⟩
theorem XB.up {w w' : World} {F : Nat → Prop} {ad : Option Addr} {c : Nat} {l : List V} (h : XB w F ad c l) (hb : Below w.heap.size w w') : XB w' F ad c l := h.step (Fr.ofBelow hb)
/-- A block beside what has F for its own. -/
structure BX (w : World) (F : Nat → Prop) (g : Nat) (o : Obj) : Prop where
  row : w.heap[g]? = some o
  ap : ¬ F g
theorem BX.step {w w' : World} {F G : Nat → Prop} {g : Nat} {o : Obj} (h : BX w F g o) (hF : Fr w F w' G) : BX w' G g o := by
  have hl := (Array.getElem?_eq_some_iff.1 h.row).1
  refine ⟨(hF.block g hl h.ap).trans h.row, fun e => ?_⟩
  rcases hF.n g e with h' | h'
  · exact h.ap h'
  · omega
theorem BX.up {w w' : World} {F : Nat → Prop} {g : Nat} {o : Obj} (h : BX w F g o) (hb : Below w.heap.size w w') : BX w' F g o := h.step (Fr.ofBelow hb)
/-- Are two votes alike? -/
def veq (s i t : Int) (v : ByteArray) (s' i' t' : Int) (v' : ByteArray) : Bool := (s == s') && (((i == i') && (t == t')) && (v.toList == v'.toList))
theorem veq_refl (s i t : Int) (v : ByteArray) : veq s i t v s i t v = true := by simp [veq]
theorem veq_slot {s i t : Int} {v : ByteArray} {s' i' t' : Int} {v' : ByteArray} (h : s ≠ s') : veq s i t v s' i' t' v' = false := by simp [veq, h]
set_option maxRecDepth 100000 in
set_option maxHeartbeats 400000 in
theorem equal84 (s i t : Int) (v : ByteArray) (s' i' t' : Int) (v' : ByteArray) (w : World) : (Op.equalIn 10000 84 (.agg #[.int .i64 s, .int .i64 i, .int .i64 t, .string v]) (.agg #[.int .i64 s', .int .i64 i', .int .i64 t', .string v'])).run Try.prog w = .ok (veq s i t v s' i' t' v') w := by
  have u3 := Try.underlying3
  have u9 := Try.underlying9
  have a3 := Try.isAgg3
  have a9 := Try.isAgg9
  have a28 := Try.isAgg60
  have z3 := Try.sizeOf3
  have z9 := Try.sizeOf9
  have z28 := Try.sizeOf60
  have hS : Try.prog.underlying 84 = some (.struct (Try.prog.fieldsOf 84)) := by kernel_rfl
  have hp : Try.prog.stoodInHeld 84 = false := by kernel_rfl
  rw [show (10000 : Nat) = 9999 + 1 from rfl, run_equalIn_agg w 9999 84 _ _ hS hp]
  clear hS hp
  simp only [Program.fieldsOf, Try.underlying84]
  unfold veq
  cases h1 : s == s' with
  | false => go_simp
  | true =>
    cases h2 : i == i' with
    | false =>
      have n2 : ¬ (i = i') := by simpa using h2
      go_simp
    | true =>
      have n2 : i = i' := by simpa using h2
      cases h3 : t == t' with
      | false =>
        have n3 : ¬ (t = t') := by simpa using h3
        go_simp
      | true =>
        have n3 : t = t' := by simpa using h3
        go_simp
        by_cases h : v.toList = v'.toList
        · simp [h]
        · simp [h]
theorem ql84 (s i t : Int) (v : ByteArray) (s' i' t' : Int) (v' : ByteArray) (w : World) : (binOp .eql 84 (.agg #[.int .i64 s, .int .i64 i, .int .i64 t, .string v]) (.agg #[.int .i64 s', .int .i64 i', .int .i64 t', .string v'])).run Try.prog w = .ok (.bool (veq s i t v s' i' t' v')) w := by
  rw [run_eql_struct, equal84]
  rfl
theorem ne84 (s i t : Int) (v : ByteArray) (w : World) : (binOp .neq 84 (.agg #[.int .i64 s, .int .i64 i, .int .i64 t, .string v]) (.agg #[.int .i64 s, .int .i64 i, .int .i64 t, .string v])).run Try.prog w = .ok (.bool false) w := by
  rw [run_neq_struct, equal84, veq_refl]
  rfl
theorem ne60 (i t : Int) (w : World) : (binOp .neq 60 (.agg #[.int .i64 i, .int .i64 t]) (.agg #[.int .i64 i, .int .i64 t])).run Try.prog w = .ok (.bool false) w := by
  have u3 := Try.underlying3
  have a3 := Try.isAgg3
  have z3 := Try.sizeOf3
  have hS2 : Try.prog.underlying 60 = some (.struct (Try.prog.fieldsOf 60)) := by kernel_rfl
  have hp2 : Try.prog.stoodInHeld 60 = false := by kernel_rfl
  rw [run_neq_struct, show (10000 : Nat) = 9999 + 1 from rfl, run_equalIn_agg w 9999 60 _ _ hS2 hp2]
  simp only [Program.fieldsOf, Try.underlying60]
  go_simp
end Go.Proofs.Ytgodnpngdbelhaa.Na
