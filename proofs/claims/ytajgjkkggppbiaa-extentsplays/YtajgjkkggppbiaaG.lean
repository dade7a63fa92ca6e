/-
  Rows of pieces that are one's own: a piece added.
-/
import Derived.Test.YtajgjkkggppbiaaD
import Derived.Test.YtajgjkkggppbiaaF
import Derived.Deep.AppendLies
namespace Go.Proofs.Ytajgjkkggppbiaa
open Go.RowKit
set_option linter.unusedVariables false
open M (E)

/-- A row of pieces of one's own. -/
def Own (w : World) (base : Nat) (v : Value) (l : List E) : Prop := w.ownsRow base 32 4 v l.length (EC l)
/-- What has become of a row: nothing else has changed; it lies where it lay, or in new memory. -/
structure Rw (w : World) (v : Value) (w' : World) (v' : Value) : Prop where
  g : w.grownBy w' v.ownBlock
  n : ∀ k, v'.ownBlock = some k → v.ownBlock = some k ∨ w.heap.size ≤ k
theorem Rw.refl (w : World) (v : Value) : Rw w v w v := ⟨⟨rfl, rfl, rfl, Nat.le_refl _, fun _ _ _ => rfl⟩, fun k h => .inl h⟩
theorem Rw.trans {w w1 w2 : World} {v v1 v2 : Value} (h : Rw w v w1 v1) (k : Rw w1 v1 w2 v2) : Rw w v w2 v2 := by
  refine ⟨⟨k.g.os.trans h.g.os, k.g.tape.trans h.g.tape, k.g.output.trans h.g.output, Nat.le_trans h.g.size k.g.size, fun b hb hne => ?_⟩, fun b hb => ?_⟩
  · rw [k.g.block b (Nat.lt_of_lt_of_le hb h.g.size) (fun e => by
      rcases h.n b e.symm with h' | h'
      · exact hne h'.symm
      · omega)]
    exact h.g.block b hb hne
  · rcases k.n b hb with h' | h'
    · exact h.n b h'
    · exact .inr (Nat.le_trans h.g.size h')
theorem Rw.ofBelow {w w1 : World} (v : Value) (h : Below w.heap.size w w1) : Rw w v w1 v := ⟨⟨h.os, h.tape, h.output, h.size, fun k hk _ => h.block k hk⟩, fun k h => .inl h⟩
theorem Rw.drewN {w w1 : World} {v v1 : Value} (h : Rw w v w1 v1) (n : Nat) : Rw w v (w1.drewN n) v1 := ⟨⟨h.g.os, h.g.tape, h.g.output, h.g.size, h.g.block⟩, h.n⟩
theorem Rw.below {B : Nat} {w w1 : World} {v v1 : Value} (h : Rw w v w1 v1) (hv : ∀ k, v.ownBlock = some k → B ≤ k) (hB : B ≤ w.heap.size) : Below B w w1 :=
  ⟨h.g.os, h.g.tape, h.g.output, h.g.size, fun k hk => h.g.block k (by omega) (fun e => by have := hv k e.symm; omega)⟩
theorem Own.keep {w w1 : World} {base : Nat} {v : Value} {l : List E} (h : Own w base v l) (hb : Below w.heap.size w w1) : Own w1 base v l :=
  World.ownsRow.kept (row := none) h ⟨hb.os, hb.tape, hb.output, hb.size, fun k hk _ => hb.block k hk⟩ (by cases hv : v.ownBlock <;> simp)
theorem hi32 : Try.prog.info? 32 = some Try.t32 := rfl
theorem hz32 : Try.t32.zero = some (.agg #[.int .i64 0, .int .i64 0, .int .i64 0, .int .i64 0]) := rfl
theorem hs32 : Try.t32.size = 4 := rfl
theorem hb32 : Try.t32.bytes = 32 := rfl
theorem EC_set1 (d : List E) (p : E) (q : Int) : (EC (d ++ [p])).set (d.length * 4 + 1) (.int .i64 q) = EC (d ++ [⟨p.a, q, p.d, p.f⟩]) := by
  rw [EC_app, EC_app, List.set_append_right _ _ (by rw [EC_len]; omega), EC_len, show d.length * 4 + 1 - d.length * 4 = 1 by omega]
  rfl
theorem own_last {w : World} {base : Nat} {v : Value} {d : List E} {p : E} (h : Own w base v (d ++ [p])) :
    ∃ g cap, v = .slice (some ⟨g, 0, none⟩) (d.length + 1) cap ∧ base ≤ g ∧ g < w.heap.size ∧ (w.cell? ⟨g, d.length * 4, none⟩ = some (.int .i64 p.a) ∧ w.cell? ⟨g, d.length * 4 + 1, none⟩ = some (.int .i64 p.n) ∧ w.cell? ⟨g, d.length * 4 + 2, none⟩ = some (.int .i64 p.d) ∧ w.cell? ⟨g, d.length * 4 + 3, none⟩ = some (.int .i64 p.f)) ∧ w.frozen? ⟨g, d.length * 4 + 1, none⟩ = false ∧
      ∀ q : Int, Own (w.setCell ⟨g, d.length * 4 + 1, none⟩ (.int .i64 q)) base v (d ++ [⟨p.a, q, p.d, p.f⟩]) := by
  have hlen : (d ++ [p]).length = d.length + 1 := by simp
  have hlt := h.lt
  unfold Own at h
  rcases h.2 with ⟨rfl, h0⟩ | ⟨g, cap, cur, hv, hb', hh, hc, hm, hs, ht⟩
  · omega
  · rw [hlen] at hv hc ht
    have key : ∀ (i : Nat) (u : Value), (EC (d ++ [p]))[i]? = some u → w.cell? ⟨g, i, none⟩ = some u := fun i u hu => by
      have := h.cells (g := g) (by rw [hv]; rfl) i u hu
      rwa [show ((⟨g, 0, none⟩ : Addr).add i) = ⟨g, i, none⟩ by unfold Addr.add; split <;> simp_all] at this
    have hr := EC_get (d ++ [p]) d.length (by simp)
    simp only [List.getElem_append_right (Nat.le_refl _), Nat.sub_self, List.getElem_cons_zero] at hr
    refine ⟨g, cap, hv, hb', (hlt g (by rw [hv]; rfl)).2, ⟨key _ _ hr.1, key _ _ hr.2.1, key _ _ hr.2.2.1, key _ _ hr.2.2.2⟩, frozen_of_row w g _ _ _ hh, fun q => ⟨by rw [EC_len], .inr ⟨g, cap, _, by rw [hv]; simp, hb', heap_setCell_same w g _ _ _ _ hh, by simp; omega, hm, by simp; omega, ?_⟩⟩⟩
    rw [Array.toList_setIfInBounds, List.take_set, show (d ++ [(⟨p.a, q, p.d, p.f⟩ : E)]).length * 4 = (d.length + 1) * 4 by simp, ht, EC_set1]
theorem cell_four (w : World) (B : Nat) (v0 v1 v2 v3 : Value) (t : TypeId) (h : w.heap[B]? = some (.cells #[v0, v1, v2, v3] t (0, 0))) : ∀ (j : Nat) (x : Value), [v0, v1, v2, v3][j]? = some x → w.cell? ((⟨B, 0, none⟩ : Addr).add j) = some x := by
  intro j x hx
  have hadd : (⟨B, 0, none⟩ : Addr).add j = ⟨B, j, none⟩ := by unfold Addr.add; split <;> simp_all
  rw [hadd, cell_of_row _ _ j _ _ _ h]
  simpa using hx

theorem rw_lies {w w3 : World} {v : Value} {g n cp H : Nat} (hgrow : w.grownBy w3 v.ownBlock) (hat : v.ownBlock = some g ∨ g = H) (hH : w.heap.size = H) : Rw w v w3 (.slice (some ⟨g, 0, none⟩) n cp) := by
  refine ⟨hgrow, fun k hk => ?_⟩
  simp only [Value.ownBlock, Option.some.injEq] at hk
  subst hk
  rcases hat with h | h
  · exact .inl h
  · exact .inr (by omega)
def AddOut (w : World) (base : Nat) (v : Value) (l : List E) (x : Ending) (w' : World) : Prop := ∃ v', x = .returned v' ∧ Own w' base v' l ∧ Rw w v w' v' ∧ (l = [] → v' = v)
set_option maxRecDepth 100000 in
set_option maxHeartbeats 2000000 in
theorem add_none (base : Nat) (v : Value) (l : List E) (a n d f : Int) (w : World) (hown : Own w base v l) (hn : n < 1) :
    Calls Try.prog 36 #[v, .agg #[.int .i64 a, .int .i64 n, .int .i64 d, .int .i64 f]] w (AddOut w base v (M.addp l ⟨a, n, d, f⟩)) := by
  rw [M.addp_none l _ hn]
  obtain ⟨aa, cap, rfl, _, _, _⟩ := owns_atE hown
  have hd : decide (n < 1) = true := by simpa using hn
  have HK : Hid (AddOut w base (.slice aa l.length cap) l (.returned (.slice aa l.length cap)) (w.alloc (.cells #[.int .i64 a, .int .i64 n, .int .i64 d, .int .i64 f] 32))) := ⟨_, rfl, hown.keep (bel1 w _), Rw.ofBelow _ (bel1 w _), fun _ => rfl⟩
  clear hown hn
  go_enter Try.func36, Try.ntmps36
  go_wp2
  go_ret
  exact HK.out
set_option maxRecDepth 100000 in
set_option maxHeartbeats 2000000 in
theorem add_first (base : Nat) (v : Value) (a n d f : Int) (w : World) (hb : base ≤ w.heap.size) (hown : Own w base v []) (hn : 1 ≤ n) :
    Calls Try.prog 36 #[v, .agg #[.int .i64 a, .int .i64 n, .int .i64 d, .int .i64 f]] w (AddOut w base v (M.addp [] ⟨a, n, d, f⟩)) := by
  rw [M.addp_nil _ hn]
  obtain ⟨aa, cap, rfl, _, _, _⟩ := owns_atE hown
  have hd : decide (n < 1) = false := by simp; omega
  obtain ⟨W1, HW1⟩ : ∃ W1, Hid (w.alloc (.cells #[.int .i64 a, .int .i64 n, .int .i64 d, .int .i64 f] 32) = W1) := ⟨_, rfl⟩
  have hr : W1.heap[w.heap.size]? = some (.cells #[.int .i64 a, .int .i64 n, .int .i64 d, .int .i64 f] 32 (0, 0)) := by rw [← HW1.out]; exact heap_alloc_last w _
  have HB1 : Hid (Below w.heap.size w W1) := by rw [← HW1.out]; exact bel1 w _
  obtain ⟨c0, c1, c2, c3⟩ := row4 hr
  have HO : Hid (Own W1 base (.slice aa 0 cap) []) := hown.keep HB1.out
  clear hown hr
  simp only [List.length_nil]
  go_enter Try.func36, Try.ntmps36
  go_wp2_with fail
  rw [HW1.out]
  clear HW1
  go_quiet (fail)
  have HO2 : Hid ((W1.drewN nq).ownsRow base 32 4 (.slice aa 0 cap) 0 []) := HO.out
  have HBq : Hid (Below w.heap.size w (W1.drewN nq)) := below_drewN HB1.out nq
  clear HO HB1
  obtain ⟨W2, hW2⟩ : ∃ W2, W2 = W1.drewN nq := ⟨_, rfl⟩
  have d0 : W2.cell? ⟨w.heap.size, 0, none⟩ = some (.int .i64 a) := by rw [hW2]; exact c0
  have d1 : W2.cell? ⟨w.heap.size, 1, none⟩ = some (.int .i64 n) := by rw [hW2]; exact c1
  have d2 : W2.cell? ⟨w.heap.size, 2, none⟩ = some (.int .i64 d) := by rw [hW2]; exact c2
  have d3 : W2.cell? ⟨w.heap.size, 3, none⟩ = some (.int .i64 f) := by rw [hW2]; exact c3
  rw [← hW2] at HO2 HBq ⊢
  clear hW2 c0 c1 c2 c3
  have hsz := HBq.out.size
  go_wp2_with (at_builtin; refine wpList_append_lies _ rfl _ _ 40 rfl base 32 Try.t32 _ 4 32 Try.underlying40 hi32 hz32 hs32 hb32 rfl (by decide) _ _ _ rfl (HO2.out.alloc _) ⟨W2.heap.size, 0, none⟩ 1 1 [.int .i64 a, .int .i64 n, .int .i64 d, .int .i64 f] rfl rfl (cell_four _ _ _ _ _ _ _ (heap_alloc_last _ _)) (by simp; exact ⟨rfl, rfl, rfl, rfl⟩) (by decide) (by unfold maxLen; omega) (by omega) (by simp; omega) _ rfl ?_; intro g cp w3 hown3 hgrow hat hlt)
  go_ret
  exact ⟨_, rfl, hown3, (Rw.ofBelow (.slice aa 0 cap) (HBq.out.alloc hsz _)).trans (rw_lies (v := .slice aa 0 cap) hgrow hat rfl), fun h => by simp at h⟩

set_option maxRecDepth 100000 in
set_option maxHeartbeats 4000000 in
theorem add_last (base : Nat) (v : Value) (l : List E) (p : E) (a n d f : Int) (w : World) (hb : base ≤ w.heap.size) (hown : Own w base v (l ++ [p])) (hn : 1 ≤ n) (hl : l.length ≤ 20000) (hp : SmE p) (he : Sm n) :
    Calls Try.prog 36 #[v, .agg #[.int .i64 a, .int .i64 n, .int .i64 d, .int .i64 f]] w (AddOut w base v (M.addp (l ++ [p]) ⟨a, n, d, f⟩)) := by
  obtain ⟨g, cap, rfl, hbg, hgw, _⟩ := own_last hown
  have hd : decide (n < 1) = false := by simp; omega
  obtain ⟨W1, HW1⟩ : ∃ W1, Hid (w.alloc (.cells #[.int .i64 a, .int .i64 n, .int .i64 d, .int .i64 f] 32) = W1) := ⟨_, rfl⟩
  have HB1 : Hid (Below w.heap.size w W1) := by rw [← HW1.out]; exact bel1 w _
  have hs1 : W1.heap.size = w.heap.size + 1 := by rw [← HW1.out]; simp
  have HR : Hid (∀ w', Below W1.heap.size W1 w' → w'.heap[w.heap.size]? = some (.cells #[.int .i64 a, .int .i64 n, .int .i64 d, .int .i64 f] 32 (0, 0))) := by
    intro w' hb'
    rw [hb'.block _ (by omega), ← HW1.out]
    exact heap_alloc_last w _
  have HO : Hid (∀ w', Below W1.heap.size W1 w' → Own w' base (.slice (some ⟨g, 0, none⟩) (l.length + 1) cap) (l ++ [p])) := fun w' hb' => (hown.keep HB1.out).keep hb'
  have HS : Hid (∀ w', Below W1.heap.size W1 w' → (w'.cell? ⟨w.heap.size, 0, none⟩ = some (.int .i64 a) ∧ w'.cell? ⟨w.heap.size, 1, none⟩ = some (.int .i64 n) ∧ w'.cell? ⟨w.heap.size, 2, none⟩ = some (.int .i64 d) ∧ w'.cell? ⟨w.heap.size, 3, none⟩ = some (.int .i64 f)) ∧ (w'.cell? ⟨g, l.length * 4, none⟩ = some (.int .i64 p.a) ∧ w'.cell? ⟨g, l.length * 4 + 1, none⟩ = some (.int .i64 p.n) ∧ w'.cell? ⟨g, l.length * 4 + 2, none⟩ = some (.int .i64 p.d) ∧ w'.cell? ⟨g, l.length * 4 + 3, none⟩ = some (.int .i64 p.f)) ∧ w'.frozen? ⟨g, l.length * 4 + 1, none⟩ = false) := by
    intro w' hb'
    obtain ⟨g', cap', hv', _, _, hc, hf, _⟩ := own_last (HO.out w' hb')
    cases hv'
    exact ⟨row4 (HR.out w' hb'), hc, hf⟩
  obtain ⟨⟨a0, a1, a2, a3⟩, ⟨b0, b1, b2, b3⟩, bf⟩ := HS.out W1 (Below.refl _ _)
  have HP : Hid (SmE p) := hp
  have hfol := fun w' => follows_any p.a p.n p.d p.f a n d f w' HP.out.1 HP.out.2.1 HP.out.2.2
  have HF : Hid (fol ⟨p.a, p.n, p.d, p.f⟩ ⟨a, n, d, f⟩ = fol p ⟨a, n, d, f⟩) := rfl
  rw [HF.out] at hfol
  have HE : Hid (Sm n) := he
  have hii : (l.length : Int) < (l.length : Int) + 1 := by omega
  clear hown he hp
  cases hq : fol p ⟨a, n, d, f⟩
  · rw [hq] at hfol
    rw [M.addp_new l p _ hn ((fol_no _ _).1 hq)]
    have HX : Hid (∀ w' , Below w.heap.size w w' → w'.heap[w.heap.size]? = some (.cells #[.int .i64 a, .int .i64 n, .int .i64 d, .int .i64 f] 32 (0, 0)) → True) := fun _ _ _ => trivial
    have HL : Hid (EC (l ++ [p] ++ [⟨a, n, d, f⟩]) = EC (l ++ [p]) ++ [.int .i64 a, .int .i64 n, .int .i64 d, .int .i64 f] ∧ (l ++ [p] ++ [(⟨a, n, d, f⟩ : E)]).length = l.length + 1 + 1) := ⟨by rw [EC_app]; rfl, by simp⟩
    generalize p.a = pa at *
    generalize p.n = pn at *
    generalize p.d = pd at *
    generalize p.f = pf at *
    clear HF hq HX
    go_enter Try.func36, Try.ntmps36
    go_wp2_with fail
    rw [HW1.out]
    clear HW1
    go_region_held3 (fun wq => (wq.cell? ⟨w.heap.size, 0, none⟩ = some (.int .i64 a) ∧ wq.cell? ⟨w.heap.size, 1, none⟩ = some (.int .i64 n) ∧ wq.cell? ⟨w.heap.size, 2, none⟩ = some (.int .i64 d) ∧ wq.cell? ⟨w.heap.size, 3, none⟩ = some (.int .i64 f)) ∧ (wq.cell? ⟨g, l.length * 4, none⟩ = some (.int .i64 pa) ∧ wq.cell? ⟨g, l.length * 4 + 1, none⟩ = some (.int .i64 pn) ∧ wq.cell? ⟨g, l.length * 4 + 2, none⟩ = some (.int .i64 pd) ∧ wq.cell? ⟨g, l.length * 4 + 3, none⟩ = some (.int .i64 pf)) ∧ wq.frozen? ⟨g, l.length * 4 + 1, none⟩ = false) (first | exact HS.out _ (Below.refl _ _) | exact HS.out _ (Below.drew (Below.refl _ _)) | exact HS.out _ (by assumption)) (first
      | (go_at_call 38; refine (hfol _).mono ?_; rintro x w2 ⟨rfl, hb2⟩; have B2 : Below W1.heap.size W1 w2 := Below.trans (Below.drew (Below.refl _ _)) hb2; clear hb2; obtain ⟨⟨d0, d1, d2, d3⟩, _, _⟩ := HS.out w2 B2))
    all_goals
      have HO2 : Hid (w2.ownsRow base 32 4 (.slice (some ⟨g, 0, none⟩) (l.length + 1) cap) (l ++ [p]).length (EC (l ++ [p]))) := HO.out w2 B2
      have HB2 : Hid (Below w.heap.size w w2) := bel_up HB1.out B2 (Nat.le_refl _)
      have hsz := HB2.out.size
      clear HS HO HR B2 HB1 a0 a1 a2 a3 b0 b1 b2 b3 bf hii
      go_wp2_with (at_builtin; refine wpList_append_lies _ rfl _ _ 40 rfl base 32 Try.t32 _ 4 32 Try.underlying40 hi32 hz32 hs32 hb32 rfl (by decide) _ _ _ rfl (HO2.out.alloc _) ⟨w2.heap.size, 0, none⟩ 1 1 [.int .i64 a, .int .i64 n, .int .i64 d, .int .i64 f] rfl rfl (cell_four _ _ _ _ _ _ _ (heap_alloc_last _ _)) (by simp; exact ⟨rfl, rfl, rfl, rfl⟩) (by decide) (by unfold maxLen; simp; omega) (by simp; omega) (by simp; omega) _ rfl ?_; intro g3 cp w3 hown3 hgrow hat hlt)
      go_ret
      refine ⟨_, rfl, ?_, (Rw.ofBelow (.slice (some ⟨g, 0, none⟩) (l.length + 1) cap) (HB2.out.alloc hsz _)).trans (rw_lies (v := .slice (some ⟨g, 0, none⟩) (l.length + 1) cap) hgrow hat rfl), fun h => by simp at h⟩
      unfold Own
      rw [HL.out.1, HL.out.2, show l.length + 1 + 1 = (l ++ [p]).length + 1 by simp]
      exact hown3
  · rw [hq] at hfol
    rw [M.addp_fol l p _ hn ((fol_iff _ _).1 hq)]
    have hw : IntKind.i64.wrap (p.n + n) = p.n + n := by rw [IntKind.wrap_i64]; have := HP.out.2.1; have := HE.out; unfold Sm at *; omega
    have HQ : Hid (∀ w', Below W1.heap.size W1 w' → Own (w'.setCell ⟨g, l.length * 4 + 1, none⟩ (.int .i64 (p.n + n))) base (.slice (some ⟨g, 0, none⟩) (l.length + 1) cap) (l ++ [⟨p.a, p.n + n, p.d, p.f⟩])) := by
      intro w' hb'
      obtain ⟨g', cap', hv', _, _, _, _, hset⟩ := own_last (HO.out w' hb')
      cases hv'
      exact hset _
    have HLE : Hid (E.mk p.a (p.n + (E.mk a n d f).n) p.d p.f = ⟨p.a, p.n + n, p.d, p.f⟩) := rfl
    rw [HLE.out]
    generalize p.a = pa at *
    generalize p.n = pn at *
    generalize p.d = pd at *
    generalize p.f = pf at *
    clear HF hq HLE
    go_enter Try.func36, Try.ntmps36
    go_wp2_with fail
    rw [HW1.out]
    clear HW1
    go_region_held3 (fun wq => (wq.cell? ⟨w.heap.size, 0, none⟩ = some (.int .i64 a) ∧ wq.cell? ⟨w.heap.size, 1, none⟩ = some (.int .i64 n) ∧ wq.cell? ⟨w.heap.size, 2, none⟩ = some (.int .i64 d) ∧ wq.cell? ⟨w.heap.size, 3, none⟩ = some (.int .i64 f)) ∧ (wq.cell? ⟨g, l.length * 4, none⟩ = some (.int .i64 pa) ∧ wq.cell? ⟨g, l.length * 4 + 1, none⟩ = some (.int .i64 pn) ∧ wq.cell? ⟨g, l.length * 4 + 2, none⟩ = some (.int .i64 pd) ∧ wq.cell? ⟨g, l.length * 4 + 3, none⟩ = some (.int .i64 pf)) ∧ wq.frozen? ⟨g, l.length * 4 + 1, none⟩ = false) (first | exact HS.out _ (Below.refl _ _) | exact HS.out _ (Below.drew (Below.refl _ _)) | exact HS.out _ (by assumption)) (first
      | (go_at_call 38; refine (hfol _).mono ?_; rintro x w2 ⟨rfl, hb2⟩; have B2 : Below W1.heap.size W1 w2 := Below.trans (Below.drew (Below.refl _ _)) hb2; clear hb2; obtain ⟨⟨d0, d1, d2, d3⟩, ⟨e0, e1, e2, e3⟩, ef⟩ := HS.out w2 B2))
    all_goals
      have HO2 := Hid_of (HQ.out w2 B2)
      have HB2 : Hid (Below w.heap.size w w2) := bel_up HB1.out B2 (Nat.le_refl _)
      clear HS HO HR B2 HB1 a0 a1 a2 a3 b0 b1 b2 b3 bf HQ
      go_wp2_with fail
      go_region
      all_goals
        go_wp2
        go_ret
        refine ⟨_, rfl, HO2.out, ⟨⟨HB2.out.os, HB2.out.tape, HB2.out.output, by have := HB2.out.size; simpa using this, fun k hk hne => ?_⟩, fun k h => .inl h⟩, fun h => by simp at h⟩
        have hkg : k ≠ g := by intro e; subst e; exact hne rfl
        exact (heap_setCell_other _ ⟨g, l.length * 4 + 1, none⟩ k _ hkg).trans (HB2.out.block k hk)
theorem add_any (base : Nat) (v : Value) (l : List E) (e : E) (w : World) (hb : base ≤ w.heap.size) (hown : Own w base v l) (hl : l.length ≤ 20000) (hp : ∀ p ∈ l, SmE p) (he : Sm e.n) :
    Calls Try.prog 36 #[v, EV e] w (AddOut w base v (M.addp l e)) := by
  by_cases hn : e.n < 1
  · exact add_none base v l e.a e.n e.d e.f w hown hn
  · rcases List.eq_nil_or_concat l with rfl | ⟨d, p, rfl⟩
    · exact add_first base v e.a e.n e.d e.f w hb hown (by omega)
    · rw [List.concat_eq_append] at *
      exact add_last base v d p e.a e.n e.d e.f w hb hown (by omega) (by simp at hl; omega) (hp p (by simp)) he
end Go.Proofs.Ytajgjkkggppbiaa
