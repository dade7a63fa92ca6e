/-
  A new node; a learner with a base.
-/
import Derived.Test.YtfjlanhekheecaaRP
namespace Go.Proofs.Ytfjlanhekheecaa
open Go.RowKit Go.Maps
set_option linter.unusedVariables false
open M (E V)
open Rm (NT R)

theorem wf_few {k : Int} (h0 : 0 ≤ k) (h1 : k ≤ 1024) : (Lit.int .i64 k).wf = true := by
  have e1 : IntKind.i64.min = -9223372036854775808 := rfl
  have e2 : IntKind.i64.max = 9223372036854775807 := rfl
  simp only [Lit.wf, e1, e2, Bool.and_eq_true, decide_eq_true_eq]
  omega
theorem ts_c (s : Nl.M.S) (k : Int) (v : ByteArray) : (Nl.M.ts s k v).c ≤ s.c + 1 := by
  unfold Nl.M.ts
  split
  · exact Nat.le_refl _
  · exact Nat.le_succ _
theorem lfT_c (n : Int) : ∀ j, (Rm.lfT n j).c ≤ j
  | 0 => Nat.le_refl _
  | j + 1 => Nat.le_trans (ts_c _ _ _) (Nat.succ_le_succ (lfT_c n j))
theorem ls_low {w0 w w' : World} {G : Nat → Prop} {q : Nat} {s : Nl.M.S} (h : Nl.LS w w' G q s) (hb : Below w0.heap.size w0 w) : Nl.LS w0 w' G q s := by
  obtain ⟨m, f, e, hX⟩ := h.li
  exact ⟨⟨m, f, e, hX.low hb.size⟩, bel_up hb h.bel (Nat.le_refl _), h.ok⟩
set_option maxRecDepth 100000 in
theorem learnerFrom_any (w0 w : World) (hb : Below w0.heap.size w0 w) (n base : Int) (hn : Nl.M.nde n = true) (h0 : 0 ≤ base) (h1 : base ≤ 1024) : Calls Try.prog 36 #[.int .i64 n, .int .i64 base] w fun e w' => ∃ q G, e = .returned (ptr q) ∧ Nl.LS w0 w' G q (Rm.lf n base) ∧ Below w.heap.size w w' ∧ ∀ k, G k → w.heap.size ≤ k := by
  have cn := Nl.newS_any w w (Below.refl _ _) n
  have HB0 := Hid_of hb
  have HL : Hid (∀ j : Nat, Nl.M.ts (Rm.lfT n j) (j : Int) ⟨#[]⟩ = Rm.lfT n (j + 1)) := fun j => rfl
  obtain ⟨B, rfl⟩ : ∃ B : Nat, base = B := ⟨base.toNat, by omega⟩
  have HF : Hid (Nl.M.tr (Rm.lfT n B) (B : Int) = Rm.lf n (B : Int)) := by
    have : ((B : Int)).toNat = B := by omega
    unfold Rm.lf
    rw [this]
    exact Hid_of rfl
  have hB : B ≤ 1024 := by omega
  clear hb h0 h1
  go_enter Try.func36, Try.ntmps36
  go_wp2_with fail
  refine cn.mono ?_
  clear cn
  rintro e w1 (⟨hf, -⟩ | ⟨-, q, F, rfl, hl, -, -⟩)
  · rw [hn] at hf; cases hf
  go_wp2_with fail
  go_loopw [10] (fun i wr => ∃ (j : Nat) (G : Nat → Prop), j ≤ B ∧ i = .int .i64 j ∧ Nl.LS w wr G q (Rm.lfT n j)) (fun i _ => B - (intOf i).toNat)
  case atStart => exact ⟨0, F, Nat.zero_le _, rfl, hl⟩
  case round =>
    obtain ⟨j, G, hj, rfl, hx⟩ := hrel
    by_cases hlt : j < B
    · have hjn : (j : Int) < (B : Int) := by omega
      have ct := hx.tell (j : Int) ⟨#[]⟩ (wf_few (by omega) (by omega)) (by have := lfT_c n j; omega)
      rw [HL.out] at ct
      clear hx hl
      go_wp2_with fail
      refine ct.mono ?_
      clear ct
      rintro e w2 ⟨G2, rfl, h2, -⟩
      have H2 := Hid_of h2
      clear h2
      go_wp2
      go_roundw
      case rel => exact ⟨j + 1, G2, by omega, by go_num, H2.out⟩
      case measure => simp [intOf]; omega
    · obtain rfl : j = B := by omega
      have ct := hx.trim (j : Int)
      rw [HF.out] at ct
      clear hx hl
      go_wp2_with fail
      refine ct.mono ?_
      clear ct
      rintro e w2 ⟨G2, rfl, h2, -⟩
      have HQ := Hid_of (show ∃ q' G, Ending.returned (ptr q) = .returned (ptr q') ∧ Nl.LS w0 w2 G q' (Rm.lf n (j : Int)) ∧ Below w.heap.size w w2 ∧ ∀ k, G k → w.heap.size ≤ k from ⟨q, G2, rfl, ls_low h2 HB0.out, h2.bel, fun k hk => (h2.mine k hk).1⟩)
      clear h2
      go_wp2
      go_ret
      exact HQ.out
/-- A new node out of its new parts. -/
theorem RP.fresh {w0 w w1 w2 w3 : World} {ba bp bl : Nat} {Fa Fp Fl : Nat → Prop} {r : R} (hb0 : Below w0.heap.size w0 w) (hnm : Np.M.nde r.n r.me = true) (ha : Na.AS w0 w1 Fa ba r.a) (h1 : Below w.heap.size w w1) (na : ∀ k, Fa k → w.heap.size ≤ k)
    (hp : Np.PS w0 w2 Fp bp r.p) (h2 : Below w1.heap.size w1 w2) (np : ∀ k, Fp k → w1.heap.size ≤ k) (hl : Nl.LS w0 w3 Fl bl r.l) (h3 : Below w2.heap.size w2 w3) (nl : ∀ k, Fl k → w2.heap.size ≤ k) :
    RP w0 (w3.alloc (rrow r ba bp bl)) w3.heap.size ba bp bl Fa Fp Fl r ∧ Below w.heap.size w (w3.alloc (rrow r ba bp bl)) ∧ ∀ k, uni w3.heap.size Fa Fp Fl k → w.heap.size ≤ k := by
  have h4 := bel1 w3 (rrow r ba bp bl)
  have s0 := hb0.size
  have s1 := h1.size
  have s2 := h2.size
  have s3 := h3.size
  refine ⟨⟨heap_alloc_last _ _, ((ha.keep h2).keep h3).keep h4, (hp.keep h3).keep h4, hl.keep h4, fun k e1 e2 => ?_, fun k e1 e2 => ?_, fun k e1 e2 => ?_, ⟨fun e => ?_, fun e => ?_, fun e => ?_⟩, by omega, hnm⟩, bel_up (bel_up (bel_up h1 h2 (Nat.le_refl _)) h3 (Nat.le_refl _)) h4 (Nat.le_refl _), ?_⟩
  · have := (ha.mine k e1).2; have := np k e2; omega
  · have := (ha.mine k e1).2; have := nl k e2; omega
  · have := (hp.mine k e1).2; have := nl k e2; omega
  · have := (ha.mine _ e).2; omega
  · have := (hp.mine _ e).2; omega
  · have := (hl.mine _ e).2; omega
  · rintro k (rfl | e | e | e)
    · omega
    · exact na k e
    · have := np k e; omega
    · have := nl k e; omega
/-- What New leaves. -/
def NewO (w0 w : World) (n me : Int) (e : Ending) (w' : World) : Prop :=
  (Np.M.nde n me = false ∧ e = .returned (.pointer none) ∧ Below w.heap.size w w') ∨ (Np.M.nde n me = true ∧ ∃ b G, e = .returned (ptr b) ∧ RS w0 w' G b (Rm.r0 n me) ∧ Below w.heap.size w w' ∧ ∀ k, G k → w.heap.size ≤ k)
set_option maxRecDepth 100000 in
theorem new_any (w0 w : World) (hb : Below w0.heap.size w0 w) (n me : Int) : Calls Try.prog 8 #[.int .i64 n, .int .i64 me] w (NewO w0 w n me) := by
  have ca := Na.newA_any w0 w hb
  have cp := fun wq (hq : Below w.heap.size w wq) => Np.newS_any w0 wq (bel_up hb hq (Nat.le_refl _)) n me
  have cl := fun wq (hq : Below w.heap.size w wq) => Nl.newS_any w0 wq (bel_up hb hq (Nat.le_refl _)) n
  have HB0 := Hid_of hb
  have hnn : Np.M.nde n me = true → Nl.M.nde n = true := fun h => by
    unfold Np.M.nde at h
    unfold Nl.M.nde
    simp only [Bool.and_eq_true, decide_eq_true_eq] at h ⊢
    exact h.1.1
  have HN := Hid_of hnn
  clear hb hnn
  go_enter Try.func8, Try.ntmps8
  go_wp2_with fail
  refine ca.mono ?_
  rintro e w1 ⟨ba, Fa, rfl, ha, b1, na⟩
  have cp1 := cp w1 b1
  have HA := Hid_of ha
  have HB1 := Hid_of b1
  have HNA := Hid_of na
  clear ca cp ha b1 na
  go_wp2_with fail
  refine cp1.mono ?_
  clear cp1
  rintro e w2 (⟨hf, rfl, rfl⟩ | ⟨ht, bp, Fp, rfl, hp, b2, np⟩)
  · have cl2 := cl w2 HB1.out
    clear cl
    go_wp2_with fail
    refine cl2.mono ?_
    clear cl2
    rintro e w3 (⟨-, rfl, rfl⟩ | ⟨-, bl, Fl, rfl, hl, b3, nl⟩)
    · have HQ : Hid (∀ o, NewO w0 w n me (.returned (.pointer none)) (w3.alloc o)) := fun o => .inl ⟨hf, rfl, bel_up HB1.out (bel1 _ _) (Nat.le_refl _)⟩
      obtain ⟨⟨x0, x1, x2, x3, x4⟩, _⟩ := row5 (heap_alloc_last w3 (.cells #[.int .i64 n, .int .i64 me, .pointer (some ⟨ba, 0, none⟩), .pointer none, .pointer none] 62))
      go_wp2
      go_ret
      exact HQ.out _
    · have HQ : Hid (∀ o, NewO w0 w n me (.returned (.pointer none)) (w3.alloc o)) := fun o => .inl ⟨hf, rfl, bel_up (bel_up HB1.out b3 (Nat.le_refl _)) (bel1 _ _) (Nat.le_refl _)⟩
      obtain ⟨⟨x0, x1, x2, x3, x4⟩, _⟩ := row5 (heap_alloc_last w3 (.cells #[.int .i64 n, .int .i64 me, .pointer (some ⟨ba, 0, none⟩), .pointer none, .pointer (some ⟨bl, 0, none⟩)] 62))
      clear hl b3 nl
      go_wp2
      go_ret
      exact HQ.out _
  · have cl2 := cl w2 (bel_up HB1.out b2 (Nat.le_refl _))
    have HP := Hid_of hp
    have HB2 := Hid_of b2
    have HNP := Hid_of np
    clear cl hp b2 np
    go_wp2_with fail
    refine cl2.mono ?_
    clear cl2
    rintro e w3 (⟨hf, -, -⟩ | ⟨-, bl, Fl, rfl, hl, b3, nl⟩)
    · rw [HN.out ht] at hf; cases hf
    obtain ⟨k1, k2, k3⟩ := RP.fresh (r := Rm.r0 n me) HB0.out ht HA.out HB1.out HNA.out HP.out HB2.out HNP.out hl b3 nl
    obtain ⟨⟨x0, x1, x2, x3, x4⟩, _⟩ := row5 k1.row
    have HQ : Hid (NewO w0 w n me (.returned (ptr w3.heap.size)) (w3.alloc (rrow (Rm.r0 n me) ba bp bl))) := .inr ⟨ht, _, _, rfl, k1.rs, k2, k3⟩
    clear k1 k2 k3 hl b3 nl
    go_wp2
    go_ret
    exact HQ.out
end Go.Proofs.Ytfjlanhekheecaa
