/-
  A new node; a learner with a base.
-/
import Derived.Test.YtgodnpngdbelhaaG18
namespace Go.Proofs.Ytgodnpngdbelhaa
open Go.RowKit Go.Maps
set_option linter.unusedVariables false
open M (E V)
open Rm (NT R)

theorem wf_few {k : Int} (h0 : 0 ≤ k) (h1 : k ≤ 1024) : (Lit.int .i64 k).wf = true := by
  have e1 : IntKind.i64.min = -9223372036854775808 := rfl
  have e2 : IntKind.i64.max = 9223372036854775807 := rfl
  simp only [Lit.wf, e1, e2, Bool.and_eq_true, decide_eq_true_eq]
  omega
theorem ts_c (s : Nl.M.S) (k : Int) (v : ByteArray) : (Nl.M.ts s k v).c ≤ s.c + 1 := by
  unfold Nl.M.ts
  split
  · exact Nat.le_refl _
  · exact Nat.le_succ _
theorem lfT_c (n : Int) : ∀ j, (Rm.lfT n j).c ≤ j
  | 0 => Nat.le_refl _
  | j + 1 => Nat.le_trans (ts_c _ _ _) (Nat.succ_le_succ (lfT_c n j))
theorem ls_low {w0 w w' : World} {G : Nat → Prop} {q : Nat} {s : Nl.M.S} (h : Nl.LS w w' G q s) (hb : Below w0.heap.size w0 w) : Nl.LS w0 w' G q s := by
  obtain ⟨m, f, e, hX⟩ := h.li
  exact ⟨⟨m, f, e, hX.low hb.size⟩, bel_up hb h.bel (Nat.le_refl _), h.ok⟩
set_option maxRecDepth 100000 in
theorem learnerFrom_any (w0 w : World) (hb : Below w0.heap.size w0 w) (n base : Int) (hn : Nl.M.nde n = true) (h0 : 0 ≤ base) (h1 : base ≤ 1024) : Calls Try.prog 57 #[.int .i64 n, .int .i64 base] w fun e w' => ∃ q G, e = .returned (ptr q) ∧ Nl.LS w0 w' G q (Rm.lf n base) ∧ Below w.heap.size w w' ∧ ∀ k, G k → w.heap.size ≤ k := by
  have cn := Nl.newS_any w w (Below.refl _ _) n
  have HB0 := Hid_of hb
  have HL : Hid (∀ j : Nat, Nl.M.ts (Rm.lfT n j) (j : Int) ⟨#[]⟩ = Rm.lfT n (j + 1)) := fun j => rfl
  obtain ⟨B, rfl⟩ : ∃ B : Nat, base = B := ⟨base.toNat, by omega⟩
  have HF : Hid (Nl.M.tr (Rm.lfT n B) (B : Int) = Rm.lf n (B : Int)) := by
    have : ((B : Int)).toNat = B := by omega
    unfold Rm.lf
    rw [this]
    exact Hid_of rfl
  have hB : B ≤ 1024 := by omega
  clear hb h0 h1
  go_enter Try.func57, Try.ntmps57
  go_wp2_with fail
  refine cn.mono ?_
  clear cn
  rintro e w1 (⟨hf, -⟩ | ⟨-, q, F, rfl, hl, -, -⟩)
  · rw [hn] at hf; cases hf
  go_wp2_with fail
  go_loopw [10] (fun i wr => ∃ (j : Nat) (G : Nat → Prop), j ≤ B ∧ i = .int .i64 j ∧ Nl.LS w wr G q (Rm.lfT n j)) (fun i _ => B - (intOf i).toNat)
  case atStart => exact ⟨0, F, Nat.zero_le _, rfl, hl⟩
  case round =>
    obtain ⟨j, G, hj, rfl, hx⟩ := hrel
    by_cases hlt : j < B
    · have hjn : (j : Int) < (B : Int) := by omega
      have ct := hx.tell (j : Int) ⟨#[]⟩ (wf_few (by omega) (by omega)) (by have := lfT_c n j; omega)
      rw [HL.out] at ct
      clear hx hl
      go_wp2_with fail
      refine ct.mono ?_
      clear ct
      rintro e w2 ⟨G2, rfl, h2, -⟩
      have H2 := Hid_of h2
      clear h2
      go_wp2
      go_roundw
      case rel => exact ⟨j + 1, G2, by omega, by go_num, H2.out⟩
      case measure => simp [intOf]; omega
    · obtain rfl : j = B := by omega
      have ct := hx.trim (j : Int)
      rw [HF.out] at ct
      clear hx hl
      go_wp2_with fail
      refine ct.mono ?_
      clear ct
      rintro e w2 ⟨G2, rfl, h2, -⟩
      have HQ := Hid_of (show ∃ q' G, Ending.returned (ptr q) = .returned (ptr q') ∧ Nl.LS w0 w2 G q' (Rm.lf n (j : Int)) ∧ Below w.heap.size w w2 ∧ ∀ k, G k → w.heap.size ≤ k from ⟨q, G2, rfl, ls_low h2 HB0.out, h2.bel, fun k hk => (h2.mine k hk).1⟩)
      clear h2
      go_wp2
      go_ret
      exact HQ.out
/-- A new node out of its new parts. -/
theorem RP.fresh {w0 w w1 w2 w3 : World} {ba bp bl : Nat} {Fa Fp Fl : Nat → Prop} {r : R} (hb0 : Below w0.heap.size w0 w) (hnm : Np.M.nde r.n r.me = true) (ha : Na.AS w0 w1 Fa ba r.a) (h1 : Below w.heap.size w w1) (na : ∀ k, Fa k → w.heap.size ≤ k)
    (hp : Np.PS w0 w2 Fp bp r.p) (h2 : Below w1.heap.size w1 w2) (np : ∀ k, Fp k → w1.heap.size ≤ k) (hl : Nl.LS w0 w3 Fl bl r.l) (h3 : Below w2.heap.size w2 w3) (nl : ∀ k, Fl k → w2.heap.size ≤ k) :
    RP w0 (w3.alloc (rrow r ba bp bl)) w3.heap.size ba bp bl Fa Fp Fl r ∧ Below w.heap.size w (w3.alloc (rrow r ba bp bl)) ∧ ∀ k, uni w3.heap.size Fa Fp Fl k → w.heap.size ≤ k := by
  have h4 := bel1 w3 (rrow r ba bp bl)
  have s0 := hb0.size
  have s1 := h1.size
  have s2 := h2.size
  have s3 := h3.size
  refine ⟨⟨heap_alloc_last _ _, ((ha.keep h2).keep h3).keep h4, (hp.keep h3).keep h4, hl.keep h4, fun k e1 e2 => ?_, fun k e1 e2 => ?_, fun k e1 e2 => ?_, ⟨fun e => ?_, fun e => ?_, fun e => ?_⟩, by omega, hnm⟩, bel_up (bel_up (bel_up h1 h2 (Nat.le_refl _)) h3 (Nat.le_refl _)) h4 (Nat.le_refl _), ?_⟩
  · have := (ha.mine k e1).2; have := np k e2; omega
  · have := (ha.mine k e1).2; have := nl k e2; omega
  · have := (hp.mine k e1).2; have := nl k e2; omega
  · have := (ha.mine _ e).2; omega
  · have := (hp.mine _ e).2; omega
  · have := (hl.mine _ e).2; omega
  · rintro k (rfl | e | e | e)
    · omega
    · exact na k e
    · have := np k e; omega
    · have := nl k e; omega
/-- What New leaves. -/
def NewO (w0 w : World) (n me : Int) (e : Ending) (w' : World) : Prop :=
  (Np.M.nde n me = false ∧ e = .returned (.pointer none) ∧ Below w.heap.size w w') ∨ (Np.M.nde n me = true ∧ ∃ b G, e = .returned (ptr b) ∧ RS w0 w' G b (Rm.r0 n me) ∧ Below w.heap.size w w' ∧ ∀ k, G k → w.heap.size ≤ k)
set_option maxRecDepth 100000 in
theorem new_any (w0 w : World) (hb : Below w0.heap.size w0 w) (n me : Int) : Calls Try.prog 24 #[.int .i64 n, .int .i64 me] w (NewO w0 w n me) := by
  have ca := Na.newA_any w0 w hb
  have cp := fun wq (hq : Below w.heap.size w wq) => Np.newS_any w0 wq (bel_up hb hq (Nat.le_refl _)) n me
  have cl := fun wq (hq : Below w.heap.size w wq) => Nl.newS_any w0 wq (bel_up hb hq (Nat.le_refl _)) n
  have HB0 := Hid_of hb
  have hnn : Np.M.nde n me = true → Nl.M.nde n = true := fun h => by
    unfold Np.M.nde at h
    unfold Nl.M.nde
    simp only [Bool.and_eq_true, decide_eq_true_eq] at h ⊢
    exact h.1.1
  have HN := Hid_of hnn
  clear hb hnn
  go_enter Try.func24, Try.ntmps24
  go_wp2_with fail
  refine ca.mono ?_
  rintro e w1 ⟨ba, Fa, rfl, ha, b1, na⟩
  have cp1 := cp w1 b1
  have HA := Hid_of ha
  have HB1 := Hid_of b1
  have HNA := Hid_of na
  clear ca cp ha b1 na
  go_wp2_with fail
  refine cp1.mono ?_
  clear cp1
  rintro e w2 (⟨hf, rfl, rfl⟩ | ⟨ht, bp, Fp, rfl, hp, b2, np⟩)
  · have cl2 := cl w2 HB1.out
    clear cl
    go_wp2_with fail
    refine cl2.mono ?_
    clear cl2
    rintro e w3 (⟨-, rfl, rfl⟩ | ⟨-, bl, Fl, rfl, hl, b3, nl⟩)
    · have HQ : Hid (∀ o, NewO w0 w n me (.returned (.pointer none)) (w3.alloc o)) := fun o => .inl ⟨hf, rfl, bel_up HB1.out (bel1 _ _) (Nat.le_refl _)⟩
      obtain ⟨⟨x0, x1, x2, x3, x4⟩, _⟩ := row5 (heap_alloc_last w3 (.cells #[.int .i64 n, .int .i64 me, .pointer (some ⟨ba, 0, none⟩), .pointer none, .pointer none] 77))
      go_wp2
      go_ret
      exact HQ.out _
    · have HQ : Hid (∀ o, NewO w0 w n me (.returned (.pointer none)) (w3.alloc o)) := fun o => .inl ⟨hf, rfl, bel_up (bel_up HB1.out b3 (Nat.le_refl _)) (bel1 _ _) (Nat.le_refl _)⟩
      obtain ⟨⟨x0, x1, x2, x3, x4⟩, _⟩ := row5 (heap_alloc_last w3 (.cells #[.int .i64 n, .int .i64 me, .pointer (some ⟨ba, 0, none⟩), .pointer none, .pointer (some ⟨bl, 0, none⟩)] 77))
      clear hl b3 nl
      go_wp2
      go_ret
      exact HQ.out _
  · have cl2 := cl w2 (bel_up HB1.out b2 (Nat.le_refl _))
    have HP := Hid_of hp
    have HB2 := Hid_of b2
    have HNP := Hid_of np
    clear cl hp b2 np
    go_wp2_with fail
    refine cl2.mono ?_
    clear cl2
    rintro e w3 (⟨hf, -, -⟩ | ⟨-, bl, Fl, rfl, hl, b3, nl⟩)
    · rw [HN.out ht] at hf; cases hf
    obtain ⟨k1, k2, k3⟩ := RP.fresh (r := Rm.r0 n me) HB0.out ht HA.out HB1.out HNA.out HP.out HB2.out HNP.out hl b3 nl
    obtain ⟨⟨x0, x1, x2, x3, x4⟩, _⟩ := row5 k1.row
    have HQ : Hid (NewO w0 w n me (.returned (ptr w3.heap.size)) (w3.alloc (rrow (Rm.r0 n me) ba bp bl))) := .inr ⟨ht, _, _, rfl, k1.rs, k2, k3⟩
    clear k1 k2 k3 hl b3 nl
    go_wp2
    go_ret
    exact HQ.out
end Go.Proofs.Ytgodnpngdbelhaa
namespace Go.Proofs.Ytgodnpngdbelhaa
open Go.RowKit Go.Maps
set_option linter.unusedVariables false
open M (E V)
open Rm (NT R)

section
variable {w0 w : World} {b ba bp bl : Nat} {Fa Fp Fl : Nat → Prop} {r : R}
theorem RP.leads (h : RP w0 w b ba bp bl Fa Fp Fl r) : Calls Try.prog 41 #[ptr b] w fun e w' => e = .returned (.bool (decide (2 ≤ r.p.st))) ∧ w' = w := by
  have cn := h.ps.leads
  obtain ⟨⟨c0, c1, c2, c3, c4⟩, _⟩ := row5 h.row
  clear h
  go_enter Try.func41, Try.ntmps41
  go_wp2_with fail
  refine cn.mono ?_
  rintro e w1 ⟨rfl, rfl⟩
  go_wp2
  go_ret
  exact ⟨rfl, rfl⟩
theorem RP.log (h : RP w0 w b ba bp bl Fa Fp Fl r) : Calls Try.prog 26 #[ptr b] w fun e w' => ∃ ad c, e = .returned (.slice ad (Rm.logL r).length c) ∧ XL Nl.tl w' ad c (Rm.logL r) ∧ (∀ j, blk ad j → w.heap.size ≤ j ∧ j < w'.heap.size) ∧ Below w.heap.size w w' := by
  have cb : ∀ wq, Below w.heap.size w wq → Calls Try.prog 46 #[ptr bl] wq fun e w' => e = .returned (.int .i64 r.l.base) ∧ w' = wq := fun wq hq => (h.ls.keep hq).base
  have cl := fun wq (hq : Below w.heap.size w wq) => (h.ls.keep hq).log r.l.base
  have HS : Hid (∀ wq, Below w.heap.size w wq → wq.cell? ⟨b, 0, none⟩ = some (.int .i64 r.n) ∧ wq.cell? ⟨b, 1, none⟩ = some (.int .i64 r.me) ∧ wq.cell? ⟨b, 2, none⟩ = some (ptr ba) ∧ wq.cell? ⟨b, 3, none⟩ = some (ptr bp) ∧ wq.cell? ⟨b, 4, none⟩ = some (ptr bl)) := fun wq hq => (row5 (bel_row h.row hq)).1
  obtain ⟨⟨c0, c1, c2, c3, c4⟩, _⟩ := row5 h.row
  have HL : Hid (Nl.M.lgs r.l r.l.base = Rm.logL r) := rfl
  clear h
  go_enter Try.func26, Try.ntmps26
  go_upto_region 3 with fail
  refine wp_region_held_drew (S := fun wq => Below (w).heap.size (w) wq) (by kernel_rfl) (Below.drew (Below.refl _ _)) (fun hHeld => ?_)
  obtain ⟨wdx, hwdx⟩ : ∃ wd, w.drew = wd := ⟨_, rfl⟩
  have hBwd : Below w.heap.size w wdx := by rw [← hwdx]; exact Below.drew (Below.refl _ _)
  rw [hwdx] at hHeld ⊢
  clear hwdx
  refine Tm 0 ?p0x ?v0x hHeld ?r0x
  refine Tm 1 ?p1x ?v1x hHeld ?r1x
  refine Tm 2 ?p2x ?v2x hHeld ?r2x
  refine Tk 3 ?p3x ?v3x ?y3x hHeld ?r3x
  case y3x => intro wq hq; obtain ⟨b0, b1, b2, b3, b4⟩ := HS.out wq hq; go_simp; try with_reducible rfl
  refine Tm 4 ?p4x ?v4x hHeld ?r4x
  refine Tm 5 ?p5x ?v5x hHeld ?r5x
  refine Tm 6 ?p6x ?v6x hHeld ?r6x
  refine Tk 7 ?p7x ?v7x ?y7x hHeld ?r7x
  case y7x => intro wq hq; obtain ⟨b0, b1, b2, b3, b4⟩ := HS.out wq hq; go_simp; try with_reducible rfl
  simp only [Act.put, Pa, Pb, Pc]
  refine Rd 8 ?p8x ?s8x
  intro K hK
  go_simp
  refine (cb _ hHeld).mono ?_
  rintro e v8 ⟨rfl, rfl⟩
  refine hK.out _ _ hHeld (fun hHeld => ?_)
  clear hK K
  refine Rd 9 ?p9x_8 ?s9x_8
  intro K hK
  go_simp
  refine (cl _ hHeld).mono ?_
  rintro e v9 ⟨ad, c, rfl, hx, hk, hb⟩
  rw [HL.out] at hx ⊢
  have hb2 := bel_up hHeld hb (Nat.le_refl _)
  have HX := Hid_of hx
  have HK : Hid (∀ j, blk ad j → w.heap.size ≤ j ∧ j < v9.heap.size) := fun j hj => ⟨Nat.le_trans hHeld.size (hk j hj).1, (hk j hj).2⟩
  clear hx hb hk
  refine hK.out _ _ hb2 (fun hHeld => ?_)
  clear hK K
  refine Tm 10 ?p10x_8_9 ?v10x_8_9 hHeld ?r10x_8_9
  simp only [Act.put, Pa, Pb, Pc]
  refine wpAnyH_done (by kernel_rfl) ?_ _
  have HB := Hid_of hb2
  go_wp2
  go_ret
  exact ⟨ad, c, rfl, HX.out, HK.out, HB.out⟩

/-- What it asks for. -/
theorem RP.ask (h : RP w0 w b ba bp bl Fa Fp Fl r) (dst : Int) : Calls Try.prog 33 #[ptr b, .int .i64 dst] w fun e w' => ∃ u, e = .returned u ∧ NO w (uni b Fa Fp Fl) u w' (Rm.akN r dst) ∧ Below w.heap.size w w' := by
  have ci := isNode_any h.row dst
  have HLT := Hid_of (fun k hk => (h.mine k hk).2)
  have cn : ∀ wq, Below w.heap.size w wq → Calls Try.prog 47 #[ptr bl] wq fun e w' => e = .returned (.int .i64 (Nl.M.nx r.l)) ∧ w' = wq := fun wq hq => (h.ls.keep hq).next
  have HS : Hid (∀ wq, Below w.heap.size w wq → wq.cell? ⟨b, 0, none⟩ = some (.int .i64 r.n) ∧ wq.cell? ⟨b, 1, none⟩ = some (.int .i64 r.me) ∧ wq.cell? ⟨b, 2, none⟩ = some (ptr ba) ∧ wq.cell? ⟨b, 3, none⟩ = some (ptr bp) ∧ wq.cell? ⟨b, 4, none⟩ = some (ptr bl)) := fun wq hq => (row5 (bel_row h.row hq)).1
  clear h
  cases hi : Rm.isN r dst with
  | false =>
    have HN : Hid (Rm.akN r dst = []) := Hid_of (by unfold Rm.akN; rw [hi]; rfl)
    rw [hi] at ci
    clear hi cn HS
    go_enter Try.func33, Try.ntmps33
    go_wp2_with fail
    refine ci.mono ?_
    rintro e w1 ⟨rfl, rfl⟩
    go_wp2
    go_ret
    exact ⟨_, rfl, by rw [HN.out]; exact NO.nil _ _ _, Below.refl _ _⟩
  | true =>
    have HN : Hid (Rm.akN r dst = [⟨5, r.me, dst, Nl.M.nx r.l, Rm.e0, []⟩]) := Hid_of (by unfold Rm.akN; rw [hi]; rfl)
    rw [hi] at ci
    have HFIN : Hid (∀ gv wv, Below w.heap.size w wv → w.heap.size ≤ gv → wv.heap[gv]? = some (.cells (nl.cs ⟨⟨5, r.me, dst, Nl.M.nx r.l, ⟨0, 0⟩, []⟩, none, 0⟩).toArray 63 (0, 0)) → ∃ u, Ending.returned (.slice (some ⟨gv, 0, none⟩) 1 1) = .returned u ∧ NO w (uni b Fa Fp Fl) u wv (Rm.akN r dst) ∧ Below w.heap.size w wv) := fun gv wv hb hg hrv => by
      rw [HN.out]
      exact ⟨_, rfl, NO.one hrv hg (fun hk => by have := HLT.out _ hk; omega) (XN.emp _ _ rfl rfl rfl), hb⟩
    clear hi
    go_enter Try.func33, Try.ntmps33
    go_wp2_with fail
    refine ci.mono ?_
    rintro e w1 ⟨rfl, rfl⟩
    clear ci
    go_upto_region 3 with fail
    refine wp_region_held_drew (S := fun wq => Below (w1).heap.size (w1) wq) (by kernel_rfl) (Below.drew (Below.refl _ _)) (fun hHeld => ?_)
    obtain ⟨wdx, hwdx⟩ : ∃ wd, w1.drew = wd := ⟨_, rfl⟩
    have hBwd : Below w1.heap.size w1 wdx := by rw [← hwdx]; exact Below.drew (Below.refl _ _)
    rw [hwdx] at hHeld ⊢
    clear hwdx
    refine Tm 0 ?p0x ?v0x hHeld ?r0x
    refine Tm 1 ?p1x ?v1x hHeld ?r1x
    refine Tm 2 ?p2x ?v2x hHeld ?r2x
    refine Tk 3 ?p3x ?v3x ?y3x hHeld ?r3x
    case y3x => intro wq hq; obtain ⟨b0, b1, b2, b3, b4⟩ := HS.out wq hq; go_simp; try with_reducible rfl
    refine Tm 4 ?p4x ?v4x hHeld ?r4x
    refine Tm 5 ?p5x ?v5x hHeld ?r5x
    refine Tm 6 ?p6x ?v6x hHeld ?r6x
    refine Tm 7 ?p7x ?v7x hHeld ?r7x
    refine Tk 8 ?p8x ?v8x ?y8x hHeld ?r8x
    case y8x => intro wq hq; obtain ⟨b0, b1, b2, b3, b4⟩ := HS.out wq hq; go_simp; try with_reducible rfl
    simp only [Act.put, Pa, Pb, Pc]
    refine Rd 9 ?p9x ?s9x
    intro K hK
    go_simp
    refine (cn _ hHeld).mono ?_
    rintro e v9 ⟨rfl, rfl⟩
    refine hK.out _ _ hHeld (fun hHeld => ?_)
    clear hK K
    refine Tm 10 ?p10x_9 ?v10x_9 hHeld ?r10x_9
    simp only [Act.put, Pa, Pb, Pc]
    refine Rd 11 ?p11x_9 ?s11x_9
    intro K hK
    go_simp
    obtain ⟨wv, hwv⟩ : ∃ wv, v9.alloc (.cells #[.int .i64 5, .int .i64 r.me, .int .i64 dst, .int .i64 (Nl.M.nx r.l), .int .i64 0, .int .i64 0, .slice none 0 0] 63) = wv := ⟨_, rfl⟩
    have hbv : Below v9.heap.size v9 wv := by rw [← hwv]; exact bel1 _ _
    have hrv : wv.heap[v9.heap.size]? = some (.cells (nl.cs ⟨⟨5, r.me, dst, Nl.M.nx r.l, ⟨0, 0⟩, []⟩, none, 0⟩).toArray 63 (0, 0)) := by rw [← hwv]; exact heap_alloc_last _ _
    obtain ⟨gv, hgv⟩ : ∃ gv, v9.heap.size = gv := ⟨_, rfl⟩
    rw [hwv]
    rw [hgv] at hrv ⊢
    have hgv' : w1.heap.size ≤ gv := by rw [← hgv]; exact hHeld.size
    have hbv2 : Below w1.heap.size w1 wv := bel_up hHeld hbv (Nat.le_refl _)
    clear hwv hgv hbv
    refine hK.out _ _ hbv2 (fun hHeld => ?_)
    clear hK K
    refine Tm 12 ?p12x_9_11 ?v12x_9_11 hHeld ?r12x_9_11
    simp only [Act.put, Pa, Pb, Pc]
    refine wpAnyH_done (by kernel_rfl) ?_ _
    have HQ := HFIN.out _ _ hbv2 hgv' hrv
    go_wp2
    go_ret
    exact HQ

end
end Go.Proofs.Ytgodnpngdbelhaa
namespace Go.Proofs.Ytgodnpngdbelhaa
open Go.RowKit Go.Maps
set_option linter.unusedVariables false
open M (E V)
open Rm (NT R)

section
variable {w0 w : World} {b ba bp bl : Nat} {Fa Fp Fl : Nat → Prop} {r : R}
/-- What a crash leaves. -/
theorem RP.crash (h : RP w0 w b ba bp bl Fa Fp Fl r) : Calls Try.prog 40 #[ptr b] w fun e w' => ∃ G, e = .returned (.tuple #[]) ∧ RS w0 w' G b (Rm.crS r) ∧ Fr w (uni b Fa Fp Fl) w' G := by
  have hnl : Nl.M.nde r.n = true := by
    have := h.n17
    unfold Nl.M.nde
    simp only [Bool.and_eq_true, decide_eq_true_eq]
    exact this
  have HNL := Hid_of hnl
  have HAB : Hid (0 ≤ r.a.base ∧ r.a.base ≤ 1024) := Hid_of ⟨h.ac.ok.b0, h.ac.ok.b1⟩
  have HRP := Hid_of h
  obtain ⟨⟨x0, x1, x2, x3, x4⟩, -⟩ := row5 h.row
  have HFIN : Hid (∀ w' q q2 Gp Gl (_ : Unit), RP w0 w' b ba q q2 Fa Gp Gl (Rm.crS r) → Fr w (uni b Fa Fp Fl) w' (uni b Fa Gp Gl) → ∃ G, RS w0 w' G b (Rm.crS r) ∧ Fr w (uni b Fa Fp Fl) w' G) := fun w' q q2 Gp Gl _ h1 h2 => ⟨_, h1.rs, h2⟩
  obtain ⟨SQ, HSQ⟩ : ∃ SQ : World → Prop, Hid (SQ = fun wq => ∃ x y, wq.heap[b]? = some (.cells #[.int .i64 r.n, .int .i64 r.me, ptr ba, x, y] 77 (0, 0))) := ⟨_, Hid_of rfl⟩
  have HS : Hid (∀ wq, SQ wq → wq.cell? ⟨b, 0, none⟩ = some (.int .i64 r.n) ∧ wq.cell? ⟨b, 1, none⟩ = some (.int .i64 r.me) ∧ wq.cell? ⟨b, 2, none⟩ = some (ptr ba)) := fun wq hq => by
    rw [HSQ.out] at hq
    obtain ⟨x, y, hq⟩ := hq
    obtain ⟨⟨e0, e1, e2, -, -⟩, -⟩ := row5 hq
    exact ⟨e0, e1, e2⟩
  have SK : Hid (∀ w', (∃ x y, w'.heap[b]? = some (.cells #[.int .i64 r.n, .int .i64 r.me, ptr ba, x, y] 77 (0, 0))) → SQ w') := fun w' hw' => by rw [HSQ.out]; exact hw'
  have HSI : Hid (SQ w.drew) := SK.out _ ⟨_, _, h.row⟩
  clear h hnl HSQ
  go_enter Try.func40, Try.ntmps40
  go_upto_region 1 with fail
  clear x0 x1 x2 x3 x4
  refine wp_region_held_drew (S := fun wq => SQ wq) (by kernel_rfl) HSI.out (fun hHeld => ?_)
  obtain ⟨wdx, hwdx⟩ : ∃ wd, w.drew = wd := ⟨_, rfl⟩
  have hBwd : Below w.heap.size w wdx := by rw [← hwdx]; exact Below.drew (Below.refl _ _)
  rw [hwdx] at hHeld ⊢
  clear hwdx
  have HBc := hBwd
  refine Tm 0 ?p0x ?v0x hHeld ?r0x
  refine Tm 1 ?p1x ?v1x hHeld ?r1x
  refine Tm 2 ?p2x ?v2x hHeld ?r2x
  refine Tm 3 ?p3x ?v3x hHeld ?r3x
  refine Tk 4 ?p4x ?v4x ?y4x hHeld ?r4x
  case y4x => intro wq hq; obtain ⟨b0, b1, b2⟩ := HS.out wq hq; go_simp; try with_reducible rfl
  refine Tm 5 ?p5x ?v5x hHeld ?r5x
  refine Tm 6 ?p6x ?v6x hHeld ?r6x
  refine Tm 7 ?p7x ?v7x hHeld ?r7x
  refine Tk 8 ?p8x ?v8x ?y8x hHeld ?r8x
  case y8x => intro wq hq; obtain ⟨b0, b1, b2⟩ := HS.out wq hq; go_simp; try with_reducible rfl
  simp only [Act.put, Pa, Pb, Pc]
  refine Rd 9 ?p9x ?s9x
  intro K hK
  go_simp
  refine (Np.newS_any w0 _ (bel_up HRP.out.bel HBc (Nat.le_refl _)) r.n r.me).mono ?_
  rintro e v9 (⟨hf, -, -⟩ | ⟨-, q, Gp, rfl, hp, hb9, hn9⟩)
  · rw [HRP.out.nm] at hf; cases hf
  obtain ⟨hrp2, hf2⟩ := HRP.out.newP hp (bel_up HBc hb9 (Nat.le_refl _)) (fun k hk => Nat.le_trans HBc.size (hn9 k hk))
  have hrv9 := bel_row HRP.out.row (bel_up HBc hb9 (Nat.le_refl _))
  have S9 := SK.out _ ⟨_, _, hrv9⟩
  obtain ⟨⟨y0, y1, y2, y3, y4⟩, yf⟩ := row5 hrv9
  have yf3 := yf 3
  have HR2 := Hid_of hrp2
  have HF2 := Hid_of hf2
  clear hp hb9 hn9 hrp2 hf2 yf hrv9
  refine hK.out _ _ S9 (fun hHeld => ?_)
  clear hK K
  refine Tm 10 ?p10x_9 ?v10x_9 hHeld ?r10x_9
  refine Tm 11 ?p11x_9 ?v11x_9 hHeld ?r11x_9
  simp only [Act.put, Pa, Pb, Pc]
  refine Rd 12 ?p12x_9 ?s12x_9
  intro K hK
  go_simp
  have S12 := SK.out (v9.setCell ⟨b, 3, none⟩ (ptr q)) ⟨_, _, HR2.out.row⟩
  clear y0 y1 y2 y3 y4
  refine hK.out _ _ S12 (fun hHeld => ?_)
  clear hK K
  refine wpAnyH_done (by kernel_rfl) ?_ _
  go_upto_region 2 with fail
  obtain ⟨W2, HW2⟩ : ∃ W2, v9.setCell ⟨b, 3, none⟩ (ptr q) = W2 := ⟨_, rfl⟩
  rw [HW2]
  rw [HW2] at HR2 HF2 S12
  clear HW2 yf3
  have HSI2 : Hid (SQ W2.drew) := SK.out _ ⟨_, _, HR2.out.row⟩
  refine wp_region_held_drew (S := fun wq => SQ wq) (by kernel_rfl) HSI2.out (fun hHeld => ?_)
  obtain ⟨wdy, hwdy⟩ : ∃ wd, W2.drew = wd := ⟨_, rfl⟩
  have hBwd : Below W2.heap.size W2 wdy := by rw [← hwdy]; exact Below.drew (Below.refl _ _)
  rw [hwdy] at hHeld ⊢
  clear hwdy
  have HBd := hBwd
  refine Tm 0 ?p0y ?v0y hHeld ?r0y
  refine Tm 1 ?p1y ?v1y hHeld ?r1y
  refine Tm 2 ?p2y ?v2y hHeld ?r2y
  refine Tm 3 ?p3y ?v3y hHeld ?r3y
  refine Tk 4 ?p4y ?v4y ?y4y hHeld ?r4y
  case y4y => intro wq hq; obtain ⟨b0, b1, b2⟩ := HS.out wq hq; go_simp; try with_reducible rfl
  refine Tm 5 ?p5y ?v5y hHeld ?r5y
  refine Tm 6 ?p6y ?v6y hHeld ?r6y
  refine Tm 7 ?p7y ?v7y hHeld ?r7y
  refine Tk 8 ?p8y ?v8y ?y8y hHeld ?r8y
  case y8y => intro wq hq; obtain ⟨b0, b1, b2⟩ := HS.out wq hq; go_simp; try with_reducible rfl
  simp only [Act.put, Pa, Pb, Pc]
  refine Rd 9 ?p9y ?s9y
  intro K hK
  go_simp
  refine ((HR2.out.keep HBd).ac.base).mono ?_
  rintro e v9b ⟨rfl, hv9⟩
  subst hv9
  refine hK.out _ _ hHeld (fun hHeld => ?_)
  clear hK K
  refine Rd 10 ?p10y_9 ?s10y_9
  intro K hK
  go_simp
  refine (learnerFrom_any w0 _ (bel_up HR2.out.bel HBd (Nat.le_refl _)) r.n r.a.base HNL.out HAB.out.1 HAB.out.2).mono ?_
  rintro e v10 ⟨q2, Gl, rfl, hl, hb10, hn10⟩
  obtain ⟨hrp3, hf3⟩ := HR2.out.newL hl (bel_up HBd hb10 (Nat.le_refl _)) (fun k hk => Nat.le_trans HBd.size (hn10 k hk))
  have hrv10 := bel_row HR2.out.row (bel_up HBd hb10 (Nat.le_refl _))
  have S10 := SK.out _ ⟨_, _, hrv10⟩
  obtain ⟨⟨z0, z1, z2, z3, z4⟩, zf⟩ := row5 hrv10
  have zf4 := zf 4
  have S13 := SK.out _ ⟨_, _, hrp3.row⟩
  have HQ := Hid_of (HFIN.out _ _ _ _ _ () hrp3 (HF2.out.trans hf3))
  clear hl hb10 hn10 hrp3 hf3 zf hrv10
  refine hK.out _ _ S10 (fun hHeld => ?_)
  clear hK K
  refine Tm 11 ?p11y_9_10 ?v11y_9_10 hHeld ?r11y_9_10
  refine Tm 12 ?p12y_9_10 ?v12y_9_10 hHeld ?r12y_9_10
  simp only [Act.put, Pa, Pb, Pc]
  refine Rd 13 ?p13y_9_10 ?s13y_9_10
  intro K hK
  go_simp
  refine hK.out _ _ S13 (fun hHeld => ?_)
  clear hK K
  refine wpAnyH_done (by kernel_rfl) ?_ _
  go_wp2
  go_end0
  obtain ⟨G, h1, h2⟩ := HQ.out
  exact ⟨rfl, G, h1, h2⟩

end
end Go.Proofs.Ytgodnpngdbelhaa
