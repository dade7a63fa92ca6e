/-
  A group's deeds: Swap.
-/
import Derived.Test.YtacfndfkoiifhaaRD
namespace Go.Proofs.Ytacfndfkoiifhaa
open Go.RowKit
set_option linter.unusedVariables false
open Mb (S)

section
variable {w w' : World} {base b : Nat} {vl vs : Value} {s : S}
theorem AtL.tail {w : World} {a : Option Addr} {x : Int} {xs : List Int} (h : AtL il w a (x :: xs)) : ∃ g off, a = some ⟨g, off, none⟩ ∧ w.cell? ⟨g, off, none⟩ = some (.int .i64 x) ∧ AtL il w (some ⟨g, off + 1, none⟩) xs := by
  obtain ⟨g, off, rfl, c⟩ := h.getI 0 (by simp)
  exact ⟨g, off, rfl, c, h.drop 1⟩
set_option maxHeartbeats 1000000 in
theorem swap_no (h : MI w base b vl vs s) (g : Mb.G s) (a : Int) (hc : ¬ Mb.wc s a = 0) : Calls Try.prog 21 #[.pointer (some ⟨b, 0, none⟩), .int .i64 a] w (DdOut w base b vl vs (.tuple #[.int .i64 (Mb.wv s a), .int .i64 (Mb.wc s a)]) (Mb.ws s a)) := by
  have HQ : Hid (DdOut w base b vl vs (.tuple #[.int .i64 (Mb.wv s a), .int .i64 (Mb.wc s a)]) (Mb.ws s a) (.returned (.tuple #[.int .i64 (Mb.wv s a), .int .i64 (Mb.wc s a)])) w) := Hid_of (by rw [Mb.ws_no hc]; exact DdOut.same h _)
  have hw : Mb.wv s a = 0 := by unfold Mb.wv; rw [if_neg hc]
  rw [hw] at HQ ⊢
  obtain ⟨az, cz, hs, _, _⟩ := h.os.at
  obtain ⟨⟨c0, c1, c2, c3, c4, c5⟩, cf⟩ := row6 h.row
  rw [hs] at c5
  have HG := Hid_of g
  have hlo := g.lo
  clear h cf g hw
  rcases Mb.wc_cases s a with ⟨k1, k2⟩ | ⟨k1, k2, k3⟩ | ⟨k1, k2, k3, k4⟩ | ⟨k1, k2, k3, k4, k5⟩ | ⟨k1, k2, k3, k4, k5⟩
  · have hl : s.sp.length = 0 := by rw [k1]; rfl
    rw [hl] at c5
    rw [k2] at HQ ⊢
    clear k1 k2 hc hs
    go_enter Try.func21, Try.ntmps21
    go_wp2
    go_ret2
    exact HQ.out
  · have hl : s.sp.length ≠ 0 := fun e => k1 (List.length_eq_zero_iff.1 e)
    have d1 : ((s.sp.length : Int) == 0) = false := beq_false_of_ne (by omega)
    have d2 : (a == s.ep) = false := beq_false_of_ne k2
    rw [k3] at HQ ⊢
    clear k1 k3 hc hs
    go_enter Try.func21, Try.ntmps21
    go_wp2
    go_ret2
    exact HQ.out
  · have hl : s.sp.length ≠ 0 := fun e => k1 (List.length_eq_zero_iff.1 e)
    have d1 : ((s.sp.length : Int) == 0) = false := beq_false_of_ne (by omega)
    have d2 : (a == s.ep) = true := beq_iff_eq.2 k2
    have d3 : (s.hole == -1) = true := beq_iff_eq.2 (by omega)
    rw [k4] at HQ ⊢
    clear k1 k4 hc hs
    go_enter Try.func21, Try.ntmps21
    go_wp2
    go_ret2
    exact HQ.out
  · have hl : s.sp.length ≠ 0 := fun e => k1 (List.length_eq_zero_iff.1 e)
    have d1 : ((s.sp.length : Int) == 0) = false := beq_false_of_ne (by omega)
    have d2 : (a == s.ep) = true := beq_iff_eq.2 k2
    have d3 : (s.hole == -1) = false := beq_false_of_ne (by omega)
    rw [k5] at HQ ⊢
    rw [k4] at c2
    clear k1 k5 hc hs
    go_enter Try.func21, Try.ntmps21
    go_wp2
    go_ret2
    exact HQ.out
  · exact absurd k5 hc
/-- Behind a swap. -/
theorem swap_end {w w1 : World} {nv : Value} {x : Int} {xs : List Int} {gl n c i : Nat} (h : MI w1 base b vl vs s) (ho : OwnL il 3 w1 base nv xs) (hnb : nv.ownBlock ≠ some b) (hnl : ∀ k, vl.ownBlock = some k → nv.ownBlock ≠ some k) (hi : i < s.l.length) (hv : vl = .slice (some ⟨gl, 0, none⟩) n c) (hF : Fr w (fpm b vl vs) w1 (fpm b vl nv)) (wq : World) (hq : Below (w1.setCell ⟨b, 5, none⟩ nv).heap.size (w1.setCell ⟨b, 5, none⟩ nv) wq) :
    (((wq.setCell ⟨gl, i, none⟩ (.int .i64 x)).setCell ⟨b, 2, none⟩ (.bool true)).heap[b]? = some (.cells #[.int .i64 s.ep, .int .i64 s.hole, .bool true, .int .i64 s.gone, vl, nv] 60 (0, 0))) ∧
    MI (((wq.setCell ⟨gl, i, none⟩ (.int .i64 x)).setCell ⟨b, 2, none⟩ (.bool true)).setCell ⟨b, 0, none⟩ (.int .i64 (s.ep + 1))) base b vl nv ⟨s.l.set i x, xs, s.ep + 1, s.hole, true, s.gone⟩ ∧
    Fr w (fpm b vl vs) (((wq.setCell ⟨gl, i, none⟩ (.int .i64 x)).setCell ⟨b, 2, none⟩ (.bool true)).setCell ⟨b, 0, none⟩ (.int .i64 (s.ep + 1))) (fpm b vl nv) := by
  have hgb : gl ≠ b := fun e => h.nl (by rw [hv, e]; rfl)
  have hgn : nv.ownBlock ≠ some gl := hnl gl (by rw [hv]; rfl)
  have hb5 : ∀ k, k ≠ b → (w1.setCell ⟨b, 5, none⟩ nv).heap[k]? = w1.heap[k]? := fun k hk => heap_setCell_other w1 ⟨b, 5, none⟩ k _ hk
  have hrow := bel_row (heap_setCell_same w1 b 5 _ _ nv h.row) hq
  have hrow2 : (wq.setCell ⟨gl, i, none⟩ (.int .i64 x)).heap[b]? = _ := (heap_setCell_other wq ⟨gl, i, none⟩ b _ hgb.symm).trans hrow
  have hrow3 := heap_setCell_same _ b 2 _ _ (.bool true) hrow2
  have hsz : (w1.setCell ⟨b, 5, none⟩ nv).heap.size = w1.heap.size := by simp
  -- the servers' row
  have hol : OwnL il 3 wq base vl s.l := h.ol.keepBut fun k hk e => by
    rw [hq.block k (by rw [hsz]; exact hk), hb5 k (fun e' => h.nl (by rw [← e']; exact e))]
  obtain ⟨g', cap', hv', _, _, _, _, hset⟩ := hol.set1 i hi 0 (by decide)
  rw [hv] at hv'
  simp only [Value.slice.injEq, Option.some.injEq, Addr.mk.injEq, and_true] at hv'
  obtain ⟨rfl, _⟩ := hv'
  have hol2 : OwnL il 3 (wq.setCell ⟨gl, i, none⟩ (.int .i64 x)) base vl (s.l.set i x) := by
    have := hset x (.int .i64 x) rfl
    rwa [show i * il.n + 0 = i by simp [il]] at this
  have hos : OwnL il 3 wq base nv xs := ho.keepBut fun k hk e => by
    rw [hq.block k (by rw [hsz]; exact hk), hb5 k (fun e' => hnb (by rw [← e']; exact e))]
  have oth : ∀ k, k ≠ b → (((wq.setCell ⟨gl, i, none⟩ (.int .i64 x)).setCell ⟨b, 2, none⟩ (.bool true)).setCell ⟨b, 0, none⟩ (.int .i64 (s.ep + 1))).heap[k]? = (wq.setCell ⟨gl, i, none⟩ (.int .i64 x)).heap[k]? := fun k hk => by
    rw [heap_setCell_other _ ⟨b, 0, none⟩ k _ hk, heap_setCell_other _ ⟨b, 2, none⟩ k _ hk]
  refine ⟨hrow3, ⟨heap_setCell_same _ b 0 _ _ (.int .i64 (s.ep + 1)) hrow3, ?_, ?_, h.nl, hnb, hnl, h.lo⟩, ?_⟩
  · exact hol2.keepBut fun k _ e => oth k (fun e' => h.nl (by rw [← e']; exact e))
  · refine hos.keepBut fun k _ e => ?_
    rw [oth k (fun e' => hnb (by rw [← e']; exact e))]
    exact heap_setCell_other wq ⟨gl, i, none⟩ k _ (fun e' => hgn (by have e2 : k = gl := e'; rw [← e2]; exact e))
  · exact fr_set (fr_set (fr_set ((fr_set hF (.inl rfl) 5 nv).up hq) (.inr (.inl (by rw [hv]; rfl))) i _) (.inl rfl) 2 _) (.inl rfl) 0 _
set_option maxHeartbeats 1000000 in
theorem swap_yes (h : MI w base b vl vs s) (g : Mb.G s) (he : s.ep ≤ 1000000) (hbs : base ≤ w.heap.size) (a : Int) (hc : Mb.wc s a = 0) : Calls Try.prog 21 #[.pointer (some ⟨b, 0, none⟩), .int .i64 a] w (DdOut w base b vl vs (.tuple #[.int .i64 (Mb.wv s a), .int .i64 (Mb.wc s a)]) (Mb.ws s a)) := by
  obtain ⟨k1, k2, k3, k4⟩ : s.sp ≠ [] ∧ a = s.ep ∧ 0 ≤ s.hole ∧ s.fl = false := by
    rcases Mb.wc_cases s a with ⟨_, k2⟩ | ⟨_, _, k3⟩ | ⟨_, _, _, k4⟩ | ⟨_, _, _, _, k5⟩ | ⟨k1, k2, k3, k4, k5⟩
    · rw [k2] at hc; cases hc
    · rw [k3] at hc; cases hc
    · rw [k4] at hc; cases hc
    · rw [k5] at hc; cases hc
    · exact ⟨k1, k2, k3, k4⟩
  obtain ⟨x, xs, hx⟩ : ∃ x xs, s.sp = x :: xs := by
    cases e : s.sp with
    | nil => exact absurd e k1
    | cons x xs => exact ⟨x, xs, rfl⟩
  obtain ⟨i, hi⟩ : ∃ i : Nat, s.hole = i := Int.eq_ofNat_of_zero_le k3
  have hil : i < s.l.length := by have := g.hi; omega
  obtain ⟨az, cz, hs, hxs, _⟩ := h.os.at
  obtain ⟨gl, cl, hl, _, hgl, _, _, _⟩ := h.ol.set1 i hil 0 (by decide)
  have hat := hxs.at'
  rw [hx] at hat
  obtain ⟨gs, os, rfl, cx, hat2⟩ := hat.tail
  have hle := hxs.le
  have hmx := hxs.mx
  rw [hx] at hle
  have hn : xs.length ≤ 1000000 := by have := g.ap.right.len; rw [hx] at this; simp at this; omega
  have HC : Hid (∀ ad c', (ad = some ⟨gs, os + 1, none⟩ ∨ xs.length = 0) → Calls Try.prog 29 #[.slice ad xs.length c'] w (CpOut w xs)) := Hid_of fun ad c' hd => copied_out ad c' xs w hn (by
    rcases hd with rfl | hd
    · exact hat2
    · rw [List.length_eq_zero_iff.1 hd]; exact AtL.nil _ _)
  obtain ⟨⟨c0, c1, c2, c3, c4, c5⟩, cf⟩ := row6 h.row
  rw [hs, hx] at c5
  have d1 : ((s.sp.length : Int) == 0) = false := beq_false_of_ne (by rw [hx]; simp; omega)
  have d2 : (a == s.ep) = true := beq_iff_eq.2 k2
  have d3 : (s.hole == -1) = false := beq_false_of_ne (by omega)
  rw [k4] at c2
  simp only [List.length_cons] at c5 hle
  obtain ⟨n0, hn0⟩ : ∃ n0, Hid (w.heap.size = n0) := ⟨_, rfl⟩
  have hnb : Hid ((Value.slice (some ⟨n0, 0, none⟩) xs.length xs.length).ownBlock = some w.heap.size) := Hid_of (by rw [hn0.out]; rfl)
  have HE : Hid (∀ w1, OwnL il 3 w1 w.heap.size (.slice (some ⟨n0, 0, none⟩) xs.length xs.length) xs → Below w.heap.size w w1 →
      (w1.cell? ⟨b, 5, none⟩ = some vs ∧ w1.frozen? ⟨b, 5, none⟩ = false) ∧
      (∀ wq, Below (w1.setCell ⟨b, 5, none⟩ (.slice (some ⟨n0, 0, none⟩) xs.length xs.length)).heap.size (w1.setCell ⟨b, 5, none⟩ (.slice (some ⟨n0, 0, none⟩) xs.length xs.length)) wq → wq.cell? ⟨b, 1, none⟩ = some (.int .i64 i) ∧ wq.cell? ⟨b, 4, none⟩ = some (.slice (some ⟨gl, 0, none⟩) s.l.length cl) ∧ (∃ u, wq.cell? ⟨gl, i, none⟩ = some u) ∧ wq.frozen? ⟨gl, i, none⟩ = false) ∧
      (∀ wq, Below (w1.setCell ⟨b, 5, none⟩ (.slice (some ⟨n0, 0, none⟩) xs.length xs.length)).heap.size (w1.setCell ⟨b, 5, none⟩ (.slice (some ⟨n0, 0, none⟩) xs.length xs.length)) wq →
        ((∃ u, (wq.setCell ⟨gl, i, none⟩ (.int .i64 x)).cell? ⟨b, 2, none⟩ = some u) ∧ (wq.setCell ⟨gl, i, none⟩ (.int .i64 x)).frozen? ⟨b, 2, none⟩ = false) ∧
        Calls Try.prog 43 #[.pointer (some ⟨b, 0, none⟩)] ((wq.setCell ⟨gl, i, none⟩ (.int .i64 x)).setCell ⟨b, 2, none⟩ (.bool true)) (fun e w' => e = .returned (.tuple #[]) ∧ w' = (((wq.setCell ⟨gl, i, none⟩ (.int .i64 x)).setCell ⟨b, 2, none⟩ (.bool true)).setCell ⟨b, 0, none⟩ (.int .i64 (s.ep + 1)))) ∧
        DdOut w base b vl vs (.tuple #[.int .i64 x, .int .i64 0]) (Mb.ws s a) (.returned (.tuple #[.int .i64 x, .int .i64 0])) (((wq.setCell ⟨gl, i, none⟩ (.int .i64 x)).setCell ⟨b, 2, none⟩ (.bool true)).setCell ⟨b, 0, none⟩ (.int .i64 (s.ep + 1))))) := by
    refine Hid_of fun w1 ho hb1 => ?_
    have h1 := h.keep hb1
    have hvb : ∀ k, vl.ownBlock = some k → (Value.slice (some ⟨n0, 0, none⟩) xs.length xs.length).ownBlock ≠ some k := fun k hk e => by rw [hnb.out] at e; have := (h.ol.lt hk).2; simp at e; omega
    have hbb : (Value.slice (some ⟨n0, 0, none⟩) xs.length xs.length).ownBlock ≠ some b := fun e => by rw [hnb.out] at e; have := h.lt; simp at e; omega
    have hF : Fr w (fpm b vl vs) w1 (fpm b vl (.slice (some ⟨n0, 0, none⟩) xs.length xs.length)) := ⟨hb1.os, hb1.tape, hb1.output, hb1.size, fun k hk _ => hb1.block k hk, by
      rintro k (hk | hk | hk)
      · exact .inl (.inl hk)
      · exact .inl (.inr (.inl hk))
      · rw [hnb.out] at hk; simp at hk; exact .inr (by omega)⟩
    have hgb : gl ≠ b := fun e => h.nl (by rw [hl, e]; rfl)
    obtain ⟨⟨_, _, _, _, _, e5⟩, ef⟩ := row6 h1.row
    refine ⟨⟨e5, ef 5⟩, fun wq hq => ?_, fun wq hq => ?_⟩
    · obtain ⟨⟨_, q1, _, _, q4, _⟩, _⟩ := row6 (bel_row (heap_setCell_same w1 b 5 _ _ (.slice (some ⟨n0, 0, none⟩) xs.length xs.length) h1.row) hq)
      rw [hi] at q1
      rw [hl] at q4
      have hsz : (w1.setCell ⟨b, 5, none⟩ (.slice (some ⟨n0, 0, none⟩) xs.length xs.length)).heap.size = w1.heap.size := by simp
      have hol : OwnL il 3 wq base vl s.l := h1.ol.keepBut fun k hk e => by
        rw [hq.block k (by rw [hsz]; exact hk), heap_setCell_other w1 ⟨b, 5, none⟩ k _ (fun e' => h.nl (by have e2 : k = b := e'; rw [← e2]; exact e))]
      obtain ⟨g', cap', hv', _, _, hc', hf', _⟩ := hol.set1 i hil 0 (by decide)
      rw [hl] at hv'
      simp only [Value.slice.injEq, Option.some.injEq, Addr.mk.injEq, and_true, true_and] at hv'
      obtain ⟨rfl, _⟩ := hv'
      rw [show i * il.n + 0 = i by simp [il]] at hc'
      exact ⟨q1, q4, ⟨_, hc'⟩, hf' _⟩
    · obtain ⟨r1, r2, r3⟩ := swap_end (x := x) h1 (ho.low hbs) hbb hvb hil hl hF wq hq
      have hrow := (heap_setCell_other wq ⟨gl, i, none⟩ b (.int .i64 x) hgb.symm).trans (bel_row (heap_setCell_same w1 b 5 _ _ (.slice (some ⟨n0, 0, none⟩) xs.length xs.length) h1.row) hq)
      obtain ⟨⟨_, _, q2, _, _, _⟩, qf⟩ := row6 hrow
      refine ⟨⟨⟨_, q2⟩, qf 2⟩, rise_any r1 ⟨by have := g.ep; omega, he⟩, ?_⟩
      refine ⟨rfl, _, ?_, r3⟩
      rw [Mb.ws_yes hc, hx, hi]
      rw [hi] at r2
      exact r2
  have HGB : Hid (b ≠ gl) := Hid_of fun e => h.nl (by rw [hl, e]; rfl)
  have hwv : Mb.wv s a = x := by unfold Mb.wv; rw [if_pos hc, hx]; rfl
  rw [hwv, hc]
  have hnn : (0 : Int) ≤ (i : Int) := by omega
  have hni : (i : Int) < (s.l.length : Int) := by omega
  clear h g hxs hat hat2 cf hc hwv hs hl hgl c4 k1 k3 k4 hbs he
  rw [hi] at c1 d3
  clear hi
  go_enter Try.func21, Try.ntmps21
  go_wp2_with fail
  · refine (HC.out _ _ (by first | exact .inl rfl | exact .inr (by omega))).mono ?_
    rintro e w1 ⟨rfl, ho, hb1⟩
    rw [hn0.out] at ho ⊢
    obtain ⟨⟨e5, f5⟩, hs, hfin⟩ := HE.out w1 (by rw [hn0.out]; exact ho) hb1
    have HS := Hid_of hs
    have HFIN := Hid_of hfin
    clear ho hb1 hs hfin HE HC cx c0 c1 c2 c3 c5
    go_wp2_with fail
    obtain ⟨w2, hw2⟩ : ∃ w2, w1.setCell ⟨b, 5, none⟩ (.slice (some ⟨n0, 0, none⟩) xs.length xs.length) = w2 := ⟨_, rfl⟩
    rw [hw2] at HS HFIN ⊢
    clear hw2
    obtain ⟨SQ, HSQ⟩ : ∃ SQ : World → Prop, Hid (SQ = fun wq => wq.cell? ⟨b, 1, none⟩ = some (.int .i64 i) ∧ wq.cell? ⟨b, 4, none⟩ = some (.slice (some ⟨gl, 0, none⟩) s.l.length cl)) := ⟨_, Hid_of rfl⟩
    have HT : Hid (∀ wq, SQ wq → wq.cell? ⟨b, 1, none⟩ = some (.int .i64 i) ∧ wq.cell? ⟨b, 4, none⟩ = some (.slice (some ⟨gl, 0, none⟩) s.l.length cl)) := Hid_of fun wq hq => by rw [HSQ.out] at hq; exact hq
    refine wp_region_held_drew (S := SQ) (by kernel_rfl) (by rw [HSQ.out]; obtain ⟨z1, z4, _, _⟩ := HS.out _ (Below.drew (Below.refl _ _)); exact ⟨z1, z4⟩) (fun hHeld => ?_)
    obtain ⟨wdx, hwdx⟩ : ∃ wd, w2.drew = wd := ⟨_, rfl⟩
    have hBwd : Below w2.heap.size w2 wdx := by rw [← hwdx]; exact Below.drew (Below.refl _ _)
    rw [hwdx] at hHeld ⊢
    clear hwdx
    refine Tm 0 ?p0x ?v0x hHeld ?r0x
    refine Tm 1 ?p1x ?v1x hHeld ?r1x
    refine Tm 2 ?p2x ?v2x hHeld ?r2x
    refine Tk 3 ?p3x ?v3x ?y3x hHeld ?r3x
    case y3x => intro wq hq; obtain ⟨z1, z4⟩ := HT.out wq hq; go_simp; try with_reducible rfl
    refine Tm 4 ?p4x ?v4x hHeld ?r4x
    refine Tm 5 ?p5x ?v5x hHeld ?r5x
    refine Tm 6 ?p6x ?v6x hHeld ?r6x
    refine Tk 7 ?p7x ?v7x ?y7x hHeld ?r7x
    case y7x => intro wq hq; obtain ⟨z1, z4⟩ := HT.out wq hq; go_simp; try with_reducible rfl
    refine Tm 8 ?p8x ?v8x hHeld ?r8x
    refine Tm 9 ?p9x ?v9x hHeld ?r9x
    simp only [Act.put, Pa, Pb, Pc]
    refine Rd 10 ?p10x ?s10x
    intro K hK
    obtain ⟨z1, z4, ⟨_, zg⟩, zf⟩ := HS.out _ hBwd
    go_simp
    obtain ⟨⟨⟨_, q2⟩, q3⟩, hri, hd⟩ := HFIN.out _ hBwd
    obtain ⟨wv, hwv⟩ : ∃ wv, wdx.setCell ⟨gl, i, none⟩ (.int .i64 x) = wv := ⟨_, rfl⟩
    have hsv : SQ wv := by rw [HSQ.out, ← hwv]; exact ⟨(World.cell?_of_block (w := wdx) (a := ⟨b, 1, none⟩) (heap_setCell_other wdx ⟨gl, i, none⟩ b _ HGB.out)).trans z1, (World.cell?_of_block (w := wdx) (a := ⟨b, 4, none⟩) (heap_setCell_other wdx ⟨gl, i, none⟩ b _ HGB.out)).trans z4⟩
    rw [hwv] at q2 q3 hri hd ⊢
    have HD := Hid_of hd
    clear hwv hd z1 z4 zg zf
    refine hK.out _ _ hsv (fun hHeld => ?_)
    clear hK K
    refine wpAnyH_done (by kernel_rfl) ?_ _
    clear HT HS HFIN hHeld hsv
    go_wp2_with fail
    refine hri.mono ?_
    rintro e w5 ⟨rfl, rfl⟩
    clear hri
    go_wp2
    go_ret2
    exact HD.out
  · refine (HC.out _ _ (by first | exact .inl rfl | exact .inr (by omega))).mono ?_
    rintro e w1 ⟨rfl, ho, hb1⟩
    rw [hn0.out] at ho ⊢
    obtain ⟨⟨e5, f5⟩, hs, hfin⟩ := HE.out w1 (by rw [hn0.out]; exact ho) hb1
    have HS := Hid_of hs
    have HFIN := Hid_of hfin
    clear ho hb1 hs hfin HE HC cx c0 c1 c2 c3 c5
    go_wp2_with fail
    obtain ⟨w2, hw2⟩ : ∃ w2, w1.setCell ⟨b, 5, none⟩ (.slice (some ⟨n0, 0, none⟩) xs.length xs.length) = w2 := ⟨_, rfl⟩
    rw [hw2] at HS HFIN ⊢
    clear hw2
    obtain ⟨SQ, HSQ⟩ : ∃ SQ : World → Prop, Hid (SQ = fun wq => wq.cell? ⟨b, 1, none⟩ = some (.int .i64 i) ∧ wq.cell? ⟨b, 4, none⟩ = some (.slice (some ⟨gl, 0, none⟩) s.l.length cl)) := ⟨_, Hid_of rfl⟩
    have HT : Hid (∀ wq, SQ wq → wq.cell? ⟨b, 1, none⟩ = some (.int .i64 i) ∧ wq.cell? ⟨b, 4, none⟩ = some (.slice (some ⟨gl, 0, none⟩) s.l.length cl)) := Hid_of fun wq hq => by rw [HSQ.out] at hq; exact hq
    refine wp_region_held_drew (S := SQ) (by kernel_rfl) (by rw [HSQ.out]; obtain ⟨z1, z4, _, _⟩ := HS.out _ (Below.drew (Below.refl _ _)); exact ⟨z1, z4⟩) (fun hHeld => ?_)
    obtain ⟨wdy, hwdy⟩ : ∃ wd, w2.drew = wd := ⟨_, rfl⟩
    have hBwd : Below w2.heap.size w2 wdy := by rw [← hwdy]; exact Below.drew (Below.refl _ _)
    rw [hwdy] at hHeld ⊢
    clear hwdy
    refine Tm 0 ?p0y ?v0y hHeld ?r0y
    refine Tm 1 ?p1y ?v1y hHeld ?r1y
    refine Tm 2 ?p2y ?v2y hHeld ?r2y
    refine Tk 3 ?p3y ?v3y ?y3y hHeld ?r3y
    case y3y => intro wq hq; obtain ⟨z1, z4⟩ := HT.out wq hq; go_simp; try with_reducible rfl
    refine Tm 4 ?p4y ?v4y hHeld ?r4y
    refine Tm 5 ?p5y ?v5y hHeld ?r5y
    refine Tm 6 ?p6y ?v6y hHeld ?r6y
    refine Tk 7 ?p7y ?v7y ?y7y hHeld ?r7y
    case y7y => intro wq hq; obtain ⟨z1, z4⟩ := HT.out wq hq; go_simp; try with_reducible rfl
    refine Tm 8 ?p8y ?v8y hHeld ?r8y
    refine Tm 9 ?p9y ?v9y hHeld ?r9y
    simp only [Act.put, Pa, Pb, Pc]
    refine Rd 10 ?p10y ?s10y
    intro K hK
    obtain ⟨z1, z4, ⟨_, zg⟩, zf⟩ := HS.out _ hBwd
    go_simp
    obtain ⟨⟨⟨_, q2⟩, q3⟩, hri, hd⟩ := HFIN.out _ hBwd
    obtain ⟨wv, hwv⟩ : ∃ wv, wdy.setCell ⟨gl, i, none⟩ (.int .i64 x) = wv := ⟨_, rfl⟩
    have hsv : SQ wv := by rw [HSQ.out, ← hwv]; exact ⟨(World.cell?_of_block (w := wdy) (a := ⟨b, 1, none⟩) (heap_setCell_other wdy ⟨gl, i, none⟩ b _ HGB.out)).trans z1, (World.cell?_of_block (w := wdy) (a := ⟨b, 4, none⟩) (heap_setCell_other wdy ⟨gl, i, none⟩ b _ HGB.out)).trans z4⟩
    rw [hwv] at q2 q3 hri hd ⊢
    have HD := Hid_of hd
    clear hwv hd z1 z4 zg zf
    refine hK.out _ _ hsv (fun hHeld => ?_)
    clear hK K
    refine wpAnyH_done (by kernel_rfl) ?_ _
    clear HT HS HFIN hHeld hsv
    go_wp2_with fail
    refine hri.mono ?_
    rintro e w5 ⟨rfl, rfl⟩
    clear hri
    go_wp2
    go_ret2
    exact HD.out

end
end Go.Proofs.Ytacfndfkoiifhaa
