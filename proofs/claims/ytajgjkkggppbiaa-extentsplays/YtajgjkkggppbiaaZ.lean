/-
  A file and the document's, side by side.
-/
import Derived.Test.YtajgjkkggppbiaaY
import Derived.Test.YtajgjkkggppbiaaS
import Derived.Test.YtajgjkkggppbiaaU
namespace Go.Proofs.Ytajgjkkggppbiaa
open Go.RowKit
set_option linter.unusedVariables false
open M (E RX)

theorem within_spec (i a n e : Int) (h0 : 0 ≤ i) (h1 : i < e) : inn i a n = true ↔ wlo a e ≤ i ∧ i < whi a n e := by
  unfold inn wlo whi
  simp only [Bool.and_eq_true, decide_eq_true_eq]
  split <;> omega
theorem rx_put {L L' : List (Int × Int)} {P P' : List E} {e : E} (h : RX L P) (hl : L'.length ≤ 16384) (hL : ∀ i : Nat, L'.getD i (-1, 0) = putG L e i) (hP : ∀ i, M.rep P' i = putF P e i) : RX L' P' := by
  refine ⟨hl, fun i => ?_⟩
  rw [hL, hP]
  unfold putG putF
  by_cases hc : prp e = true ∧ e.a ≤ (i : Int) ∧ (i : Int) < e.a + e.n
  · rw [if_pos hc, if_pos hc]; rfl
  · rw [if_neg hc, if_neg hc, h.eq]
theorem rx_out {L : List (Int × Int)} {P : List E} (h : RX L P) (i : Nat) (hi : L.length ≤ i) : M.enc (M.rep P i) = (-1, 0) := by
  rw [← h.eq, M.getD_ge _ _ _ hi]
theorem enc_ite (c : Prop) [Decidable c] (o : Option (Int × Int)) (h : M.enc o = (-1, 0)) : M.enc (if c then none else o) = (-1, 0) := by
  split
  · rfl
  · exact h
theorem rx_cut {L : List (Int × Int)} {P P' : List E} {c : Int} (h : RX L P) (hg : M.G P) (hP : ∀ i, M.rep P' i = if wlo (max c 0) 16384 ≤ i ∧ i < whi (max c 0) 16384 16384 then none else M.rep P i) : RX (L.take (cutN L c)) P' := by
  have hl := h.len
  refine ⟨by simp; omega, fun i => ?_⟩
  rw [hP]
  have hlo : wlo (max c 0) 16384 = min (max c 0) 16384 := by unfold wlo; omega
  have hhi : whi (max c 0) 16384 16384 = 16384 := by unfold whi; split <;> omega
  rw [hlo, hhi]
  have hm : ((cutN L c : Nat) : Int) = min (max c 0) L.length := by unfold cutN; omega
  by_cases hi : i < cutN L c
  · rw [if_neg (by omega), ← h.eq, List.getD_eq_getElem?_getD, List.getElem?_take, if_pos hi, ← List.getD_eq_getElem?_getD]
  · rw [M.getD_ge _ _ _ (by simp; omega)]
    symm
    by_cases hr : min (max c 0) 16384 ≤ (i : Int) ∧ (i : Int) < 16384
    · rw [if_pos hr]; rfl
    · rw [if_neg hr]
      rcases Nat.lt_or_ge i L.length with hlt | hge
      · exfalso; omega
      · exact rx_out h i hge
theorem rx_hole {L L' : List (Int × Int)} {P P' : List E} {c n : Int} (h : RX L P) (hg : M.G P) (hl : L'.length = L.length) (hL : ∀ i : Nat, L'.getD i (-1, 0) = if i < L.length ∧ inn i c n = true then (-1, 0) else L.getD i (-1, 0)) (hP : ∀ i, M.rep P' i = if wlo c 16384 ≤ i ∧ i < whi c n 16384 then none else M.rep P i) : RX L' P' := by
  have hll := h.len
  refine ⟨by omega, fun i => ?_⟩
  rw [hL, hP]
  rcases Nat.lt_or_ge i L.length with hlt | hge
  · have hs := within_spec (i : Int) c n 16384 (by omega) (by omega)
    by_cases hi : inn i c n = true
    · rw [if_pos ⟨hlt, hi⟩, if_pos (hs.1 hi)]; rfl
    · rw [if_neg (fun hh => hi hh.2), if_neg (fun hh => hi (hs.2 hh)), h.eq]
  · rw [if_neg (fun hh => by omega), M.getD_ge _ _ _ hge]
    exact (enc_ite _ _ (rx_out h i hge)).symm
theorem movQ_eq {L : List (Int × Int)} {P : List E} (h : RX L P) (hg : M.G P) (id c n tg : Int) (j : Nat) (htg : 0 ≤ tg) : movQ L id c n tg j = (M.rep P j).any (fun x => (x.1 == id) && decide (wlo c 1073758208 ≤ x.2) && decide (x.2 < whi c n 1073758208)) := by
  unfold movQ
  rw [h.eq]
  cases hr : M.rep P (j : Int) with
  | none =>
    by_cases hid : 0 ≤ id
    · have : ((-1 : Int) == id) = false := by simp; omega
      simp [M.enc, this]
    · simp [M.enc, hid]
  | some x =>
    obtain ⟨a1, a2, a3, a4, a5⟩ := M.rep_ok hg j x.1 x.2 hr
    have hs := within_spec x.2 c n 1073758208 (by omega) (by omega)
    rw [Bool.eq_iff_iff]
    simp only [M.enc, Option.getD_some, Option.any_some, Bool.and_eq_true, decide_eq_true_eq, beq_iff_eq, hs]
    constructor
    · rintro ⟨⟨⟨h1, h2⟩, h3⟩, h4, h5⟩
      exact ⟨⟨h3, h4⟩, h5⟩
    · rintro ⟨⟨h3, h4⟩, h5⟩
      exact ⟨⟨⟨by omega, htg⟩, h3⟩, h4, h5⟩
theorem rx_move {L L' : List (Int × Int)} {P P' : List E} {id c n tg : Int} (h : RX L P) (hg : M.G P) (hl : L'.length = L.length) (hL : ∀ i : Nat, L'.getD i (-1, 0) = if i < L.length then movG L id c n tg i else L.getD i (-1, 0)) (hP : ∀ i, M.rep P' i = movF P id (wlo c 1073758208) (whi c n 1073758208) tg i) : RX L' P' := by
  have hll := h.len
  refine ⟨by omega, fun i => ?_⟩
  rw [hL, hP]
  unfold movF
  by_cases htg : tg < 0
  · rw [if_pos htg, ← h.eq]
    have : movG L id c n tg i = L.getD i (-1, 0) := by
      unfold movG movQ
      have : decide (0 ≤ tg) = false := by simp; omega
      rw [this]
      simp
    rw [this]
    split <;> rfl
  · rw [if_neg htg]
    rcases Nat.lt_or_ge i L.length with hlt | hge
    · rw [if_pos hlt]
      unfold movG
      rw [movQ_eq h hg id c n tg i (by omega), h.eq]
      cases hr : M.rep P (i : Int) with
      | none => simp [M.enc]
      | some x =>
        simp only [Option.any_some, Option.map_some, M.enc, Option.getD_some, M.mvF]
        by_cases hc : x.1 = id ∧ wlo c 1073758208 ≤ x.2 ∧ x.2 < whi c n 1073758208
        · rw [if_pos hc, if_pos (by simp; exact ⟨⟨hc.1, hc.2.1⟩, hc.2.2⟩)]
        · rw [if_neg hc, if_neg (by simp; intro h1 h2; exact Int.not_lt.1 (fun h3 => hc ⟨h1, h2, h3⟩))]
    · rw [if_neg (by omega), M.getD_ge _ _ _ hge]
      cases hr : M.rep P (i : Int) with
      | none => rfl
      | some x =>
        have h1 := rx_out h i hge
        rw [hr] at h1
        have := (M.rep_ok hg i x.1 x.2 hr).2.2.1
        simp only [M.enc, Option.getD_some] at h1
        rw [h1] at this
        simp at this
theorem movN_eq {L : List (Int × Int)} {P : List E} (h : RX L P) (hg : M.G P) (id c n tg : Int) : movN P id (wlo c 1073758208) (whi c n 1073758208) tg = M.cnt (movQ L id c n tg) L.length := by
  unfold movN
  by_cases htg : tg < 0
  · rw [if_pos htg, M.cnt_none]
    intro j _
    unfold movQ
    have : decide (0 ≤ tg) = false := by simp; omega
    rw [this]
    simp
  · rw [if_neg htg]
    by_cases hid : 0 ≤ id
    · exact (M.mov_eq h hg id _ _ _ hid (fun j _ => movQ_eq h hg id c n tg j (by omega))).symm
    · rw [M.cnt_none]
      · have key : ∀ (l : List E), (∀ p ∈ l, M.Ok p) → M.sumP (M.mvN id (wlo c 1073758208) (whi c n 1073758208)) l = 0 := by
          intro l
          induction l with
          | nil => intro _; rfl
          | cons p r ih =>
            intro hl
            have := (hl p (by simp)).2.2.2.1
            have e : M.mvN id (wlo c 1073758208) (whi c n 1073758208) p = 0 := by unfold M.mvN; rw [if_neg (by omega)]
            simp only [M.sumP, ih fun q hq => hl q (by simp [hq]), e]
            rfl
        exact key P hg.1
      · intro j _
        unfold movQ
        simp [hid]
theorem uses_sum (id : Int) : ∀ P : List E, usesP id P = M.sumP (fun p => if p.d = id then p.n else 0) P
  | [] => rfl
  | p :: r => by rw [usesP, M.sumP, uses_sum id r]
theorem fb_of {L : List (Int × Int)} {P : List E} (h : RX L P) (hg : M.G P) : ∀ j (hj : j < L.length), 0 ≤ L[j].1 → 0 ≤ L[j].2 ∧ L[j].2 ≤ 1099511627776 := by
  intro j hj h0
  have e := h.eq j
  rw [getD_in L j hj] at e
  cases hr : M.rep P (j : Int) with
  | none => rw [hr] at e; rw [e] at h0; simp [M.enc] at h0
  | some x =>
    rw [hr] at e
    obtain ⟨a1, a2, a3, a4, a5⟩ := M.rep_ok hg j x.1 x.2 hr
    have e' : L[j] = x := e
    rw [e']
    omega

/-- A file at b and the document's, apart from each other. -/
structure Two (W wr : World) (b : Nat) (v : Value) (P : List E) (a : Option Addr) (cap : Nat) (L : List (Int × Int)) : Prop where
  x : XI wr W.heap.size b v P
  y : XB wr a cap L
  ll : L.length ≤ 16384
  ap : ∀ k, blk a k → k ≠ b ∧ v.ownBlock ≠ some k ∧ k < wr.heap.size
  bel : Below W.heap.size W wr
  low : W.heap.size ≤ b
theorem Two.step {W wr wr' : World} {b : Nat} {v : Value} {P : List E} {a : Option Addr} {cap : Nat} {L : List (Int × Int)} (h : Two W wr b v P a cap L) (hb : Below wr.heap.size wr wr') : Two W wr' b v P a cap L :=
  ⟨h.x.keep hb, h.y.keep hb, h.ll, fun k hk => ⟨(h.ap k hk).1, (h.ap k hk).2.1, Nat.lt_of_lt_of_le (h.ap k hk).2.2 hb.size⟩, bel_up h.bel hb (Nat.le_refl _), h.low⟩
theorem Two.ref {W wr w2 : World} {b : Nat} {v v2 : Value} {P : List E} {a : Option Addr} {cap : Nat} {L L2 : List (Int × Int)} (h : Two W wr b v P a cap L) (hb : Below wr.heap.size wr w2) (ho : OwnB w2 wr.heap.size v2 L2) (hl : L2.length ≤ 16384) : ∃ a2 cap2, v2 = .slice a2 L2.length cap2 ∧ Two W w2 b v P a2 cap2 L2 := by
  obtain ⟨a2, cap2, rfl, hx, hk⟩ := ownB_at ho
  have h2 := h.step hb
  refine ⟨a2, cap2, rfl, h2.x, hx, hl, fun k hk' => ?_, h2.bel, h2.low⟩
  have h3 := hk k hk'
  have h4 := (World.ownsRow.lt ho k h3.2).2
  have h5 := h.x.lt
  refine ⟨by omega, fun e => ?_, h4⟩
  have := (h.x.own.lt k e).2
  omega
theorem Two.res {W wr w2 : World} {b : Nat} {v v2 : Value} {P : List E} {a : Option Addr} {cap : Nat} {L L2 : List (Int × Int)} (h : Two W wr b v P a cap L) (hb : Below wr.heap.size wr w2) (ho : XRes wr w2 a cap v2 L L2) (hl : L2.length ≤ 16384) : ∃ a2 cap2, v2 = .slice a2 L2.length cap2 ∧ Two W w2 b v P a2 cap2 L2 := by
  rcases ho with ⟨rfl, rfl⟩ | ho
  · exact ⟨a, cap, rfl, h.step hb⟩
  · exact h.ref hb ho hl
theorem Two.obj {W wr w2 : World} {b : Nat} {v v2 : Value} {P P2 : List E} {a : Option Addr} {cap : Nat} {L : List (Int × Int)} (h : Two W wr b v P a cap L) (hx : XI w2 W.heap.size b v2 P2) (hc : Ch wr b v w2 v2) : Two W w2 b v2 P2 a cap L := by
  refine ⟨hx, ⟨h.y.at'.keepBut (fun k hk hkb => hc.block k hk (h.ap k hkb).1 (h.ap k hkb).2.1), h.y.le, h.y.mx, h.y.nil⟩, h.ll, fun k hk => ?_, ?_, h.low⟩
  · have h3 := h.ap k hk
    refine ⟨h3.1, fun e => ?_, Nat.lt_of_lt_of_le h3.2.2 hc.size⟩
    rcases hc.n k e with h' | h'
    · exact h3.2.1 h'
    · omega
  · exact h.bel.trans (hc.below h.low (fun k hk => (h.x.own.lt k hk).1) h.bel.size)
end Go.Proofs.Ytajgjkkggppbiaa
