/- The document's stripes, read of bytes. -/
import Derived.Test.YtgcfpihfoekllaaFC
import Derived.Test.YtgcfpihfoekllaaJ

namespace Go.Proofs.Ytgcfpihfoekllaa

open Go.RowKit

set_option linter.unusedVariables false

open Sm (S q1 q2 q3 q4 q5)

/-- What the document's Read leaves. -/
def RrOut (w : World) (l : List UInt8) (e : Ending) (w' : World) : Prop :=
  Below w.heap.size w w' ∧ ((∃ v acc, Sm.Tell l acc ∧ e = .returned (.tuple #[v, .int .i64 0]) ∧ DM w' (fun q => w.heap.size ≤ q ∧ q < w'.heap.size) v acc) ∨ ((¬ ∃ m, Sm.Tell l m) ∧ e = .returned (.tuple #[.slice none 0 0, .int .i64 3])))
structure RrI (w wr : World) (B : Nat) (l : List UInt8) (n k : Nat) (lv : Value) (es : List E) (r : List UInt8) : Prop where
  bel : Below w.heap.size w wr
  hB : w.heap.size ≤ B
  box : wr.heap[B]? = some (.cells #[.string (ofL r), .bool false] 97 (0, 0))
  own : OwnL stl 34 wr (B + 1) lv es
  sv : ∃ K : Nat → Prop, (∀ e ∈ es, XL il wr e.a e.c e.s.l ∧ ∀ q, blk e.a q → K q) ∧ ∀ q, K q → B + 1 ≤ q ∧ q < wr.heap.size ∧ lv.ownBlock ≠ some q
  id : ∀ j (h : j < es.length), es[j].id = j
  rl : r.length ≤ 1000000
  inv : Sm.Inv l n k (es.map (·.s)) r
section
variable {w wr w' : World} {B n k : Nat} {l r r' : List UInt8} {lv : Value} {es : List E}
theorem RrI.len (h : RrI w wr B l n k lv es r) : es.length = k := by have := h.inv.len; simpa using this
theorem RrI.ltB (h : RrI w wr B l n k lv es r) : B < wr.heap.size := (Array.getElem?_eq_some_iff.1 h.box).1
theorem RrI.next (h : RrI w wr B l n k lv es r) (hk : k < n) (hn : n ≤ 4096) {W9 : World} (hb : Below wr.heap.size wr W9) {a : Option Addr} {c : Nat} (hx : XL il W9 a c (Sm.rs r).l) (hbl : ∀ q, blk a q → wr.heap.size ≤ q ∧ q < W9.heap.size) (hq : nx (q5 r) = some r') (ho : Sm.ok (Sm.rs r)) {W10 : World} (hW : (W9.setCell ⟨B, 0, none⟩ (.string (ofL r'))).setCell ⟨B, 1, none⟩ (.bool false) = W10) :
    ∃ a' c' w12, Hid (∀ ty, (Builtin.append_ #[27, 27] ty #[lv, .slice (some ⟨W10.heap.size, 0, none⟩) 1 1]).run Try.prog (W10.alloc (eO ⟨k, Sm.rs r, a, c⟩)) = .ok (.slice a' (es.length + 1) c') w12) ∧ RrI w w12 B l n (k + 1) (.slice a' (es.length + 1) c') (es ++ [⟨k, Sm.rs r, a, c⟩]) r' := by
  have hBlt := h.ltB
  have hsz : W10.heap.size = W9.heap.size := by rw [← hW]; simp
  have hoth : ∀ q, q ≠ B → W10.heap[q]? = W9.heap[q]? := fun q hq => by rw [← hW]; exact rowoth _ _ _ _ _ hq
  have hown9 := h.own.keep hb
  have hown10 : OwnL stl 34 W10 (B + 1) lv es := hown9.keepBut fun q _ ho => hoth q (fun e => by have := (hown9.lt ho).1; omega)
  have hb1 := bel1 W10 (eO ⟨k, Sm.rs r, a, c⟩)
  have hbox10 : W10.heap[B]? = some (.cells #[.string (ofL r'), .bool false] 97 (0, 0)) := by rw [← hW]; exact rowset (bel_row h.box hb) _ _
  obtain ⟨a', c', w12, p1, p2, p3⟩ := run_appL_ty tiE (W10.alloc (eO ⟨k, Sm.rs r, a, c⟩)) (B + 1) lv es [⟨k, Sm.rs r, a, c⟩] W10.heap.size 0 1 1 (hown10.keep hb1) (atL_one (heap_alloc_last W10 _)) rfl (by have := hb1.size; have := hb.size; omega) (by have := h.len; simp; omega)
  have hlvlt : ∀ q, lv.ownBlock = some q → B + 1 ≤ q ∧ q < wr.heap.size := fun q hq => h.own.lt hq
  have hkeep : ∀ q, q < W10.heap.size → lv.ownBlock ≠ some q → w12.heap[q]? = W10.heap[q]? := fun q hq hne => by
    rw [p3.g.block q (Nat.lt_of_lt_of_le hq hb1.size) (fun e => hne e.symm)]
    exact hb1.block q hq
  have hsz12 : W10.heap.size ≤ w12.heap.size := Nat.le_trans hb1.size p3.g.size
  have hn' : ∀ q, (Value.slice a' (es.length + 1) c').ownBlock = some q → lv.ownBlock = some q ∨ W10.heap.size ≤ q := fun q hq => by
    rcases p3.n q hq with e | e
    · exact .inl e
    · exact .inr (Nat.le_trans hb1.size e)
  have hbw9 := bel_up h.bel hb (Nat.le_refl _)
  have hbw10 : Below w.heap.size w W10 := by rw [← hW]; exact (hbw9.setCell (p := ⟨B, 0, none⟩) h.hB _).setCell (p := ⟨B, 1, none⟩) h.hB _
  have hbw12 : Below w.heap.size w w12 := (bel_up hbw10 hb1 (Nat.le_refl _)).trans (p3.below (fun q hq => by have := (hlvlt q hq).1; have := h.hB; omega) (bel_up hbw10 hb1 (Nat.le_refl _)).size)
  obtain ⟨K, hK1, hK2⟩ := h.sv
  refine ⟨a', c', w12, Hid_of p1, hbw12, h.hB, ?_, p2, ⟨fun q => K q ∨ (wr.heap.size ≤ q ∧ q < W9.heap.size), fun e he => ?_, fun q hq => ?_⟩, fun j hj => ?_, ?_, ?_⟩
  · rw [hkeep B (by have := hb.size; omega) (fun e => by have := (hlvlt B e).1; omega)]
    exact hbox10
  · rcases List.mem_append.1 he with he | he
    · refine ⟨((hK1 e he).1.keep hb).keepBut fun q hq hbq => ?_, fun q hq => .inl ((hK1 e he).2 q hq)⟩
      obtain ⟨z1, z2, z3⟩ := hK2 q ((hK1 e he).2 q hbq)
      rw [hkeep q (by omega) z3, hoth q (by omega)]
    · simp only [List.mem_singleton] at he
      subst he
      refine ⟨hx.keepBut fun q hq hbq => ?_, fun q hq => .inr (hbl q hq)⟩
      have := (hbl q hbq).1
      rw [hkeep q (by omega) (fun e => by have := (hlvlt q e).2; omega), hoth q (by omega)]
  · rcases hq with hq | hq
    · obtain ⟨z1, z2, z3⟩ := hK2 q hq
      refine ⟨z1, by have := hb.size; omega, fun e => ?_⟩
      rcases hn' q e with e | e
      · exact z3 e
      · have := hb.size; omega
    · refine ⟨by omega, by omega, fun e => ?_⟩
      rcases hn' q e with e | e
      · have := (hlvlt q e).2; omega
      · omega
  · rw [List.getElem_append]
    split
    · exact h.id j _
    · rw [List.length_append, List.length_singleton] at hj
      have := h.len
      have : j = k := by omega
      subst this
      simp
  · have := (Sm.rs_only hq).2.2.2
    have := h.rl
    omega
  · rw [List.map_append]
    exact h.inv.step hk hq ho
theorem RrI.dm (h : RrI w wr B l n k lv es r) : DM wr (fun q => w.heap.size ≤ q ∧ q < wr.heap.size) lv (es.map (·.s)) := by
  obtain ⟨a, c, hv, hx, hk⟩ := h.own.at
  obtain ⟨K, hK1, hK2⟩ := h.sv
  have hB := h.hB
  exact ⟨es, ⟨⟨a, c, hv, hx, fun q hq => ⟨by have := (hk q hq).1; omega, (hk q hq).2.2⟩⟩, fun e he => ⟨(hK1 e he).1, fun q hq => by obtain ⟨z1, z2, _⟩ := hK2 q ((hK1 e he).2 q hq); exact ⟨by omega, z2⟩⟩, h.id⟩, rfl⟩
theorem RrI.start {W2 w1 : World} (hb : Below w.heap.size w w1) (hW : w1.alloc (.cells #[.string (ofL r), .bool false] 97) = W2) (hi : M.int l = some ((n : Int), r)) (hl : l.length ≤ 1000000) : RrI w W2 w1.heap.size l n 0 (.slice none 0 0) [] r := by
  subst hW
  exact ⟨bel_up hb (bel1 _ _) (Nat.le_refl _), hb.size, heap_alloc_last w1 _, OwnL.nil _ _ _, ⟨fun _ => False, fun e he => by simp at he, fun q hq => hq.elim⟩, fun j hj => by simp at hj, by have := M.int_len _ _ _ hi; omega, Sm.Inv.start hi⟩
/-- The reader in a box. -/
structure Rb (wr W : World) (B : Nat) (s : ByteArray) (y : Bool) : Prop where
  bel : Below wr.heap.size wr W
  hB : wr.heap.size ≤ B
  r : W.heap[B]? = some (.cells #[.string s, .bool y] 97 (0, 0))
theorem Rb.next {W w1 : World} {s s' : ByteArray} {y y' : Bool} (h : Rb wr W B s y) (hb : Below W.heap.size W w1) : Rb wr ((w1.setCell ⟨B, 0, none⟩ (.string s')).setCell ⟨B, 1, none⟩ (.bool y')) B s' y' :=
  ⟨((bel_up h.bel hb (Nat.le_refl _)).setCell (p := ⟨B, 0, none⟩) h.hB _).setCell (p := ⟨B, 1, none⟩) h.hB _, h.hB, rowset (bel_row h.r hb) _ _⟩
end
set_option maxRecDepth 100000 in
set_option maxHeartbeats 8000000 in
theorem refRead_any (l : List UInt8) (w : World) (hl : l.length ≤ 1000000) : Calls Try.prog 24 #[.string (ofL l)] w (RrOut w l) := by
  have HNO : Hid ((¬ ∃ s, Sm.Tell l s) → ∀ w', Below w.heap.size w w' → RrOut w l (.returned (.tuple #[.slice none 0 0, .int .i64 3])) w') := Hid_of fun hn w' hb => ⟨hb, .inr ⟨hn, rfl⟩⟩
  have hi := takeInt_any l false w (by omega)
  cases hM : M.int l with
  | none =>
    rw [hM] at hi
    have HT := Hid_of (HNO.out (Sm.tell_none hM))
    change Calls Try.prog 54 #[.agg #[.string (ofL l), .bool false]] w (fun x w' => x = .returned (.tuple #[.agg #[.string (ofL []), .bool true], .int .i64 0]) ∧ Below w.heap.size w w') at hi
    clear HNO hM
    go_enter Try.func24, Try.ntmps24
    go_wp2_with fail
    refine hi.mono ?_
    rintro e w1 ⟨rfl, hb1⟩
    have HQ := Hid_of (HT.out _ (bel_up hb1 (bel1 w1 (.cells #[.string (ofL []), .bool true] 97)) (Nat.le_refl _)))
    clear hi hb1 HT
    go_wp2
    go_ret2
    exact HQ.out
  | some p =>
    obtain ⟨n0, r0⟩ := p
    rw [hM] at hi
    change Calls Try.prog 54 #[.agg #[.string (ofL l), .bool false]] w (fun x w' => x = .returned (.tuple #[.agg #[.string (ofL r0), .bool false], .int .i64 n0]) ∧ Below w.heap.size w w') at hi
    by_cases hn : n0 < 0
    · have d0 : decide (n0 < 0) = true := decide_eq_true hn
      have HT := Hid_of (HNO.out (Sm.tell_neg hM hn))
      clear HNO hM hn
      go_enter Try.func24, Try.ntmps24
      go_wp2_with fail
      refine hi.mono ?_
      rintro e w1 ⟨rfl, hb1⟩
      have HQ := Hid_of (HT.out _ (bel_up hb1 (bel1 w1 (.cells #[.string (ofL r0), .bool false] 97)) (Nat.le_refl _)))
      clear hi hb1 HT
      go_wp2
      go_ret2
      exact HQ.out
    have d0 : decide (n0 < 0) = false := decide_eq_false hn
    by_cases hn2 : 4096 < n0
    · have d1 : decide ((4096 : Int) < n0) = true := decide_eq_true hn2
      obtain ⟨n, rfl⟩ := Int.eq_ofNat_of_zero_le (show 0 ≤ n0 by omega)
      have HT := Hid_of (HNO.out ((Sm.Inv.start hM).many (by omega)))
      clear HNO hM hn hn2
      go_enter Try.func24, Try.ntmps24
      go_wp2_with fail
      refine hi.mono ?_
      rintro e w1 ⟨rfl, hb1⟩
      have HQ := Hid_of (HT.out _ (bel_up hb1 (bel1 w1 (.cells #[.string (ofL r0), .bool false] 97)) (Nat.le_refl _)))
      clear hi hb1 HT
      go_wp2
      go_ret2
      exact HQ.out
    have d1 : decide ((4096 : Int) < n0) = false := decide_eq_false hn2
    obtain ⟨n, rfl⟩ := Int.eq_ofNat_of_zero_le (show 0 ≤ n0 by omega)
    have hn4 : n ≤ 4096 := by omega
    have d0n : decide ((n : Int) < 0) = false := d0
    have d1n : decide (4096 < n) = false := decide_eq_false (by omega)
    have HM := Hid_of hM
    clear hM hn hn2
    go_enter Try.func24, Try.ntmps24
    go_wp2_with fail
    refine hi.mono ?_
    rintro e w1 ⟨rfl, hb1⟩
    obtain ⟨W2, HW2⟩ : ∃ W2, Hid (w1.alloc (.cells #[.string (ofL r0), .bool false] 97) = W2) := ⟨_, rfl⟩
    have HI : Hid (RrI w W2 w1.heap.size l n 0 (.slice none 0 0) [] r0) := Hid_of (RrI.start hb1 HW2.out HM.out hl)
    obtain ⟨B, HB⟩ : ∃ B, Hid (w1.heap.size = B) := ⟨_, rfl⟩
    rw [HB.out] at HI
    obtain ⟨c0, c1, -, -⟩ := row2 HI.out.box
    clear hi hb1 HM
    go_upto_region 2 with fail
    rw [HW2.out, HB.out]
    clear HW2 HB
    go_wp2
    go_loopw [6, 7] (fun lv i wr => ∃ (k : Nat) (es : List E) (r : List UInt8), k ≤ n ∧ i = .int .i64 k ∧ Hid (RrI w wr B l n k lv es r)) (fun _ i _ => n - (intOf i).toNat)
    case atStart => exact ⟨0, [], r0, by omega, rfl, HI⟩
    case round =>
      obtain ⟨k, es, r, hk, rfl, HD⟩ := hrel
      clear HI c0 c1 d0 d1 d0n d1n
      obtain ⟨lv, hlv⟩ : ∃ lv, lv = u6 := ⟨_, rfl⟩
      rw [← hlv] at HD ⊢
      clear hlv
      by_cases hlt : k < n
      · have hki : (k : Int) < (n : Int) := by omega
        obtain ⟨k1, k2, k3, k4, k5⟩ := q_len r
        have hrl := HD.out.rl
        have hep := rs_ep r
        have hll0 := rs_len r
        obtain ⟨b1, hb1⟩ : ∃ b, ofL (lft (nx (q1 r))) = b := ⟨_, rfl⟩
        obtain ⟨y1, hy1⟩ : ∃ y, (nx (q1 r)).isNone = y := ⟨_, rfl⟩
        obtain ⟨b2, hb2⟩ : ∃ b, ofL (lft (nx (q2 r))) = b := ⟨_, rfl⟩
        obtain ⟨y2, hy2⟩ : ∃ y, (nx (q2 r)).isNone = y := ⟨_, rfl⟩
        obtain ⟨b3, hb3⟩ : ∃ b, ofL (lft (nx (q3 r))) = b := ⟨_, rfl⟩
        obtain ⟨y3, hy3⟩ : ∃ y, (nx (q3 r)).isNone = y := ⟨_, rfl⟩
        obtain ⟨b4, hb4⟩ : ∃ b, ofL (lft (nx (q4 r))) = b := ⟨_, rfl⟩
        obtain ⟨y4, hy4⟩ : ∃ y, (nx (q4 r)).isNone = y := ⟨_, rfl⟩
        obtain ⟨b5, hb5⟩ : ∃ b, ofL (lft (nx (q5 r))) = b := ⟨_, rfl⟩
        obtain ⟨y5, hy5⟩ : ∃ y, (nx (q5 r)).isNone = y := ⟨_, rfl⟩
        have T1 : Hid (∀ W : World, Calls Try.prog 55 #[.agg #[.string (ofL r), .bool false]] W fun x w' => x = .returned (.tuple #[.agg #[.string b1, .bool y1], .int .i64 (Sm.rs r).st]) ∧ Below W.heap.size W w') := Hid_of fun W => by
          have := takeByte_any r false W (by omega)
          rw [← hb1, ← hy1]
          exact this
        have T2 : Hid (∀ W : World, Calls Try.prog 54 #[.agg #[.string (b1), .bool y1]] W fun x w' => x = .returned (.tuple #[.agg #[.string b2, .bool y2], .int .i64 (Sm.rs r).ow]) ∧ Below W.heap.size W w') := Hid_of fun W => by
          have := takeInt_any (lft (nx (q1 r))) (nx (q1 r)).isNone W (by omega)
          rw [hb1, hy1] at this
          rw [← hb2, ← hy2]
          exact this
        have T3 : Hid (∀ W : World, Calls Try.prog 54 #[.agg #[.string (b2), .bool y2]] W fun x w' => x = .returned (.tuple #[.agg #[.string b3, .bool y3], .int .i64 (Sm.rs r).ep]) ∧ Below W.heap.size W w') := Hid_of fun W => by
          have := takeInt_any (lft (nx (q2 r))) (nx (q2 r)).isNone W (by omega)
          rw [hb2, hy2] at this
          rw [← hb3, ← hy3]
          exact this
        have T4 : Hid (∀ W : World, Calls Try.prog 54 #[.agg #[.string (b3), .bool y3]] W fun x w' => x = .returned (.tuple #[.agg #[.string b4, .bool y4], .int .i64 (Sm.rs r).ln]) ∧ Below W.heap.size W w') := Hid_of fun W => by
          have := takeInt_any (lft (nx (q3 r))) (nx (q3 r)).isNone W (by omega)
          rw [hb3, hy3] at this
          rw [← hb4, ← hy4]
          exact this
        have T5 : Hid (∀ W : World, Calls Try.prog 56 #[.agg #[.string b4, .bool y4]] W fun x w' => ∃ v, x = .returned (.tuple #[.agg #[.string b5, .bool y5], v]) ∧ OwnL il 3 w' W.heap.size v (Sm.rs r).l ∧ Below W.heap.size W w') := Hid_of fun W => by
          have := takeInts_any (lft (nx (q4 r))) (nx (q4 r)).isNone W (by omega)
          rw [hb4, hy4] at this
          rw [← hb5, ← hy5]
          exact this.mono fun e w' ⟨v, h1, h2, h3⟩ => ⟨v, h1, own_of h2, h3⟩
        have HYN : Hid (y5 = true → ¬ ∃ s, Sm.Tell l s) := Hid_of fun e => by
          rw [← hy5] at e
          have hq : nx (q5 r) = none := by simpa using e
          exact HD.out.inv.bad hlt fun h => Sm.rs_bad hq h.2.2
        have HYS : Hid (y5 = false → ∃ r', nx (q5 r) = some r' ∧ b5 = ofL r') := Hid_of fun e => by
          rw [← hy5] at e
          cases hq : nx (q5 r) with
          | none => rw [hq] at e; cases e
          | some r' => exact ⟨r', rfl, by rw [← hb5, hq]; rfl⟩
        obtain ⟨s, hs⟩ : ∃ s, Sm.rs r = s := ⟨_, rfl⟩
        rw [hs] at T1 T2 T3 T4 T5 hep hll0
        have HRS := Hid_of hs
        obtain ⟨c0, c1, -, -⟩ := row2 HD.out.box
        clear k1 k2 k3 k4 k5 hb1 hb2 hb3 hb4 hb5 hy1 hy2 hy3 hy4 hy5 hs hrl
        go_wp2_with fail
        refine (T1.out wr).mono ?_
        rintro e v1 ⟨rfl, hbv⟩
        obtain ⟨W2, HWN⟩ : ∃ W', Hid (v1.alloc (.cells #[.string b1, .bool y1] 97) = W') := ⟨_, rfl⟩
        obtain ⟨B8, HB8⟩ : ∃ B8, Hid (v1.heap.size = B8) := ⟨_, rfl⟩
        have H2 : Hid (Rb wr W2 B8 b1 y1) := Hid_of (by
          rw [← HWN.out, ← HB8.out]
          exact ⟨bel_up hbv (bel1 _ _) (Nat.le_refl _), hbv.size, heap_alloc_last v1 _⟩)
        clear hbv T1
        go_upto_region 9 with fail
        rw [HWN.out, HB8.out]
        clear HWN HB8 c0 c1
        obtain ⟨c0, c1, g0, g1⟩ := row2 H2.out.r
        go_wp2_with fail
        refine (T2.out W2).mono ?_
        rintro e v2 ⟨rfl, hbv⟩
        have hr := bel_row H2.out.r hbv
        clear c0 c1 g0 g1 T2
        obtain ⟨c0, c1, g0, g1⟩ := row2 hr
        obtain ⟨W3, HWN⟩ : ∃ W', Hid ((v2.setCell ⟨B8, 0, none⟩ (.string b2)).setCell ⟨B8, 1, none⟩ (.bool y2) = W') := ⟨_, rfl⟩
        have H3 : Hid (Rb wr W3 B8 b2 y2) := Hid_of (by rw [← HWN.out]; exact H2.out.next hbv)
        clear hr hbv H2
        go_upto_region 10 with fail
        rw [HWN.out]
        clear HWN c0 c1 g0 g1
        obtain ⟨c0, c1, g0, g1⟩ := row2 H3.out.r
        go_wp2_with fail
        refine (T3.out W3).mono ?_
        rintro e v3 ⟨rfl, hbv⟩
        have hr := bel_row H3.out.r hbv
        clear c0 c1 g0 g1 T3
        obtain ⟨c0, c1, g0, g1⟩ := row2 hr
        obtain ⟨W4, HWN⟩ : ∃ W', Hid ((v3.setCell ⟨B8, 0, none⟩ (.string b3)).setCell ⟨B8, 1, none⟩ (.bool y3) = W') := ⟨_, rfl⟩
        have H4 : Hid (Rb wr W4 B8 b3 y3) := Hid_of (by rw [← HWN.out]; exact H3.out.next hbv)
        clear hr hbv H3
        go_upto_region 11 with fail
        rw [HWN.out]
        clear HWN c0 c1 g0 g1
        obtain ⟨c0, c1, g0, g1⟩ := row2 H4.out.r
        go_wp2_with fail
        refine (T4.out W4).mono ?_
        rintro e v4 ⟨rfl, hbv⟩
        have hr := bel_row H4.out.r hbv
        clear c0 c1 g0 g1 T4
        obtain ⟨c0, c1, g0, g1⟩ := row2 hr
        obtain ⟨W5, HWN⟩ : ∃ W', Hid ((v4.setCell ⟨B8, 0, none⟩ (.string b4)).setCell ⟨B8, 1, none⟩ (.bool y4) = W') := ⟨_, rfl⟩
        have H5 : Hid (Rb wr W5 B8 b4 y4) := Hid_of (by rw [← HWN.out]; exact H4.out.next hbv)
        clear hr hbv H4
        go_upto_region 12 with fail
        rw [HWN.out]
        clear HWN c0 c1 g0 g1
        obtain ⟨c0, c1, g0, g1⟩ := row2 H5.out.r
        go_wp2_with fail
        refine (T5.out W5).mono ?_
        rintro e v5 ⟨_, rfl, hov, hbv⟩
        obtain ⟨a5, c5', rfl, hx5, hk5⟩ := hov.at
        have hr := bel_row H5.out.r hbv
        clear c0 c1 g0 g1 T5
        obtain ⟨c0, c1, g0, g1⟩ := row2 hr
        obtain ⟨W6, HWN⟩ : ∃ W', Hid ((v5.setCell ⟨B8, 0, none⟩ (.string b5)).setCell ⟨B8, 1, none⟩ (.bool y5) = W') := ⟨_, rfl⟩
        have H6 : Hid (Rb wr W6 B8 b5 y5) := Hid_of (by rw [← HWN.out]; exact H5.out.next hbv)
        have HX5 : Hid (XL il W6 a5 c5' s.l ∧ ∀ q, blk a5 q → wr.heap.size ≤ q ∧ q < W6.heap.size) := Hid_of (by
          have hlt := (Array.getElem?_eq_some_iff.1 H5.out.r).1
          have hsz := H5.out.bel.size
          refine ⟨hx5.keepBut fun q _ hq => by rw [← HWN.out]; exact rowoth _ _ _ _ _ (by have := (hk5 q hq).1; omega), fun q hq => ⟨by have := (hk5 q hq).1; omega, ?_⟩⟩
          have := (hk5 q hq).2.2
          rw [← HWN.out]
          simpa using this)
        clear hov hx5 hk5
        clear hr hbv H5
        go_upto_region 13 with fail
        rw [HWN.out]
        clear HWN c0 c1 g0 g1
        have HK5 := Hid_of H6.out.bel
        obtain ⟨W7, HW7⟩ : ∃ W7, Hid (W6.alloc (eO ⟨k, s, a5, c5'⟩) = W7) := ⟨_, rfl⟩
        have hb7 := bel1 W6 (eO ⟨k, s, a5, c5'⟩)
        have hr7 := heap_alloc_last W6 (eO ⟨k, s, a5, c5'⟩)
        rw [HW7.out] at hb7 hr7
        obtain ⟨B14, HB14⟩ : ∃ B14, Hid (W6.heap.size = B14) := ⟨_, rfl⟩
        rw [HB14.out] at hr7
        have HR7 := Hid_of hr7
        have HB7 := Hid_of (bel_up H6.out.bel hb7 (Nat.le_refl _))
        have HX7 := Hid_of (HX5.out.1.keep hb7)
        have HLE : Hid (∀ q, blk a5 q → wr.heap.size ≤ q ∧ q < W7.heap.size) := Hid_of fun q hq => ⟨(HX5.out.2 q hq).1, Nat.lt_of_lt_of_le (HX5.out.2 q hq).2 hb7.size⟩
        have HR8 := Hid_of (bel_row H6.out.r hb7)
        have hmy := may_any ⟨k, s, a5, c5'⟩ W7 hep (by show s.l.length ≤ _; have := HD.out.rl; omega) HX7.out.le HX7.out.at'
        obtain ⟨c0, c1, -, -⟩ := row2 HR8.out
        obtain ⟨⟨d0, d1, d2, d3, d4, d5⟩, -⟩ := row_cells HR7.out
        have HBN : Hid (B < B14) := Hid_of (by have := HD.out.ltB; have := H6.out.bel.size; have := HB14.out; omega)
        clear hb7 hr7 HX5 hep hll0 H6
        go_upto_region 14 with fail
        rw [HW7.out, HB14.out]
        clear HW7 HB14
        have HW0 := Hid_of HD.out.bel
        cases y5 with
        | true =>
          have HQ := Hid_of (HNO.out (HYN.out rfl) _ (bel_up HW0.out HB7.out (Nat.le_refl _)))
          clear hmy HYN HYS HD HX7 HLE HR8 HR7 HB7
          go_wp2
          go_ret2
          exact HQ.out
        | false =>
          cases hmb : Sm.mayB s with
          | false =>
            have HF : Hid (¬ ∃ s, Sm.Tell l s) := Hid_of (HD.out.inv.bad hlt fun h => by
              have := Sm.mayB_eq.2 h.2.2
              rw [HRS.out, hmb] at this
              cases this)
            rw [show Sm.mayB (E.s ⟨k, s, a5, c5'⟩) = false from hmb] at hmy
            clear HYN HYS HD hmb HX7 HLE HR8 HR7
            go_wp2_with fail
            refine hmy.mono ?_
            rintro e w8 ⟨rfl, hb8⟩
            have HQ := Hid_of (HNO.out HF.out _ (bel_up HW0.out (bel_up HB7.out hb8 (Nat.le_refl _)) (Nat.le_refl _)))
            clear hmy hb8 HB7 HF c0 c1 d0 d1 d2 d3 d4 d5
            go_wp2
            go_ret2
            exact HQ.out
          | true =>
            rw [show Sm.mayB (E.s ⟨k, s, a5, c5'⟩) = true from hmb] at hmy
            by_cases z1 : s.st < 1
            · have e1 : decide (s.st < 1) = true := decide_eq_true z1
              have HF : Hid (¬ ∃ s, Sm.Tell l s) := Hid_of (HD.out.inv.bad hlt fun h => by
                have := h.1
                rw [HRS.out] at this
                omega)
              clear HYN HYS HD hmb HX7 HLE HR8 HR7 z1
              go_wp2_with fail
              refine hmy.mono ?_
              rintro e w8 ⟨rfl, hb8⟩
              have HQ := Hid_of (HNO.out HF.out _ (bel_up HW0.out (bel_up HB7.out hb8 (Nat.le_refl _)) (Nat.le_refl _)))
              clear hmy hb8 HB7 HF c0 c1 d0 d1 d2 d3 d4 d5
              go_wp2
              go_ret2
              exact HQ.out
            have e1 : decide (s.st < 1) = false := decide_eq_false z1
            by_cases z2 : 3 < s.st
            · have e2 : decide (3 < s.st) = true := decide_eq_true z2
              have HF : Hid (¬ ∃ s, Sm.Tell l s) := Hid_of (HD.out.inv.bad hlt fun h => by
                have := h.2.1
                rw [HRS.out] at this
                omega)
              clear HYN HYS HD hmb HX7 HLE HR8 HR7 z1 z2
              go_wp2_with fail
              refine hmy.mono ?_
              rintro e w8 ⟨rfl, hb8⟩
              have HQ := Hid_of (HNO.out HF.out _ (bel_up HW0.out (bel_up HB7.out hb8 (Nat.le_refl _)) (Nat.le_refl _)))
              clear hmy hb8 HB7 HF c0 c1 d0 d1 d2 d3 d4 d5
              go_wp2
              go_ret2
              exact HQ.out
            have e2 : decide (3 < s.st) = false := decide_eq_false z2
            obtain ⟨r', hq, rfl⟩ := HYS.out rfl
            have hok : Sm.ok (Sm.rs r) := by
              rw [HRS.out]
              exact ⟨by omega, by omega, Sm.mayB_eq.1 hmb⟩
            have HQ5 := Hid_of hq
            have HOK := Hid_of hok
            clear HYN HYS hmb z1 z2 hq hok
            go_wp2_with fail
            refine hmy.mono ?_
            rintro e w8 ⟨rfl, hb8⟩
            have HB9 := Hid_of (bel_up HB7.out hb8 (Nat.le_refl _))
            have HR9 := Hid_of (bel_row HR7.out hb8)
            have hX9 := HX7.out.keep hb8
            obtain ⟨W10, HW10⟩ : ∃ W10, Hid ((w8.setCell ⟨B, 0, none⟩ (.string (ofL r'))).setCell ⟨B, 1, none⟩ (.bool false) = W10) := ⟨_, rfl⟩
            rw [← HRS.out] at hX9
            obtain ⟨a', c', w12, HAE, hD12⟩ := HD.out.next hlt hn4 HB9.out hX9 (fun q hq => ⟨(HLE.out q hq).1, Nat.lt_of_lt_of_le (HLE.out q hq).2 hb8.size⟩) HQ5.out HOK.out HW10.out
            rw [HRS.out] at HAE hD12
            have HD12 := Hid_of hD12
            have hBlt := HD.out.ltB
            have hB14 : B14 ≠ B := fun e => by have := HBN.out; omega
            have hbx9 := bel_row HD.out.box HB9.out
            obtain ⟨m0, m1, mf0, mf1⟩ := row2 hbx9
            have hr10 : W10.heap[B14]? = some (eO ⟨k, s, a5, c5'⟩) := by rw [← HW10.out, rowoth _ _ _ _ _ hB14]; exact HR9.out
            obtain ⟨n0, n1, -, -⟩ := row2 (bel_row HR8.out hb8)
            clear hmy hb8 hX9 hD12 hBlt hbx9 HR9 HR7 HR8 HX7 HLE HB7 HB9 HD HQ5 HOK HW0 c0 c1 d0 d1 d2 d3 d4 d5 hB14
            obtain ⟨⟨d0, d1, d2, d3, d4, d5⟩, -⟩ := row_cells hr10
            clear hr10
            go_upto_region 17 with fail
            rw [HW10.out]
            clear HW10 m0 m1 mf0 mf1 n0 n1
            go_wp2_with (at_builtin; refine wpList_append_known rfl _ _ 27 rfl _ _ rfl rfl _ _ (HAE.out _) ?_)
            go_roundw
            case rel => exact ⟨k + 1, _, r', by omega, by go_num, HD12⟩
            case measure => simp [intOf]; omega
      · have hkn : k = n := by omega
        subst hkn
        have hen := end_any (some r) wr
        change Calls Try.prog 58 #[.agg #[.string (ofL r), .bool false]] wr (fun x w' => x = .returned (.int .i64 (rdone (some r))) ∧ Below wr.heap.size wr w') at hen
        obtain ⟨c0, c1, -, -⟩ := row2 HD.out.box
        have hel := HD.out.len
        rcases rdone_eq (some r) with ⟨p1, p2⟩ | ⟨p1, p2⟩
        · rw [p1] at hen
          have p2 : r = [] := by simpa using p2
          subst p2
          have HLS : Hid (∀ W : World, Below wr.heap.size wr W → Calls Try.prog 17 #[lv, .int .i64 3] W (IdsOut W (Sm.ofSt (es.map (·.s)) 3))) := Hid_of fun W hW => refList_any (HD.out.dm.keep hW) (by rw [List.length_map]; omega) 3
          have hlv := Sm.live_ids (es.map (·.s))
          rw [List.length_map, hel] at hlv
          have hw : IntKind.i64.wrap ((k : Int) - (Sm.ofSt (es.map (·.s)) 3).length) = (k : Int) - (Sm.ofSt (es.map (·.s)) 3).length := by rw [IntKind.wrap_i64]; omega
          have HDD := Hid_of HD.out
          have HW0 := Hid_of HD.out.bel
          clear HD p1 hel
          by_cases hv : 256 < Sm.live (es.map (·.s))
          · have d1 : decide ((256 : Int) < (k : Int) - (Sm.ofSt (es.map (·.s)) 3).length) = true := decide_eq_true (by omega)
            have HF := Hid_of (HDD.out.inv.full hv)
            clear HDD hv hlv
            go_wp2_with fail
            refine hen.mono ?_
            rintro e w2 ⟨rfl, hb2⟩
            have hls := HLS.out w2 hb2
            have HB2 := Hid_of hb2
            clear hen hb2 HLS c0 c1
            go_wp2_with fail
            refine hls.mono ?_
            rintro e w3 ⟨u3, rfl, ho3, hb3⟩
            obtain ⟨a3, c3, rfl, -, -⟩ := ho3.at
            have HQ := Hid_of (HNO.out HF.out _ (bel_up HW0.out (bel_up HB2.out hb3 (Nat.le_refl _)) (Nat.le_refl _)))
            clear hls ho3 hb3 HB2 HF
            go_wp2
            go_ret2
            exact HQ.out
          · have d1 : decide ((256 : Int) < (k : Int) - (Sm.ofSt (es.map (·.s)) 3).length) = false := decide_eq_false (by omega)
            have HTL : Hid (Sm.Tell l (es.map (·.s))) := Hid_of (HDD.out.inv.done (HDD.out.inv.g (by omega) (by omega)))
            have HDM := Hid_of HDD.out.dm
            clear HDD hv hlv
            go_wp2_with fail
            refine hen.mono ?_
            rintro e w2 ⟨rfl, hb2⟩
            have hls := HLS.out w2 hb2
            have HB2 := Hid_of hb2
            clear hen hb2 HLS c0 c1
            go_wp2_with fail
            refine hls.mono ?_
            rintro e w3 ⟨u3, rfl, ho3, hb3⟩
            obtain ⟨a3, c3, rfl, -, -⟩ := ho3.at
            have HQ : Hid (RrOut w l (.returned (.tuple #[lv, .int .i64 0])) w3) := Hid_of (by
              have hb13 := bel_up HB2.out hb3 (Nat.le_refl _)
              exact ⟨bel_up HW0.out hb13 (Nat.le_refl _), .inl ⟨lv, _, HTL.out, rfl, (HDM.out.keep hb13).sub fun q hq => ⟨hq.1, Nat.lt_of_lt_of_le hq.2 hb13.size⟩⟩⟩)
            clear hls ho3 hb3 HB2 HTL HDM
            go_wp2
            go_ret2
            exact HQ.out
        · rw [p1] at hen
          have HF := Hid_of (HD.out.inv.rest (fun e => p2 (by rw [e])))
          have HW0 := Hid_of HD.out.bel
          clear HD p1 p2 hel
          go_wp2_with fail
          refine hen.mono ?_
          rintro e w2 ⟨rfl, hb2⟩
          have HQ := Hid_of (HNO.out HF.out _ (bel_up HW0.out hb2 (Nat.le_refl _)))
          clear hen hb2 HF c0 c1
          go_wp2
          go_ret2
          exact HQ.out

end Go.Proofs.Ytgcfpihfoekllaa
