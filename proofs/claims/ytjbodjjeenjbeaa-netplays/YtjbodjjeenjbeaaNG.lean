/-
  What is done to the message that is picked: it goes out, and arrives or not.
-/
import Derived.Test.YtjbodjjeenjbeaaNE
namespace Go.Proofs.Ytjbodjjeenjbeaa
open Go.RowKit
set_option linter.unusedVariables false
open Nt (Pk)

theorem decode_is (s : ByteArray) (hs : s.size ≤ 1000000) (W : World) : Calls Try.prog 35 #[.string s] W fun e w' => e = .returned (.tuple #[.agg #[.int .i64 (Msg.dk s), .int .i64 (Msg.df s), .int .i64 (Msg.dt s), .int .i64 (Msg.di s), .string (ofL (Msg.db s))], .int .i64 (Msg.dcode s)]) ∧ Below W.heap.size W w' := decode_any s W hs
/-- A cell of one's own is set. -/
theorem Ch.cell {w w' : World} {F G : Nat → Prop} (h : Ch w F w' G) (k j : Nat) (v : Value) (hk : G k) : Ch w F (w'.setCell ⟨k, j, none⟩ v) G :=
  h.trans ⟨rfl, rfl, rfl, by simp, fun c _ hc => heap_setCell_other w' ⟨k, j, none⟩ c v (fun e => hc (by rw [e]; exact hk)), fun c h => .inl h⟩
theorem Ch.put5 {w w' : World} {F G : Nat → Prop} (h : Ch w F w' G) {k : Nat} (hk : G k) (a b c d e : Value) : Ch w F (put5 w' k a b c d e) G :=
  ((((h.cell k 0 a hk).cell k 1 b hk).cell k 2 c hk).cell k 3 d hk).cell k 4 e hk
/-- What arrives of a packet. -/
def arr (C : Int → Int → Bool) (p : Pk) : Option ByteArray := bif C p.a p.b then none else some p.s
/-- A message's cells. -/
def mc (o : Option ByteArray) : Array Value := #[.int .i64 (Nt.gk o), .int .i64 (Nt.gf o), .int .i64 (Nt.gt o), .int .i64 (Nt.gi o), .string (Nt.gb o)]
theorem mc_none : mc none = #[.int .i64 0, .int .i64 0, .int .i64 0, .int .i64 0, .string ⟨#[]⟩] := rfl
theorem mc_some (s : ByteArray) : mc (some s) = #[.int .i64 (Msg.dk s), .int .i64 (Msg.df s), .int .i64 (Msg.dt s), .int .i64 (Msg.di s), .string (ofL (Msg.db s))] := by simp only [mc, Nt.gk, Nt.gf, Nt.gt, Nt.gi, Nt.gb]
theorem gok_some (s : ByteArray) : Nt.gok (some s) = decide (Msg.dcode s = 0) := by simp only [Nt.gok]
/-- What is left: the net, and the message in its box at block y. -/
def DOut (w : World) (base b m : Nat) (v : Value) (n : Nat) (N : Int) (L' : List Pk) (C : Int → Int → Bool) (y : Nat) (o : Option ByteArray) (e : Ending) (w' : World) : Prop :=
  ∃ v', e = .returned (.bool (Nt.gok o)) ∧ NI w' base b m v' n N L' C ∧ w'.heap[y]? = some (.cells (mc o) 33 (0, 0)) ∧ ¬ fp b m v' y ∧ Ch w (fun k => fp b m v k ∨ k = y) w' (fun k => fp b m v' k ∨ k = y)
theorem Ch.also {w w' : World} {F G : Nat → Prop} (h : Ch w F w' G) (y : Nat) : Ch w (fun k => F k ∨ k = y) w' (fun k => G k ∨ k = y) :=
  ⟨h.os, h.tape, h.output, h.size, fun k hk hF => h.block k hk (fun e => hF (.inl e)), fun k hk => by
    rcases hk with h' | h'
    · rcases h.n k h' with h2 | h2
      · exact .inl (.inl h2)
      · exact .inr h2
    · exact .inl (.inr h')⟩
theorem Ch.keepsOut {w w' : World} {F G : Nat → Prop} (h : Ch w F w' G) {y : Nat} (hy : ¬ F y) (hl : y < w.heap.size) : ¬ G y := fun hG => by
  rcases h.n y hG with h' | h'
  · exact hy h'
  · omega
set_option maxRecDepth 100000 in
set_option maxHeartbeats 1000000 in
theorem deliver1_any {w : World} {base b m : Nat} {v : Value} {n : Nat} {N : Int} {L : List Pk} {C : Int → Int → Bool} (h : NI w base b m v n N L C) (hbw : base ≤ w.heap.size) (i : Nat) (hi : i < L.length) (x y : Nat)
    (hx : w.heap[x]? = some (.cells #[.pointer (some ⟨b, 0, none⟩)] 25 (0, 0))) (hy : w.heap[y]? = some (.cells #[.int .i64 0, .int .i64 0, .int .i64 0, .int .i64 0, .string ⟨#[]⟩] 33 (0, 0))) (hxF : ¬ fp b m v x) (hyF : ¬ fp b m v y) :
    Calls Try.prog 33 #[.int .i64 i, .pointer (some ⟨x, 0, none⟩), .pointer (some ⟨y, 0, none⟩)] w (DOut w base b m v n N (L.eraseIdx i) C y (arr C L[i])) := by
  have hm : L[i] ∈ L := List.getElem_mem hi
  have hLs := h.ok.s _ hm
  have hLl := h.ok.l _ hm
  have c := take_one h hbw i hi
  unfold pv at c
  obtain ⟨p, hp⟩ : ∃ p, L[i] = p := ⟨_, rfl⟩
  rw [hp] at c hLs hLl ⊢
  have hxl := (Array.getElem?_eq_some_iff.1 hx).1
  have hyl := (Array.getElem?_eq_some_iff.1 hy).1
  have x0 := (rw1 hx).1
  have HX := Hid_of (And.intro hx hxF)
  have HY := Hid_of (And.intro hy hyF)
  have HLL := Hid_of (And.intro hxl hyl)
  generalize L.eraseIdx i = LL at *
  clear h hx hy hxF hyF hm hp hxl hyl
  go_enter Try.func33, Try.ntmps33
  go_wp2_with fail
  refine c.mono ?_
  rintro e w1 ⟨v', rfl, hN, hC⟩
  obtain ⟨hxl, hyl⟩ := HLL.out
  obtain ⟨W2, HW2⟩ : ∃ W2, Hid (w1.alloc (.cells #[.int .i64 p.a, .int .i64 p.b, .string p.s] 73) = W2) := ⟨_, rfl⟩
  have hB2 : Below w1.heap.size w1 W2 := by rw [← HW2.out]; exact bel1 w1 _
  have hr2 : W2.heap[w1.heap.size]? = some (.cells #[.int .i64 p.a, .int .i64 p.b, .string p.s] 73 (0, 0)) := by rw [← HW2.out]; exact heap_alloc_last w1 _
  have hC2 := hC.trans (Ch.ofBelow hB2)
  have hN2 := hN.keep hB2
  have hx2 := (hC2.block x hxl HX.out.2).trans HX.out.1
  have hy2 := (hC2.block y hyl HY.out.2).trans HY.out.1
  obtain ⟨⟨c0, c1, c2⟩, _⟩ := hN2.cells
  obtain ⟨p0, p1, p2⟩ := row3 hr2
  obtain ⟨x2, _⟩ := rw1 hx2
  have hlk := (hN2.keep ((Below.refl _ W2).drew)).mi.look (Wf.node hLl.1) (Wf.node hLl.2)
  have hlk2 := (hN2.keep ((bel1 W2 (.cells #[] 79)).drew)).mi.look (Wf.node hLl.1) (Wf.node hLl.2)
  unfold kv at hlk hlk2
  have p0' := cell_up p0 (.cells #[] 79)
  have p1' := cell_up p1 (.cells #[] 79)
  have c2' := cell_up c2 (.cells #[] 79)
  have x2' := cell_up x2 (.cells #[] 79)
  obtain ⟨W3, HW3⟩ : ∃ W3, Hid ((W2.alloc (.cells #[] 79)).drew = W3) := ⟨_, rfl⟩
  have hB3 : Below W2.heap.size W2 W3 := by rw [← HW3.out]; exact (bel1 W2 _).drew
  clear hN c hB2
  go_upto_region 2 with fail
  rw [HW2.out]
  go_region
  all_goals rw [HW3.out]
  all_goals
    have hN3 := hN2.keep hB3
    have hC3 := hC2.trans (Ch.ofBelow hB3)
    have hy3 := (hC3.block y hyl HY.out.2).trans HY.out.1
    have hyG : ¬ fp b m v' y := hC3.keepsOut HY.out.2 hyl
    have p3 := (row3 (bel_row hr2 hB3)).2.2
    clear HW2 HW3 hlk hlk2 p0' p1' c2' x2' p0 p1 p2 c0 c1 c2 x2 hN2 hC2 hx2 hy2 hr2 hB3 hC x0 HX hLl
    cases hcc : C p.a p.b with
    | true =>
      have HK : Hid (DOut w base b m v n N LL C y (arr C p) (.returned (.bool false)) W3) := by
        have ho : arr C p = none := by unfold arr; rw [hcc]; rfl
        rw [ho]
        exact ⟨v', rfl, hN3, hy3, hyG, hC3.also y⟩
      clear hN3 hC3 hy3 hyG p3 hcc
      go_wp2
      go_ret
      exact HK.out
    | false =>
      have ho : arr C p = some p.s := by unfold arr; rw [hcc]; rfl
      have HH := Hid_of (And.intro (And.intro hN3 hC3) (And.intro hy3 hyG))
      have cd := decode_is p.s hLs.2
      have hmc := mc_some p.s
      have hgk := gok_some p.s
      rw [← ho] at hmc hgk
      generalize arr C p = oo at *
      generalize Msg.dcode p.s = dc at *
      generalize Msg.dk p.s = k1 at *
      generalize Msg.df p.s = k2 at *
      generalize Msg.dt p.s = k3 at *
      generalize Msg.di p.s = k4 at *
      generalize ofL (Msg.db p.s) = k5 at *
      have HF : Hid (∀ w4, Below W3.heap.size W3 w4 → (w4.heap[y]? = some (.cells #[.int .i64 0, .int .i64 0, .int .i64 0, .int .i64 0, .string ⟨#[]⟩] 33 (0, 0))) ∧ DOut w base b m v n N LL C y oo (.returned (.bool (decide (dc = 0)))) (put5 w4 y (.int .i64 k1) (.int .i64 k2) (.int .i64 k3) (.int .i64 k4) (.string k5))) := by
        intro w4 hb4
        have hy4 := bel_row hy3 hb4
        have hC4 := hC3.trans (Ch.ofBelow hb4)
        refine ⟨hy4, ?_⟩
        unfold DOut
        rw [hmc, hgk]
        refine ⟨v', rfl, (hN3.keep hb4).keepBut (fun k _ hk => put5_oth (fun e => hyG (by rw [← e]; exact hk)) _ _ _ _ _), put5_row hy4 _ _ _ _ _, hyG, ?_⟩
        exact (hC4.also y).put5 (.inr rfl) _ _ _ _ _
      clear hN3 hC3 hy3 hyG hcc ho hmc hgk HH HY HLL hxl hyl
      go_wp2_with fail
      refine (cd _).mono ?_
      rintro e w4 ⟨rfl, hb4⟩
      obtain ⟨hy4, hk4⟩ := HF.out w4 hb4
      have HK := Hid_of hk4
      obtain ⟨⟨y0, y1, y2, y3, y4⟩, yf⟩ := row5 hy4
      have yf0 := yf 0
      have yf1 := yf 1
      have yf2 := yf 2
      have yf3 := yf 3
      have yf4 := yf 4
      clear HF hk4 hb4 cd hy4 yf
      go_wp2
      go_ret
      exact HK.out
end Go.Proofs.Ytjbodjjeenjbeaa
