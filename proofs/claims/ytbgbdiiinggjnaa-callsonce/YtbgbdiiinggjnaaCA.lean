/-
  Calls in memory: what they are, and what becomes of them.
-/
import Derived.Test.YtbgbdiiinggjnaaR
import Derived.Test.YtbgbdiiinggjnaaWD
import Derived.Test.YtbgbdiiinggjnaaBS
import Derived.Test.YtbgbdiiinggjnaaSB
import Derived.Test.YtbgbdiiinggjnaaMP
namespace Go.Proofs.Ytbgbdiiinggjnaa
open Go.RowKit
set_option linter.unusedVariables false
open M (E)
open Cl (K W Ms fup)

theorem rw5 {w : World} {k : Nat} {v0 v1 v2 v3 v4 : Value} {t : TypeId} (h : w.heap[k]? = some (.cells #[v0, v1, v2, v3, v4] t (0, 0))) :
    (w.cell? ⟨k, 0, none⟩ = some v0 ∧ w.cell? ⟨k, 1, none⟩ = some v1 ∧ w.cell? ⟨k, 2, none⟩ = some v2 ∧ w.cell? ⟨k, 3, none⟩ = some v3 ∧ w.cell? ⟨k, 4, none⟩ = some v4) ∧ ∀ j, w.frozen? ⟨k, j, none⟩ = false :=
  ⟨⟨by rw [cell_of_row w k 0 _ _ _ h]; rfl, by rw [cell_of_row w k 1 _ _ _ h]; rfl, by rw [cell_of_row w k 2 _ _ _ h]; rfl, by rw [cell_of_row w k 3 _ _ _ h]; rfl, by rw [cell_of_row w k 4 _ _ _ h]; rfl⟩, fun j => frozen_of_row w k j _ _ h⟩
/-- What has become of something whose own were F, and now are G: nothing else has changed. -/
structure Fr (w : World) (F : Nat → Prop) (w' : World) (G : Nat → Prop) : Prop where
  os : w'.os = w.os
  tape : w'.tape = w.tape
  output : w'.output = w.output
  size : w.heap.size ≤ w'.heap.size
  block : ∀ k, k < w.heap.size → ¬ F k → w'.heap[k]? = w.heap[k]?
  n : ∀ k, G k → F k ∨ w.heap.size ≤ k
theorem Fr.refl (w : World) (F : Nat → Prop) : Fr w F w F := ⟨rfl, rfl, rfl, Nat.le_refl _, fun _ _ _ => rfl, fun k h => .inl h⟩
theorem Fr.ofBelow {w w1 : World} {F : Nat → Prop} (h : Below w.heap.size w w1) : Fr w F w1 F := ⟨h.os, h.tape, h.output, h.size, fun k hk _ => h.block k hk, fun k h => .inl h⟩
theorem Fr.trans {w w1 w2 : World} {F G H : Nat → Prop} (h : Fr w F w1 G) (k : Fr w1 G w2 H) : Fr w F w2 H := by
  refine ⟨k.os.trans h.os, k.tape.trans h.tape, k.output.trans h.output, Nat.le_trans h.size k.size, fun c hc hF => ?_, fun c hc => ?_⟩
  · rw [k.block c (Nat.lt_of_lt_of_le hc h.size) (fun e => by
      rcases h.n c e with h' | h'
      · exact hF h'
      · omega)]
    exact h.block c hc hF
  · rcases k.n c hc with h' | h'
    · exact h.n c h'
    · exact .inr (Nat.le_trans h.size h')
theorem Fr.below {B : Nat} {w w1 : World} {F G : Nat → Prop} (h : Fr w F w1 G) (hF : ∀ k, F k → B ≤ k) (hB : B ≤ w.heap.size) : Below B w w1 :=
  ⟨h.os, h.tape, h.output, h.size, fun k hk => h.block k (by omega) (fun e => by have := hF k e; omega)⟩
theorem Fr.drew {w w1 : World} {F G : Nat → Prop} (h : Fr w F w1 G) : Fr w F w1.drew G := ⟨h.os, h.tape, h.output, h.size, h.block, h.n⟩
theorem Fr.drewN {w w1 : World} {F G : Nat → Prop} (h : Fr w F w1 G) (n : Nat) : Fr w F (w1.drewN n) G := ⟨h.os, h.tape, h.output, h.size, h.block, h.n⟩
theorem Fr.up {w w1 w2 : World} {F G : Nat → Prop} (h : Fr w F w1 G) (k : Below w1.heap.size w1 w2) : Fr w F w2 G := h.trans (Fr.ofBelow k)

/-- What is a node's calls' own. -/
def fpc (b bt m : Nat) (vt vo : Value) (k : Nat) : Prop := k = b ∨ k = bt ∨ k = m ∨ vt.ownBlock = some k ∨ vo.ownBlock = some k
/-- A node's calls at block b. -/
structure CI (w : World) (base b bt m : Nat) (vt vo : Value) (n : Nat) (me next : Int) (O : List W) (P : List E) (f : Int → Option (Int × ByteArray)) : Prop where
  row : w.heap[b]? = some (.cells #[.int .i64 me, .int .i64 next, .pointer (some ⟨bt, 0, none⟩), vo, .map (some m)] 66 (0, 0))
  tm : XI w base bt vt P
  own : OwnL wl 74 w base vo O
  mi : MI w m n f
  nt : b ≠ bt ∧ vt.ownBlock ≠ some b ∧ vt.ownBlock ≠ some m
  no : vo.ownBlock ≠ some b ∧ vo.ownBlock ≠ some bt ∧ vo.ownBlock ≠ some m
  nn : ∀ k, vt.ownBlock = some k → vo.ownBlock ≠ some k
  low : base ≤ b ∧ base ≤ bt ∧ base ≤ m
section
variable {w w' : World} {base b bt m : Nat} {vt vo vt' vo' : Value} {n n' : Nat} {me next : Int} {O O' : List W} {P P' : List E} {f f' : Int → Option (Int × ByteArray)}
theorem CI.lt (h : CI w base b bt m vt vo n me next O P f) : b < w.heap.size := (Array.getElem?_eq_some_iff.1 h.row).1
theorem CI.bm (h : CI w base b bt m vt vo n me next O P f) : b ≠ m := h.mi.ne h.row
theorem CI.tbm (h : CI w base b bt m vt vo n me next O P f) : bt ≠ m := h.mi.ne h.tm.row
theorem CI.mine (h : CI w base b bt m vt vo n me next O P f) : ∀ k, fpc b bt m vt vo k → base ≤ k ∧ k < w.heap.size := by
  rintro k (rfl | rfl | rfl | e | e)
  · exact ⟨h.low.1, h.lt⟩
  · exact ⟨h.low.2.1, h.tm.lt⟩
  · exact ⟨h.low.2.2, h.mi.lt⟩
  · exact h.tm.low k e
  · exact h.own.lt e
theorem CI.keepBut (h : CI w base b bt m vt vo n me next O P f) (hb : ∀ k, k < w.heap.size → fpc b bt m vt vo k → w'.heap[k]? = w.heap[k]?) : CI w' base b bt m vt vo n me next O P f :=
  ⟨(hb b h.lt (.inl rfl)).trans h.row, h.tm.keepBut (fun k hk e => hb k hk (by rcases e with rfl | e; exact .inr (.inl rfl); exact .inr (.inr (.inr (.inl e))))), h.own.keepBut (fun k hk e => hb k hk (.inr (.inr (.inr (.inr e))))), h.mi.keep (hb m h.mi.lt (.inr (.inr (.inl rfl)))), h.nt, h.no, h.nn, h.low⟩
theorem CI.keep (h : CI w base b bt m vt vo n me next O P f) (hb : Below w.heap.size w w') : CI w' base b bt m vt vo n me next O P f := h.keepBut fun k hk _ => hb.block k hk
theorem CI.cells (h : CI w base b bt m vt vo n me next O P f) : (w.cell? ⟨b, 0, none⟩ = some (.int .i64 me) ∧ w.cell? ⟨b, 1, none⟩ = some (.int .i64 next) ∧ w.cell? ⟨b, 2, none⟩ = some (.pointer (some ⟨bt, 0, none⟩)) ∧ w.cell? ⟨b, 3, none⟩ = some vo ∧ w.cell? ⟨b, 4, none⟩ = some (.map (some m))) ∧ ∀ j, w.frozen? ⟨b, j, none⟩ = false := rw5 h.row
theorem ne_rw {v v' : Value} (hn : ∀ k, v'.ownBlock = some k → v.ownBlock = some k ∨ w.heap.size ≤ k) {k : Nat} (hk : k < w.heap.size) (h : v.ownBlock ≠ some k) : v'.ownBlock ≠ some k := fun e => by
  rcases hn k e with h' | h'
  · exact h h'
  · omega
/-- The timers have changed. -/
theorem CI.timed (h : CI w base b bt m vt vo n me next O P f) (hx : XI w' base bt vt' P') (hc : Ch w bt vt w' vt') : CI w' base b bt m vt' vo n me next O P' f ∧ Fr w (fpc b bt m vt vo) w' (fpc b bt m vt' vo) := by
  have hk : ∀ k, k < w.heap.size → k ≠ bt → vt.ownBlock ≠ some k → w'.heap[k]? = w.heap[k]? := fun k h1 h2 h3 => hc.block k h1 h2 h3
  refine ⟨⟨(hk b h.lt h.nt.1 h.nt.2.1).trans h.row, hx, h.own.keepBut (fun k hkk e => hk k hkk (fun e' => h.no.2.1 (by rw [e] at *; rw [e'])) (fun e' => h.nn k e' e)), h.mi.keep (hk m h.mi.lt (fun e => h.tbm e.symm) h.nt.2.2), ⟨h.nt.1, ne_rw hc.n h.lt h.nt.2.1, ne_rw hc.n h.mi.lt h.nt.2.2⟩, h.no, fun k e e' => ?_, h.low⟩, ⟨hc.os, hc.tape, hc.output, hc.size, fun k hkk hF => hk k hkk (fun e => hF (.inr (.inl e))) (fun e => hF (.inr (.inr (.inr (.inl e))))), ?_⟩⟩
  · rcases hc.n k e with h' | h'
    · exact h.nn k h' e'
    · have := (h.own.lt e').2; omega
  · rintro k (rfl | rfl | rfl | e | e)
    · exact .inl (.inl rfl)
    · exact .inl (.inr (.inl rfl))
    · exact .inl (.inr (.inr (.inl rfl)))
    · rcases hc.n k e with h' | h'
      · exact .inl (.inr (.inr (.inr (.inl h'))))
      · exact .inr h'
    · exact .inl (.inr (.inr (.inr (.inr e))))
/-- The next number. -/
theorem CI.nexted (h : CI w base b bt m vt vo n me next O P f) (x : Int) : CI (w.setCell ⟨b, 1, none⟩ (.int .i64 x)) base b bt m vt vo n me x O P f ∧ Fr w (fpc b bt m vt vo) (w.setCell ⟨b, 1, none⟩ (.int .i64 x)) (fpc b bt m vt vo) := by
  have hk : ∀ k, k ≠ b → (w.setCell ⟨b, 1, none⟩ (.int .i64 x)).heap[k]? = w.heap[k]? := fun k hk => heap_setCell_other w ⟨b, 1, none⟩ k _ hk
  refine ⟨⟨heap_setCell_same w b 1 _ _ _ h.row, h.tm.keepBut (fun k _ e => hk k (by rintro rfl; rcases e with e | e; exact h.nt.1 e; exact h.nt.2.1 e)), h.own.keepBut (fun k _ e => hk k (by rintro rfl; exact h.no.1 e)), h.mi.keep (hk m (fun e => h.bm e.symm)), h.nt, h.no, h.nn, h.low⟩, ⟨rfl, rfl, rfl, by simp, fun k _ hF => hk k (fun e => hF (.inl e)), fun k hk => .inl hk⟩⟩
/-- A new row of open ones in the place of the old one. -/
theorem CI.rowed (h : CI w base b bt m vt vo n me next O P f) (hr : Rw w vo w' vo') (ho : OwnL wl 74 w' base vo' O') : CI (w'.setCell ⟨b, 3, none⟩ vo') base b bt m vt vo' n me next O' P f ∧ Fr w (fpc b bt m vt vo) (w'.setCell ⟨b, 3, none⟩ vo') (fpc b bt m vt vo') := by
  have hk1 : ∀ k, k < w.heap.size → vo.ownBlock ≠ some k → w'.heap[k]? = w.heap[k]? := fun k h1 h2 => hr.g.block k h1 (fun e => h2 e.symm)
  have hk2 : ∀ k, k ≠ b → (w'.setCell ⟨b, 3, none⟩ vo').heap[k]? = w'.heap[k]? := fun k hk => heap_setCell_other w' ⟨b, 3, none⟩ k _ hk
  have hk : ∀ k, k < w.heap.size → k ≠ b → vo.ownBlock ≠ some k → (w'.setCell ⟨b, 3, none⟩ vo').heap[k]? = w.heap[k]? := fun k h1 h2 h3 => (hk2 k h2).trans (hk1 k h1 h3)
  have hnb := ne_rw hr.n h.lt h.no.1
  refine ⟨⟨heap_setCell_same w' b 3 _ _ _ ((hk1 b h.lt h.no.1).trans h.row), h.tm.keepBut (fun k hkk e => hk k hkk ?_ ?_), ho.keepBut (fun k _ e => hk2 k (by rintro rfl; exact hnb e)), h.mi.keep (hk m h.mi.lt (fun e => h.bm e.symm) h.no.2.2), h.nt, ⟨hnb, ne_rw hr.n h.tm.lt h.no.2.1, ne_rw hr.n h.mi.lt h.no.2.2⟩, fun k e => ne_rw hr.n (h.tm.low k e).2 (h.nn k e), h.low⟩, ⟨hr.g.os, hr.g.tape, hr.g.output, Nat.le_trans hr.g.size (by simp), fun k hkk hF => hk k hkk (fun e => hF (.inl e)) (fun e => hF (.inr (.inr (.inr (.inr e))))), ?_⟩⟩
  · rintro rfl
    rcases e with e | e
    · exact h.nt.1 e
    · exact h.nt.2.1 e
  · rcases e with rfl | e
    · exact h.no.2.1
    · exact h.nn k e
  · rintro k (rfl | rfl | rfl | e | e)
    · exact .inl (.inl rfl)
    · exact .inl (.inr (.inl rfl))
    · exact .inl (.inr (.inr (.inl rfl)))
    · exact .inl (.inr (.inr (.inr (.inl e))))
    · rcases hr.n k e with h' | h'
      · exact .inl (.inr (.inr (.inr (.inr h'))))
      · exact .inr h'
theorem CI.row1 (h : CI w base b bt m vt vo n me next O P f) (hr : Rw w vo w' vo') : (w'.cell? ⟨b, 0, none⟩ = some (.int .i64 me) ∧ w'.cell? ⟨b, 1, none⟩ = some (.int .i64 next) ∧ w'.cell? ⟨b, 2, none⟩ = some (.pointer (some ⟨bt, 0, none⟩)) ∧ w'.cell? ⟨b, 3, none⟩ = some vo ∧ w'.cell? ⟨b, 4, none⟩ = some (.map (some m))) ∧ ∀ j, w'.frozen? ⟨b, j, none⟩ = false :=
  rw5 ((hr.g.block b h.lt (fun e => h.no.1 e.symm)).trans h.row)
/-- The map has changed. -/
theorem CI.mapped (h : CI w base b bt m vt vo n me next O P f) (hm : MI w' m n' f') (ht : MT w m w') : CI w' base b bt m vt vo n' me next O P f' ∧ Fr w (fpc b bt m vt vo) w' (fpc b bt m vt vo) := by
  have hk := ht.block
  refine ⟨⟨(hk b h.bm).trans h.row, h.tm.keepBut (fun k _ e => hk k ?_), h.own.keepBut (fun k _ e => hk k (by rintro rfl; exact h.no.2.2 e)), hm, h.nt, h.no, h.nn, h.low⟩, ⟨ht.os, ht.tape, ht.output, by rw [ht.size]; exact Nat.le_refl _, fun k _ hF => hk k (fun e => hF (.inr (.inr (.inl e)))), fun k hk => .inl hk⟩⟩
  rintro rfl
  rcases e with e | e
  · exact h.tbm e.symm
  · exact h.nt.2.2 e
/-- One of the open ones was sent. -/
theorem CI.sentAt (h : CI w base b bt m vt vo n me next O P f) (i : Nat) (hi : i < O.length) : ∃ g cap, vo = .slice (some ⟨g, 0, none⟩) O.length cap ∧ (w.cell? ⟨g, i * 5 + 3, none⟩ = some (.int .i64 O[i].sent) ∧ w.frozen? ⟨g, i * 5 + 3, none⟩ = false) ∧ ∀ x : Int, CI (w.setCell ⟨g, i * 5 + 3, none⟩ (.int .i64 x)) base b bt m vt vo n me next (O.set i ⟨O[i].fr, O[i].whom, O[i].id, x, O[i].body⟩) P f ∧ Fr w (fpc b bt m vt vo) (w.setCell ⟨g, i * 5 + 3, none⟩ (.int .i64 x)) (fpc b bt m vt vo) := by
  obtain ⟨g, cap, hv, hbg, hgl, hc, hf, hs⟩ := h.own.set1 i hi 3 (by decide)
  refine ⟨g, cap, hv, ⟨hc, hf _⟩, fun x => ?_⟩
  have hog : vo.ownBlock = some g := by rw [hv]; rfl
  have hk : ∀ k, k ≠ g → (w.setCell ⟨g, i * 5 + 3, none⟩ (.int .i64 x)).heap[k]? = w.heap[k]? := fun k hk => heap_setCell_other w ⟨g, i * 5 + 3, none⟩ k _ hk
  have hbg' : b ≠ g := fun e => h.no.1 (by rw [hog, e])
  have htg : bt ≠ g := fun e => h.no.2.1 (by rw [hog, e])
  have hmg : m ≠ g := fun e => h.no.2.2 (by rw [hog, e])
  have hs' := hs ⟨O[i].fr, O[i].whom, O[i].id, x, O[i].body⟩ (.int .i64 x) rfl
  refine ⟨⟨(hk b hbg').trans h.row, h.tm.keepBut (fun k _ e => hk k ?_), hs', h.mi.keep (hk m hmg), h.nt, h.no, h.nn, h.low⟩, ⟨rfl, rfl, rfl, by simp, fun k _ hF => hk k (fun e => hF (.inr (.inr (.inr (.inr (by rw [hog, e])))))), fun k hk => .inl hk⟩⟩
  rintro rfl
  rcases e with e | e
  · exact htg e.symm
  · exact h.nn k e hog
end
/-- What a call leaves. -/
def COut (w : World) (base b bt m : Nat) (vt vo : Value) (n' : Nat) (me next' : Int) (O' : List W) (P' : List E) (f' : Int → Option (Int × ByteArray)) (r : Value) (e : Ending) (w' : World) : Prop := ∃ vt' vo', e = .returned r ∧ CI w' base b bt m vt' vo' n' me next' O' P' f' ∧ Fr w (fpc b bt m vt vo) w' (fpc b bt m vt' vo')
set_option maxHeartbeats 1000000 in
theorem placeC_any {w : World} {base b bt m : Nat} {vt vo : Value} {n : Nat} {me next : Int} {O : List W} {P : List E} {f : Int → Option (Int × ByteArray)} (h : CI w base b bt m vt vo n me next O P f) (hl : O.length ≤ 64) (hu : O.Pairwise (fun a b => a.id < b.id)) (k : Int) :
    Calls Try.prog 33 #[.pointer (some ⟨b, 0, none⟩), .int .i64 k] w (SrOut w O k) := by
  obtain ⟨⟨c0, c1, c2, c3, c4⟩, _⟩ := h.cells
  obtain ⟨a, cap, rfl, hx, _⟩ := h.own.at
  have hc := searchW_any a cap O k w (by omega) hx.at' hu
  clear h hx
  go_enter Try.func33, Try.ntmps33
  go_wp2_with fail
  refine hc.mono ?_
  rintro e w1 ⟨r, bb, rfl, hs, hb⟩
  have HQ := Hid_of (show SrOut w O k (.returned (.tuple #[.int .i64 r, .bool bb])) w1 from ⟨r, bb, rfl, hs, hb⟩)
  clear hs hb hc c0 c1 c2 c3 c4
  go_wp2
  go_ret2
  exact HQ.out
theorem lit_i {x : Int} (h0 : 0 ≤ x) (h1 : x ≤ 9223372036854775807) : (Lit.int .i64 x).wf = true := by
  simp [Lit.wf, IntKind.min, IntKind.max, IntKind.bits, IntKind.signed]
  omega
end Go.Proofs.Ytbgbdiiinggjnaa
