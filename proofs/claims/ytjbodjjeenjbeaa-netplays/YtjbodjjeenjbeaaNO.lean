/-
  A net that is none; a net in memory that is new.
-/
import Derived.Test.YtjbodjjeenjbeaaNL
namespace Go.Proofs.Ytjbodjjeenjbeaa
open Go.RowKit
set_option linter.unusedVariables false
open Nt (Pk)

theorem send_nil (k f t i : Int) (s : ByteArray) (w : World) : Calls Try.prog 12 #[.pointer none, .agg #[.int .i64 k, .int .i64 f, .int .i64 t, .int .i64 i, .string s]] w fun e w' => e = .returned (.bool false) ∧ Below w.heap.size w w' := by
  have HB := Hid_of (bel1 w (.cells #[.int .i64 k, .int .i64 f, .int .i64 t, .int .i64 i, .string s] 33))
  go_enter Try.func12, Try.ntmps12
  go_wp2_with fail
  refine (has_nil _ _).mono ?_
  rintro e w2 ⟨rfl, rfl⟩
  go_wp2
  go_ret
  exact ⟨rfl, HB.out⟩
theorem drop_nil (i : Int) (w : World) : Calls Try.prog 16 #[.pointer none, .int .i64 i] w fun e w' => e = .returned (.bool false) ∧ Below w.heap.size w w' := by
  have HB := Hid_of (bel1 w (.cells #[.pointer none] 25))
  go_enter Try.func16, Try.ntmps16
  go_wp2_with fail
  refine (pick_nil _ _ _).mono ?_
  rintro e w2 ⟨rfl, rfl⟩
  go_wp2
  go_ret
  exact ⟨rfl, HB.out⟩
theorem double_nil (i : Int) (w : World) : Calls Try.prog 18 #[.pointer none, .int .i64 i] w fun e w' => e = .returned (.bool false) ∧ Below w.heap.size w w' := by
  have HB := Hid_of (bel1 w (.cells #[.pointer none] 25))
  go_enter Try.func18, Try.ntmps18
  go_wp2_with fail
  refine (pick_nil _ _ _).mono ?_
  rintro e w2 ⟨rfl, rfl⟩
  go_wp2
  go_ret
  exact ⟨rfl, HB.out⟩
theorem spoil_nil (i x y : Int) (w : World) : Calls Try.prog 20 #[.pointer none, .int .i64 i, .int .i64 x, .int .i64 y] w fun e w' => e = .returned (.bool false) ∧ Below w.heap.size w w' := by
  have HB := Hid_of ((bel2 w (.cells #[.pointer none] 25) (.cells #[.int .i64 x] 3)).alloc (by simp; omega) (.cells #[.int .i64 y] 3))
  go_enter Try.func20, Try.ntmps20
  go_wp2_with fail
  refine (pick_nil _ _ _).mono ?_
  rintro e w2 ⟨rfl, rfl⟩
  go_wp2
  go_ret
  exact ⟨rfl, HB.out⟩
theorem cut_nil (x y : Int) (on : Bool) (w : World) : Calls Try.prog 22 #[.pointer none, .int .i64 x, .int .i64 y, .bool on] w fun e w' => e = .returned (.bool false) ∧ w' = w := by
  go_enter Try.func22, Try.ntmps22
  go_wp2_with fail
  refine (has_nil _ _).mono ?_
  rintro e w2 ⟨rfl, rfl⟩
  go_wp2
  go_ret
  exact ⟨rfl, rfl⟩
set_option maxRecDepth 100000 in
set_option maxHeartbeats 400000 in
theorem deliver_nil (i : Int) (w : World) : Calls Try.prog 14 #[.pointer none, .int .i64 i] w fun e w' => e = .returned (.tuple #[.agg #[.int .i64 0, .int .i64 0, .int .i64 0, .int .i64 0, .string ⟨#[]⟩], .bool false]) ∧ Below w.heap.size w w' := by
  obtain ⟨W1, HW1⟩ : ∃ W1, Hid (((w.alloc (.cells #[.pointer none] 25)).alloc (.cells #[.int .i64 0, .int .i64 0, .int .i64 0, .int .i64 0, .string ⟨#[]⟩] 33)).alloc (.cells #[.int .i64 0, .int .i64 0, .int .i64 0, .int .i64 0, .string ⟨#[]⟩] 33) = W1) := ⟨_, rfl⟩
  have hB1 : Below w.heap.size w W1 := by rw [← HW1.out]; exact (bel2 w _ _).alloc (by simp; omega) _
  obtain ⟨hr1, hr2, hr3⟩ : W1.heap[w.heap.size]? = some (.cells #[.pointer none] 25 (0, 0)) ∧ W1.heap[w.heap.size + 1]? = some (.cells #[.int .i64 0, .int .i64 0, .int .i64 0, .int .i64 0, .string ⟨#[]⟩] 33 (0, 0)) ∧ W1.heap[w.heap.size + 2]? = some (.cells #[.int .i64 0, .int .i64 0, .int .i64 0, .int .i64 0, .string ⟨#[]⟩] 33 (0, 0)) := by
    rw [← HW1.out]
    exact heap_alloc3 w _ _ _
  obtain ⟨x0, _⟩ := rw1 hr1
  have HQ1 := Hid_of (put5_row hr2 (.int .i64 0) (.int .i64 0) (.int .i64 0) (.int .i64 0) (.string ⟨#[]⟩))
  have HQ2 := Hid_of (put5_bel hB1 (show w.heap.size ≤ w.heap.size + 1 by omega) (.int .i64 0) (.int .i64 0) (.int .i64 0) (.int .i64 0) (.string ⟨#[]⟩))
  obtain ⟨⟨y0, y1, y2, y3, y4⟩, yf⟩ := row5 hr2
  obtain ⟨⟨z0, z1, z2, z3, z4⟩, _⟩ := row5 hr3
  have yf0 := yf 0
  have yf1 := yf 1
  have yf2 := yf 2
  have yf3 := yf 3
  have yf4 := yf 4
  clear hr1 hr2 hr3 hB1 yf
  go_enter Try.func14, Try.ntmps14
  go_upto_region 2 with fail
  rw [HW1.out]
  go_wp2_with fail
  refine (pick_nil _ _ _).mono ?_
  rintro e w2 ⟨rfl, rfl⟩
  go_wp2
  refine bodyPost_ret (v := .tuple #[.agg #[.int .i64 0, .int .i64 0, .int .i64 0, .int .i64 0, .string ⟨#[]⟩], .bool false]) ?_ rfl ⟨rfl, HQ2.out⟩
  exact res5 f14_res _ _ (w.heap.size + 1) _ _ _ _ _ rfl HQ1.out
/-- A net that is new since w0; F: what is its own; z: how often a link was cut, at most. -/
structure NS (w0 w : World) (b : Nat) (F : Nat → Prop) (z : Nat) (N : Int) (L : List Pk) (C : Int → Int → Bool) : Prop where
  x : ∃ m v n, n ≤ z ∧ F = fp b m v ∧ NI w w0.heap.size b m v n N L C
  bel : Below w0.heap.size w0 w
section
variable {w0 w w' : World} {b : Nat} {F G : Nat → Prop} {z : Nat} {N : Int} {L : List Pk} {C : Int → Int → Bool}
theorem NS.own (h : NS w0 w b F z N L C) : ∀ k, F k → w0.heap.size ≤ k ∧ k < w.heap.size := by
  obtain ⟨m, v, n, _, rfl, hn⟩ := h.x
  exact hn.mine
theorem NS.keepBut (h : NS w0 w b F z N L C) (hb : ∀ k, k < w.heap.size → F k → w'.heap[k]? = w.heap[k]?) (hB : Below w0.heap.size w0 w') : NS w0 w' b F z N L C := by
  obtain ⟨m, v, n, hz, rfl, hn⟩ := h.x
  exact ⟨⟨m, v, n, hz, rfl, hn.keepBut hb⟩, hB⟩
theorem NS.keep (h : NS w0 w b F z N L C) (hb : Below w.heap.size w w') : NS w0 w' b F z N L C := h.keepBut (fun k hk _ => hb.block k hk) (bel_up h.bel hb (Nat.le_refl _))
theorem NS.ok (h : NS w0 w b F z N L C) : Nt.Ok L := by
  obtain ⟨m, v, n, hz, rfl, hn⟩ := h.x
  exact hn.ok
theorem NS.nn (h : NS w0 w b F z N L C) : 1 ≤ N ∧ N ≤ 64 := by
  obtain ⟨m, v, n, hz, rfl, hn⟩ := h.x
  exact hn.nn
theorem NS.ch (h : NS w0 w b F z N L C) (hc : Ch w F w' G) : Below w0.heap.size w0 w' := h.bel.trans (hc.below (fun k hk => (h.own k hk).1) h.bel.size)
theorem newN (x : Int) (w : World) : Calls Try.prog 9 #[.int .i64 x] w fun e w' => ∃ b F, e = .returned (.pointer (some ⟨b, 0, none⟩)) ∧ NS w w' b F 0 (Nt.lim x) [] (fun _ _ => false) :=
  (new_any x w).mono fun e w' ⟨h1, h2, h3⟩ => ⟨_, _, h1, ⟨_, _, 0, Nat.le_refl _, rfl, h2⟩, h3⟩
/-- What a call on such a net leaves. -/
def SOut (w0 w : World) (b : Nat) (F : Nat → Prop) (z : Nat) (N : Int) (L' : List Pk) (C' : Int → Int → Bool) (r : Value) (e : Ending) (w' : World) : Prop := ∃ G, e = .returned r ∧ NS w0 w' b G z N L' C' ∧ Ch w F w' G
theorem NS.send (h : NS w0 w b F z N L C) (k f t i : Int) (bd : List UInt8) (hb : bd.length ≤ maxLen) :
    Calls Try.prog 12 #[.pointer (some ⟨b, 0, none⟩), .agg #[.int .i64 k, .int .i64 f, .int .i64 t, .int .i64 i, .string (ofL bd)]] w (SOut w0 w b F z N (Nt.add (Nt.may N L k f t i bd) L ⟨min f t, max f t, ofL (Msg.ecode k f t i bd)⟩) C (.bool (Nt.may N L k f t i bd))) := by
  have hch := fun {w' G} => h.ch (w' := w') (G := G)
  have hs := h.bel.size
  obtain ⟨m, v, n, hz, rfl, hn⟩ := h.x
  exact (send_any hn hs k f t i bd hb).mono fun e w' ⟨v', h1, h2, h3⟩ => ⟨_, h1, ⟨⟨m, v', n, hz, rfl, h2⟩, hch h3⟩, h3⟩
theorem NS.drop (h : NS w0 w b F z N L C) (i : Int) : Calls Try.prog 16 #[.pointer (some ⟨b, 0, none⟩), .int .i64 i] w (SOut w0 w b F z N (Nt.drp L i) C (.bool (Nt.is L))) := by
  have hch := fun {w' G} => h.ch (w' := w') (G := G)
  have hs := h.bel.size
  obtain ⟨m, v, n, hz, rfl, hn⟩ := h.x
  exact (drop_any hn hs i).mono fun e w' ⟨v', h1, h2, h3⟩ => ⟨_, h1, ⟨⟨m, v', n, hz, rfl, h2⟩, hch h3⟩, h3⟩
theorem NS.double (h : NS w0 w b F z N L C) (i : Int) : Calls Try.prog 18 #[.pointer (some ⟨b, 0, none⟩), .int .i64 i] w (SOut w0 w b F z N (Nt.dbl L i) C (.bool (Nt.is L && Nt.room L))) := by
  have hch := fun {w' G} => h.ch (w' := w') (G := G)
  have hs := h.bel.size
  obtain ⟨m, v, n, hz, rfl, hn⟩ := h.x
  exact (double_any hn hs i).mono fun e w' ⟨v', h1, h2, h3⟩ => ⟨_, h1, ⟨⟨m, v', n, hz, rfl, h2⟩, hch h3⟩, h3⟩
theorem NS.spoil (h : NS w0 w b F z N L C) (i x y : Int) : Calls Try.prog 20 #[.pointer (some ⟨b, 0, none⟩), .int .i64 i, .int .i64 x, .int .i64 y] w (SOut w0 w b F z N (Nt.spo L i x y) C (.bool (Nt.is L))) := by
  have hch := fun {w' G} => h.ch (w' := w') (G := G)
  have hs := h.bel.size
  obtain ⟨m, v, n, hz, rfl, hn⟩ := h.x
  exact (spoil_any hn hs i x y).mono fun e w' ⟨v', h1, h2, h3⟩ => ⟨_, h1, ⟨⟨m, v', n, hz, rfl, h2⟩, hch h3⟩, h3⟩
theorem NS.deliver (h : NS w0 w b F z N L C) (i : Int) : Calls Try.prog 14 #[.pointer (some ⟨b, 0, none⟩), .int .i64 i] w (SOut w0 w b F z N (Nt.drp L i) C (.tuple #[.agg (mc (Nt.out L C i)), .bool (Nt.gok (Nt.out L C i))])) := by
  have hch := fun {w' G} => h.ch (w' := w') (G := G)
  have hs := h.bel.size
  obtain ⟨m, v, n, hz, rfl, hn⟩ := h.x
  exact (deliver_any hn hs i).mono fun e w' ⟨v', h1, h2, h3⟩ => ⟨_, h1, ⟨⟨m, v', n, hz, rfl, h2⟩, hch h3⟩, h3⟩
theorem NS.cut (h : NS w0 w b F z N L C) (hz : z < 1000000) (x y : Int) (on : Bool) : Calls Try.prog 22 #[.pointer (some ⟨b, 0, none⟩), .int .i64 x, .int .i64 y, .bool on] w (SOut w0 w b F (z + 1) N L (cutN C N x y on) (.bool (Nt.node N x && Nt.node N y))) := by
  have hch := fun {w' G} => h.ch (w' := w') (G := G)
  obtain ⟨m, v, n, hz', rfl, hn⟩ := h.x
  exact (cut_any hn (by omega) x y on).mono fun e w' ⟨n', hn', h1, h2, h3⟩ => ⟨_, h1, ⟨⟨m, v, n', by omega, rfl, h2⟩, hch h3⟩, h3⟩
theorem NS.waiting (h : NS w0 w b F z N L C) : Calls Try.prog 23 #[.pointer (some ⟨b, 0, none⟩)] w fun e w' => e = .returned (.int .i64 L.length) ∧ w' = w := by
  obtain ⟨m, v, n, hz', rfl, hn⟩ := h.x
  exact waiting_any hn
theorem NS.more (h : NS w0 w b F z N L C) {z' : Nat} (hz : z ≤ z') : NS w0 w b F z' N L C := by
  obtain ⟨m, v, n, hz', hF, hn⟩ := h.x
  exact ⟨⟨m, v, n, by omega, hF, hn⟩, h.bel⟩
end
end Go.Proofs.Ytjbodjjeenjbeaa
