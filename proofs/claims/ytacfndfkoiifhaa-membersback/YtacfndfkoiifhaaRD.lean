/-
  A group's deeds: Fail, Done.
-/
import Derived.Test.YtacfndfkoiifhaaRC
namespace Go.Proofs.Ytacfndfkoiifhaa
open Go.RowKit
set_option linter.unusedVariables false
open Mb (S)

section
variable {w w' : World} {base b : Nat} {vl vs : Value} {s : S}
/-- What a deed leaves: its code, the group, nothing else changed. -/
def DdOut (w : World) (base b : Nat) (vl vs : Value) (u : Value) (s' : S) (e : Ending) (w' : World) : Prop := e = .returned u ∧ ∃ vs', MI w' base b vl vs' s' ∧ Fr w (fpm b vl vs) w' (fpm b vl vs')
theorem DdOut.same (h : MI w base b vl vs s) (u : Value) : DdOut w base b vl vs u s (.returned u) w := ⟨rfl, vs, h, Fr.refl _ _⟩
theorem put3_oth {w : World} {b k : Nat} (h : k ≠ b) (i j o : Nat) (x y z : Value) : (((w.setCell ⟨b, i, none⟩ x).setCell ⟨b, j, none⟩ y).setCell ⟨b, o, none⟩ z).heap[k]? = w.heap[k]? := by
  rw [heap_setCell_other _ ⟨b, o, none⟩ k _ h, heap_setCell_other _ ⟨b, j, none⟩ k _ h, heap_setCell_other _ ⟨b, i, none⟩ k _ h]
set_option maxHeartbeats 400000 in
theorem fail_yes (h : MI w base b vl vs s) (p a : Int) (he : 0 ≤ s.ep ∧ s.ep ≤ 1000000) (s' : S) (hs' : s' = { s with hole := p, gone := a, fl := false, ep := s.ep + 1 }) (hf : s.fl = false) :
    MI (((w.setCell ⟨b, 1, none⟩ (.int .i64 p)).setCell ⟨b, 3, none⟩ (.int .i64 a)).setCell ⟨b, 0, none⟩ (.int .i64 (s.ep + 1))) base b vl vs s' ∧ Fr w (fpm b vl vs) (((w.setCell ⟨b, 1, none⟩ (.int .i64 p)).setCell ⟨b, 3, none⟩ (.int .i64 a)).setCell ⟨b, 0, none⟩ (.int .i64 (s.ep + 1))) (fpm b vl vs) := by
  subst hs'
  refine ⟨h.setb rfl rfl ?_ (fun k hk => put3_oth hk _ _ _ _ _ _), fr_set (fr_set (fr_set (Fr.refl _ _) (.inl rfl) 1 _) (.inl rfl) 3 _) (.inl rfl) 0 _⟩
  have := heap_setCell_same _ b 0 _ _ (.int .i64 (s.ep + 1)) (heap_setCell_same _ b 3 _ _ (.int .i64 a) (heap_setCell_same w b 1 _ _ (.int .i64 p) h.row))
  rw [this, ← hf]
  rfl
set_option maxHeartbeats 1000000 in
theorem failM_any (h : MI w base b vl vs s) (g : Mb.G s) (he : s.ep ≤ 1000000) (a k : Int) : Calls Try.prog 20 #[.pointer (some ⟨b, 0, none⟩), .int .i64 a, .int .i64 k] w (DdOut w base b vl vs (.int .i64 (Mb.fc s a k)) (Mb.fs s a k)) := by
  obtain ⟨ad, cap, hv, hx, _⟩ := h.ol.at
  have hi := index_any ad cap s.l a w (by have := g.g.2.1; omega) hx.at'
  have HNO : Hid (¬ Mb.fc s a k = 0 → DdOut w base b vl vs (.int .i64 (Mb.fc s a k)) (Mb.fs s a k) (.returned (.int .i64 (Mb.fc s a k))) w) := Hid_of fun e => by rw [Mb.fs_no e]; exact DdOut.same h _
  obtain ⟨⟨c0, c1, c2, c3, c4, c5⟩, cf⟩ := row6 h.row
  have f1 := cf 1
  have f3 := cf 3
  rw [hv] at c4
  have HH := Hid_of h
  have HG := Hid_of g
  have hlo := g.lo
  clear h cf hx g
  rcases Mb.fc_cases s a k with ⟨k1, k2⟩ | ⟨k1, k2, k3⟩ | ⟨k1, k2, k3, k4⟩ | ⟨k1, k2, k3, k4⟩
  · have HQ := Hid_of (HNO.out (by rw [k2]; decide))
    rw [k2] at HQ ⊢
    have d1 : decide (Mb.pl s.l a < 0) = true := decide_eq_true k1
    clear HNO k2
    go_enter Try.func20, Try.ntmps20
    go_wp2_with fail
    refine hi.mono ?_
    rintro e w1 ⟨rfl, rfl⟩
    go_wp2
    go_ret
    exact HQ.out
  · have HQ := Hid_of (HNO.out (by rw [k3]; decide))
    rw [k3] at HQ ⊢
    have d1 : decide (Mb.pl s.l a < 0) = false := decide_eq_false (by omega)
    have d2 : (s.hole == -1) = false := beq_false_of_ne (by omega)
    clear HNO k3
    go_enter Try.func20, Try.ntmps20
    go_wp2_with fail
    refine hi.mono ?_
    rintro e w1 ⟨rfl, rfl⟩
    go_wp2
    go_ret
    exact HQ.out
  · have HQ := Hid_of (HNO.out (by rw [k4]; decide))
    rw [k4] at HQ ⊢
    have d1 : decide (Mb.pl s.l a < 0) = false := decide_eq_false (by omega)
    have d2 : (s.hole == -1) = true := beq_iff_eq.2 (by omega)
    have d3 : (k == s.ep) = false := beq_false_of_ne k3
    clear HNO k4
    go_enter Try.func20, Try.ntmps20
    go_wp2_with fail
    refine hi.mono ?_
    rintro e w1 ⟨rfl, rfl⟩
    go_wp2
    go_ret
    exact HQ.out
  · have he0 : 0 ≤ s.ep ∧ s.ep ≤ 1000000 := ⟨by have := HG.out.ep; omega, he⟩
    obtain ⟨hm, hf⟩ := fail_yes HH.out (Mb.pl s.l a) a he0 (Mb.fs s a k) (Mb.fs_yes k4) (HG.out.no k2).1
    have HM := Hid_of hm
    have HF := Hid_of hf
    have hr := heap_setCell_same _ b 3 _ _ (.int .i64 a) (heap_setCell_same w b 1 _ _ (.int .i64 (Mb.pl s.l a)) HH.out.row)
    have hri := rise_any (w := (w.setCell ⟨b, 1, none⟩ (.int .i64 (Mb.pl s.l a))).setCell ⟨b, 3, none⟩ (.int .i64 a)) (b := b) hr he0
    rw [k4]
    have d1 : decide (Mb.pl s.l a < 0) = false := decide_eq_false (by omega)
    have d2 : (s.hole == -1) = true := beq_iff_eq.2 (by omega)
    have d3 : (k == s.ep) = true := beq_iff_eq.2 k3
    clear HNO k4 hm hf hr HH HG
    generalize Mb.pl s.l a = p at *
    go_enter Try.func20, Try.ntmps20
    go_wp2_with fail
    refine hi.mono ?_
    rintro e w1 ⟨rfl, rfl⟩
    go_wp2_with fail
    refine hri.mono ?_
    rintro e w2 ⟨rfl, rfl⟩
    go_wp2
    go_ret
    exact ⟨rfl, vs, HM.out, HF.out⟩
theorem done_yes (h : MI w base b vl vs s) (s' : S) (hs' : s' = { s with hole := -1, gone := -1, fl := false, ep := s.ep + 1 }) :
    MI ((((w.setCell ⟨b, 1, none⟩ (.int .i64 (-1))).setCell ⟨b, 2, none⟩ (.bool false)).setCell ⟨b, 3, none⟩ (.int .i64 (-1))).setCell ⟨b, 0, none⟩ (.int .i64 (s.ep + 1))) base b vl vs s' ∧ Fr w (fpm b vl vs) ((((w.setCell ⟨b, 1, none⟩ (.int .i64 (-1))).setCell ⟨b, 2, none⟩ (.bool false)).setCell ⟨b, 3, none⟩ (.int .i64 (-1))).setCell ⟨b, 0, none⟩ (.int .i64 (s.ep + 1))) (fpm b vl vs) := by
  subst hs'
  refine ⟨h.setb rfl rfl ?_ (fun k hk => ?_), fr_set (fr_set (fr_set (fr_set (Fr.refl _ _) (.inl rfl) 1 _) (.inl rfl) 2 _) (.inl rfl) 3 _) (.inl rfl) 0 _⟩
  · have := heap_setCell_same _ b 0 _ _ (.int .i64 (s.ep + 1)) (heap_setCell_same _ b 3 _ _ (.int .i64 (-1)) (heap_setCell_same _ b 2 _ _ (.bool false) (heap_setCell_same w b 1 _ _ (.int .i64 (-1)) h.row)))
    rw [this]
    rfl
  · rw [heap_setCell_other _ ⟨b, 0, none⟩ k _ hk, put3_oth hk]
set_option maxHeartbeats 1000000 in
theorem doneM_any (h : MI w base b vl vs s) (g : Mb.G s) (he : s.ep ≤ 1000000) (a : Int) : Calls Try.prog 22 #[.pointer (some ⟨b, 0, none⟩), .int .i64 a] w (DdOut w base b vl vs (.int .i64 (Mb.dc s a)) (Mb.ds s a)) := by
  have HNO : Hid (¬ Mb.dc s a = 0 → DdOut w base b vl vs (.int .i64 (Mb.dc s a)) (Mb.ds s a) (.returned (.int .i64 (Mb.dc s a))) w) := Hid_of fun e => by rw [Mb.ds_no e]; exact DdOut.same h _
  obtain ⟨⟨c0, c1, c2, c3, c4, c5⟩, cf⟩ := row6 h.row
  have f1 := cf 1
  have f2 := cf 2
  have f3 := cf 3
  have HH := Hid_of h
  have HG := Hid_of g
  clear h cf
  rcases Mb.dc_cases g a with ⟨k1, k2⟩ | ⟨k1, k2, k3⟩ | ⟨k1, k2, k3, k4⟩
  · have HQ := Hid_of (HNO.out (by rw [k2]; decide))
    rw [k2] at HQ ⊢
    have d1 : (a == s.ep) = false := beq_false_of_ne k1
    clear HNO k2 g
    go_enter Try.func22, Try.ntmps22
    go_wp2
    go_ret
    exact HQ.out
  · have HQ := Hid_of (HNO.out (by rw [k3]; decide))
    rw [k3] at HQ ⊢
    have d1 : (a == s.ep) = true := beq_iff_eq.2 k1
    clear HNO k3 g
    go_enter Try.func22, Try.ntmps22
    go_wp2
    go_ret
    exact HQ.out
  · have he0 : 0 ≤ s.ep ∧ s.ep ≤ 1000000 := ⟨by have := HG.out.ep; omega, he⟩
    obtain ⟨hm, hf⟩ := done_yes HH.out (Mb.ds s a) (Mb.ds_yes k4)
    have HM := Hid_of hm
    have HF := Hid_of hf
    have hr := heap_setCell_same _ b 3 _ _ (.int .i64 (-1)) (heap_setCell_same _ b 2 _ _ (.bool false) (heap_setCell_same w b 1 _ _ (.int .i64 (-1)) HH.out.row))
    have hri := rise_any (w := ((w.setCell ⟨b, 1, none⟩ (.int .i64 (-1))).setCell ⟨b, 2, none⟩ (.bool false)).setCell ⟨b, 3, none⟩ (.int .i64 (-1))) (b := b) hr he0
    rw [k4]
    have d1 : (a == s.ep) = true := beq_iff_eq.2 k1
    clear HNO k4 hm hf hr HH HG g
    go_enter Try.func22, Try.ntmps22
    go_wp2_with fail
    refine hri.mono ?_
    rintro e w2 ⟨rfl, rfl⟩
    go_wp2
    go_ret
    exact ⟨rfl, vs, HM.out, HF.out⟩
end
end Go.Proofs.Ytacfndfkoiifhaa
