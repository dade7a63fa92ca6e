/- A deed of both. -/
import Derived.Test.YtgcfpihfoekllaaFD
import Derived.Test.YtgcfpihfoekllaaNoneW

namespace Go.Proofs.Ytgcfpihfoekllaa

open Go.RowKit

set_option linter.unusedVariables false

open Sm (S)

namespace Sm
/-- A deed, by its kind. -/
def dd (m : List S) (k a b c : Int) (l : List Int) : List S :=
  if k = 0 then bm m ⟨1, a, b, c, l⟩ else if k = 1 then cm m a b else if k = 2 then fm m a else if k = 3 then dm m a else if k = 4 then mm m a b c else m
end Sm
def ddD (m : List S) (d : D) : List S := Sm.dd m d.k d.a d.b d.c d.l
/-- Both side by side. -/
structure Two (w0 w : World) (b : Nat) (K : Nat → Prop) (v : Value) (m : List S) : Prop where
  ai : AwI w0 w b K m
  dm : DM w K v m
section
variable {w0 w w' w'' : World} {b : Nat} {K K' : Nat → Prop} {v u : Value} {m m' : List S}
theorem Two.keep (h : Two w0 w b K v m) (hb : Below w.heap.size w w') : Two w0 w' b K v m := ⟨h.ai.keep hb, h.dm.keep hb⟩
theorem Two.kn (h : Two w0 w b K v m) (hb : Below w.heap.size w w') : Two w0 w' b (Kn K w w') v m := ⟨h.ai.kn hb, h.dm.kn hb⟩
theorem Two.g (h : Two w0 w b K v m) : Sm.G m := h.ai.g
theorem Two.sub (h : Two w0 w b K v m) (hs : ∀ k, K k → K' k) (hA : AwI w0 w b K' m) : Two w0 w b K' v m := ⟨hA, h.dm.sub hs⟩
/-- What a deed of both leaves. -/
def DoOut (w0 w : World) (b : Nat) (K : Nat → Prop) (m' : List S) (e : Ending) (w' : World) : Prop := ∃ u K', e = .returned (.tuple #[u, .bool true]) ∧ Two w0 w' b K' u m' ∧ Sk K w w' ∧ ∀ k, K k → K' k
theorem DoOut.mk' {w2 : World} (h : AwI w0 w b K m) (hb : Below w.heap.size w w2) (hd : DM w2 (Kn K w w2) u m') (ha : AwI w0 w' b (Kn K w w2) m') (hs : Sk (Kn K w w2) w2 w') : DoOut w0 w b K m' (.returned (.tuple #[u, .bool true])) w' :=
  ⟨u, Kn K w w2, rfl, ⟨ha, hd.sk hs⟩, (h.sk hb).trans (hs.sub fun k hk => .inl hk), fun k hk => .inl hk⟩
theorem dbox {x : D} {W : World} {B : Nat} (h : W.heap[B]? = some (dO x)) : W.cell? ⟨B, 0, none⟩ = some (.int .i64 x.k) ∧ W.cell? ⟨B, 1, none⟩ = some (.int .i64 x.a) ∧ W.cell? ⟨B, 2, none⟩ = some (.int .i64 x.b) ∧ W.cell? ⟨B, 3, none⟩ = some (.int .i64 x.c) ∧ W.cell? ⟨B, 4, none⟩ = some (.slice x.sa x.l.length x.sc) := (row5 h).1
set_option maxRecDepth 100000 in
set_option maxHeartbeats 2000000 in
theorem do_any (h : Two w0 w b K v m) (x : D) (hx : DOk w x) (hl : x.l.length ≤ 1000000) : Calls Try.prog 11 #[.pointer (some ⟨b, 0, none⟩), v, dV x] w (DoOut w0 w b K (ddD m x)) := by
  have hG := h.g
  have hb1 := bel1 w (dO x)
  have hr1 := heap_alloc_last w (dO x)
  obtain ⟨W1, HW1⟩ : ∃ W1, Hid (w.alloc (dO x) = W1) := ⟨_, rfl⟩
  rw [HW1.out] at hb1 hr1
  obtain ⟨B, HB⟩ : ∃ B, Hid (w.heap.size = B) := ⟨_, rfl⟩
  rw [HB.out] at hr1
  have HT1 : Hid (Two w0 W1 b K v m) := Hid_of (h.keep hb1)
  have HAT := Hid_of (hx.at'.keep hb1)
  have HBD := Hid_of hx.bd
  have HR1 := Hid_of hr1
  have HPRE : Hid (∀ {m' : List S} {e : Ending} {w' : World}, DoOut w0 W1 b K m' e w' → DoOut w0 w b K m' e w') := Hid_of fun hq => by
    obtain ⟨u, K', q1, q2, q3, q4⟩ := hq
    exact ⟨u, K', q1, q2, (h.ai.sk hb1).trans q3, q4⟩
  have HG := Hid_of hG
  obtain ⟨k, a, b', c, sa, sc, l⟩ := x
  obtain ⟨c0, c1, c2, c3, c4⟩ := dbox hr1
  have hln := hG.ln
  have hKlt : ∀ q, K q → q < W1.heap.size := fun q hq => HT1.out.ai.lt hq
  clear h hx hG hb1 hr1
  simp only at hl
  have HP2 : Hid (∀ W2 : World, Below W1.heap.size W1 W2 → W2.cell? ⟨B, 0, none⟩ = some (.int .i64 k) ∧ W2.cell? ⟨B, 1, none⟩ = some (.int .i64 a) ∧ W2.cell? ⟨B, 2, none⟩ = some (.int .i64 b') ∧ W2.cell? ⟨B, 3, none⟩ = some (.int .i64 c) ∧ W2.cell? ⟨B, 4, none⟩ = some (.slice sa l.length sc)) := Hid_of fun W2 hb => dbox (bel_row HR1.out hb)
  by_cases k0 : k = 0
  · subst k0
    have hd := refBegin_any HT1.out.dm HG.out a b' c sa sc l HBD.out hl HAT.out
    have HP : Hid (∀ W2 : World, Below W1.heap.size W1 W2 → Calls Try.prog 26 #[.pointer (some ⟨b, 0, none⟩), .int .i64 a, .int .i64 b', .int .i64 c, .slice sa l.length sc] W2 fun e w' => e = .returned (.tuple #[.int .i64 (Sm.bv m ⟨1, a, b', c, l⟩), .int .i64 (Sm.bc m ⟨1, a, b', c, l⟩)]) ∧ AwI w0 w' b (Kn K W1 W2) (Sm.bm m ⟨1, a, b', c, l⟩) ∧ Sk (Kn K W1 W2) W2 w') := Hid_of fun W2 hb => (HT1.out.ai.kn hb).begin a b' c sa sc l HBD.out hl (HAT.out.keep hb)
    have HE : Hid (ddD m ⟨0, a, b', c, sa, sc, l⟩ = Sm.bm m ⟨1, a, b', c, l⟩) := Hid_of (by unfold ddD Sm.dd; rw [if_pos rfl])
    rw [HE.out]
    have HAI := Hid_of HT1.out.ai
    generalize Sm.bv m ⟨1, a, b', c, l⟩ = bv at *
    generalize Sm.bc m ⟨1, a, b', c, l⟩ = bc at *
    clear hKlt hln HE
    go_enter Try.func11, Try.ntmps11
    go_upto_region 1 with fail
    rw [HW1.out, HB.out]
    clear HW1 HB
    go_wp2_with fail
    refine hd.mono ?_
    rintro e w2 ⟨u, rfl, hb2, hd2⟩
    have hp := HP.out w2 hb2
    have HD2 := Hid_of hd2
    have HB2 := Hid_of hb2
    clear hd hd2 c0 c1 c2 c3 c4
    obtain ⟨c0, c1, c2, c3, c4⟩ := HP2.out w2 hb2
    clear hb2 HP
    go_wp2_with fail
    refine hp.mono ?_
    rintro e w3 ⟨rfl, ha3, hs3⟩
    have HQ := Hid_of (HPRE.out (DoOut.mk' HAI.out HB2.out HD2.out ha3 hs3))
    clear hp ha3 hs3 c0 c1 c2 c3 c4
    go_wp2
    go_ret2
    exact HQ.out
  by_cases k1 : k = 1
  · subst k1
    have hd := refCommit_any HT1.out.dm hln a b'
    have HP : Hid (∀ W2 : World, Below W1.heap.size W1 W2 → Calls Try.prog 27 #[.pointer (some ⟨b, 0, none⟩), .int .i64 a, .int .i64 b'] W2 fun e w' => e = .returned (.int .i64 (Sm.cc m a b')) ∧ AwI w0 w' b (Kn K W1 W2) (Sm.cm m a b') ∧ Sk (Kn K W1 W2) W2 w') := Hid_of fun W2 hb => (HT1.out.ai.kn hb).commit a b'
    have HE : Hid (ddD m ⟨1, a, b', c, sa, sc, l⟩ = Sm.cm m a b') := Hid_of rfl
    rw [HE.out]
    have HAI := Hid_of HT1.out.ai
    generalize Sm.cc m a b' = cc at *
    clear hKlt hln HE k0
    go_enter Try.func11, Try.ntmps11
    go_upto_region 1 with fail
    rw [HW1.out, HB.out]
    clear HW1 HB
    go_wp2_with fail
    refine hd.mono ?_
    rintro e w2 ⟨u, rfl, hb2, hd2⟩
    have hp := HP.out w2 hb2
    have HD2 := Hid_of hd2
    have HB2 := Hid_of hb2
    clear hd hd2 c0 c1 c2 c3 c4
    obtain ⟨c0, c1, c2, c3, c4⟩ := HP2.out w2 hb2
    clear hb2 HP
    go_wp2_with fail
    refine hp.mono ?_
    rintro e w3 ⟨rfl, ha3, hs3⟩
    have HQ := Hid_of (HPRE.out (DoOut.mk' HAI.out HB2.out HD2.out ha3 hs3))
    clear hp ha3 hs3 c0 c1 c2 c3 c4
    go_wp2
    go_ret2
    exact HQ.out
  by_cases k2 : k = 2
  · subst k2
    have hd := refFree_any HT1.out.dm hln a
    have HP : Hid (∀ W2 : World, Below W1.heap.size W1 W2 → Calls Try.prog 28 #[.pointer (some ⟨b, 0, none⟩), .int .i64 a] W2 fun e w' => e = .returned (.int .i64 (Sm.fc m a)) ∧ AwI w0 w' b (Kn K W1 W2) (Sm.fm m a) ∧ Sk (Kn K W1 W2) W2 w') := Hid_of fun W2 hb => (HT1.out.ai.kn hb).free a
    have HE : Hid (ddD m ⟨2, a, b', c, sa, sc, l⟩ = Sm.fm m a) := Hid_of rfl
    rw [HE.out]
    have HAI := Hid_of HT1.out.ai
    generalize Sm.fc m a = cc at *
    clear hKlt hln HE k0 k1
    go_enter Try.func11, Try.ntmps11
    go_upto_region 1 with fail
    rw [HW1.out, HB.out]
    clear HW1 HB
    go_wp2_with fail
    refine hd.mono ?_
    rintro e w2 ⟨u, rfl, hb2, hd2⟩
    have hp := HP.out w2 hb2
    have HD2 := Hid_of hd2
    have HB2 := Hid_of hb2
    clear hd hd2 c0 c1 c2 c3 c4
    obtain ⟨c0, c1, c2, c3, c4⟩ := HP2.out w2 hb2
    clear hb2 HP
    go_wp2_with fail
    refine hp.mono ?_
    rintro e w3 ⟨rfl, ha3, hs3⟩
    have HQ := Hid_of (HPRE.out (DoOut.mk' HAI.out HB2.out HD2.out ha3 hs3))
    clear hp ha3 hs3 c0 c1 c2 c3 c4
    go_wp2
    go_ret2
    exact HQ.out
  by_cases k3 : k = 3
  · subst k3
    have hd := refDrop_any HT1.out.dm hKlt hln a
    have HP : Hid (∀ W2 : World, Below W1.heap.size W1 W2 → Calls Try.prog 25 #[.pointer (some ⟨b, 0, none⟩), .int .i64 a] W2 fun e w' => ∃ u, e = .returned u ∧ OwnL il 3 w' W2.heap.size u (Sm.ofOw m a) ∧ AwI w0 w' b (Kn K W1 W2) (Sm.dm m a) ∧ Sk (Kn K W1 W2) W2 w') := Hid_of fun W2 hb => (HT1.out.ai.kn hb).drop a
    have HE : Hid (ddD m ⟨3, a, b', c, sa, sc, l⟩ = Sm.dm m a) := Hid_of rfl
    rw [HE.out]
    have HAI := Hid_of HT1.out.ai
    have hil := Sm.ids_len (Sm.isOw a) m m.length
    clear hKlt HE k0 k1 k2
    go_enter Try.func11, Try.ntmps11
    go_upto_region 1 with fail
    rw [HW1.out, HB.out]
    clear HW1 HB
    go_wp2_with fail
    refine hd.mono ?_
    rintro e w2 ⟨u, r, rfl, hb2, ho2, hd2⟩
    have hp := HP.out w2 hb2
    have HD2 := Hid_of hd2
    have HB2 := Hid_of hb2
    have HO2 := Hid_of ho2
    clear hd hd2 c0 c1 c2 c3 c4 ho2
    obtain ⟨c0, c1, c2, c3, c4⟩ := HP2.out w2 hb2
    clear hb2 HP
    go_wp2_with fail
    refine hp.mono ?_
    rintro e w3 ⟨u3, rfl, ho3, ha3, hs3⟩
    obtain ⟨ar, cr, rfl, hxr, hkr⟩ := HO2.out.at
    obtain ⟨a3, c3', rfl, hx3, hk3⟩ := ho3.at
    have hin := ints_same (c1 := c3') (c2 := cr) (l := Sm.ofOw m a) (by show (Sm.ids (Sm.isOw a) m m.length).length ≤ _; omega) hx3.at' (hxr.at'.sk (fun k hk => .inr ⟨(hkr k hk).1, (hkr k hk).2.2⟩) hs3)
    have HQ : Hid (∀ w4 : World, Below w3.heap.size w3 w4 → DoOut w0 w b K (Sm.dm m a) (.returned (.tuple #[u, .bool true])) w4) := Hid_of fun w4 hb => HPRE.out (DoOut.mk' HAI.out HB2.out HD2.out (ha3.keep hb) (hs3.trans (ha3.sk hb)))
    clear hp ha3 hs3 ho3 hxr hx3 hkr hk3 hil c0 c1 c2 c3 c4 HO2
    go_wp2_with fail
    refine hin.mono ?_
    rintro e w4 ⟨rfl, hb4⟩
    have HQ2 := Hid_of (HQ.out w4 hb4)
    clear hin hb4 HQ
    go_wp2
    go_ret2
    exact HQ2.out
  by_cases k4 : k = 4
  · subst k4
    have hd := refMove_any HT1.out.dm HG.out a b' c
    have HP : Hid (∀ W2 : World, Below W1.heap.size W1 W2 → Calls Try.prog 29 #[.pointer (some ⟨b, 0, none⟩), .int .i64 a, .int .i64 b', .int .i64 c] W2 fun e w' => e = .returned (.int .i64 (Sm.mc m a b' c)) ∧ AwI w0 w' b (Kn K W1 W2) (Sm.mm m a b' c) ∧ Sk (Kn K W1 W2) W2 w') := Hid_of fun W2 hb => (HT1.out.ai.kn hb).move a b' c
    have HE : Hid (ddD m ⟨4, a, b', c, sa, sc, l⟩ = Sm.mm m a b' c) := Hid_of rfl
    rw [HE.out]
    have HAI := Hid_of HT1.out.ai
    generalize Sm.mc m a b' c = cc at *
    clear hKlt hln HE k0 k1 k2 k3
    go_enter Try.func11, Try.ntmps11
    go_upto_region 1 with fail
    rw [HW1.out, HB.out]
    clear HW1 HB
    go_wp2_with fail
    refine hd.mono ?_
    rintro e w2 ⟨u, rfl, hb2, hd2⟩
    have hp := HP.out w2 hb2
    have HD2 := Hid_of hd2
    have HB2 := Hid_of hb2
    clear hd hd2 c0 c1 c2 c3 c4
    obtain ⟨c0, c1, c2, c3, c4⟩ := HP2.out w2 hb2
    clear hb2 HP
    go_wp2_with fail
    refine hp.mono ?_
    rintro e w3 ⟨rfl, ha3, hs3⟩
    have HQ := Hid_of (HPRE.out (DoOut.mk' HAI.out HB2.out HD2.out ha3 hs3))
    clear hp ha3 hs3 c0 c1 c2 c3 c4
    go_wp2
    go_ret2
    exact HQ.out
  have e0 : (k == 0) = false := by simpa using k0
  have e1 : (k == 1) = false := by simpa using k1
  have e2 : (k == 2) = false := by simpa using k2
  have e3 : (k == 3) = false := by simpa using k3
  have e4 : (k == 4) = false := by simpa using k4
  have HE : Hid (ddD m ⟨k, a, b', c, sa, sc, l⟩ = m) := Hid_of (by unfold ddD Sm.dd; rw [if_neg k0, if_neg k1, if_neg k2, if_neg k3, if_neg k4])
  rw [HE.out]
  have HQ : Hid (DoOut w0 w b K m (.returned (.tuple #[v, .bool true])) W1) := Hid_of (HPRE.out ⟨v, K, rfl, HT1.out, Sk.refl _ _, fun _ h => h⟩)
  clear hKlt hln HE k0 k1 k2 k3 k4
  go_enter Try.func11, Try.ntmps11
  go_upto_region 1 with fail
  rw [HW1.out, HB.out]
  clear HW1 HB
  go_wp2
  go_ret2
  exact HQ.out
end

end Go.Proofs.Ytgcfpihfoekllaa
