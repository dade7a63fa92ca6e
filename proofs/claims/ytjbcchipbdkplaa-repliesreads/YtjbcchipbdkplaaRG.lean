/-
  A call is read.
-/
import Derived.Test.YtjbcchipbdkplaaRF
import Derived.Deep.CutRange
namespace Go.Proofs.Ytjbcchipbdkplaa
open Go.RowKit Go.Maps
set_option linter.unusedVariables false
open Rp (C fup)

namespace Rp
/-- What is read of a reader: its number, its byte, its text. -/
theorem rdC_busy (s : List UInt8) (h : vl 0 (M.byte (lft (nx (M.int s)))) = 1) : rdC s = (nx (M.byte (lft (nx (M.int s))))).map fun r => (⟨vl 0 (M.int s), true, []⟩, r) := by
  unfold rdC
  cases hi : M.int s with
  | none => rw [hi] at h; simp [nx, lft, M.byte, vl] at h
  | some p =>
    obtain ⟨i, r⟩ := p
    rw [hi] at h
    simp only [nx, Option.map_some, lft, Option.getD_some] at h ⊢
    cases hb : M.byte r with
    | none => rw [hb] at h; simp [vl] at h
    | some q =>
      obtain ⟨b, r1⟩ := q
      rw [hb] at h
      simp only [vl] at h
      simp [h, vl]
theorem rdC_reply (s : List UInt8) (h : vl 0 (M.byte (lft (nx (M.int s)))) = 0) : rdC s = if (vl [] (M.text (lft (nx (M.byte (lft (nx (M.int s)))))))).length ≤ 4096 then (nx (M.text (lft (nx (M.byte (lft (nx (M.int s)))))))).map fun r => (⟨vl 0 (M.int s), false, vl [] (M.text (lft (nx (M.byte (lft (nx (M.int s)))))))⟩, r) else none := by
  unfold rdC
  have e0 : M.text [] = none := rfl
  cases hi : M.int s with
  | none => simp [nx, lft, M.byte, e0]
  | some p =>
    obtain ⟨i, r⟩ := p
    rw [hi] at h
    simp only [nx, Option.map_some, lft, Option.getD_some] at h ⊢
    obtain ⟨o, ho⟩ : ∃ o, M.byte r = o := ⟨_, rfl⟩
    simp only [ho] at h ⊢
    cases o with
    | none => simp [e0]
    | some q =>
      obtain ⟨b, r1⟩ := q
      simp only [vl] at h
      subst h
      simp only [Option.map_some, Option.getD_some, if_neg (show ¬ ((0 : Int) = 1) by omega), if_true]
      obtain ⟨z, hz⟩ : ∃ z, M.text r1 = z := ⟨_, rfl⟩
      simp only [hz]
      cases z with
      | none => simp
      | some z =>
        obtain ⟨t, r2⟩ := z
        by_cases h4 : t.length ≤ 4096 <;> simp [vl, h4]
theorem rdC_else (s : List UInt8) (h1 : ¬ vl 0 (M.byte (lft (nx (M.int s)))) = 1) (h0 : ¬ vl 0 (M.byte (lft (nx (M.int s)))) = 0) : rdC s = none := by
  unfold rdC
  cases hi : M.int s with
  | none => rfl
  | some p =>
    obtain ⟨i, r⟩ := p
    rw [hi] at h1 h0
    simp only [nx, Option.map_some, lft, Option.getD_some] at h1 h0 ⊢
    cases hb : M.byte r with
    | none => rfl
    | some q =>
      obtain ⟨b, r1⟩ := q
      rw [hb] at h1 h0
      simp only [vl] at h1 h0
      simp [h1, h0]
/-- What a call's reading gave: whether it may be, and what is left. -/
def res {α : Type} (ok : Bool) (st : Option (List UInt8)) (x : α) : Option (α × List UInt8) := if ok then st.map fun r => (x, r) else none
theorem bind_C (st : Option (List UInt8)) (m : Nat) (last : Int) : st.bind (rdN (m + 1) last) = (rdC (lft st)).bind fun p => if p.1.id ≤ last ∨ mayI p.1.id = false then none else (rdN m p.1.id p.2).map fun q => (p.1 :: q.1, q.2) := by
  cases st with
  | none => rfl
  | some s =>
    show rdN (m + 1) last s = _
    rw [rdN]
    show _ = (rdC s).bind _
    cases rdC s with
    | none => rfl
    | some p => rfl
/-- All of it, when so many are read, and so many are left. -/
def Tot (tot : Option (List C × List UInt8)) (st : Option (List UInt8)) (m : Nat) (last : Int) (l : List C) : Prop := tot = (st.bind (rdN m last)).map fun p => (l ++ p.1, p.2)
theorem Tot.no {tot : Option (List C × List UInt8)} {st st' : Option (List UInt8)} {m : Nat} {last : Int} {l : List C} {c : C} {ok : Bool} (h : Tot tot st (m + 1) last l) (hc : rdC (lft st) = res ok st' c) (hb : ok = false ∨ c.id ≤ last ∨ mayI c.id = false) : tot = none := by
  unfold Tot at h
  rw [h, bind_C, hc]
  unfold res
  cases ok with
  | false => rfl
  | true =>
    cases st' with
    | none => rfl
    | some r =>
      rcases hb with hb | hb
      · cases hb
      · simp only [if_true, Option.map_some, Option.bind_some]
        rw [if_pos hb]
        rfl
theorem Tot.go {tot : Option (List C × List UInt8)} {st st' : Option (List UInt8)} {m : Nat} {last : Int} {l : List C} {c : C} (h : Tot tot st (m + 1) last l) (hc : rdC (lft st) = res true st' c) (h1 : ¬ c.id ≤ last) (h2 : mayI c.id = true) : Tot tot st' m c.id (l ++ [c]) := by
  unfold Tot at h ⊢
  rw [h, bind_C, hc]
  unfold res
  cases st' with
  | none => rfl
  | some r =>
    simp only [if_true, Option.map_some, Option.bind_some]
    rw [if_neg (by rw [h2]; simp; omega)]
    cases rdN m c.id r with
    | none => rfl
    | some q => simp
theorem Tot.done {tot : Option (List C × List UInt8)} {st : Option (List UInt8)} {last : Int} {l : List C} (h : Tot tot st 0 last l) : tot = res true st l := by
  unfold Tot at h
  rw [h]
  unfold res
  cases st with
  | none => rfl
  | some s => simp [rdN]
end Rp
theorem gset {a c : World} {r : Option Nat} (h : a.grownBy c r) (k o : Nat) (u : Value) (hk : a.heap.size ≤ k) : a.grownBy (c.setCell ⟨k, o, none⟩ u) r := h.andThen (grown_set c k o u) (fun j hj => by cases hj; exact .inl hk)
theorem galloc {a c : World} {r : Option Nat} (h : a.grownBy c r) (o : Obj) : a.grownBy (c.alloc o) r := h.andThen (World.grownBy_alloc c o none) (fun j hj => by cases hj)
theorem grefl (a : World) (r : Option Nat) : a.grownBy a r := ⟨rfl, rfl, rfl, Nat.le_refl _, fun _ _ _ => rfl⟩
theorem row3set {w : World} {k : Nat} {v0 v1 v2 : Value} {t : TypeId} (h : w.heap[k]? = some (.cells #[v0, v1, v2] t (0, 0))) (a b c : Value) : (((w.setCell ⟨k, 0, none⟩ a).setCell ⟨k, 1, none⟩ b).setCell ⟨k, 2, none⟩ c).heap[k]? = some (.cells #[a, b, c] t (0, 0)) :=
  heap_setCell_same _ k 2 _ _ c (heap_setCell_same _ k 1 _ _ b (heap_setCell_same w k 0 _ _ a h))
/-- What readCall gives. -/
def CRes (w : World) (b : Nat) (st : Option (List UInt8)) (e : Ending) (w' : World) : Prop :=
  ∃ (c : C) (ok : Bool) (st' : Option (List UInt8)), e = .returned (.tuple #[.agg #[.int .i64 c.id, .bool c.busy, .string (ofL c.reply)], .bool ok]) ∧ RS w' b st' ∧ w.grownBy w' (some b) ∧ (lft st').length ≤ (lft st).length ∧ Rp.rdC (lft st) = Rp.res ok st' c
theorem grown_row {w w' : World} {b g : Nat} {o : Obj} (h : w.grownBy w' (some b)) (hg : w.heap[g]? = some o) (hne : g ≠ b) : w'.heap[g]? = some o := (h.block g (Array.getElem?_eq_some_iff.1 hg).1 (fun e => hne (by cases e; rfl))).trans hg
set_option maxRecDepth 100000 in
set_option maxHeartbeats 1000000 in
theorem readCall_busy (b : Nat) (st : Option (List UInt8)) (w : World) (hr : RS w b st) (hl : (lft st).length ≤ 100000000) (hv : vl 0 (M.byte (lft (nx (M.int (lft st))))) = 1) :
    Calls Try.prog 77 #[.pointer (some ⟨b, 0, none⟩)] w (CRes w b st) := by
  have hbl := hr.lt
  obtain ⟨W1, HW1⟩ : ∃ W1, Hid (w.alloc (.cells #[.int .i64 0, .bool false, .string ⟨#[]⟩] 66) = W1) := ⟨_, Hid_of rfl⟩
  have HG1 : Hid (w.grownBy W1 (some b)) := by rw [← HW1.out]; exact galloc (grefl _ _) _
  have hs1 : W1.heap.size = w.heap.size + 1 := by rw [← HW1.out]; simp
  have HR1 : Hid (W1.heap[w.heap.size]? = some (.cells #[.int .i64 0, .bool false, .string ⟨#[]⟩] 66 (0, 0))) := by rw [← HW1.out]; exact heap_alloc_last w _
  have hrs1 : RS W1 b st := hr.keep (by rw [← HW1.out]; exact Below.heap_alloc w _ _ hbl)
  have hi := int_rs b st W1 hrs1 (by omega)
  have hil := int_left (lft st)
  have HBL := Hid_of hbl
  have HS1 := Hid_of hs1
  clear hr hrs1 hs1 hbl
  go_enter Try.func77, Try.ntmps77
  go_upto_region 1 with fail
  rw [HW1.out]
  go_wp2_with fail
  refine hi.mono ?_
  rintro e w2 ⟨rfl, hr2, hg2⟩
  obtain ⟨W3, HW3⟩ : ∃ W3, Hid (w2.alloc (.cells #[.int .i64 (vl 0 (M.int (lft st))), .bool false, .string ⟨#[]⟩] 66) = W3) := ⟨_, Hid_of rfl⟩
  have HS2 : Hid (w.heap.size + 1 ≤ w2.heap.size) := Hid_of (by have := hg2.size; have := HS1.out; omega)
  have HG3 : Hid (w.grownBy W3 (some b)) := by rw [← HW3.out]; exact galloc (grown_trans HG1.out hg2) _
  have HS3 : Hid (W3.heap.size = w2.heap.size + 1) := Hid_of (by rw [← HW3.out]; simp)
  have HR3 : Hid (W3.heap[w2.heap.size]? = some (.cells #[.int .i64 (vl 0 (M.int (lft st))), .bool false, .string ⟨#[]⟩] 66 (0, 0))) := by rw [← HW3.out]; exact heap_alloc_last w2 _
  have HQ3 : Hid (W3.heap[w.heap.size]? = some (.cells #[.int .i64 0, .bool false, .string ⟨#[]⟩] 66 (0, 0))) := by
    rw [← HW3.out, Below.heap_alloc w2 _ w.heap.size (by have := HS2.out; omega)]
    exact grown_row hg2 HR1.out (by have := HBL.out; omega)
  have hrs3 : RS W3 b (nx (M.int (lft st))) := hr2.keep (by rw [← HW3.out]; exact Below.heap_alloc w2 _ _ hr2.lt)
  have hby := byte_rs b _ W3 hrs3 (by omega)
  have hbyl := byte_left (lft (nx (M.int (lft st))))
  clear hr2 hg2 hrs3 hi HR1 HG1
  rw [hv] at hby
  go_upto_region 2 with fail
  rw [HW3.out]
  go_wp2_with fail
  refine hby.mono ?_
  rintro e w4 ⟨rfl, hr4, hg4⟩
  have hR4 := grown_row hg4 HR3.out (by have := HBL.out; have := HS2.out; omega)
  have hQ4 := grown_row hg4 HQ3.out (by have := HBL.out; omega)
  have hG4 := grown_trans HG3.out hg4
  obtain ⟨⟨r0, r1, r2⟩, rf⟩ := row3 hR4
  obtain ⟨⟨z0, z1, z2⟩, zf⟩ := row3 hQ4
  have hne : w.heap.size ≠ w2.heap.size := by have := HS2.out; omega
  have hws : w.heap.size ≤ w2.heap.size := by have := HS2.out; omega
  have HBW : Hid (b ≠ w.heap.size) := Hid_of (by have := HBL.out; omega)
  have HBX : Hid (b ≠ w2.heap.size) := Hid_of (by have := HBL.out; omega)
  have zf0 := zf 0
  have zf1 := zf 1
  have zf2 := zf 2
  have rf1 := rf 1
  have rf2 := rf 2
  generalize hi0 : vl 0 (M.int (lft st)) = i0 at *
  clear HW1 HW3 hg4 HG3 HR3 HQ3 hby HS3 zf rf
  obtain ⟨W5, HW5⟩ : ∃ W5, Hid (w4.setCell ⟨w2.heap.size, 1, none⟩ (.bool true) = W5) := ⟨_, Hid_of rfl⟩
  have hR5 : W5.heap[w2.heap.size]? = some (.cells #[.int .i64 i0, .bool true, .string ⟨#[]⟩] 66 (0, 0)) := by rw [← HW5.out]; exact heap_setCell_same w4 _ 1 _ _ _ hR4
  have hQ5 : W5.heap[w.heap.size]? = some (.cells #[.int .i64 0, .bool false, .string ⟨#[]⟩] 66 (0, 0)) := by rw [← HW5.out, heap_setCell_other w4 ⟨w2.heap.size, 1, none⟩ _ _ hne]; exact hQ4
  have hr5 : RS W5 b (nx (M.byte (lft (nx (M.int (lft st)))))) := hr4.keep (by rw [← HW5.out]; exact heap_setCell_other w4 ⟨w2.heap.size, 1, none⟩ b _ HBX.out)
  have hG5 : w.grownBy W5 (some b) := by rw [← HW5.out]; exact gset hG4 _ _ _ hws
  obtain ⟨⟨y0, y1, y2⟩, _⟩ := row3 hR5
  obtain ⟨⟨x0, x1, x2⟩, xf⟩ := row3 hQ5
  have xf0 := xf 0
  have xf1 := xf 1
  have xf2 := xf 2
  obtain ⟨W6, HW6⟩ : ∃ W6, Hid (((W5.setCell ⟨w.heap.size, 0, none⟩ (.int .i64 i0)).setCell ⟨w.heap.size, 1, none⟩ (.bool true)).setCell ⟨w.heap.size, 2, none⟩ (.string ⟨#[]⟩) = W6) := ⟨_, Hid_of rfl⟩
  have HR6 : Hid (W6.heap[w.heap.size]? = some (.cells #[.int .i64 i0, .bool true, .string ⟨#[]⟩] 66 (0, 0))) := by rw [← HW6.out]; exact row3set hQ5 _ _ _
  have HK : Hid (CRes w b st (.returned (.tuple #[.agg #[.int .i64 i0, .bool true, .string ⟨#[]⟩], .bool true])) W6) := by
    refine ⟨⟨i0, true, []⟩, true, _, rfl, hr5.keep ?_, ?_, by omega, ?_⟩
    · rw [← HW6.out, heap_setCell_other _ ⟨w.heap.size, 2, none⟩ b _ HBW.out, heap_setCell_other _ ⟨w.heap.size, 1, none⟩ b _ HBW.out, heap_setCell_other _ ⟨w.heap.size, 0, none⟩ b _ HBW.out]
    · rw [← HW6.out]; exact gset (gset (gset hG5 _ _ _ (Nat.le_refl _)) _ _ _ (Nat.le_refl _)) _ _ _ (Nat.le_refl _)
    · rw [Rp.rdC_busy _ hv, hi0]; rfl
  clear hR4 hQ4 hR5 hQ5 hr4 hr5 hG4 hG5 xf hv hil hbyl hi0
  go_upto_region 5 with fail
  rw [HW5.out]
  go_wp2
  rw [HW6.out]
  refine bodyPost_ret (v := .tuple #[.agg #[.int .i64 i0, .bool true, .string ⟨#[]⟩], .bool true]) ?_ rfl HK.out
  rw [results_cell_tmp rfl]
  obtain ⟨⟨u0, u1, u2⟩, _⟩ := row3 HR6.out
  go_simp
set_option maxRecDepth 100000 in
set_option maxHeartbeats 1000000 in
theorem readCall_else (b : Nat) (st : Option (List UInt8)) (w : World) (hr : RS w b st) (hl : (lft st).length ≤ 100000000) (hv1 : ¬ vl 0 (M.byte (lft (nx (M.int (lft st))))) = 1) (hv0 : ¬ vl 0 (M.byte (lft (nx (M.int (lft st))))) = 0) :
    Calls Try.prog 77 #[.pointer (some ⟨b, 0, none⟩)] w (CRes w b st) := by
  have hbl := hr.lt
  obtain ⟨W1, HW1⟩ : ∃ W1, Hid (w.alloc (.cells #[.int .i64 0, .bool false, .string ⟨#[]⟩] 66) = W1) := ⟨_, Hid_of rfl⟩
  have HG1 : Hid (w.grownBy W1 (some b)) := by rw [← HW1.out]; exact galloc (grefl _ _) _
  have hs1 : W1.heap.size = w.heap.size + 1 := by rw [← HW1.out]; simp
  have HR1 : Hid (W1.heap[w.heap.size]? = some (.cells #[.int .i64 0, .bool false, .string ⟨#[]⟩] 66 (0, 0))) := by rw [← HW1.out]; exact heap_alloc_last w _
  have hrs1 : RS W1 b st := hr.keep (by rw [← HW1.out]; exact Below.heap_alloc w _ _ hbl)
  have hi := int_rs b st W1 hrs1 (by omega)
  have hil := int_left (lft st)
  have HBL := Hid_of hbl
  have HS1 := Hid_of hs1
  clear hr hrs1 hs1 hbl
  go_enter Try.func77, Try.ntmps77
  go_upto_region 1 with fail
  rw [HW1.out]
  go_wp2_with fail
  refine hi.mono ?_
  rintro e w2 ⟨rfl, hr2, hg2⟩
  obtain ⟨W3, HW3⟩ : ∃ W3, Hid (w2.alloc (.cells #[.int .i64 (vl 0 (M.int (lft st))), .bool false, .string ⟨#[]⟩] 66) = W3) := ⟨_, Hid_of rfl⟩
  have HS2 : Hid (w.heap.size + 1 ≤ w2.heap.size) := Hid_of (by have := hg2.size; have := HS1.out; omega)
  have HG3 : Hid (w.grownBy W3 (some b)) := by rw [← HW3.out]; exact galloc (grown_trans HG1.out hg2) _
  have HS3 : Hid (W3.heap.size = w2.heap.size + 1) := Hid_of (by rw [← HW3.out]; simp)
  have HR3 : Hid (W3.heap[w2.heap.size]? = some (.cells #[.int .i64 (vl 0 (M.int (lft st))), .bool false, .string ⟨#[]⟩] 66 (0, 0))) := by rw [← HW3.out]; exact heap_alloc_last w2 _
  have HQ3 : Hid (W3.heap[w.heap.size]? = some (.cells #[.int .i64 0, .bool false, .string ⟨#[]⟩] 66 (0, 0))) := by
    rw [← HW3.out, Below.heap_alloc w2 _ w.heap.size (by have := HS2.out; omega)]
    exact grown_row hg2 HR1.out (by have := HBL.out; omega)
  have hrs3 : RS W3 b (nx (M.int (lft st))) := hr2.keep (by rw [← HW3.out]; exact Below.heap_alloc w2 _ _ hr2.lt)
  have hby := byte_rs b _ W3 hrs3 (by omega)
  have hbyl := byte_left (lft (nx (M.int (lft st))))
  clear hr2 hg2 hrs3 hi HR1 HG1
  have HN := Hid_of (Rp.rdC_else _ hv1 hv0)
  generalize hbv : vl 0 (M.byte (lft (nx (M.int (lft st))))) = bv at *
  clear hbv
  go_upto_region 2 with fail
  rw [HW3.out]
  go_wp2_with fail
  refine hby.mono ?_
  rintro e w4 ⟨rfl, hr4, hg4⟩
  have hR4 := grown_row hg4 HR3.out (by have := HBL.out; have := HS2.out; omega)
  have hQ4 := grown_row hg4 HQ3.out (by have := HBL.out; omega)
  have hG4 := grown_trans HG3.out hg4
  obtain ⟨⟨r0, r1, r2⟩, rf⟩ := row3 hR4
  obtain ⟨⟨z0, z1, z2⟩, zf⟩ := row3 hQ4
  have hne : w.heap.size ≠ w2.heap.size := by have := HS2.out; omega
  have hws : w.heap.size ≤ w2.heap.size := by have := HS2.out; omega
  have HBW : Hid (b ≠ w.heap.size) := Hid_of (by have := HBL.out; omega)
  have HBX : Hid (b ≠ w2.heap.size) := Hid_of (by have := HBL.out; omega)
  have zf0 := zf 0
  have zf1 := zf 1
  have zf2 := zf 2
  have rf1 := rf 1
  have rf2 := rf 2
  generalize hi0 : vl 0 (M.int (lft st)) = i0 at *
  clear HW1 HW3 hg4 HG3 HR3 HQ3 hby HS3 zf rf
  obtain ⟨W6, HW6⟩ : ∃ W6, Hid (((w4.setCell ⟨w.heap.size, 0, none⟩ (.int .i64 0)).setCell ⟨w.heap.size, 1, none⟩ (.bool false)).setCell ⟨w.heap.size, 2, none⟩ (.string ⟨#[]⟩) = W6) := ⟨_, Hid_of rfl⟩
  have HR6 : Hid (W6.heap[w.heap.size]? = some (.cells #[.int .i64 0, .bool false, .string ⟨#[]⟩] 66 (0, 0))) := by rw [← HW6.out]; exact row3set hQ4 _ _ _
  have HK : Hid (CRes w b st (.returned (.tuple #[.agg #[.int .i64 0, .bool false, .string ⟨#[]⟩], .bool false])) W6) := by
    refine ⟨⟨0, false, []⟩, false, _, rfl, hr4.keep ?_, ?_, by omega, ?_⟩
    · rw [← HW6.out, heap_setCell_other _ ⟨w.heap.size, 2, none⟩ b _ HBW.out, heap_setCell_other _ ⟨w.heap.size, 1, none⟩ b _ HBW.out, heap_setCell_other _ ⟨w.heap.size, 0, none⟩ b _ HBW.out]
    · rw [← HW6.out]; exact gset (gset (gset hG4 _ _ _ (Nat.le_refl _)) _ _ _ (Nat.le_refl _)) _ _ _ (Nat.le_refl _)
    · rw [HN.out]; rfl
  clear hR4 hQ4 hr4 hG4 hil hbyl hi0
  go_wp2
  rw [HW6.out]
  refine bodyPost_ret (v := .tuple #[.agg #[.int .i64 0, .bool false, .string ⟨#[]⟩], .bool false]) ?_ rfl HK.out
  rw [results_cell_tmp rfl]
  obtain ⟨⟨u0, u1, u2⟩, _⟩ := row3 HR6.out
  go_simp
set_option maxRecDepth 100000 in
set_option maxHeartbeats 1000000 in
theorem readCall_reply (b : Nat) (st : Option (List UInt8)) (w : World) (hr : RS w b st) (hl : (lft st).length ≤ 100000000) (hv : vl 0 (M.byte (lft (nx (M.int (lft st))))) = 0) :
    Calls Try.prog 77 #[.pointer (some ⟨b, 0, none⟩)] w (CRes w b st) := by
  have hbl := hr.lt
  obtain ⟨W1, HW1⟩ : ∃ W1, Hid (w.alloc (.cells #[.int .i64 0, .bool false, .string ⟨#[]⟩] 66) = W1) := ⟨_, Hid_of rfl⟩
  have HG1 : Hid (w.grownBy W1 (some b)) := by rw [← HW1.out]; exact galloc (grefl _ _) _
  have hs1 : W1.heap.size = w.heap.size + 1 := by rw [← HW1.out]; simp
  have HR1 : Hid (W1.heap[w.heap.size]? = some (.cells #[.int .i64 0, .bool false, .string ⟨#[]⟩] 66 (0, 0))) := by rw [← HW1.out]; exact heap_alloc_last w _
  have hrs1 : RS W1 b st := hr.keep (by rw [← HW1.out]; exact Below.heap_alloc w _ _ hbl)
  have hi := int_rs b st W1 hrs1 (by omega)
  have hil := int_left (lft st)
  have HBL := Hid_of hbl
  have HS1 := Hid_of hs1
  clear hr hrs1 hs1 hbl
  go_enter Try.func77, Try.ntmps77
  go_upto_region 1 with fail
  rw [HW1.out]
  go_wp2_with fail
  refine hi.mono ?_
  rintro e w2 ⟨rfl, hr2, hg2⟩
  obtain ⟨W3, HW3⟩ : ∃ W3, Hid (w2.alloc (.cells #[.int .i64 (vl 0 (M.int (lft st))), .bool false, .string ⟨#[]⟩] 66) = W3) := ⟨_, Hid_of rfl⟩
  have HS2 : Hid (w.heap.size + 1 ≤ w2.heap.size) := Hid_of (by have := hg2.size; have := HS1.out; omega)
  have HG3 : Hid (w.grownBy W3 (some b)) := by rw [← HW3.out]; exact galloc (grown_trans HG1.out hg2) _
  have HS3 : Hid (W3.heap.size = w2.heap.size + 1) := Hid_of (by rw [← HW3.out]; simp)
  have HR3 : Hid (W3.heap[w2.heap.size]? = some (.cells #[.int .i64 (vl 0 (M.int (lft st))), .bool false, .string ⟨#[]⟩] 66 (0, 0))) := by rw [← HW3.out]; exact heap_alloc_last w2 _
  have HQ3 : Hid (W3.heap[w.heap.size]? = some (.cells #[.int .i64 0, .bool false, .string ⟨#[]⟩] 66 (0, 0))) := by
    rw [← HW3.out, Below.heap_alloc w2 _ w.heap.size (by have := HS2.out; omega)]
    exact grown_row hg2 HR1.out (by have := HBL.out; omega)
  have hrs3 : RS W3 b (nx (M.int (lft st))) := hr2.keep (by rw [← HW3.out]; exact Below.heap_alloc w2 _ _ hr2.lt)
  have hby := byte_rs b _ W3 hrs3 (by omega)
  have hbyl := byte_left (lft (nx (M.int (lft st))))
  clear hr2 hg2 hrs3 hi HR1 HG1
  rw [hv] at hby
  go_upto_region 2 with fail
  rw [HW3.out]
  go_wp2_with fail
  refine hby.mono ?_
  rintro e w4 ⟨rfl, hr4, hg4⟩
  have hR4 := grown_row hg4 HR3.out (by have := HBL.out; have := HS2.out; omega)
  have hQ4 := grown_row hg4 HQ3.out (by have := HBL.out; omega)
  have hG4 := grown_trans HG3.out hg4
  obtain ⟨⟨r0, r1, r2⟩, rf⟩ := row3 hR4
  obtain ⟨⟨z0, z1, z2⟩, zf⟩ := row3 hQ4
  have hne : w.heap.size ≠ w2.heap.size := by have := HS2.out; omega
  have hws : w.heap.size ≤ w2.heap.size := by have := HS2.out; omega
  have HBW : Hid (b ≠ w.heap.size) := Hid_of (by have := HBL.out; omega)
  have HBX : Hid (b ≠ w2.heap.size) := Hid_of (by have := HBL.out; omega)
  have zf0 := zf 0
  have zf1 := zf 1
  have zf2 := zf 2
  have rf1 := rf 1
  have rf2 := rf 2
  generalize hi0 : vl 0 (M.int (lft st)) = i0 at *
  clear HW1 HW3 hg4 HG3 HR3 HQ3 hby HS3 zf rf
  have htx := text_any b _ w4 hr4 (by omega)
  have htl := text_left (lft (nx (M.byte (lft (nx (M.int (lft st)))))))
  have htz : (vl [] (M.text (lft (nx (M.byte (lft (nx (M.int (lft st))))))))).length ≤ 100000000 := by
    cases ht : M.text (lft (nx (M.byte (lft (nx (M.int (lft st)))))) ) with
    | none => simp [vl]
    | some p => have := M.text_size _ _ _ ht; simp only [vl]; omega
  have HC := Hid_of (Rp.rdC_reply _ hv)
  have HGW := Hid_of hG4
  have HRW := Hid_of hR4
  have HQW := Hid_of hQ4
  clear hr4 hG4 hR4 hQ4 hv
  generalize hst3 : nx (M.text (lft (nx (M.byte (lft (nx (M.int (lft st)))))))) = st3 at *
  generalize htv : vl [] (M.text (lft (nx (M.byte (lft (nx (M.int (lft st)))))))) = tx at *
  clear hst3 htv
  go_wp2_with fail
  refine htx.mono ?_
  rintro e w5 ⟨rfl, hr5, hg5⟩
  have hR5 := grown_row hg5 HRW.out (by have := HBL.out; have := HS2.out; omega)
  have hQ5 := grown_row hg5 HQW.out (by have := HBL.out; omega)
  have hG5 := grown_trans HGW.out hg5
  obtain ⟨⟨y0, y1, y2⟩, yf⟩ := row3 hR5
  have yf2 := yf 2
  obtain ⟨W6, HW6⟩ : ∃ W6, Hid (w5.setCell ⟨w2.heap.size, 2, none⟩ (.string (ofL tx)) = W6) := ⟨_, Hid_of rfl⟩
  have hR6 : W6.heap[w2.heap.size]? = some (.cells #[.int .i64 i0, .bool false, .string (ofL tx)] 66 (0, 0)) := by rw [← HW6.out]; exact heap_setCell_same w5 _ 2 _ _ _ hR5
  have hQ6 : W6.heap[w.heap.size]? = some (.cells #[.int .i64 0, .bool false, .string ⟨#[]⟩] 66 (0, 0)) := by rw [← HW6.out, heap_setCell_other w5 ⟨w2.heap.size, 2, none⟩ _ _ hne]; exact hQ5
  have hr6 : RS W6 b st3 := hr5.keep (by rw [← HW6.out]; exact heap_setCell_other w5 ⟨w2.heap.size, 2, none⟩ b _ HBX.out)
  have hG6 : w.grownBy W6 (some b) := by rw [← HW6.out]; exact gset hG5 _ _ _ hws
  clear hr5 hg5 hR5 hQ5 hG5 yf htx HGW HRW HQW
  go_upto_region 8 with fail
  rw [HW6.out]
  obtain ⟨⟨a0, a1, a2⟩, _⟩ := row3 hR6
  obtain ⟨⟨x0, x1, x2⟩, xf⟩ := row3 hQ6
  have xf0 := xf 0
  have xf1 := xf 1
  have xf2 := xf 2
  have htsz : ((ofL tx).size : Int) = (tx.length : Int) := by rw [ofL_size]
  obtain ⟨W7, HW7⟩ : ∃ W7, Hid ((((W6.setCell ⟨w.heap.size, 0, none⟩ (.int .i64 i0)).setCell ⟨w.heap.size, 1, none⟩ (.bool false)).setCell ⟨w.heap.size, 2, none⟩ (.string (ofL tx))).drew = W7) := ⟨_, Hid_of rfl⟩
  have HR7 : Hid (W7.heap[w.heap.size]? = some (.cells #[.int .i64 i0, .bool false, .string (ofL tx)] 66 (0, 0))) := by rw [← HW7.out]; exact row3set hQ6 _ _ _
  have HK : Hid (CRes w b st (.returned (.tuple #[.agg #[.int .i64 i0, .bool false, .string (ofL tx)], .bool (decide (tx.length ≤ 4096))])) W7) := by
    refine ⟨⟨i0, false, tx⟩, _, st3, rfl, hr6.keep ?_, ?_, by omega, ?_⟩
    · rw [← HW7.out]
      show (((W6.setCell ⟨w.heap.size, 0, none⟩ (.int .i64 i0)).setCell ⟨w.heap.size, 1, none⟩ (.bool false)).setCell ⟨w.heap.size, 2, none⟩ (.string (ofL tx))).heap[b]? = _
      rw [heap_setCell_other _ ⟨w.heap.size, 2, none⟩ b _ HBW.out, heap_setCell_other _ ⟨w.heap.size, 1, none⟩ b _ HBW.out, heap_setCell_other _ ⟨w.heap.size, 0, none⟩ b _ HBW.out]
    · rw [← HW7.out]; refine grown_drew ?_; exact gset (gset (gset hG6 _ _ _ (Nat.le_refl _)) _ _ _ (Nat.le_refl _)) _ _ _ (Nat.le_refl _)
    · rw [HC.out, hi0]; unfold Rp.res; by_cases h4 : tx.length ≤ 4096
      · rw [if_pos h4, decide_eq_true h4]; rfl
      · rw [if_neg h4, decide_eq_false h4]; rfl
  clear hR6 hQ6 hr6 hG6 xf hil hbyl hi0 HC
  go_region
  all_goals
    go_wp2
    rw [HW7.out]
    refine bodyPost_ret (v := .tuple #[.agg #[.int .i64 i0, .bool false, .string (ofL tx)], .bool (decide (tx.length ≤ 4096))]) ?_ rfl HK.out
    rw [results_cell_tmp rfl]
    obtain ⟨⟨u0, u1, u2⟩, _⟩ := row3 HR7.out
    go_simp
    omega
theorem readCall_any (b : Nat) (st : Option (List UInt8)) (w : World) (hr : RS w b st) (hl : (lft st).length ≤ 100000000) : Calls Try.prog 77 #[.pointer (some ⟨b, 0, none⟩)] w (CRes w b st) := by
  by_cases h1 : vl 0 (M.byte (lft (nx (M.int (lft st))))) = 1
  · exact readCall_busy b st w hr hl h1
  · by_cases h0 : vl 0 (M.byte (lft (nx (M.int (lft st))))) = 0
    · exact readCall_reply b st w hr hl h0
    · exact readCall_else b st w hr hl h1 h0
/-- What readKept gives. -/
def KRes (w : World) (b room : Nat) (st : Option (List UInt8)) (e : Ending) (w' : World) : Prop :=
  ∃ (v : Value) (l : List C) (ok : Bool) (st' : Option (List UInt8)), e = .returned (.tuple #[v, .bool ok]) ∧ OwnL cl 66 w' w.heap.size v l ∧ (ok = true → l ≠ []) ∧ RS w' b st' ∧ w.grownBy w' (some b) ∧ (lft st').length ≤ (lft st).length ∧ Rp.rdL room (lft st) = Rp.res ok st' l
theorem rdL_no (room : Nat) (s : List UInt8) (h : vl 0 (M.int s) < 1 ∨ (room : Int) < vl 0 (M.int s)) : Rp.rdL room s = none := by
  unfold Rp.rdL
  cases hi : M.int s with
  | none => rfl
  | some p =>
    obtain ⟨n, r⟩ := p
    rw [hi] at h
    simp only [vl] at h ⊢
    rw [if_pos h]
theorem rdL_yes (room : Nat) (s : List UInt8) (n : Nat) (h : vl 0 (M.int s) = (n : Int)) (h1 : 1 ≤ n) (h2 : n ≤ room) : Rp.Tot (Rp.rdL room s) (nx (M.int s)) n (-1) [] := by
  unfold Rp.Tot Rp.rdL
  cases hi : M.int s with
  | none => rw [hi] at h; simp only [vl] at h; omega
  | some p =>
    obtain ⟨m, r⟩ := p
    rw [hi] at h
    simp only [vl] at h
    subst h
    simp only [nx, Option.map_some, Option.bind_some]
    rw [if_neg (by omega), Int.toNat_natCast]
    cases Rp.rdN n (-1) r with
    | none => rfl
    | some q => rfl
theorem OwnL.grown {α : Type} {Y : Ly α} {t : TypeId} {w w' : World} {base b : Nat} {v : Value} {l : List α} (h : OwnL Y t w base v l) (hg : w.grownBy w' (some b)) (hb : b < base) : OwnL Y t w' base v l :=
  h.keepBut (fun k hk e => hg.block k hk (fun e' => by cases e'; have := (h.lt e).1; omega))
set_option maxRecDepth 100000 in
set_option maxHeartbeats 2000000 in
theorem readKept_any (b room : Nat) (st : Option (List UInt8)) (w : World) (hr : RS w b st) (hl : (lft st).length ≤ 100000000) (h16 : room ≤ 16) :
    Calls Try.prog 61 #[.pointer (some ⟨b, 0, none⟩), .int .i64 room] w (KRes w b room st) := by
  have hbl := hr.lt
  have hi := int_rs b st w hr (by omega)
  have hil := int_left (lft st)
  have HBL := Hid_of hbl
  by_cases hbad : vl 0 (M.int (lft st)) < 1 ∨ (room : Int) < vl 0 (M.int (lft st))
  · have HN := Hid_of (rdL_no room _ hbad)
    have hd : decide (vl 0 (M.int (lft st)) < 1) = true ∨ decide (vl 0 (M.int (lft st)) < 1) = false ∧ decide ((room : Int) < vl 0 (M.int (lft st))) = true := by simp; omega
    generalize vl 0 (M.int (lft st)) = nn at *
    clear hr hbl hbad
    rcases hd with d1 | ⟨d1, d2⟩
    all_goals
      go_enter Try.func61, Try.ntmps61
      go_wp2_with fail
      refine hi.mono ?_
      rintro e w2 ⟨rfl, hr2, hg2⟩
      have HK : Hid (KRes w b room st (.returned (.tuple #[.slice none 0 0, .bool false])) w2) := ⟨_, [], false, _, rfl, OwnL.nil _ _ _, fun h => (by cases h), hr2, hg2, hil, by rw [HN.out]; rfl⟩
      clear hi hr2 hg2 HN hil
      go_wp2
      go_ret2
      exact HK.out
  · obtain ⟨n, hn⟩ := Int.eq_ofNat_of_zero_le (show 0 ≤ vl 0 (M.int (lft st)) by omega)
    have h1 : 1 ≤ n := by omega
    have h2 : n ≤ room := by omega
    have HT := Hid_of (rdL_yes room (lft st) n hn h1 h2)
    rw [hn] at hi
    obtain ⟨tot, HTE⟩ : ∃ tot, Hid (Rp.rdL room (lft st) = tot) := ⟨_, Hid_of rfl⟩
    rw [HTE.out] at HT
    have d1 : decide ((n : Int) < 1) = false := decide_eq_false (by omega)
    have d2 : decide ((room : Int) < (n : Int)) = false := decide_eq_false (by omega)
    have d3 : decide (room < n) = false := decide_eq_false (by omega)
    clear hr hbl hbad
    go_enter Try.func61, Try.ntmps61
    go_wp2_with fail
    refine hi.mono ?_
    rintro e w2 ⟨rfl, hr2, hg2⟩
    have HST := Hid_of (And.intro hr2 (And.intro hg2 (And.intro hil HT.out)))
    clear hi hr2 hg2 hil HT hn
    go_wp2
    go_loopw [21, 7, 8] (fun i v lv wr => ∃ (k : Nat) (l : List C) (last : Int) (st' : Option (List UInt8)), k ≤ n ∧ i = .int .i64 k ∧ lv = .int .i64 last ∧ OwnL cl 66 wr w.heap.size v l ∧ l.length = k ∧ RS wr b st' ∧ w.grownBy wr (some b) ∧ (lft st').length ≤ (lft st).length ∧ Hid (Rp.Tot tot st' (n - k) last l)) (fun i v lv _ => n - (intOf i).toNat)
    case atStart => exact ⟨0, [], -1, _, Nat.zero_le _, rfl, rfl, OwnL.nil _ _ _, rfl, HST.out.1, HST.out.2.1, HST.out.2.2.1, HST.out.2.2.2⟩
    case round =>
      obtain ⟨k, l, last, st', hk, rfl, rfl, ho, hlk, hrs, hgr, hls, HT⟩ := hrel
      obtain ⟨a1, cap1, rfl, hx1, _⟩ := ho.at
      have HO := Hid_of ho
      have HGR := Hid_of hgr
      have HLK := Hid_of hlk
      have HLS := Hid_of hls
      rw [hlk]
      by_cases hlt : k < n
      · have hrc := readCall_any b st' wr hrs (by omega)
        obtain ⟨m, hm⟩ : ∃ m, n - k = m + 1 := ⟨n - k - 1, by omega⟩
        rw [hm] at HT
        have HM : Hid (n - (k + 1) = m) := Hid_of (by omega)
        clear ho hgr hlk hls hx1 hrs HST hm
        go_wp2_with fail
        refine hrc.mono ?_
        rintro e w5 ⟨c, ok, st2, rfl, hr5, hg5, hl5, hcr⟩
        obtain ⟨W6, HW6⟩ : ∃ W6, Hid (w5.alloc (.cells #[.int .i64 c.id, .bool c.busy, .string (ofL c.reply)] 66) = W6) := ⟨_, Hid_of rfl⟩
        have hbox : W6.heap[w5.heap.size]? = some (.cells #[.int .i64 c.id, .bool c.busy, .string (ofL c.reply)] 66 (0, 0)) := by rw [← HW6.out]; exact heap_alloc_last w5 _
        obtain ⟨⟨x0, x1, x2⟩, _⟩ := row3 hbox
        have hB6 : Below w5.heap.size w5 W6 := by rw [← HW6.out]; exact bel1 w5 _
        have hr6 : RS W6 b st2 := hr5.below hB6
        have hg6 : w.grownBy W6 (some b) := by rw [← HW6.out]; exact galloc (grown_trans HGR.out hg5) _
        have ho6 : OwnL cl 66 W6 w.heap.size (.slice a1 k cap1) l := by
          have := (HO.out.grown hg5 HBL.out).keep hB6
          rw [HLK.out] at this
          exact this
        have hl6 : (lft st2).length ≤ (lft st).length := Nat.le_trans hl5 HLS.out
        have HNB : Hid ((Value.slice a1 k cap1).ownBlock ≠ some w5.heap.size) := fun e => by
          have := HO.out
          rw [HLK.out] at this
          have := (this.lt e).2
          have := hg5.size
          omega
        have hii := isI_any c.id W6
        have HBAD : Hid ((ok = false ∨ c.id ≤ last ∨ Rp.mayI c.id = false) → KRes w b room st (.returned (.tuple #[.slice none 0 0, .bool false])) W6) := fun hb => ⟨_, [], false, st2, rfl, OwnL.nil _ _ _, fun h => (by cases h), hr6, hg6, hl6, by rw [HTE.out, HT.out.no hcr hb]; rfl⟩
        have HGO : Hid (ok = true → ¬ c.id ≤ last → Rp.mayI c.id = true → Rp.Tot tot st2 m c.id (l ++ [c])) := fun h1 h2 h3 => HT.out.go (by rw [hcr, h1]) h2 h3
        have HR6 := Hid_of hr6
        have HG6 := Hid_of hg6
        have HO6 := Hid_of ho6
        have HL6 := Hid_of hl6
        have hws : w.heap.size ≤ W6.heap.size := hg6.size
        have hlk := HLK.out
        clear hrc hr5 hg5 hl5 hcr hbox hB6 hr6 hg6 ho6 hl6 HO HGR HLS HT
        cases ok with
        | false =>
          have HK := Hid_of (HBAD.out (.inl rfl))
          clear HBAD HGO HR6 HG6 HO6 HL6 hii HLK hlk
          go_upto_region 9 with fail
          rw [HW6.out]
          go_wp2
          go_ret2
          exact HK.out
        | true =>
          by_cases hle : c.id ≤ last
          · have HK := Hid_of (HBAD.out (.inr (.inl hle)))
            have dle : decide (c.id ≤ last) = true := decide_eq_true hle
            clear HBAD HGO HR6 HG6 HO6 HL6 hii hle HLK hlk
            go_upto_region 9 with fail
            rw [HW6.out]
            go_wp2
            go_ret2
            exact HK.out
          · have dle : decide (c.id ≤ last) = false := decide_eq_false hle
            cases hmi : Rp.mayI c.id with
            | false =>
              have HK := Hid_of (HBAD.out (.inr (.inr hmi)))
              rw [hmi] at hii
              clear HBAD HGO HR6 HG6 HO6 HL6 hle HLK hlk
              go_upto_region 9 with fail
              rw [HW6.out]
              go_wp2_with fail
              refine hii.mono ?_
              rintro e w7 ⟨rfl, rfl⟩
              go_wp2
              go_ret2
              exact HK.out
            | true =>
              have HT2 := Hid_of (HGO.out rfl hle hmi)
              rw [hmi] at hii
              obtain ⟨a', c', w8, hrun, ho8, hr8⟩ := run_appL_ty tiC (W6.alloc (.cells #[.int .i64 c.id, .bool c.busy, .string (ofL c.reply)] 66)) w.heap.size (.slice a1 k cap1) l [c] W6.heap.size 0 1 1 (HO6.out.keep (bel1 W6 _)) (atL_one (t := 66) (heap_alloc_last W6 _)) rfl (by simp; omega) (by simp; omega)
              rw [hlk] at hrun ho8 hr8
              have hr68 : Rw W6 (.slice a1 k cap1) w8 (.slice a' (k + [c].length) c') := (Rw.ofBelow _ (bel1 W6 _)).trans hr8
              have hg68 : w.grownBy w8 (some b) := HG6.out.andThen hr68.g (fun j hj => .inl (HO6.out.lt hj).1)
              have hr8' : RS w8 b st2 := HR6.out.keep (hr68.g.block b HR6.out.lt (fun e => by have := (HO6.out.lt e.symm).1; have := HBL.out; omega))
              have hc0 : w8.cell? ⟨w5.heap.size, 0, none⟩ = some (.int .i64 c.id) := by
                have hl5 : w5.heap.size < W6.heap.size := World.block_lt_of_cell? W6 _ x0
                refine (World.cell?_of_block (w := W6) (a := ⟨w5.heap.size, 0, none⟩) (hr68.g.block _ hl5 (fun e => HNB.out e.symm))).trans x0
              have HREL := Hid_of (And.intro ho8 (And.intro hr8' hg68))
              have hlk1 : (l ++ [c]).length = k + 1 := by simp; exact hlk
              have HLK1 := Hid_of hlk1
              clear HBAD HGO HR6 HG6 HO6 hle HLK hlk hlk1 ho8 hr8 hr68 hg68 hr8' hmi HNB
              simp only [List.length_cons, List.length_nil, Nat.zero_add] at hrun HREL
              go_upto_region 9 with fail
              rw [HW6.out]
              go_wp2_with fail
              refine hii.mono ?_
              rintro e w7 ⟨rfl, rfl⟩
              go_wp2_with (at_builtin; refine wpList_append_known rfl _ _ 63 rfl _ _ rfl rfl _ _ (hrun _) ?_)
              go_roundw
              case rel => exact ⟨k + 1, l ++ [c], c.id, st2, by omega, by go_num, rfl, HREL.out.1, HLK1.out, HREL.out.2.1, HREL.out.2.2, HL6.out, by rw [HM.out]; exact HT2⟩
              case measure => simp [intOf]; omega
      · obtain rfl : k = n := by omega
        have HK : Hid (KRes w b room st (.returned (.tuple #[.slice a1 k cap1, .bool true])) wr) := by
          rw [Nat.sub_self] at HT
          refine ⟨_, l, true, st', rfl, ?_, fun _ e => ?_, hrs, hgr, hls, by rw [HTE.out]; exact HT.out.done⟩
          · have := HO.out
            rw [hlk] at this
            exact this
          · rw [e] at hlk
            simp at hlk
            omega
        clear ho hx1 hrs hgr hls hlk HO HGR HLK HLS HT HST
        go_wp2
        go_ret2
        exact HK.out
end Go.Proofs.Ytjbcchipbdkplaa
