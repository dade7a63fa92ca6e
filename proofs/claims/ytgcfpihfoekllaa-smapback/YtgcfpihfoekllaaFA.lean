/- The document's stripes: which there are. -/
import Derived.Test.YtgcfpihfoekllaaAI

namespace Go.Proofs.Ytgcfpihfoekllaa

open Go.RowKit

set_option linter.unusedVariables false

open Sm (S)

/-- What is new since a world, besides. -/
def Kn (K : Nat → Prop) (w w' : World) (k : Nat) : Prop := K k ∨ (w.heap.size ≤ k ∧ k < w'.heap.size)
theorem AwI.kn {w0 w w' : World} {b : Nat} {K : Nat → Prop} {m : List S} (h : AwI w0 w b K m) (hb : Below w.heap.size w w') : AwI w0 w' b (Kn K w w') m := h.more hb
/-- The document's stripes: a row that lies somewhere, each one's servers too. -/
structure DX (w : World) (K : Nat → Prop) (v : Value) (ds : List E) : Prop where
  row : ∃ a cap, v = .slice a ds.length cap ∧ XL stl w a cap ds ∧ ∀ k, blk a k → K k
  sv : ∀ e ∈ ds, XL il w e.a e.c e.s.l ∧ ∀ k, blk e.a k → K k
  id : ∀ j (h : j < ds.length), ds[j].id = j
def DM (w : World) (K : Nat → Prop) (v : Value) (m : List S) : Prop := ∃ ds, DX w K v ds ∧ ds.map (·.s) = m
section
variable {w w' w'' : World} {K K' : Nat → Prop} {v u : Value} {ds : List E} {m : List S}
theorem Kn.trans {k : Nat} (h : Below w.heap.size w w') (h2 : Below w'.heap.size w' w'') (hk : Kn (Kn K w w') w' w'' k) : Kn K w w'' k := by
  have := h.size
  have := h2.size
  rcases hk with (hk | hk) | hk
  · exact .inl hk
  · exact .inr (by omega)
  · exact .inr (by omega)
theorem Kn.up {k : Nat} (h2 : w'.heap.size ≤ w''.heap.size) (hk : Kn K w w' k) : Kn K w w'' k := by
  rcases hk with hk | hk
  · exact .inl hk
  · exact .inr (by omega)
theorem Kn.low {k : Nat} (h : w.heap.size ≤ w'.heap.size) (hk : Kn K w' w'' k) : Kn K w w'' k := by
  rcases hk with hk | hk
  · exact .inl hk
  · exact .inr (by omega)
theorem DX.sub (h : DX w K v ds) (hs : ∀ k, K k → K' k) : DX w K' v ds := by
  obtain ⟨⟨a, cap, h1, h2, h3⟩, h4, h5⟩ := h
  exact ⟨⟨a, cap, h1, h2, fun k hk => hs k (h3 k hk)⟩, fun e he => ⟨(h4 e he).1, fun k hk => hs k ((h4 e he).2 k hk)⟩, h5⟩
theorem DX.keepBut (h : DX w K v ds) (hb : ∀ k, k < w.heap.size → K k → w'.heap[k]? = w.heap[k]?) : DX w' K v ds := by
  obtain ⟨⟨a, cap, h1, h2, h3⟩, h4, h5⟩ := h
  exact ⟨⟨a, cap, h1, h2.keepBut fun k hk hb' => hb k hk (h3 k hb'), h3⟩, fun e he => ⟨(h4 e he).1.keepBut fun k hk hb' => hb k hk ((h4 e he).2 k hb'), (h4 e he).2⟩, h5⟩
theorem DX.keep (h : DX w K v ds) (hb : Below w.heap.size w w') : DX w' K v ds := h.keepBut fun k hk _ => hb.block k hk
theorem DX.sk (h : DX w K v ds) (hs : Sk K w w') : DX w' K v ds := h.keepBut fun k _ hk => hs.2 k hk
theorem DX.kn (h : DX w K v ds) (hb : Below w.heap.size w w') : DX w' (Kn K w w') v ds := (h.keep hb).sub fun _ hk => .inl hk
theorem DM.sub (h : DM w K v m) (hs : ∀ k, K k → K' k) : DM w K' v m := by
  obtain ⟨ds, h1, h2⟩ := h
  exact ⟨ds, h1.sub hs, h2⟩
theorem DM.keep (h : DM w K v m) (hb : Below w.heap.size w w') : DM w' K v m := by
  obtain ⟨ds, h1, h2⟩ := h
  exact ⟨ds, h1.keep hb, h2⟩
theorem DM.sk (h : DM w K v m) (hs : Sk K w w') : DM w' K v m := by
  obtain ⟨ds, h1, h2⟩ := h
  exact ⟨ds, h1.sk hs, h2⟩
theorem DM.kn (h : DM w K v m) (hb : Below w.heap.size w w') : DM w' (Kn K w w') v m := (h.keep hb).sub fun _ hk => .inl hk
theorem DM.nil (w : World) (K : Nat → Prop) : DM w K (.slice none 0 0) [] := ⟨[], ⟨⟨none, 0, rfl, XL.emp w, fun k hk => by obtain ⟨_, _, h⟩ := hk; cases h⟩, fun e he => by simp at he, fun j hj => by simp at hj⟩, rfl⟩
theorem DX.get (h : DX w K v ds) (j : Nat) (hj : j < ds.length) : ∃ g off cap, v = .slice (some ⟨g, off, none⟩) ds.length cap ∧ EAt w g (off + j * 6) ds[j] := by
  obtain ⟨⟨a, cap, h1, h2, _⟩, _⟩ := h
  obtain ⟨g, off, e, hE⟩ := h2.at'.getE j hj
  exact ⟨g, off, cap, by rw [h1, e], hE⟩
/-- What a deed of the document's leaves. -/
def DOut (w : World) (K : Nat → Prop) (f : Value → Value) (m : List S) (e : Ending) (w' : World) : Prop := ∃ u, e = .returned (f u) ∧ Below w.heap.size w w' ∧ DM w' (Kn K w w') u m
theorem DOut.same (h : DM w K v m) (f : Value → Value) (hb : Below w.heap.size w w') : DOut w K f m (.returned (f v)) w' := ⟨v, rfl, hb, h.kn hb⟩
theorem known_any (a : Option Addr) (n c : Nat) (i : Int) (w : World) : Calls Try.prog 37 #[.slice a n c, .int .i64 i] w fun e w' => e = .returned (.bool (decide (0 ≤ i ∧ i < n))) ∧ w' = w := by
  by_cases h0 : 0 ≤ i
  · have d0 : decide ((0 : Int) ≤ i) = true := decide_eq_true h0
    rw [show decide (0 ≤ i ∧ i < (n : Int)) = decide (i < (n : Int)) by simp [h0]]
    go_enter Try.func37, Try.ntmps37
    go_wp2
    go_ret
    exact ⟨rfl, rfl⟩
  · have d0 : decide ((0 : Int) ≤ i) = false := decide_eq_false h0
    rw [decide_eq_false (show ¬ (0 ≤ i ∧ i < (n : Int)) from fun h => h0 h.1)]
    go_enter Try.func37, Try.ntmps37
    go_wp2
    go_ret
    exact ⟨rfl, rfl⟩
set_option maxHeartbeats 1000000 in
theorem may_any (x : E) (w : World) (hep : x.s.ep ≤ 9223372036854775807) (hl : x.s.l.length ≤ 1000000) (hc : x.s.l.length ≤ x.c) (ha : AtL il w x.a x.s.l) : Calls Try.prog 57 #[eV x] w fun e w' => e = .returned (.bool (Sm.mayB x.s)) ∧ Below w.heap.size w w' := by
  obtain ⟨c0, c1, c2, c3, c4, c5⟩ := e_box w x
  have hg := group_any x.a x.c x.s.l (w.alloc (eO x)) hl hc (ha.keep (bel1 w (eO x)))
  have HB := Hid_of (bel1 w (eO x))
  clear ha
  by_cases k0 : 0 ≤ x.s.ow
  case neg =>
    have dk0 : decide ((0 : Int) ≤ x.s.ow) = false := decide_eq_false k0
    rw [Sm.mayB_no.2 (show ¬ Sm.may x.s from fun h => by obtain ⟨h1, h2, h3, h4⟩ := h; omega)]
    clear hg
    go_enter Try.func57, Try.ntmps57
    go_wp2
    go_ret
    exact ⟨rfl, HB.out⟩
  have dk0 : decide ((0 : Int) ≤ x.s.ow) = true := decide_eq_true k0
  by_cases k1 : x.s.ow < 16
  case neg =>
    have dk1 : decide (x.s.ow < 16) = false := decide_eq_false k1
    rw [Sm.mayB_no.2 (show ¬ Sm.may x.s from fun h => by obtain ⟨h1, h2, h3, h4⟩ := h; omega)]
    clear hg
    go_enter Try.func57, Try.ntmps57
    go_wp2
    go_ret
    exact ⟨rfl, HB.out⟩
  have dk1 : decide (x.s.ow < 16) = true := decide_eq_true k1
  by_cases k2 : 1 ≤ x.s.ep
  case neg =>
    have dk2 : decide ((1 : Int) ≤ x.s.ep) = false := decide_eq_false k2
    rw [Sm.mayB_no.2 (show ¬ Sm.may x.s from fun h => by obtain ⟨h1, h2, h3, h4⟩ := h; omega)]
    clear hg
    go_enter Try.func57, Try.ntmps57
    go_wp2
    go_ret
    exact ⟨rfl, HB.out⟩
  have dk2 : decide ((1 : Int) ≤ x.s.ep) = true := decide_eq_true k2
  by_cases k3 : 0 ≤ x.s.ln
  case neg =>
    have dk3 : decide ((0 : Int) ≤ x.s.ln) = false := decide_eq_false k3
    rw [Sm.mayB_no.2 (show ¬ Sm.may x.s from fun h => by obtain ⟨h1, h2, h3, h4⟩ := h; omega)]
    clear hg
    go_enter Try.func57, Try.ntmps57
    go_wp2
    go_ret
    exact ⟨rfl, HB.out⟩
  have dk3 : decide ((0 : Int) ≤ x.s.ln) = true := decide_eq_true k3
  by_cases k4 : x.s.ln ≤ 65536
  case neg =>
    have dk4 : decide (x.s.ln ≤ 65536) = false := decide_eq_false k4
    rw [Sm.mayB_no.2 (show ¬ Sm.may x.s from fun h => by obtain ⟨h1, h2, h3, h4⟩ := h; omega)]
    clear hg
    go_enter Try.func57, Try.ntmps57
    go_wp2
    go_ret
    exact ⟨rfl, HB.out⟩
  have dk4 : decide (x.s.ln ≤ 65536) = true := decide_eq_true k4
  have HV : Hid (Sm.mayB x.s = (decide (2 ≤ x.s.l.length ∧ x.s.l.length ≤ 8) && Mb.apB x.s.l)) := Hid_of (by
    unfold Sm.mayB Sm.gpB
    rw [decide_eq_true (show 0 ≤ x.s.ow ∧ x.s.ow ≤ 15 by omega), decide_eq_true (show 1 ≤ x.s.ep ∧ x.s.ep ≤ 9223372036854775807 by omega), decide_eq_true (show 0 ≤ x.s.ln ∧ x.s.ln ≤ 65536 by omega)]
    by_cases q1 : 2 ≤ x.s.l.length <;> by_cases q2 : x.s.l.length ≤ 8 <;> simp [q1, q2])
  rw [HV.out]
  clear k0 k1 k2 k3 k4 HV
  generalize (decide (2 ≤ x.s.l.length ∧ x.s.l.length ≤ 8) && Mb.apB x.s.l) = bb at *
  go_enter Try.func57, Try.ntmps57
  go_wp2_with fail
  refine hg.mono ?_
  rintro e w1 ⟨rfl, hb⟩
  have HB2 := Hid_of (bel_up HB.out hb (Nat.le_refl _))
  clear hg hb HB
  go_wp2
  go_ret
  exact ⟨rfl, HB2.out⟩
set_option maxRecDepth 100000 in
set_option maxHeartbeats 1000000 in
theorem refList_any (h : DM w K v m) (hn : m.length ≤ 4096) (z : Int) : Calls Try.prog 17 #[v, .int .i64 z] w (IdsOut w (Sm.ofSt m z)) := by
  obtain ⟨ds, hD, rfl⟩ := h
  obtain ⟨⟨a, cap, rfl, hx, _⟩, hsv, _⟩ := hD
  rw [List.length_map] at hn
  have hml : (ds.map (·.s)).length = ds.length := by simp
  have HX := Hid_of hx
  have HSV := Hid_of hsv
  clear hx hsv
  go_enter Try.func17, Try.ntmps17
  go_wp2
  go_loopw [5, 6] (fun u i wr => ∃ k : Nat, k ≤ ds.length ∧ i = .int .i64 k ∧ OwnL il 3 wr w.heap.size u (Sm.ids (Sm.isSt z) (ds.map (·.s)) k) ∧ Hid (Below w.heap.size w wr)) (fun _ i _ => ds.length - (intOf i).toNat)
  case atStart => exact ⟨0, by omega, rfl, OwnL.nil _ _ _, Hid_of (Below.refl _ _)⟩
  case round =>
    obtain ⟨k, hk, rfl, hown, hb⟩ := hrel
    obtain ⟨u, hu⟩ : ∃ u, u = u5 := ⟨_, rfl⟩
    subst hu
    by_cases hlt : k < ds.length
    · obtain ⟨b', off, rfl, c0, c1, c2, c3, c4, c5⟩ := (HX.out.keep hb.out).at'.getE k hlt
      have hki : (k : Int) < (ds.length : Int) := by omega
      have hkm : k < (ds.map (·.s)).length := by omega
      have hgk : (ds.map (·.s))[k] = ds[k].s := by simp
      have hil := Sm.ids_len (Sm.isSt z) (ds.map (·.s)) k
      have HY : Hid (Sm.isSt z ds[k].s = true → Sm.ids (Sm.isSt z) (ds.map (·.s)) (k + 1) = Sm.ids (Sm.isSt z) (ds.map (·.s)) k ++ [(k : Int)]) := Hid_of fun hp => Sm.ids_yes hkm (by rw [hgk]; exact hp)
      have HN : Hid (Sm.isSt z ds[k].s = false → Sm.ids (Sm.isSt z) (ds.map (·.s)) (k + 1) = Sm.ids (Sm.isSt z) (ds.map (·.s)) k) := Hid_of fun hp => Sm.ids_no hkm (by rw [hgk]; exact hp)
      cases hp : Sm.isSt z ds[k].s with
      | true =>
        have HP := Hid_of hp
        have d1 : (ds[k].s.st == z) = true := hp
        have hb3 := hb.out
        obtain ⟨a', c', w3, hr, ho3, hb4⟩ := append_one hown hb3 k (by omega)
        have HR := Hid_of hr
        have HB4 := Hid_of hb4
        rw [← HY.out hp] at ho3
        clear hr hb3 hb4 HY HN hown hgk hkm hp HP
        generalize ds[k] = x at *
        go_wp2_with (at_builtin; refine wpList_append_known rfl _ _ 30 rfl _ _ rfl rfl _ _ (HR.out _) ?_)
        go_roundw
        case rel => exact ⟨k + 1, by omega, by go_num, ho3, HB4⟩
        case measure => simp [intOf]; omega
      | false =>
        have d1 : (ds[k].s.st == z) = false := hp
        have ho3 := hown
        rw [← HN.out hp] at ho3
        clear HY HN hown hgk hkm hp
        generalize ds[k] = x at *
        go_wp2
        go_roundw
        case rel => exact ⟨k + 1, by omega, by go_num, ho3, hb⟩
        case measure => simp [intOf]; omega
    · have hkn : k = ds.length := by omega
      subst hkn
      have HQ : Hid (IdsOut w (Sm.ofSt (ds.map (·.s)) z) (.returned u) wr) := Hid_of ⟨u, rfl, by unfold Sm.ofSt; rw [hml]; exact hown, hb.out⟩
      clear hown hb HX HSV
      go_wp2
      go_ret
      exact HQ.out
set_option maxRecDepth 100000 in
set_option maxHeartbeats 1000000 in
theorem refOn_any (h : DM w K v m) (hn : m.length ≤ 4096) (hl : ∀ s ∈ m, s.l.length ≤ 1000000) (z : Int) : Calls Try.prog 19 #[v, .int .i64 z] w (IdsOut w (Sm.onSv m z)) := by
  obtain ⟨ds, hD, rfl⟩ := h
  obtain ⟨⟨a, cap, rfl, hx, _⟩, hsv, _⟩ := hD
  rw [List.length_map] at hn
  have hml : (ds.map (·.s)).length = ds.length := by simp
  have HX := Hid_of hx
  have HSV := Hid_of hsv
  clear hx hsv
  go_enter Try.func19, Try.ntmps19
  go_wp2
  go_loopw [5, 6] (fun u i wr => ∃ k : Nat, k ≤ ds.length ∧ i = .int .i64 k ∧ OwnL il 3 wr w.heap.size u (Sm.ids (Sm.isOn z) (ds.map (·.s)) k) ∧ Hid (Below w.heap.size w wr)) (fun _ i _ => ds.length - (intOf i).toNat)
  case atStart => exact ⟨0, by omega, rfl, OwnL.nil _ _ _, Hid_of (Below.refl _ _)⟩
  case round =>
    obtain ⟨k, hk, rfl, hown, hb⟩ := hrel
    obtain ⟨u, hu⟩ : ∃ u, u = u5 := ⟨_, rfl⟩
    subst hu
    by_cases hlt : k < ds.length
    · obtain ⟨b', off, rfl, c0, c1, c2, c3, c4, c5⟩ := (HX.out.keep hb.out).at'.getE k hlt
      have hki : (k : Int) < (ds.length : Int) := by omega
      have hkm : k < (ds.map (·.s)).length := by omega
      have hgk : (ds.map (·.s))[k] = ds[k].s := by simp
      have hil := Sm.ids_len (Sm.isOn z) (ds.map (·.s)) k
      have HY : Hid (Sm.isOn z ds[k].s = true → Sm.ids (Sm.isOn z) (ds.map (·.s)) (k + 1) = Sm.ids (Sm.isOn z) (ds.map (·.s)) k ++ [(k : Int)]) := Hid_of fun hp => Sm.ids_yes hkm (by rw [hgk]; exact hp)
      have HN : Hid (Sm.isOn z ds[k].s = false → Sm.ids (Sm.isOn z) (ds.map (·.s)) (k + 1) = Sm.ids (Sm.isOn z) (ds.map (·.s)) k) := Hid_of fun hp => Sm.ids_no hkm (by rw [hgk]; exact hp)
      have hll := hl _ (List.mem_map_of_mem (List.getElem_mem hlt))
      have hat := refAt_any ds[k].a ds[k].c ds[k].s.l z wr hll (((HSV.out _ (List.getElem_mem hlt)).1.keep hb.out).at')
      have HPL : Hid (decide ((0 : Int) ≤ Mb.pl ds[k].s.l z) = decide (z ∈ ds[k].s.l)) := Hid_of (by simp [Mb.pl_ge])
      cases hp : Sm.isOn z ds[k].s with
      | true =>
        have hp2 : (ds[k].s.st != 3) = true ∧ decide (z ∈ ds[k].s.l) = true := by unfold Sm.isOn at hp; simpa using hp
        have d1 := hp2.1
        have d1' : (ds[k].s.st == 3) = false := by simpa using hp2.1
        have d2 : decide ((0 : Int) ≤ Mb.pl ds[k].s.l z) = true := by rw [HPL.out]; exact hp2.2
        obtain ⟨a', c', w3, hr, ho3, hb4⟩ := append_one hown hb.out k (by omega)
        have HR := Hid_of hr
        have HB4 := Hid_of hb4
        rw [← HY.out hp] at ho3
        clear hr hb4 HY HN hown hgk hkm hp hp2 HPL hll
        generalize Mb.pl ds[k].s.l z = pv at *
        generalize ds[k] = x at *
        go_wp2_with fail
        refine hat.mono ?_
        rintro e w1 ⟨rfl, hw1⟩
        subst w1
        clear hat
        go_wp2_with (at_builtin; refine wpList_append_known rfl _ _ 30 rfl _ _ rfl rfl _ _ (HR.out _) ?_)
        go_roundw
        case rel => exact ⟨k + 1, by omega, by go_num, ho3, HB4⟩
        case measure => simp [intOf]; omega
      | false =>
        have ho3 := hown
        rw [← HN.out hp] at ho3
        cases h3 : ds[k].s.st != 3 with
        | false =>
          have d1' : (ds[k].s.st == 3) = true := by simpa using h3
          clear HY HN hown hgk hkm hp HPL hll hat
          generalize ds[k] = x at *
          go_wp2
          go_roundw
          case rel => exact ⟨k + 1, by omega, by go_num, ho3, hb⟩
          case measure => simp [intOf]; omega
        | true =>
          have d1' : (ds[k].s.st == 3) = false := by simpa using h3
          have d2 : decide ((0 : Int) ≤ Mb.pl ds[k].s.l z) = false := by
            rw [HPL.out]
            unfold Sm.isOn at hp
            rw [h3] at hp
            simpa using hp
          clear HY HN hown hgk hkm hp HPL hll
          generalize Mb.pl ds[k].s.l z = pv at *
          generalize ds[k] = x at *
          go_wp2_with fail
          refine hat.mono ?_
          rintro e w1 ⟨rfl, hw1⟩
          subst w1
          clear hat
          go_wp2
          go_roundw
          case rel => exact ⟨k + 1, by omega, by go_num, ho3, hb⟩
          case measure => simp [intOf]; omega
    · have hkn : k = ds.length := by omega
      subst hkn
      have HQ : Hid (IdsOut w (Sm.onSv (ds.map (·.s)) z) (.returned u) wr) := Hid_of ⟨u, rfl, by unfold Sm.onSv; rw [hml]; exact hown, hb.out⟩
      clear hown hb HX HSV
      go_wp2
      go_ret
      exact HQ.out
end

end Go.Proofs.Ytgcfpihfoekllaa
