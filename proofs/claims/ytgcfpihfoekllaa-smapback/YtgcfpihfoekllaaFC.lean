/- The document's stripes: Commit, Free, Drop. -/
import Derived.Test.YtgcfpihfoekllaaFB

namespace Go.Proofs.Ytgcfpihfoekllaa

open Go.RowKit

set_option linter.unusedVariables false

open Sm (S)

section
variable {w w' w'' : World} {K K' : Nat → Prop} {v u : Value} {ds : List E} {m : List S}
set_option maxHeartbeats 1000000 in
theorem refCommit_any (h : DM w K v m) (hn : m.length ≤ 4096) (i o : Int) : Calls Try.prog 31 #[v, .int .i64 i, .int .i64 o] w (DOut w K (fun u => .tuple #[u, .int .i64 (Sm.cc m i o)]) (Sm.cm m i o)) := by
  have HM := Hid_of h
  obtain ⟨ds, hD, rfl⟩ := h
  rw [List.length_map] at hn
  have HD := Hid_of hD
  obtain ⟨⟨av, cv, rfl, hx, -⟩, -, -⟩ := hD
  have HNO : Hid (¬ Sm.cc (ds.map (·.s)) i o = 0 → DOut w K (fun u => .tuple #[u, .int .i64 (Sm.cc (ds.map (·.s)) i o)]) (Sm.cm (ds.map (·.s)) i o) (.returned (.tuple #[.slice av ds.length cv, .int .i64 (Sm.cc (ds.map (·.s)) i o)])) w) := Hid_of fun e => by
    rw [show Sm.cm (ds.map (·.s)) i o = ds.map (·.s) by unfold Sm.cm; rw [if_neg e]]
    exact DOut.same HM.out (fun u => .tuple #[u, .int .i64 (Sm.cc (ds.map (·.s)) i o)]) (Below.refl _ _)
  have hk := known_any av ds.length cv i w
  rcases Sm.cc_cases (ds.map (·.s)) i o with ⟨k1, k2⟩ | ⟨hk0, h0, h1, hc⟩
  · rw [List.length_map] at k1
    rw [decide_eq_false (show ¬ (0 ≤ i ∧ i < (ds.length : Int)) by omega)] at hk
    have HQ := Hid_of (HNO.out (by rw [k2]; decide))
    rw [k2] at HQ ⊢
    clear HNO hx k1 k2
    go_enter Try.func31, Try.ntmps31
    go_wp2_with fail
    refine hk.mono ?_
    rintro e w1 ⟨rfl, hw1⟩
    subst w1
    clear hk
    go_wp2
    go_ret2
    exact HQ.out
  · obtain ⟨k, rfl⟩ := Int.eq_ofNat_of_zero_le h0
    rw [List.length_map] at h1
    rw [decide_eq_true (show (0 : Int) ≤ (k : Int) ∧ (k : Int) < (ds.length : Int) by omega)] at hk
    simp only [Int.toNat_natCast, List.length_map, List.getElem_map] at hk0 hc
    have hk2 : k < ds.length := by omega
    obtain ⟨g, off, rfl, c0, c1, c2, -⟩ := hx.at'.getE k hk2
    rcases hc with ⟨k1, k2⟩ | ⟨k1, k2, k3⟩ | ⟨k1, k2, k3⟩
    · have HQ := Hid_of (HNO.out (by rw [k2]; decide))
      rw [k2] at HQ ⊢
      have d1 : (ds[k].s.st != 1) = true := by simpa using k1
      have d1' : (ds[k].s.st == 1) = false := by simpa using k1
      clear HNO hx k1 k2
      generalize ds[k] = x at *
      go_enter Try.func31, Try.ntmps31
      go_wp2_with fail
      refine hk.mono ?_
      rintro e w1 ⟨rfl, hw1⟩
      subst w1
      clear hk
      go_wp2
      go_ret2
      exact HQ.out
    · have HQ := Hid_of (HNO.out (by rw [k3]; decide))
      rw [k3] at HQ ⊢
      have d1 : (ds[k].s.st != 1) = false := by simpa using k1
      have d1' : (ds[k].s.st == 1) = true := by simpa using k1
      have d2 : (ds[k].s.ow != o) = true := by simpa using k2
      have d2' : (ds[k].s.ow == o) = false := by simpa using k2
      clear HNO hx k1 k2 k3
      generalize ds[k] = x at *
      go_enter Try.func31, Try.ntmps31
      go_wp2_with fail
      refine hk.mono ?_
      rintro e w1 ⟨rfl, hw1⟩
      subst w1
      clear hk
      go_wp2
      go_ret2
      exact HQ.out
    · have hst := state_any HD.out hn k hk2 2
      have hk3 : k < (ds.map (·.s)).length := by simpa using hk2
      have HL : Hid ((ds.set k { ds[k] with s := { ds[k].s with st := 2 } }).map (·.s) = Sm.cm (ds.map (·.s)) k o) := Hid_of (by rw [stt_map hk2]; unfold Sm.cm; rw [k3, if_pos rfl]; rfl)
      have d1 : (ds[k].s.st != 1) = false := by simpa using k1
      have d1' : (ds[k].s.st == 1) = true := by simpa using k1
      have d2 : (ds[k].s.ow != o) = false := by simpa using k2
      have d2' : (ds[k].s.ow == o) = true := by simpa using k2
      rw [k3]
      clear HNO hx k1 k2 k3
      generalize ds.set k { ds[k] with s := { ds[k].s with st := 2 } } = ds' at *
      generalize ds[k] = x at *
      go_enter Try.func31, Try.ntmps31
      go_wp2_with fail
      refine hk.mono ?_
      rintro e w1 ⟨rfl, hw1⟩
      subst w1
      clear hk
      go_wp2_with fail
      refine hst.mono ?_
      rintro e w2 ⟨u, rfl, hb, hD2⟩
      have HQ : Hid (DOut w K (fun u => .tuple #[u, .int .i64 0]) (Sm.cm (ds.map (·.s)) k o) (.returned (.tuple #[u, .int .i64 0])) w2) := Hid_of ⟨u, rfl, hb, ds', hD2, HL.out⟩
      clear hst hb hD2 HL
      go_wp2
      go_ret2
      exact HQ.out
set_option maxHeartbeats 1000000 in
theorem refFree_any (h : DM w K v m) (hn : m.length ≤ 4096) (i : Int) : Calls Try.prog 32 #[v, .int .i64 i] w (DOut w K (fun u => .tuple #[u, .int .i64 (Sm.fc m i)]) (Sm.fm m i)) := by
  have HM := Hid_of h
  obtain ⟨ds, hD, rfl⟩ := h
  rw [List.length_map] at hn
  have HD := Hid_of hD
  obtain ⟨⟨av, cv, rfl, hx, -⟩, -, -⟩ := hD
  have HNO : Hid (¬ Sm.fc (ds.map (·.s)) i = 0 → DOut w K (fun u => .tuple #[u, .int .i64 (Sm.fc (ds.map (·.s)) i)]) (Sm.fm (ds.map (·.s)) i) (.returned (.tuple #[.slice av ds.length cv, .int .i64 (Sm.fc (ds.map (·.s)) i)])) w) := Hid_of fun e => by
    rw [show Sm.fm (ds.map (·.s)) i = ds.map (·.s) by unfold Sm.fm; rw [if_neg e]]
    exact DOut.same HM.out (fun u => .tuple #[u, .int .i64 (Sm.fc (ds.map (·.s)) i)]) (Below.refl _ _)
  have hk := known_any av ds.length cv i w
  rcases Sm.fc_cases (ds.map (·.s)) i with ⟨k1, k2⟩ | ⟨hk0, h0, h1, hc⟩
  · rw [List.length_map] at k1
    rw [decide_eq_false (show ¬ (0 ≤ i ∧ i < (ds.length : Int)) by omega)] at hk
    have HQ := Hid_of (HNO.out (by rw [k2]; decide))
    rw [k2] at HQ ⊢
    clear HNO hx k1 k2
    go_enter Try.func32, Try.ntmps32
    go_wp2_with fail
    refine hk.mono ?_
    rintro e w1 ⟨rfl, hw1⟩
    subst w1
    clear hk
    go_wp2
    go_ret2
    exact HQ.out
  · obtain ⟨k, rfl⟩ := Int.eq_ofNat_of_zero_le h0
    rw [List.length_map] at h1
    rw [decide_eq_true (show (0 : Int) ≤ (k : Int) ∧ (k : Int) < (ds.length : Int) by omega)] at hk
    simp only [Int.toNat_natCast, List.length_map, List.getElem_map] at hk0 hc
    have hk2 : k < ds.length := by omega
    obtain ⟨g, off, rfl, c0, c1, c2, -⟩ := hx.at'.getE k hk2
    rcases hc with ⟨k1, k2⟩ | ⟨k1, k2⟩
    · have HQ := Hid_of (HNO.out (by rw [k2]; decide))
      rw [k2] at HQ ⊢
      have d1 : (ds[k].s.st == 3) = true := by simpa using k1
      clear HNO hx k1 k2
      generalize ds[k] = x at *
      go_enter Try.func32, Try.ntmps32
      go_wp2_with fail
      refine hk.mono ?_
      rintro e w1 ⟨rfl, hw1⟩
      subst w1
      clear hk
      go_wp2
      go_ret2
      exact HQ.out
    · have hst := state_any HD.out hn k hk2 3
      have hk3 : k < (ds.map (·.s)).length := by simpa using hk2
      have HL : Hid ((ds.set k { ds[k] with s := { ds[k].s with st := 3 } }).map (·.s) = Sm.fm (ds.map (·.s)) k) := Hid_of (by rw [stt_map hk2]; unfold Sm.fm; rw [k2, if_pos rfl]; rfl)
      have d1 : (ds[k].s.st == 3) = false := by simpa using k1
      rw [k2]
      clear HNO hx k1 k2
      generalize ds.set k { ds[k] with s := { ds[k].s with st := 3 } } = ds' at *
      generalize ds[k] = x at *
      go_enter Try.func32, Try.ntmps32
      go_wp2_with fail
      refine hk.mono ?_
      rintro e w1 ⟨rfl, hw1⟩
      subst w1
      clear hk
      go_wp2_with fail
      refine hst.mono ?_
      rintro e w2 ⟨u, rfl, hb, hD2⟩
      have HQ : Hid (DOut w K (fun u => .tuple #[u, .int .i64 0]) (Sm.fm (ds.map (·.s)) k) (.returned (.tuple #[u, .int .i64 0])) w2) := Hid_of ⟨u, rfl, hb, ds', hD2, HL.out⟩
      clear hst hb hD2 HL
      go_wp2
      go_ret2
      exact HQ.out
theorem append_oneR {w0 wr : World} {u : Value} {l : List Int} (hown : OwnL il 3 wr w0.heap.size u l) (hb : Below w0.heap.size w0 wr) (x : Int) (hl : l.length ≤ 100000) :
    ∃ a' c' w', (∀ ty, (Builtin.append_ #[30, 30] ty #[u, .slice (some ⟨wr.heap.size, 0, none⟩) 1 1]).run Try.prog (wr.alloc (.cells #[.int .i64 x] 3)) = .ok (.slice a' (l.length + 1) c') w') ∧ OwnL il 3 w' w0.heap.size (.slice a' (l.length + 1) c') (l ++ [x]) ∧ Below w0.heap.size w0 w' ∧ wr.heap.size ≤ w'.heap.size ∧ (∀ k, k < wr.heap.size → u.ownBlock ≠ some k → w'.heap[k]? = wr.heap[k]?) ∧ (∀ k, (Value.slice a' (l.length + 1) c').ownBlock = some k → u.ownBlock = some k ∨ wr.heap.size ≤ k) := by
  have hb1 := bel1 wr (.cells #[.int .i64 x] 3)
  obtain ⟨a', c', w', h1, h2, h3⟩ := run_appL_ty tiI (wr.alloc (.cells #[.int .i64 x] 3)) w0.heap.size u l [x] wr.heap.size 0 1 1 (hown.keep hb1) (atL_one (heap_alloc_last wr _)) rfl (bel_up hb hb1 (Nat.le_refl _)).size (by simp; omega)
  refine ⟨a', c', w', h1, h2, (bel_up hb hb1 (Nat.le_refl _)).trans (h3.below (fun k hk => ((hown.keep hb1).lt hk).1) (bel_up hb hb1 (Nat.le_refl _)).size), Nat.le_trans hb1.size h3.g.size, fun k hk hne => ?_, fun k hk => ?_⟩
  · rw [h3.g.block k (Nat.lt_of_lt_of_le hk hb1.size) (fun e => hne e.symm)]
    exact hb1.block k hk
  · rcases h3.n k hk with q | q
    · exact .inl q
    · exact .inr (Nat.le_trans hb1.size q)
/-- What the document's drop leaves. -/
def DrD (w : World) (K : Nat → Prop) (m : List S) (o : Int) (e : Ending) (w' : World) : Prop := ∃ u r, e = .returned (.tuple #[u, r]) ∧ Below w.heap.size w w' ∧ OwnL il 3 w' w.heap.size r (Sm.ofOw m o) ∧ DM w' (Kn K w w') u (Sm.dm m o)
set_option maxRecDepth 100000 in
set_option maxHeartbeats 2000000 in
theorem refDrop_any (h : DM w K v m) (hK : ∀ k, K k → k < w.heap.size) (hn : m.length ≤ 4096) (o : Int) : Calls Try.prog 33 #[v, .int .i64 o] w (DrD w K m o) := by
  obtain ⟨ds, hD, rfl⟩ := h
  rw [List.length_map] at hn
  have HD := Hid_of hD
  obtain ⟨⟨av, cv, rfl, hx, -⟩, -, -⟩ := hD
  have hml : (ds.map (·.s)).length = ds.length := by simp
  have HI : Hid ((∃ K', DX w K' (.slice av ds.length cv) ds ∧ ∀ q, K' q → Kn K w w q ∧ q < w.heap.size ∧ (Value.slice none 0 0).ownBlock ≠ some q) ∧ ds.map (·.s) = Sm.frs (ds.map (·.s)) (Sm.ids (Sm.isOw o) (ds.map (·.s)) 0) ∧ Below w.heap.size w w) := Hid_of ⟨⟨K, HD.out, fun k hk => ⟨.inl hk, hK k hk, by simp [Value.ownBlock]⟩⟩, (Sm.frs_nil _).symm, Below.refl _ _⟩
  clear hx HD
  go_enter Try.func33, Try.ntmps33
  go_wp2
  go_loopw [0, 6, 7] (fun v0 u i wr => ∃ (k : Nat) (es : List E), k ≤ ds.length ∧ i = .int .i64 k ∧ OwnL il 3 wr w.heap.size u (Sm.ids (Sm.isOw o) (ds.map (·.s)) k) ∧ Hid ((∃ K', DX wr K' v0 es ∧ ∀ q, K' q → Kn K w wr q ∧ q < wr.heap.size ∧ (u).ownBlock ≠ some q) ∧ es.map (·.s) = Sm.frs (ds.map (·.s)) (Sm.ids (Sm.isOw o) (ds.map (·.s)) k) ∧ Below w.heap.size w wr)) (fun _ _ i _ => ds.length - (intOf i).toNat)
  case atStart => exact ⟨0, ds, by omega, rfl, OwnL.nil _ _ _, HI⟩
  case round =>
    obtain ⟨k, es, hk, rfl, hown, HE⟩ := hrel
    clear HI
    obtain ⟨u, hu⟩ : ∃ u, u = u6 := ⟨_, rfl⟩
    subst hu
    have hel : es.length = ds.length := by
      have := congrArg List.length HE.out.2.1
      rw [Sm.frs_len, List.length_map, List.length_map] at this
      exact this
    obtain ⟨K', hDX, hK'⟩ := HE.out.1
    have HDX := Hid_of hDX
    have HKK := Hid_of hK'
    obtain ⟨⟨a0, c0, rfl, hx0, -⟩, -, -⟩ := hDX
    clear hK'
    rw [hel]
    by_cases hlt : k < ds.length
    · have hke : k < es.length := by omega
      have hkm : k < (ds.map (·.s)).length := by omega
      have hgk : (ds.map (·.s))[k] = ds[k].s := by simp
      have hni : ¬ (k : Int) ∈ Sm.ids (Sm.isOw o) (ds.map (·.s)) k := fun hm => by
        rw [Sm.mem_ids] at hm
        obtain ⟨j, e, hj, _⟩ := hm
        omega
      have hes : es[k].s = ds[k].s := by
        have e1 : es[k].s = (es.map (·.s))[k]'(by simpa using hke) := by simp
        have e2 : (es.map (·.s))[k]? = some (ds.map (fun x : E => x.s))[k] := by
          rw [HE.out.2.1, List.getElem?_eq_getElem (by rw [Sm.frs_len]; exact hkm), Sm.frs_get _ _ k hkm, if_neg hni]
        rw [List.getElem?_eq_getElem (by simpa using hke)] at e2
        rw [e1, ← hgk]
        exact Option.some.inj e2
      obtain ⟨b', off, rfl, d0, d1, d2, -⟩ := hx0.at'.getE k hke
      rw [hes] at d1 d2
      have hki : (k : Int) < (ds.length : Int) := by omega
      have hil := Sm.ids_len (Sm.isOw o) (ds.map (·.s)) k
      have HY : Hid (Sm.isOw o ds[k].s = true → Sm.ids (Sm.isOw o) (ds.map (·.s)) (k + 1) = Sm.ids (Sm.isOw o) (ds.map (·.s)) k ++ [(k : Int)]) := Hid_of fun hp => Sm.ids_yes hkm (by rw [hgk]; exact hp)
      have HN : Hid (Sm.isOw o ds[k].s = false → Sm.ids (Sm.isOw o) (ds.map (·.s)) (k + 1) = Sm.ids (Sm.isOw o) (ds.map (·.s)) k) := Hid_of fun hp => Sm.ids_no hkm (by rw [hgk]; exact hp)
      cases hp : Sm.isOw o ds[k].s with
      | true =>
        have hp2 : (ds[k].s.st == 1) = true ∧ (ds[k].s.ow == o) = true := by unfold Sm.isOw at hp; simpa using hp
        obtain ⟨f1, f2⟩ := hp2
        have hst := state_any HDX.out (by omega) k hke 3
        have HYE := Hid_of (HY.out hp)
        have HL : Hid ((es.set k { es[k] with s := { es[k].s with st := 3 } }).map (·.s) = Sm.frs (ds.map (·.s)) (Sm.ids (Sm.isOw o) (ds.map (·.s)) (k + 1))) := Hid_of (by rw [HYE.out, stt_map hke, HE.out.2.1, Sm.frs_step _ _ k hkm])
        rw [hel] at hst
        have HO := Hid_of hown
        have HB := Hid_of HE.out.2.2
        clear hown hx0 HE HY HN hp hgk hkm hni hes
        generalize es.set k { es[k] with s := { es[k].s with st := 3 } } = es' at *
        generalize ds[k] = x at *
        go_wp2_with fail
        refine hst.mono ?_
        rintro e w3 ⟨v3, rfl, hb3, hD3⟩
        have hbw := bel_up HB.out hb3 (Nat.le_refl _)
        obtain ⟨a', c', w4, hr, ho4, hb4, hz4, hk4, hn4⟩ := append_oneR (HO.out.keep hb3) hbw k (by omega)
        have HR := Hid_of hr
        have hb34 := bel1 w3 (.cells #[.int .i64 k] 3)
        rw [← HYE.out] at ho4
        have HX4 : Hid ((∃ K', DX w4 K' v3 es' ∧ ∀ q, K' q → Kn K w w4 q ∧ q < w4.heap.size ∧ (Value.slice a' ((Sm.ids (Sm.isOw o) (ds.map (·.s)) k).length + 1) c').ownBlock ≠ some q) ∧ es'.map (·.s) = Sm.frs (ds.map (·.s)) (Sm.ids (Sm.isOw o) (ds.map (·.s)) (k + 1)) ∧ Below w.heap.size w w4) := Hid_of (by
          have hne : ∀ j, Kn K' wr w3 j → j < w3.heap.size ∧ u.ownBlock ≠ some j ∧ Kn K w w4 j := fun j hj => by
            rcases hj with hj | hj
            · obtain ⟨q1, q2, q3⟩ := HKK.out j hj
              exact ⟨Nat.lt_of_lt_of_le q2 hb3.size, q3, Kn.up (Nat.le_trans hb3.size hz4) q1⟩
            · refine ⟨hj.2, fun e => ?_, .inr ⟨Nat.le_trans HB.out.size hj.1, Nat.lt_of_lt_of_le hj.2 hz4⟩⟩
              have := (HO.out.lt e).2
              omega
          refine ⟨⟨Kn K' wr w3, hD3.keepBut fun j hj hk => hk4 j hj (hne j hk).2.1, fun j hj => ?_⟩, HL.out, hb4⟩
          obtain ⟨q1, q2, q3⟩ := hne j hj
          refine ⟨q3, Nat.lt_of_lt_of_le q1 hz4, fun e => ?_⟩
          rcases hn4 j e with q | q
          · exact q2 q
          · omega)
        clear hst hb3 hD3 hbw hr hb4 hb34 HL HO HB hz4 hk4 hn4 HKK HDX
        go_wp2_with (at_builtin; refine wpList_append_known rfl _ _ 30 rfl _ _ rfl rfl _ _ (HR.out _) ?_)
        go_roundw
        case rel => exact ⟨k + 1, es', by omega, by go_num, ho4, HX4⟩
        case measure => simp [intOf]; omega
      | false =>
        have ho3 := hown
        rw [← HN.out hp] at ho3
        have HX3 : Hid ((∃ K', DX wr K' (.slice (some ⟨b', off, none⟩) ds.length c0) es ∧ ∀ q, K' q → Kn K w wr q ∧ q < wr.heap.size ∧ (u).ownBlock ≠ some q) ∧ es.map (·.s) = Sm.frs (ds.map (·.s)) (Sm.ids (Sm.isOw o) (ds.map (·.s)) (k + 1)) ∧ Below w.heap.size w wr) := Hid_of (by rw [HN.out hp, ← hel]; exact ⟨⟨K', HDX.out, HKK.out⟩, HE.out.2⟩)
        cases f2 : ds[k].s.ow == o with
        | false =>
          clear hown hx0 HE HY HN hp hgk hkm hni hes
          generalize ds[k] = x at *
          go_wp2
          go_roundw
          case rel => exact ⟨k + 1, es, by omega, by go_num, ho3, HX3⟩
          case measure => simp [intOf]; omega
        | true =>
          have f1 : (ds[k].s.st == 1) = false := by
            unfold Sm.isOw at hp
            rw [f2] at hp
            simpa using hp
          clear hown hx0 HE HY HN hp hgk hkm hni hes
          generalize ds[k] = x at *
          go_wp2
          go_roundw
          case rel => exact ⟨k + 1, es, by omega, by go_num, ho3, HX3⟩
          case measure => simp [intOf]; omega
    · have hkn : k = ds.length := by omega
      subst hkn
      have HQ : Hid (DrD w K (ds.map (·.s)) o (.returned (.tuple #[.slice a0 ds.length c0, u])) wr) := Hid_of (by
        have e1 : Sm.ids (Sm.isOw o) (ds.map (·.s)) ds.length = Sm.ofOw (ds.map (·.s)) o := by unfold Sm.ofOw; rw [hml]
        have hX := HDX.out.sub fun k hk => (HKK.out k hk).1
        have he := HE.out.2.1
        rw [e1] at hown he
        rw [Sm.frs_all] at he
        rw [hel] at hX
        exact ⟨_, _, rfl, HE.out.2.2, hown, es, hX, he⟩)
      clear hown HE hx0 HDX HKK
      go_wp2
      go_ret2
      exact HQ.out
end

end Go.Proofs.Ytgcfpihfoekllaa
