/-
  The document's one.
-/
import Derived.Test.YtjbcchipbdkplaaQE
import Derived.Deep.CutRange
namespace Go.Proofs.Ytjbcchipbdkplaa
open Go.RowKit Go.Maps
set_option linter.unusedVariables false
open Rp (C fup)

theorem size88 (v0 v1 : Value) : (Try.prog.info? 88).map (·.size) = some (#[v0, v1] : Array Value).size := by
  show _ = some 2
  kernel_rfl
theorem res88_3 {fn : Func} {p u u' : Tmp} (h : fn.results = #[.cell p 88, .tmp u, .tmp u']) (tmps : Array Value) (w : World) (g : Nat) (v0 v1 : Value) (hp : tmps.getD p undef = .pointer (some ⟨g, 0, none⟩)) (hg : w.heap[g]? = some (.cells #[v0, v1] 88 (0, 0))) :
    (results fn tmps).run Try.prog w = .ok (.tuple #[.agg #[v0, v1], tmps.getD u undef, tmps.getD u' undef]) w := by
  have hp' : tmps[p]?.getD undef = .pointer (some ⟨g, 0, none⟩) := by simpa using hp
  rw [results_cell_tmps h]
  simp [asAddr, hp', run_loadVar_row w g 88 88 #[v0, v1] (0, 0) _ hg Try.underlying88 rfl (size88 v0 v1)]
theorem f43_res : Try.f43.results = #[.cell 4 88, .tmp 5, .tmp 6] := rfl
theorem row2set {w : World} {k : Nat} {v0 v1 : Value} {t : TypeId} (h : w.heap[k]? = some (.cells #[v0, v1] t (0, 0))) (a b : Value) : ((w.setCell ⟨k, 0, none⟩ a).setCell ⟨k, 1, none⟩ b).heap[k]? = some (.cells #[a, b] t (0, 0)) :=
  heap_setCell_same _ k 1 _ _ b (heap_setCell_same w k 0 _ _ a h)
theorem row2far (w : World) (k q : Nat) (a b : Value) (hq : q ≠ k) : ((w.setCell ⟨k, 0, none⟩ a).setCell ⟨k, 1, none⟩ b).heap[q]? = w.heap[q]? := by
  rw [heap_setCell_other _ ⟨k, 1, none⟩ q _ hq, heap_setCell_other _ ⟨k, 0, none⟩ q _ hq]
theorem bel2 {n : Nat} {w0 w : World} (h : Below n w0 w) (k : Nat) (hk : n ≤ k) (a b : Value) : Below n w0 ((w.setCell ⟨k, 0, none⟩ a).setCell ⟨k, 1, none⟩ b) := (h.setCell (p := ⟨k, 0, none⟩) hk _).setCell (p := ⟨k, 1, none⟩) hk _
theorem Rp.Tot.bad {tot : Option (List C × List UInt8)} {st : Option (List UInt8)} {m : Nat} {last : Int} {l : List C} {c : C} {ok : Bool} (h : Rp.Tot tot st (m + 1) last l) (hc : Rp.rdC (lft st) = Rp.res ok none c) : tot = none := by
  unfold Rp.Tot at h
  rw [h, Rp.bind_C, hc]
  unfold Rp.res
  cases ok <;> rfl
/-- What one gives. -/
def OOut (w : World) (room : Nat) (s : List UInt8) (e : Ending) (w' : World) : Prop :=
  (Rp.rdL room s = none ∧ (∃ sv bv, e = .returned (.tuple #[.agg #[.string sv, .bool bv], .slice none 0 0, .bool false])) ∧ Below w.heap.size w w') ∨
  ∃ (l : List C) (r : List UInt8) (v : Value), Rp.rdL room s = some (l, r) ∧ e = .returned (.tuple #[.agg #[.string (ofL r), .bool false], v, .bool true]) ∧ OwnL cl 62 w' w.heap.size v l ∧ l ≠ [] ∧ r.length ≤ s.length ∧ Below w.heap.size w w'
theorem some_of {st : Option (List UInt8)} (h : st.isNone = false) : st = some (lft st) := by cases st with | none => cases h | some r => rfl
theorem none_of {st : Option (List UInt8)} (h : st.isNone = true) : st = none := by cases st with | none => rfl | some r => cases h
theorem may0 (id : Int) : Rp.may 0 id = Rp.mayI id := by simp [Rp.may, Rp.mayC]
set_option maxRecDepth 100000 in
set_option maxHeartbeats 4000000 in
theorem one_no (room : Nat) (s : List UInt8) (w : World) (hl : s.length ≤ 100000) (h16 : room ≤ 16) (hbad : vl 0 (M.int s) < 1 ∨ (room : Int) < vl 0 (M.int s)) :
    Calls Try.prog 43 #[.agg #[.string (ofL s), .bool false], .int .i64 room] w (OOut w room s) := by
  obtain ⟨W0, HW0⟩ : ∃ W0, Hid ((w.alloc (.cells #[.string (ofL s), .bool false] 88)).alloc (.cells #[.string ⟨#[]⟩, .bool false] 88) = W0) := ⟨_, Hid_of rfl⟩
  have hr2 := heap_alloc2_old w (.cells #[.string (ofL s), .bool false] 88) (.cells #[.string ⟨#[]⟩, .bool false] 88)
  have hr4 := heap_alloc2_new w (.cells #[.string (ofL s), .bool false] 88) (.cells #[.string ⟨#[]⟩, .bool false] 88)
  rw [HW0.out] at hr2 hr4
  have HB0 : Hid (Below w.heap.size w W0) := by rw [← HW0.out]; exact bel_up (bel1 w _) (bel1 _ _) (Nat.le_refl _)
  have hs0 : W0.heap.size = w.heap.size + 2 := by rw [← HW0.out]; simp
  obtain ⟨c0, c1, _, _⟩ := row2 hr2
  have hti := takeInt_any s false W0 (by omega)
  have hil := int_left s
  have HR2 := Hid_of hr2
  have HR4 := Hid_of hr4
  have HS0 := Hid_of hs0
  have HN := Hid_of (rdL_no room s hbad)
  clear hr2 hr4 hs0
  go_enter Try.func43, Try.ntmps43
  go_upto_region 1 with fail
  rw [HW0.out]
  go_wp2_with fail
  refine hti.mono ?_
  rintro e w1 ⟨rfl, hb1⟩
  rw [show RV (nx (M.int s)) = .agg #[.string (ofL (lft (nx (M.int s)))), .bool (nx (M.int s)).isNone] from rfl]
  have hR2 := (hb1.block _ (Array.getElem?_eq_some_iff.1 HR2.out).1).trans HR2.out
  have hR4 := (hb1.block _ (Array.getElem?_eq_some_iff.1 HR4.out).1).trans HR4.out
  have hsz1 := hb1.size
  obtain ⟨z0, z1, zf0, zf1⟩ := row2 hR2
  obtain ⟨W1, HW1⟩ : ∃ W1, Hid ((w1.setCell ⟨w.heap.size, 0, none⟩ (.string (ofL (lft (nx (M.int s)))))).setCell ⟨w.heap.size, 1, none⟩ (.bool (nx (M.int s)).isNone) = W1) := ⟨_, Hid_of rfl⟩
  have HB1 : Hid (Below w.heap.size w W1) := by rw [← HW1.out]; exact bel2 (bel_up HB0.out hb1 (Nat.le_refl _)) _ (Nat.le_refl _) _ _
  have hX2 : W1.heap[w.heap.size]? = some (.cells #[.string (ofL (lft (nx (M.int s)))), .bool (nx (M.int s)).isNone] 88 (0, 0)) := by rw [← HW1.out]; exact row2set hR2 _ _
  have hX4 : W1.heap[w.heap.size + 1]? = some (.cells #[.string ⟨#[]⟩, .bool false] 88 (0, 0)) := by rw [← HW1.out, row2far _ _ _ _ _ (by omega)]; exact hR4
  have HS1 : Hid (w.heap.size + 2 ≤ W1.heap.size) := Hid_of (by have := HS0.out; rw [← HW1.out]; simp; omega)
  clear hti hb1 hR2 hR4 c0 c1 HR2 HR4 HB0 hsz1 HS0
  go_upto_region 2 with fail
  rw [HW1.out]
  clear HW0 HW1 z0 z1 zf0 zf1
  obtain ⟨x0, x1, xf0, xf1⟩ := row2 hX2
  obtain ⟨y0, y1, yf0, yf1⟩ := row2 hX4
  generalize hst : nx (M.int s) = st at *
  generalize vl 0 (M.int s) = nn at *
  generalize ofL (lft st) = sv at *
  generalize hbv : st.isNone = bv at *
  obtain ⟨W7, HW7⟩ : ∃ W7, Hid ((W1.setCell ⟨w.heap.size + 1, 0, none⟩ (.string sv)).setCell ⟨w.heap.size + 1, 1, none⟩ (.bool bv) = W7) := ⟨_, Hid_of rfl⟩
  have HR7 : Hid (W7.heap[w.heap.size + 1]? = some (.cells #[.string sv, .bool bv] 88 (0, 0))) := by rw [← HW7.out]; exact row2set hX4 _ _
  have HK : Hid (OOut w room s (.returned (.tuple #[.agg #[.string sv, .bool bv], .slice none 0 0, .bool false])) W7) := .inl ⟨HN.out, ⟨_, _, rfl⟩, by rw [← HW7.out]; exact bel2 HB1.out _ (by omega) _ _⟩
  have hd : bv = true ∨ bv = false ∧ decide (nn < 1) = true ∨ bv = false ∧ decide (nn < 1) = false ∧ decide ((room : Int) < nn) = true := by cases bv <;> simp <;> omega
  clear hX2 hX4 HN HB1 hst hbv hbad hil
  rcases hd with rfl | ⟨rfl, d1⟩ | ⟨rfl, d1, d2⟩
  all_goals
    go_wp2
    rw [HW7.out]
    refine bodyPost_ret (v := .tuple #[.agg #[.string sv, .bool _], .slice none 0 0, .bool false]) ?_ rfl HK.out
    exact res88_3 f43_res _ _ (w.heap.size + 1) _ _ rfl HR7.out
set_option maxRecDepth 100000 in
set_option maxHeartbeats 4000000 in
theorem one_yes (room : Nat) (s : List UInt8) (w : World) (hl : s.length ≤ 100000) (h16 : room ≤ 16) (n : Nat) (hn : vl 0 (M.int s) = (n : Int)) (h1 : 1 ≤ n) (h2 : n ≤ room) :
    Calls Try.prog 43 #[.agg #[.string (ofL s), .bool false], .int .i64 room] w (OOut w room s) := by
  obtain ⟨W0, HW0⟩ : ∃ W0, Hid ((w.alloc (.cells #[.string (ofL s), .bool false] 88)).alloc (.cells #[.string ⟨#[]⟩, .bool false] 88) = W0) := ⟨_, Hid_of rfl⟩
  have hr2 := heap_alloc2_old w (.cells #[.string (ofL s), .bool false] 88) (.cells #[.string ⟨#[]⟩, .bool false] 88)
  have hr4 := heap_alloc2_new w (.cells #[.string (ofL s), .bool false] 88) (.cells #[.string ⟨#[]⟩, .bool false] 88)
  rw [HW0.out] at hr2 hr4
  have HB0 : Hid (Below w.heap.size w W0) := by rw [← HW0.out]; exact bel_up (bel1 w _) (bel1 _ _) (Nat.le_refl _)
  have hs0 : W0.heap.size = w.heap.size + 2 := by rw [← HW0.out]; simp
  obtain ⟨c0, c1, _, _⟩ := row2 hr2
  have hti := takeInt_any s false W0 (by omega)
  have hil := int_left s
  have HR2 := Hid_of hr2
  have HR4 := Hid_of hr4
  have HS0 := Hid_of hs0
  have HT := Hid_of (rdL_yes room s n hn h1 h2)
  obtain ⟨tot, HTE⟩ : ∃ tot, Hid (Rp.rdL room s = tot) := ⟨_, Hid_of rfl⟩
  rw [HTE.out] at HT
  have HSOME : Hid ((nx (M.int s)).isNone = false) := Hid_of (by
    cases hi : M.int s with
    | none => rw [hi] at hn; simp [vl] at hn; omega
    | some p => rfl)
  have d1 : decide ((n : Int) < 1) = false := decide_eq_false (by omega)
  have d2 : decide ((room : Int) < (n : Int)) = false := decide_eq_false (by omega)
  have d3 : decide (n < 1) = false := decide_eq_false (by omega)
  have d4 : decide (room < n) = false := decide_eq_false (by omega)
  rw [hn] at hti
  clear hr2 hr4 hs0
  go_enter Try.func43, Try.ntmps43
  go_upto_region 1 with fail
  rw [HW0.out]
  go_wp2_with fail
  refine hti.mono ?_
  rintro e w1 ⟨rfl, hb1⟩
  rw [show RV (nx (M.int s)) = .agg #[.string (ofL (lft (nx (M.int s)))), .bool (nx (M.int s)).isNone] from rfl]
  have hR2 := (hb1.block _ (Array.getElem?_eq_some_iff.1 HR2.out).1).trans HR2.out
  have hR4 := (hb1.block _ (Array.getElem?_eq_some_iff.1 HR4.out).1).trans HR4.out
  have hsz1 := hb1.size
  obtain ⟨z0, z1, zf0, zf1⟩ := row2 hR2
  obtain ⟨W1, HW1⟩ : ∃ W1, Hid ((w1.setCell ⟨w.heap.size, 0, none⟩ (.string (ofL (lft (nx (M.int s)))))).setCell ⟨w.heap.size, 1, none⟩ (.bool (nx (M.int s)).isNone) = W1) := ⟨_, Hid_of rfl⟩
  have HB1 : Hid (Below w.heap.size w W1) := by rw [← HW1.out]; exact bel2 (bel_up HB0.out hb1 (Nat.le_refl _)) _ (Nat.le_refl _) _ _
  have hX2 : W1.heap[w.heap.size]? = some (.cells #[.string (ofL (lft (nx (M.int s)))), .bool (nx (M.int s)).isNone] 88 (0, 0)) := by rw [← HW1.out]; exact row2set hR2 _ _
  have hX4 : W1.heap[w.heap.size + 1]? = some (.cells #[.string ⟨#[]⟩, .bool false] 88 (0, 0)) := by rw [← HW1.out, row2far _ _ _ _ _ (by omega)]; exact hR4
  have HS1 : Hid (w.heap.size + 2 ≤ W1.heap.size) := Hid_of (by have := HS0.out; rw [← HW1.out]; simp; omega)
  clear hti hb1 hR2 hR4 c0 c1 HR2 HR4 HB0 hsz1 HS0
  go_upto_region 2 with fail
  rw [HW1.out]
  clear HW0 HW1 z0 z1 zf0 zf1
  obtain ⟨x0, x1, xf0, xf1⟩ := row2 hX2
  rw [HSOME.out] at hX2 x1
  generalize hst : nx (M.int s) = st at *
  have HST : Hid (st = some (lft st) ∧ (lft st).length ≤ s.length) := ⟨some_of HSOME.out, hil⟩
  have HROW : Hid (W1.heap[w.heap.size]? = some (.cells #[.string (ofL (lft st)), .bool false] 88 (0, 0)) ∧ W1.heap[w.heap.size + 1]? = some (.cells #[.string ⟨#[]⟩, .bool false] 88 (0, 0))) := ⟨hX2, hX4⟩
  clear hX2 hX4 HSOME hst hil xf0 xf1 x0 hn
  go_wp2
  go_loopw [9, 8] (fun i v wr => ∃ (k : Nat) (l : List C) (r : List UInt8) (last : Int), k ≤ n ∧ i = .int .i64 k ∧ l.length = k ∧ OwnL cl 62 wr (w.heap.size + 2) v l ∧ wr.heap[w.heap.size]? = some (.cells #[.string (ofL r), .bool false] 88 (0, 0)) ∧ wr.heap[w.heap.size + 1]? = some (.cells #[.string ⟨#[]⟩, .bool false] 88 (0, 0)) ∧ Below w.heap.size w wr ∧ w.heap.size + 2 ≤ wr.heap.size ∧ r.length ≤ s.length ∧ ((k = 0 ∧ last = -1) ∨ ∃ h : k - 1 < l.length, 0 < k ∧ last = l[k - 1].id) ∧ Hid (Rp.Tot tot (some r) (n - k) last l)) (fun i v _ => n - (intOf i).toNat)
  case atStart => exact ⟨0, [], lft st, -1, Nat.zero_le _, rfl, rfl, OwnL.nil _ _ _, HROW.out.1, HROW.out.2, HB1.out, HS1.out, HST.out.2, .inl ⟨rfl, rfl⟩, by rw [← HST.out.1]; exact HT⟩
  case round =>
    obtain ⟨k, l, r, last, hk, rfl, hlk, ho, hr2, hr4, hbl, hsz, hrl, hla, HT'⟩ := hrel
    clear HT HROW HST HB1 HS1 x1
    obtain ⟨av, capv, rfl, hxv, _⟩ := ho.at
    rw [hlk] at ho ⊢
    obtain ⟨c0, c1, _, _⟩ := row2 hr2
    by_cases hlt : k < n
    · obtain ⟨m, hm⟩ : ∃ m, n - k = m + 1 := ⟨n - k - 1, by omega⟩
      rw [hm] at HT'
      have HM : Hid (n - (k + 1) = m) := Hid_of (by omega)
      have hki : (k : Int) < (n : Int) := by omega
      have hti := takeInt_any r false wr (by omega)
      have hil := int_left r
      have HO := Hid_of ho
      have HR := Hid_of (And.intro hr2 (And.intro hr4 (And.intro hbl hsz)))
      clear ho hr2 hr4 hbl hxv hm
      go_wp2_with fail
      refine hti.mono ?_
      rintro e w1 ⟨rfl, hb1⟩
      rw [show RV (nx (M.int r)) = .agg #[.string (ofL (lft (nx (M.int r)))), .bool (nx (M.int r)).isNone] from rfl]
      obtain ⟨V1, HV1⟩ : ∃ V1, Hid (w1.alloc (.cells #[.string (ofL (lft (nx (M.int r)))), .bool (nx (M.int r)).isNone] 88) = V1) := ⟨_, Hid_of rfl⟩
      have hq10 : V1.heap[w1.heap.size]? = some (.cells #[.string (ofL (lft (nx (M.int r)))), .bool (nx (M.int r)).isNone] 88 (0, 0)) := by rw [← HV1.out]; exact heap_alloc_last w1 _
      have HBV1 : Hid (Below wr.heap.size wr V1) := by rw [← HV1.out]; exact bel_up hb1 (bel1 w1 _) (Nat.le_refl _)
      have HLE : Hid (wr.heap.size ≤ w1.heap.size) := hb1.size
      obtain ⟨d0, d1', _, _⟩ := row2 hq10
      have htb := takeByte_any (lft (nx (M.int r))) (nx (M.int r)).isNone V1 (by omega)
      have hbyl := byte_left (lft (nx (M.int r)))
      have HQ10 := Hid_of hq10
      clear hti hb1 hq10 c0 c1
      go_upto_region 9 with fail
      rw [HV1.out]
      go_wp2_with fail
      refine htb.mono ?_
      rintro e w2 ⟨rfl, hb2⟩
      rw [show RV (nx (M.byte (lft (nx (M.int r))))) = .agg #[.string (ofL (lft (nx (M.byte (lft (nx (M.int r))))))), .bool (nx (M.byte (lft (nx (M.int r))))).isNone] from rfl]
      have hq10 := (hb2.block _ (Array.getElem?_eq_some_iff.1 HQ10.out).1).trans HQ10.out
      obtain ⟨e0, e1, ef0, ef1⟩ := row2 hq10
      obtain ⟨V2, HV2⟩ : ∃ V2, Hid ((w2.setCell ⟨w1.heap.size, 0, none⟩ (.string (ofL (lft (nx (M.byte (lft (nx (M.int r))))))))).setCell ⟨w1.heap.size, 1, none⟩ (.bool (nx (M.byte (lft (nx (M.int r))))).isNone) = V2) := ⟨_, Hid_of rfl⟩
      have HBV2 : Hid (Below wr.heap.size wr V2) := by rw [← HV2.out]; exact bel2 (bel_up HBV1.out hb2 (Nat.le_refl _)) _ HLE.out _ _
      have HX10 : Hid (V2.heap[w1.heap.size]? = some (.cells #[.string (ofL (lft (nx (M.byte (lft (nx (M.int r))))))), .bool (nx (M.byte (lft (nx (M.int r))))).isNone] 88 (0, 0))) := by rw [← HV2.out]; exact row2set hq10 _ _
      clear htb hb2 hq10 HQ10 d0 d1' HV1 HBV1
      by_cases hv1 : vl 0 (M.byte (lft (nx (M.int r)))) = 1
      · have HC : Hid (Rp.rdC (lft (some r)) = Rp.res true (nx (M.byte (lft (nx (M.int r))))) ⟨vl 0 (M.int r), true, []⟩) := Hid_of (by rw [show lft (some r) = r from rfl, Rp.rdC_busy _ hv1]; rfl)
        rw [hv1]
        clear hv1
        have HLN : Hid ((lft (nx (M.byte (lft (nx (M.int r)))))).length ≤ s.length) := Hid_of (by omega)
        generalize nx (M.byte (lft (nx (M.int r)))) = st2 at *
        generalize vl 0 (M.int r) = id at *
        clear hbyl hil hrl
        obtain ⟨V3, HV3⟩ : ∃ V3, Hid (V2.alloc (.cells #[.int .i64 id, .bool true, .string ⟨#[]⟩] 62) = V3) := ⟨_, Hid_of rfl⟩
        have HBV3 : Hid (Below wr.heap.size wr V3) := by rw [← HV3.out]; exact bel_up HBV2.out (bel1 V2 _) (Nat.le_refl _)
        have hX13 : V3.heap[V2.heap.size]? = some (.cells #[.int .i64 id, .bool true, .string ⟨#[]⟩] 62 (0, 0)) := by rw [← HV3.out]; exact heap_alloc_last V2 _
        have hlt13 : w1.heap.size < V2.heap.size := (Array.getElem?_eq_some_iff.1 HX10.out).1
        have hX10 : V3.heap[w1.heap.size]? = some (.cells #[.string (ofL (lft st2)), .bool st2.isNone] 88 (0, 0)) := by rw [← HV3.out, Below.heap_alloc V2 _ _ hlt13]; exact HX10.out
        have HL13 : Hid (wr.heap.size ≤ w1.heap.size ∧ w1.heap.size < V2.heap.size) := ⟨HLE.out, hlt13⟩
        clear hlt13 HX10 HBV2
        go_upto_region 10 with fail
        rw [HV2.out]
        go_upto_region 11 with fail
        rw [HV3.out]
        clear HV2 HV3 e0 e1 ef0 ef1
        have HB := HBV3
        obtain ⟨g0, g1, _, _⟩ := row2 hX10
        obtain ⟨⟨j0, j1, j2⟩, _⟩ := row3 hX13
        have HX13 := Hid_of hX13
        clear hX10 hX13
        cases hso : st2.isNone with
        | true =>
          rw [hso] at g1
          have HB' := HB
          have hR4 := (HB.out.block _ (by have := HR.out.2.2.2; omega)).trans HR.out.2.1
          obtain ⟨y0, y1, yf0, yf1⟩ := row2 hR4
          obtain ⟨W7, HW7⟩ : ∃ W7, Hid ((V3.setCell ⟨w.heap.size + 1, 0, none⟩ (.string (ofL (lft st2)))).setCell ⟨w.heap.size + 1, 1, none⟩ (.bool true) = W7) := ⟨_, Hid_of rfl⟩
          have HR7 : Hid (W7.heap[w.heap.size + 1]? = some (.cells #[.string (ofL (lft st2)), .bool true] 88 (0, 0))) := by rw [← HW7.out]; exact row2set hR4 _ _
          have HK : Hid (OOut w room s (.returned (.tuple #[.agg #[.string (ofL (lft st2)), .bool true], .slice none 0 0, .bool false])) W7) := .inl ⟨by rw [HTE.out]; exact HT'.out.bad (c := ⟨id, true, []⟩) (ok := true) (by rw [HC.out, none_of hso]), ⟨_, _, rfl⟩, by rw [← HW7.out]; exact bel2 (bel_up HR.out.2.2.1 HB.out (Nat.le_refl _)) _ (by omega) _ _⟩
          clear hR4 HB HB' HR HO HT' HM HC HTE HL13
          generalize ofL (lft st2) = sv at *
          go_wp2
          rw [HW7.out]
          refine bodyPost_ret (v := .tuple #[.agg #[.string sv, .bool true], .slice none 0 0, .bool false]) ?_ rfl HK.out
          exact res88_3 f43_res _ _ (w.heap.size + 1) _ _ rfl HR7.out
        | false =>
          rw [hso] at g1
          have HSO := Hid_of hso
          clear hso
          cases hmi : Rp.mayI id with
          | false =>
            have hmy := may_any 0 id V3
            rw [may0, hmi] at hmy
            have HB' := HB
            have hR4 := (HB.out.block _ (by have := HR.out.2.2.2; omega)).trans HR.out.2.1
            obtain ⟨y0, y1, yf0, yf1⟩ := row2 hR4
            obtain ⟨W7, HW7⟩ : ∃ W7, Hid ((V3.setCell ⟨w.heap.size + 1, 0, none⟩ (.string (ofL (lft st2)))).setCell ⟨w.heap.size + 1, 1, none⟩ (.bool false) = W7) := ⟨_, Hid_of rfl⟩
            have HR7 : Hid (W7.heap[w.heap.size + 1]? = some (.cells #[.string (ofL (lft st2)), .bool false] 88 (0, 0))) := by rw [← HW7.out]; exact row2set hR4 _ _
            have HK : Hid (OOut w room s (.returned (.tuple #[.agg #[.string (ofL (lft st2)), .bool false], .slice none 0 0, .bool false])) W7) := .inl ⟨by rw [HTE.out]; exact HT'.out.no HC.out (.inr (.inr hmi)), ⟨_, _, rfl⟩, by rw [← HW7.out]; exact bel2 (bel_up HR.out.2.2.1 HB.out (Nat.le_refl _)) _ (by omega) _ _⟩
            clear hR4 HB HB' HR HO HT' HM HC HTE HL13
            generalize ofL (lft st2) = sv at *
            go_wp2_with fail
            refine hmy.mono ?_
            rintro e w9 ⟨rfl, rfl⟩
            clear hmy
            go_wp2
            rw [HW7.out]
            refine bodyPost_ret (v := .tuple #[.agg #[.string sv, .bool false], .slice none 0 0, .bool false]) ?_ rfl HK.out
            exact res88_3 f43_res _ _ (w.heap.size + 1) _ _ rfl HR7.out
          | true =>
            rcases hla with ⟨hk0, hlast⟩ | ⟨hkl, hkp, hlast⟩
            · subst hk0
              have hid0 := Rp.mayI_yes hmi
              have hR2 := (HB.out.block _ (by have := HR.out.2.2.2; omega)).trans HR.out.1
              have hR4 := (HB.out.block _ (by have := HR.out.2.2.2; omega)).trans HR.out.2.1
              obtain ⟨y0, y1, yf0, yf1⟩ := row2 hR2
              have hsV := HB.out.size
              have hsR := HR.out.2.2.2
              obtain ⟨W7, HW7⟩ : ∃ W7, Hid ((V3.setCell ⟨w.heap.size, 0, none⟩ (.string (ofL (lft st2)))).setCell ⟨w.heap.size, 1, none⟩ (.bool false) = W7) := ⟨_, Hid_of rfl⟩
              have hR7 : W7.heap[w.heap.size]? = some (.cells #[.string (ofL (lft st2)), .bool false] 88 (0, 0)) := by rw [← HW7.out]; exact row2set hR2 _ _
              have hQ7 : W7.heap[w.heap.size + 1]? = some (.cells #[.string ⟨#[]⟩, .bool false] 88 (0, 0)) := by rw [← HW7.out, row2far _ _ _ _ _ (by omega)]; exact hR4
              have hB7 : Below w.heap.size w W7 := by rw [← HW7.out]; exact bel2 (bel_up HR.out.2.2.1 HB.out (Nat.le_refl _)) _ (Nat.le_refl _) _ _
              have hs7 : W7.heap.size = V3.heap.size := by rw [← HW7.out]; simp
              have hX13' : W7.heap[V2.heap.size]? = some (.cells #[.int .i64 id, .bool true, .string ⟨#[]⟩] 62 (0, 0)) := by rw [← HW7.out, row2far _ _ _ _ _ (by have := HL13.out; omega)]; exact HX13.out
              obtain ⟨⟨i0, i1, i2⟩, _⟩ := row3 hX13'
              have ho3 := HO.out.keep HB.out
              have ho7 : OwnL cl 62 W7 (w.heap.size + 2) (.slice av 0 capv) l := ho3.keepBut (fun q hq e => by
                rw [← HW7.out, row2far _ _ _ _ _ (by have := (ho3.lt e).1; omega)])
              obtain ⟨a', c', w8, hrun, ho8, hr8⟩ := run_appL_ty tiK (W7.alloc (.cells #[.int .i64 id, .bool true, .string ⟨#[]⟩] 62)) (w.heap.size + 2) (.slice av 0 capv) l [(⟨id, true, []⟩ : C)] W7.heap.size 0 1 1 (ho7.keep (bel1 W7 _)) (atL_one (t := 62) (heap_alloc_last W7 _)) rfl (by simp; omega) (by simp; omega)
              have hr8' : Rw W7 (.slice av 0 capv) w8 (.slice a' (l.length + [(⟨id, true, []⟩ : C)].length) c') := (Rw.ofBelow _ (bel1 W7 _)).trans hr8
              have hB8 : Below (w.heap.size + 2) W7 w8 := hr8'.below (fun q hq => (ho7.lt hq).1) (by omega)
              rw [hlk] at hrun ho8
              simp only [List.length_cons, List.length_nil, Nat.zero_add] at hrun ho8
              have HREL : Hid (OwnL cl 62 w8 (w.heap.size + 2) (.slice a' (0 + 1) c') (l ++ [(⟨id, true, []⟩ : C)]) ∧ w8.heap[w.heap.size]? = some (.cells #[.string (ofL (lft st2)), .bool false] 88 (0, 0)) ∧ w8.heap[w.heap.size + 1]? = some (.cells #[.string ⟨#[]⟩, .bool false] 88 (0, 0)) ∧ Below w.heap.size w w8 ∧ w.heap.size + 2 ≤ w8.heap.size) :=
                ⟨ho8, (hB8.block _ (by omega)).trans hR7, (hB8.block _ (by omega)).trans hQ7, hB7.trans (hB8.mono (by omega)), by have := hB8.size; omega⟩
              have HT2 : Hid (Rp.Tot tot (some (lft st2)) m id (l ++ [(⟨id, true, []⟩ : C)])) := Hid_of (by
                have h' := HT'.out.go HC.out (by show ¬ id ≤ last; omega) hmi
                rw [some_of HSO.out] at h'
                exact h')
              have hmy := may_any 0 id V3
              rw [may0, hmi] at hmy
              clear hR2 hR4 hR7 hQ7 hB7 ho3 ho7 ho8 hr8 hr8' hB8 hX13' HX13 HB HR HO HT' HC hsV hsR hs7 hmi HL13
              generalize hsvx : ofL (lft st2) = sv at *
              have HSVX := Hid_of hsvx
              clear hsvx
              go_wp2_with fail
              refine hmy.mono ?_
              rintro e w9 ⟨rfl, rfl⟩
              clear hmy
              go_upto_region 18 with fail
              rw [HW7.out]
              clear HW7
              go_wp2_with (at_builtin; refine wpList_append_known rfl _ _ 27 rfl _ _ rfl rfl _ _ (hrun _) ?_)
              go_roundw
              case rel => exact ⟨0 + 1, _, lft st2, id, by omega, by go_num, by simp [hlk], HREL.out.1, (by rw [HSVX.out]; exact HREL.out.2.1), HREL.out.2.2.1, HREL.out.2.2.2.1, HREL.out.2.2.2.2, HLN.out, .inr ⟨by simp [hlk], by omega, by simp [hlk]⟩, by rw [HM.out]; exact HT2⟩
              case measure => simp [intOf]; omega
            · obtain ⟨k', rfl⟩ : ∃ k', k = k' + 1 := ⟨k - 1, by omega⟩
              have hlast' : last = l[k'].id := hlast
              obtain ⟨av', capv', ev, hx3, _⟩ := (HO.out.keep HB.out).at
              rw [hlk] at ev
              simp only [Value.slice.injEq, true_and] at ev
              obtain ⟨rfl, rfl⟩ := ev
              obtain ⟨b0, off, rfl, p0, p1, p2⟩ := hx3.at'.getC k' (by omega)
              have hcle := hx3.le
              rw [hlk] at hcle
              have hkk : ((k' : Int) + 1) - 1 = (k' : Int) := by omega
              have hkp' : (0 : Int) < (k' : Int) + 1 := by omega
              have hk2 : (k' : Int) < (k' : Int) + 1 := by omega
              rw [← hlast'] at p0
              clear p1 p2 hx3 hlast' hlast hkl hkp
              by_cases hpv : id ≤ last
              · have dpv : decide (id ≤ last) = true := decide_eq_true hpv
                have hmy := may_any 0 id V3
                rw [may0, hmi] at hmy
                have HB' := HB
                have hR4 := (HB.out.block _ (by have := HR.out.2.2.2; omega)).trans HR.out.2.1
                obtain ⟨y0, y1, yf0, yf1⟩ := row2 hR4
                obtain ⟨W7, HW7⟩ : ∃ W7, Hid ((V3.setCell ⟨w.heap.size + 1, 0, none⟩ (.string (ofL (lft st2)))).setCell ⟨w.heap.size + 1, 1, none⟩ (.bool false) = W7) := ⟨_, Hid_of rfl⟩
                have HR7 : Hid (W7.heap[w.heap.size + 1]? = some (.cells #[.string (ofL (lft st2)), .bool false] 88 (0, 0))) := by rw [← HW7.out]; exact row2set hR4 _ _
                have HK : Hid (OOut w room s (.returned (.tuple #[.agg #[.string (ofL (lft st2)), .bool false], .slice none 0 0, .bool false])) W7) := .inl ⟨by rw [HTE.out]; exact HT'.out.no HC.out (.inr (.inl hpv)), ⟨_, _, rfl⟩, by rw [← HW7.out]; exact bel2 (bel_up HR.out.2.2.1 HB.out (Nat.le_refl _)) _ (by omega) _ _⟩
                clear hR4 HB HB' HR HO HT' HM HC HTE HL13
                generalize ofL (lft st2) = sv at *
                go_wp2_with fail
                refine hmy.mono ?_
                rintro e w9 ⟨rfl, rfl⟩
                clear hmy
                go_wp2
                rw [HW7.out]
                refine bodyPost_ret (v := .tuple #[.agg #[.string sv, .bool false], .slice none 0 0, .bool false]) ?_ rfl HK.out
                exact res88_3 f43_res _ _ (w.heap.size + 1) _ _ rfl HR7.out
              · have dpv : decide (id ≤ last) = false := decide_eq_false hpv
                have hR2 := (HB.out.block _ (by have := HR.out.2.2.2; omega)).trans HR.out.1
                have hR4 := (HB.out.block _ (by have := HR.out.2.2.2; omega)).trans HR.out.2.1
                obtain ⟨y0, y1, yf0, yf1⟩ := row2 hR2
                have hsV := HB.out.size
                have hsR := HR.out.2.2.2
                obtain ⟨W7, HW7⟩ : ∃ W7, Hid ((V3.setCell ⟨w.heap.size, 0, none⟩ (.string (ofL (lft st2)))).setCell ⟨w.heap.size, 1, none⟩ (.bool false) = W7) := ⟨_, Hid_of rfl⟩
                have hR7 : W7.heap[w.heap.size]? = some (.cells #[.string (ofL (lft st2)), .bool false] 88 (0, 0)) := by rw [← HW7.out]; exact row2set hR2 _ _
                have hQ7 : W7.heap[w.heap.size + 1]? = some (.cells #[.string ⟨#[]⟩, .bool false] 88 (0, 0)) := by rw [← HW7.out, row2far _ _ _ _ _ (by omega)]; exact hR4
                have hB7 : Below w.heap.size w W7 := by rw [← HW7.out]; exact bel2 (bel_up HR.out.2.2.1 HB.out (Nat.le_refl _)) _ (Nat.le_refl _) _ _
                have hs7 : W7.heap.size = V3.heap.size := by rw [← HW7.out]; simp
                have hX13' : W7.heap[V2.heap.size]? = some (.cells #[.int .i64 id, .bool true, .string ⟨#[]⟩] 62 (0, 0)) := by rw [← HW7.out, row2far _ _ _ _ _ (by have := HL13.out; omega)]; exact HX13.out
                obtain ⟨⟨i0, i1, i2⟩, _⟩ := row3 hX13'
                have ho3 := HO.out.keep HB.out
                have ho7 : OwnL cl 62 W7 (w.heap.size + 2) (.slice (some ⟨b0, off, none⟩) (k' + 1) capv) l := ho3.keepBut (fun q hq e => by
                  rw [← HW7.out, row2far _ _ _ _ _ (by have := (ho3.lt e).1; omega)])
                obtain ⟨a', c', w8, hrun, ho8, hr8⟩ := run_appL_ty tiK (W7.alloc (.cells #[.int .i64 id, .bool true, .string ⟨#[]⟩] 62)) (w.heap.size + 2) (.slice (some ⟨b0, off, none⟩) (k' + 1) capv) l [(⟨id, true, []⟩ : C)] W7.heap.size 0 1 1 (ho7.keep (bel1 W7 _)) (atL_one (t := 62) (heap_alloc_last W7 _)) rfl (by simp; omega) (by simp; omega)
                have hr8' : Rw W7 (.slice (some ⟨b0, off, none⟩) (k' + 1) capv) w8 (.slice a' (l.length + [(⟨id, true, []⟩ : C)].length) c') := (Rw.ofBelow _ (bel1 W7 _)).trans hr8
                have hB8 : Below (w.heap.size + 2) W7 w8 := hr8'.below (fun q hq => (ho7.lt hq).1) (by omega)
                rw [hlk] at hrun ho8
                simp only [List.length_cons, List.length_nil, Nat.zero_add] at hrun ho8
                have HREL : Hid (OwnL cl 62 w8 (w.heap.size + 2) (.slice a' (k' + 1 + 1) c') (l ++ [(⟨id, true, []⟩ : C)]) ∧ w8.heap[w.heap.size]? = some (.cells #[.string (ofL (lft st2)), .bool false] 88 (0, 0)) ∧ w8.heap[w.heap.size + 1]? = some (.cells #[.string ⟨#[]⟩, .bool false] 88 (0, 0)) ∧ Below w.heap.size w w8 ∧ w.heap.size + 2 ≤ w8.heap.size) :=
                  ⟨ho8, (hB8.block _ (by omega)).trans hR7, (hB8.block _ (by omega)).trans hQ7, hB7.trans (hB8.mono (by omega)), by have := hB8.size; omega⟩
                have HT2 : Hid (Rp.Tot tot (some (lft st2)) m id (l ++ [(⟨id, true, []⟩ : C)])) := Hid_of (by
                  have h' := HT'.out.go HC.out (by show ¬ id ≤ last; omega) hmi
                  rw [some_of HSO.out] at h'
                  exact h')
                have hmy := may_any 0 id V3
                rw [may0, hmi] at hmy
                clear hR2 hR4 hR7 hQ7 hB7 ho3 ho7 ho8 hr8 hr8' hB8 hX13' HX13 HB HR HO HT' HC hsV hsR hs7 hmi HL13
                generalize hsvx : ofL (lft st2) = sv at *
                have HSVX := Hid_of hsvx
                clear hsvx
                go_wp2_with fail
                refine hmy.mono ?_
                rintro e w9 ⟨rfl, rfl⟩
                clear hmy
                go_upto_region 18 with fail
                rw [HW7.out]
                clear HW7
                go_wp2_with (at_builtin; refine wpList_append_known rfl _ _ 27 rfl _ _ rfl rfl _ _ (hrun _) ?_)
                go_roundw
                case rel => exact ⟨k' + 1 + 1, _, lft st2, id, by omega, by go_num, by simp [hlk], HREL.out.1, (by rw [HSVX.out]; exact HREL.out.2.1), HREL.out.2.2.1, HREL.out.2.2.2.1, HREL.out.2.2.2.2, HLN.out, .inr ⟨by simp [hlk], by omega, by simp [hlk]⟩, by rw [HM.out]; exact HT2⟩
                case measure => simp [intOf]; omega
      · by_cases hv0 : vl 0 (M.byte (lft (nx (M.int r)))) = 0
        · have HC : Hid (Rp.rdC (lft (some r)) = Rp.res (decide ((vl [] (M.text (lft (nx (M.byte (lft (nx (M.int r)))))))).length ≤ 4096)) (nx (M.text (lft (nx (M.byte (lft (nx (M.int r)))))))) ⟨vl 0 (M.int r), false, vl [] (M.text (lft (nx (M.byte (lft (nx (M.int r)))))))⟩) := Hid_of (by
            rw [show lft (some r) = r from rfl, Rp.rdC_reply _ hv0]
            unfold Rp.res
            simp only [decide_eq_true_eq])
          rw [hv0]
          clear hv0 hv1
          have htl := text_left (lft (nx (M.byte (lft (nx (M.int r))))))
          have HLN : Hid ((lft (nx (M.text (lft (nx (M.byte (lft (nx (M.int r))))))))).length ≤ s.length) := Hid_of (by omega)
          have htk := fun W => takeText_any (lft (nx (M.byte (lft (nx (M.int r)))))) (nx (M.byte (lft (nx (M.int r))))).isNone W (by omega)
          generalize hst3 : nx (M.text (lft (nx (M.byte (lft (nx (M.int r))))))) = st3 at *
          generalize htx : vl [] (M.text (lft (nx (M.byte (lft (nx (M.int r))))))) = tx at *
          generalize nx (M.byte (lft (nx (M.int r)))) = st2 at *
          generalize vl 0 (M.int r) = id at *
          clear hbyl hil hrl htl hst3 htx
          obtain ⟨V3, HV3⟩ : ∃ V3, Hid (V2.alloc (.cells #[.int .i64 id, .bool false, .string ⟨#[]⟩] 62) = V3) := ⟨_, Hid_of rfl⟩
          have HBV3 : Hid (Below wr.heap.size wr V3) := by rw [← HV3.out]; exact bel_up HBV2.out (bel1 V2 _) (Nat.le_refl _)
          have hX13 : V3.heap[V2.heap.size]? = some (.cells #[.int .i64 id, .bool false, .string ⟨#[]⟩] 62 (0, 0)) := by rw [← HV3.out]; exact heap_alloc_last V2 _
          have hlt13 : w1.heap.size < V2.heap.size := (Array.getElem?_eq_some_iff.1 HX10.out).1
          have hX10 : V3.heap[w1.heap.size]? = some (.cells #[.string (ofL (lft st2)), .bool st2.isNone] 88 (0, 0)) := by rw [← HV3.out, Below.heap_alloc V2 _ _ hlt13]; exact HX10.out
          have HL13 : Hid (wr.heap.size ≤ w1.heap.size ∧ w1.heap.size < V2.heap.size) := ⟨HLE.out, hlt13⟩
          clear hlt13 HX10 HBV2
          go_upto_region 10 with fail
          rw [HV2.out]
          go_upto_region 11 with fail
          rw [HV3.out]
          clear HV2 HV3 e0 e1 ef0 ef1
          obtain ⟨g0, g1, _, _⟩ := row2 hX10
          go_wp2_with fail
          refine (htk V3).mono ?_
          rintro e w4 ⟨rfl, hb4⟩
          rw [show RV st3 = .agg #[.string (ofL (lft st3)), .bool st3.isNone] from rfl]
          clear htk g0 g1
          have hY10 := (hb4.block _ (Array.getElem?_eq_some_iff.1 hX10).1).trans hX10
          have hY13 := (hb4.block _ (Array.getElem?_eq_some_iff.1 hX13).1).trans hX13
          have hl4 := (Array.getElem?_eq_some_iff.1 hY13).1
          obtain ⟨V4, HV4⟩ : ∃ V4, Hid (w4.alloc (.cells #[.string (ofL (lft st3)), .bool st3.isNone] 88) = V4) := ⟨_, Hid_of rfl⟩
          have hZ14 : V4.heap[w4.heap.size]? = some (.cells #[.string (ofL (lft st3)), .bool st3.isNone] 88 (0, 0)) := by rw [← HV4.out]; exact heap_alloc_last w4 _
          have hZ10 : V4.heap[w1.heap.size]? = some (.cells #[.string (ofL (lft st2)), .bool st2.isNone] 88 (0, 0)) := by rw [← HV4.out, Below.heap_alloc w4 _ _ (by have := HL13.out; omega)]; exact hY10
          have hZ13 : V4.heap[V2.heap.size]? = some (.cells #[.int .i64 id, .bool false, .string ⟨#[]⟩] 62 (0, 0)) := by rw [← HV4.out, Below.heap_alloc w4 _ _ hl4]; exact hY13
          have HB4 : Hid (Below wr.heap.size wr V4) := by rw [← HV4.out]; exact bel_up (bel_up HBV3.out hb4 (Nat.le_refl _)) (bel1 w4 _) (Nat.le_refl _)
          obtain ⟨t0, t1, _, _⟩ := row2 hZ14
          obtain ⟨u0, u1, uf0, uf1⟩ := row2 hZ10
          obtain ⟨V5, HV5⟩ : ∃ V5, Hid ((V4.setCell ⟨w1.heap.size, 0, none⟩ (.string (ofL (lft st3)))).setCell ⟨w1.heap.size, 1, none⟩ (.bool st3.isNone) = V5) := ⟨_, Hid_of rfl⟩
          have hN10 : V5.heap[w1.heap.size]? = some (.cells #[.string (ofL (lft st3)), .bool st3.isNone] 88 (0, 0)) := by rw [← HV5.out]; exact row2set hZ10 _ _
          have hN13 : V5.heap[V2.heap.size]? = some (.cells #[.int .i64 id, .bool false, .string ⟨#[]⟩] 62 (0, 0)) := by rw [← HV5.out, row2far _ _ _ _ _ (by have := HL13.out; omega)]; exact hZ13
          have HB5 : Hid (Below wr.heap.size wr V5) := by rw [← HV5.out]; exact bel2 HB4.out _ HL13.out.1 _ _
          obtain ⟨⟨s0, s1, s2⟩, sf⟩ := row3 hN13
          have sf2 := sf 2
          obtain ⟨V6, HV6⟩ : ∃ V6, Hid (V5.setCell ⟨V2.heap.size, 2, none⟩ (.string (ofL tx)) = V6) := ⟨_, Hid_of rfl⟩
          have hX10 : V6.heap[w1.heap.size]? = some (.cells #[.string (ofL (lft st3)), .bool st3.isNone] 88 (0, 0)) := by rw [← HV6.out, heap_setCell_other V5 ⟨V2.heap.size, 2, none⟩ _ _ (by have := HL13.out; show w1.heap.size ≠ V2.heap.size; omega)]; exact hN10
          have hX13 : V6.heap[V2.heap.size]? = some (.cells #[.int .i64 id, .bool false, .string (ofL tx)] 62 (0, 0)) := by rw [← HV6.out]; exact heap_setCell_same V5 _ 2 _ _ _ hN13
          have HB : Hid (Below wr.heap.size wr V6) := by rw [← HV6.out]; exact HB5.out.setCell (p := ⟨V2.heap.size, 2, none⟩) (by have := HL13.out; show wr.heap.size ≤ V2.heap.size; omega) _
          have htz : ((ofL tx).size : Int) = (tx.length : Int) := by rw [ofL_size]
          clear hb4 hY10 hY13 hl4 hZ14 hZ10 hZ13 HB4 hN10 hN13 HB5 HBV3 sf
          go_upto_region 13 with fail
          rw [HV4.out]
          go_upto_region 14 with fail
          rw [HV5.out]
          go_upto_region 15 with fail
          rw [HV6.out]
          clear HV4 HV5 HV6 t0 t1 u0 u1 uf0 uf1 s0 s1 s2 sf2
          obtain ⟨g0, g1, _, _⟩ := row2 hX10
          obtain ⟨⟨j0, j1, j2⟩, _⟩ := row3 hX13
          have HX13 := Hid_of hX13
          clear hX10 hX13
          cases hso : st3.isNone with
          | true =>
            rw [hso] at g1
            have HB' := HB
            have hR4 := (HB.out.block _ (by have := HR.out.2.2.2; omega)).trans HR.out.2.1
            obtain ⟨y0, y1, yf0, yf1⟩ := row2 hR4
            obtain ⟨W7, HW7⟩ : ∃ W7, Hid ((V6.setCell ⟨w.heap.size + 1, 0, none⟩ (.string (ofL (lft st3)))).setCell ⟨w.heap.size + 1, 1, none⟩ (.bool true) = W7) := ⟨_, Hid_of rfl⟩
            have HR7 : Hid (W7.heap[w.heap.size + 1]? = some (.cells #[.string (ofL (lft st3)), .bool true] 88 (0, 0))) := by rw [← HW7.out]; exact row2set hR4 _ _
            have HK : Hid (OOut w room s (.returned (.tuple #[.agg #[.string (ofL (lft st3)), .bool true], .slice none 0 0, .bool false])) W7) := .inl ⟨by rw [HTE.out]; exact HT'.out.bad (c := ⟨id, false, tx⟩) (ok := _) (by rw [HC.out, none_of hso]), ⟨_, _, rfl⟩, by rw [← HW7.out]; exact bel2 (bel_up HR.out.2.2.1 HB.out (Nat.le_refl _)) _ (by omega) _ _⟩
            clear hR4 HB HB' HR HO HT' HM HC HTE HL13
            generalize ofL (lft st3) = sv at *
            go_wp2
            rw [HW7.out]
            refine bodyPost_ret (v := .tuple #[.agg #[.string sv, .bool true], .slice none 0 0, .bool false]) ?_ rfl HK.out
            exact res88_3 f43_res _ _ (w.heap.size + 1) _ _ rfl HR7.out
          | false =>
            rw [hso] at g1
            have HSO := Hid_of hso
            clear hso
            cases hmi : Rp.mayI id with
            | false =>
              have hmy := may_any 0 id V6
              rw [may0, hmi] at hmy
              have HB' := HB
              have hR4 := (HB.out.block _ (by have := HR.out.2.2.2; omega)).trans HR.out.2.1
              obtain ⟨y0, y1, yf0, yf1⟩ := row2 hR4
              obtain ⟨W7, HW7⟩ : ∃ W7, Hid ((V6.setCell ⟨w.heap.size + 1, 0, none⟩ (.string (ofL (lft st3)))).setCell ⟨w.heap.size + 1, 1, none⟩ (.bool false) = W7) := ⟨_, Hid_of rfl⟩
              have HR7 : Hid (W7.heap[w.heap.size + 1]? = some (.cells #[.string (ofL (lft st3)), .bool false] 88 (0, 0))) := by rw [← HW7.out]; exact row2set hR4 _ _
              have HK : Hid (OOut w room s (.returned (.tuple #[.agg #[.string (ofL (lft st3)), .bool false], .slice none 0 0, .bool false])) W7) := .inl ⟨by rw [HTE.out]; exact HT'.out.no HC.out (.inr (.inr hmi)), ⟨_, _, rfl⟩, by rw [← HW7.out]; exact bel2 (bel_up HR.out.2.2.1 HB.out (Nat.le_refl _)) _ (by omega) _ _⟩
              clear hR4 HB HB' HR HO HT' HM HC HTE HL13
              generalize ofL (lft st3) = sv at *
              go_wp2_with fail
              refine hmy.mono ?_
              rintro e w9 ⟨rfl, rfl⟩
              clear hmy
              go_wp2
              rw [HW7.out]
              refine bodyPost_ret (v := .tuple #[.agg #[.string sv, .bool false], .slice none 0 0, .bool false]) ?_ rfl HK.out
              exact res88_3 f43_res _ _ (w.heap.size + 1) _ _ rfl HR7.out
            | true =>
              by_cases h4 : tx.length ≤ 4096
              · have d4 : decide ((4096 : Int) < (tx.length : Int)) = false := decide_eq_false (by omega)
                have HC := Hid_of (HC.out.trans (by rw [decide_eq_true h4]) : Rp.rdC (lft (some r)) = Rp.res true st3 ⟨id, false, tx⟩)
                rcases hla with ⟨hk0, hlast⟩ | ⟨hkl, hkp, hlast⟩
                · subst hk0
                  have hid0 := Rp.mayI_yes hmi
                  have hR2 := (HB.out.block _ (by have := HR.out.2.2.2; omega)).trans HR.out.1
                  have hR4 := (HB.out.block _ (by have := HR.out.2.2.2; omega)).trans HR.out.2.1
                  obtain ⟨y0, y1, yf0, yf1⟩ := row2 hR2
                  have hsV := HB.out.size
                  have hsR := HR.out.2.2.2
                  obtain ⟨W7, HW7⟩ : ∃ W7, Hid ((V6.setCell ⟨w.heap.size, 0, none⟩ (.string (ofL (lft st3)))).setCell ⟨w.heap.size, 1, none⟩ (.bool false) = W7) := ⟨_, Hid_of rfl⟩
                  have hR7 : W7.heap[w.heap.size]? = some (.cells #[.string (ofL (lft st3)), .bool false] 88 (0, 0)) := by rw [← HW7.out]; exact row2set hR2 _ _
                  have hQ7 : W7.heap[w.heap.size + 1]? = some (.cells #[.string ⟨#[]⟩, .bool false] 88 (0, 0)) := by rw [← HW7.out, row2far _ _ _ _ _ (by omega)]; exact hR4
                  have hB7 : Below w.heap.size w W7 := by rw [← HW7.out]; exact bel2 (bel_up HR.out.2.2.1 HB.out (Nat.le_refl _)) _ (Nat.le_refl _) _ _
                  have hs7 : W7.heap.size = V6.heap.size := by rw [← HW7.out]; simp
                  have hX13' : W7.heap[V2.heap.size]? = some (.cells #[.int .i64 id, .bool false, .string (ofL tx)] 62 (0, 0)) := by rw [← HW7.out, row2far _ _ _ _ _ (by have := HL13.out; omega)]; exact HX13.out
                  obtain ⟨⟨i0, i1, i2⟩, _⟩ := row3 hX13'
                  have ho3 := HO.out.keep HB.out
                  have ho7 : OwnL cl 62 W7 (w.heap.size + 2) (.slice av 0 capv) l := ho3.keepBut (fun q hq e => by
                    rw [← HW7.out, row2far _ _ _ _ _ (by have := (ho3.lt e).1; omega)])
                  obtain ⟨a', c', w8, hrun, ho8, hr8⟩ := run_appL_ty tiK (W7.alloc (.cells #[.int .i64 id, .bool false, .string (ofL tx)] 62)) (w.heap.size + 2) (.slice av 0 capv) l [(⟨id, false, tx⟩ : C)] W7.heap.size 0 1 1 (ho7.keep (bel1 W7 _)) (atL_one (t := 62) (heap_alloc_last W7 _)) rfl (by simp; omega) (by simp; omega)
                  have hr8' : Rw W7 (.slice av 0 capv) w8 (.slice a' (l.length + [(⟨id, false, tx⟩ : C)].length) c') := (Rw.ofBelow _ (bel1 W7 _)).trans hr8
                  have hB8 : Below (w.heap.size + 2) W7 w8 := hr8'.below (fun q hq => (ho7.lt hq).1) (by omega)
                  rw [hlk] at hrun ho8
                  simp only [List.length_cons, List.length_nil, Nat.zero_add] at hrun ho8
                  have HREL : Hid (OwnL cl 62 w8 (w.heap.size + 2) (.slice a' (0 + 1) c') (l ++ [(⟨id, false, tx⟩ : C)]) ∧ w8.heap[w.heap.size]? = some (.cells #[.string (ofL (lft st3)), .bool false] 88 (0, 0)) ∧ w8.heap[w.heap.size + 1]? = some (.cells #[.string ⟨#[]⟩, .bool false] 88 (0, 0)) ∧ Below w.heap.size w w8 ∧ w.heap.size + 2 ≤ w8.heap.size) :=
                    ⟨ho8, (hB8.block _ (by omega)).trans hR7, (hB8.block _ (by omega)).trans hQ7, hB7.trans (hB8.mono (by omega)), by have := hB8.size; omega⟩
                  have HT2 : Hid (Rp.Tot tot (some (lft st3)) m id (l ++ [(⟨id, false, tx⟩ : C)])) := Hid_of (by
                    have h' := HT'.out.go HC.out (by show ¬ id ≤ last; omega) hmi
                    rw [some_of HSO.out] at h'
                    exact h')
                  have hmy := may_any 0 id V6
                  rw [may0, hmi] at hmy
                  clear hR2 hR4 hR7 hQ7 hB7 ho3 ho7 ho8 hr8 hr8' hB8 hX13' HX13 HB HR HO HT' HC hsV hsR hs7 hmi HL13
                  generalize hsvx : ofL (lft st3) = sv at *
                  have HSVX := Hid_of hsvx
                  clear hsvx
                  go_wp2_with fail
                  refine hmy.mono ?_
                  rintro e w9 ⟨rfl, rfl⟩
                  clear hmy
                  go_upto_region 18 with fail
                  rw [HW7.out]
                  clear HW7
                  go_wp2_with (at_builtin; refine wpList_append_known rfl _ _ 27 rfl _ _ rfl rfl _ _ (hrun _) ?_)
                  go_roundw
                  case rel => exact ⟨0 + 1, _, lft st3, id, by omega, by go_num, by simp [hlk], HREL.out.1, (by rw [HSVX.out]; exact HREL.out.2.1), HREL.out.2.2.1, HREL.out.2.2.2.1, HREL.out.2.2.2.2, HLN.out, .inr ⟨by simp [hlk], by omega, by simp [hlk]⟩, by rw [HM.out]; exact HT2⟩
                  case measure => simp [intOf]; omega
                · obtain ⟨k', rfl⟩ : ∃ k', k = k' + 1 := ⟨k - 1, by omega⟩
                  have hlast' : last = l[k'].id := hlast
                  obtain ⟨av', capv', ev, hx3, _⟩ := (HO.out.keep HB.out).at
                  rw [hlk] at ev
                  simp only [Value.slice.injEq, true_and] at ev
                  obtain ⟨rfl, rfl⟩ := ev
                  obtain ⟨b0, off, rfl, p0, p1, p2⟩ := hx3.at'.getC k' (by omega)
                  have hcle := hx3.le
                  rw [hlk] at hcle
                  have hkk : ((k' : Int) + 1) - 1 = (k' : Int) := by omega
                  have hkp' : (0 : Int) < (k' : Int) + 1 := by omega
                  have hk2 : (k' : Int) < (k' : Int) + 1 := by omega
                  rw [← hlast'] at p0
                  clear p1 p2 hx3 hlast' hlast hkl hkp
                  by_cases hpv : id ≤ last
                  · have dpv : decide (id ≤ last) = true := decide_eq_true hpv
                    have hmy := may_any 0 id V6
                    rw [may0, hmi] at hmy
                    have HB' := HB
                    have hR4 := (HB.out.block _ (by have := HR.out.2.2.2; omega)).trans HR.out.2.1
                    obtain ⟨y0, y1, yf0, yf1⟩ := row2 hR4
                    obtain ⟨W7, HW7⟩ : ∃ W7, Hid ((V6.setCell ⟨w.heap.size + 1, 0, none⟩ (.string (ofL (lft st3)))).setCell ⟨w.heap.size + 1, 1, none⟩ (.bool false) = W7) := ⟨_, Hid_of rfl⟩
                    have HR7 : Hid (W7.heap[w.heap.size + 1]? = some (.cells #[.string (ofL (lft st3)), .bool false] 88 (0, 0))) := by rw [← HW7.out]; exact row2set hR4 _ _
                    have HK : Hid (OOut w room s (.returned (.tuple #[.agg #[.string (ofL (lft st3)), .bool false], .slice none 0 0, .bool false])) W7) := .inl ⟨by rw [HTE.out]; exact HT'.out.no HC.out (.inr (.inl hpv)), ⟨_, _, rfl⟩, by rw [← HW7.out]; exact bel2 (bel_up HR.out.2.2.1 HB.out (Nat.le_refl _)) _ (by omega) _ _⟩
                    clear hR4 HB HB' HR HO HT' HM HC HTE HL13
                    generalize ofL (lft st3) = sv at *
                    go_wp2_with fail
                    refine hmy.mono ?_
                    rintro e w9 ⟨rfl, rfl⟩
                    clear hmy
                    go_wp2
                    rw [HW7.out]
                    refine bodyPost_ret (v := .tuple #[.agg #[.string sv, .bool false], .slice none 0 0, .bool false]) ?_ rfl HK.out
                    exact res88_3 f43_res _ _ (w.heap.size + 1) _ _ rfl HR7.out
                  · have dpv : decide (id ≤ last) = false := decide_eq_false hpv
                    have hR2 := (HB.out.block _ (by have := HR.out.2.2.2; omega)).trans HR.out.1
                    have hR4 := (HB.out.block _ (by have := HR.out.2.2.2; omega)).trans HR.out.2.1
                    obtain ⟨y0, y1, yf0, yf1⟩ := row2 hR2
                    have hsV := HB.out.size
                    have hsR := HR.out.2.2.2
                    obtain ⟨W7, HW7⟩ : ∃ W7, Hid ((V6.setCell ⟨w.heap.size, 0, none⟩ (.string (ofL (lft st3)))).setCell ⟨w.heap.size, 1, none⟩ (.bool false) = W7) := ⟨_, Hid_of rfl⟩
                    have hR7 : W7.heap[w.heap.size]? = some (.cells #[.string (ofL (lft st3)), .bool false] 88 (0, 0)) := by rw [← HW7.out]; exact row2set hR2 _ _
                    have hQ7 : W7.heap[w.heap.size + 1]? = some (.cells #[.string ⟨#[]⟩, .bool false] 88 (0, 0)) := by rw [← HW7.out, row2far _ _ _ _ _ (by omega)]; exact hR4
                    have hB7 : Below w.heap.size w W7 := by rw [← HW7.out]; exact bel2 (bel_up HR.out.2.2.1 HB.out (Nat.le_refl _)) _ (Nat.le_refl _) _ _
                    have hs7 : W7.heap.size = V6.heap.size := by rw [← HW7.out]; simp
                    have hX13' : W7.heap[V2.heap.size]? = some (.cells #[.int .i64 id, .bool false, .string (ofL tx)] 62 (0, 0)) := by rw [← HW7.out, row2far _ _ _ _ _ (by have := HL13.out; omega)]; exact HX13.out
                    obtain ⟨⟨i0, i1, i2⟩, _⟩ := row3 hX13'
                    have ho3 := HO.out.keep HB.out
                    have ho7 : OwnL cl 62 W7 (w.heap.size + 2) (.slice (some ⟨b0, off, none⟩) (k' + 1) capv) l := ho3.keepBut (fun q hq e => by
                      rw [← HW7.out, row2far _ _ _ _ _ (by have := (ho3.lt e).1; omega)])
                    obtain ⟨a', c', w8, hrun, ho8, hr8⟩ := run_appL_ty tiK (W7.alloc (.cells #[.int .i64 id, .bool false, .string (ofL tx)] 62)) (w.heap.size + 2) (.slice (some ⟨b0, off, none⟩) (k' + 1) capv) l [(⟨id, false, tx⟩ : C)] W7.heap.size 0 1 1 (ho7.keep (bel1 W7 _)) (atL_one (t := 62) (heap_alloc_last W7 _)) rfl (by simp; omega) (by simp; omega)
                    have hr8' : Rw W7 (.slice (some ⟨b0, off, none⟩) (k' + 1) capv) w8 (.slice a' (l.length + [(⟨id, false, tx⟩ : C)].length) c') := (Rw.ofBelow _ (bel1 W7 _)).trans hr8
                    have hB8 : Below (w.heap.size + 2) W7 w8 := hr8'.below (fun q hq => (ho7.lt hq).1) (by omega)
                    rw [hlk] at hrun ho8
                    simp only [List.length_cons, List.length_nil, Nat.zero_add] at hrun ho8
                    have HREL : Hid (OwnL cl 62 w8 (w.heap.size + 2) (.slice a' (k' + 1 + 1) c') (l ++ [(⟨id, false, tx⟩ : C)]) ∧ w8.heap[w.heap.size]? = some (.cells #[.string (ofL (lft st3)), .bool false] 88 (0, 0)) ∧ w8.heap[w.heap.size + 1]? = some (.cells #[.string ⟨#[]⟩, .bool false] 88 (0, 0)) ∧ Below w.heap.size w w8 ∧ w.heap.size + 2 ≤ w8.heap.size) :=
                      ⟨ho8, (hB8.block _ (by omega)).trans hR7, (hB8.block _ (by omega)).trans hQ7, hB7.trans (hB8.mono (by omega)), by have := hB8.size; omega⟩
                    have HT2 : Hid (Rp.Tot tot (some (lft st3)) m id (l ++ [(⟨id, false, tx⟩ : C)])) := Hid_of (by
                      have h' := HT'.out.go HC.out (by show ¬ id ≤ last; omega) hmi
                      rw [some_of HSO.out] at h'
                      exact h')
                    have hmy := may_any 0 id V6
                    rw [may0, hmi] at hmy
                    clear hR2 hR4 hR7 hQ7 hB7 ho3 ho7 ho8 hr8 hr8' hB8 hX13' HX13 HB HR HO HT' HC hsV hsR hs7 hmi HL13
                    generalize hsvx : ofL (lft st3) = sv at *
                    have HSVX := Hid_of hsvx
                    clear hsvx
                    go_wp2_with fail
                    refine hmy.mono ?_
                    rintro e w9 ⟨rfl, rfl⟩
                    clear hmy
                    go_upto_region 18 with fail
                    rw [HW7.out]
                    clear HW7
                    go_wp2_with (at_builtin; refine wpList_append_known rfl _ _ 27 rfl _ _ rfl rfl _ _ (hrun _) ?_)
                    go_roundw
                    case rel => exact ⟨k' + 1 + 1, _, lft st3, id, by omega, by go_num, by simp [hlk], HREL.out.1, (by rw [HSVX.out]; exact HREL.out.2.1), HREL.out.2.2.1, HREL.out.2.2.2.1, HREL.out.2.2.2.2, HLN.out, .inr ⟨by simp [hlk], by omega, by simp [hlk]⟩, by rw [HM.out]; exact HT2⟩
                    case measure => simp [intOf]; omega
              · have d4 : decide ((4096 : Int) < (tx.length : Int)) = true := decide_eq_true (by omega)
                have hmy := may_any 0 id V6
                rw [may0, hmi] at hmy
                have HB' := HB
                have hR4 := (HB.out.block _ (by have := HR.out.2.2.2; omega)).trans HR.out.2.1
                obtain ⟨y0, y1, yf0, yf1⟩ := row2 hR4
                obtain ⟨W7, HW7⟩ : ∃ W7, Hid ((V6.setCell ⟨w.heap.size + 1, 0, none⟩ (.string (ofL (lft st3)))).setCell ⟨w.heap.size + 1, 1, none⟩ (.bool false) = W7) := ⟨_, Hid_of rfl⟩
                have HR7 : Hid (W7.heap[w.heap.size + 1]? = some (.cells #[.string (ofL (lft st3)), .bool false] 88 (0, 0))) := by rw [← HW7.out]; exact row2set hR4 _ _
                have HK : Hid (OOut w room s (.returned (.tuple #[.agg #[.string (ofL (lft st3)), .bool false], .slice none 0 0, .bool false])) W7) := .inl ⟨by rw [HTE.out]; exact HT'.out.no HC.out (.inl (decide_eq_false h4)), ⟨_, _, rfl⟩, by rw [← HW7.out]; exact bel2 (bel_up HR.out.2.2.1 HB.out (Nat.le_refl _)) _ (by omega) _ _⟩
                clear hR4 HB HB' HR HO HT' HM HC HTE HL13
                generalize ofL (lft st3) = sv at *
                go_wp2_with fail
                refine hmy.mono ?_
                rintro e w9 ⟨rfl, rfl⟩
                clear hmy
                go_wp2
                rw [HW7.out]
                refine bodyPost_ret (v := .tuple #[.agg #[.string sv, .bool false], .slice none 0 0, .bool false]) ?_ rfl HK.out
                exact res88_3 f43_res _ _ (w.heap.size + 1) _ _ rfl HR7.out
        · have HC : Hid (Rp.rdC (lft (some r)) = Rp.res false (nx (M.byte (lft (nx (M.int r))))) ⟨vl 0 (M.int r), false, []⟩) := Hid_of (by rw [show lft (some r) = r from rfl, Rp.rdC_else _ hv1 hv0]; rfl)
          have hby1 : 1 < vl 0 (M.byte (lft (nx (M.int r)))) := by
            rcases hyb : M.byte (lft (nx (M.int r))) with _ | ⟨b, q⟩
            · rw [hyb] at hv0; exact absurd rfl hv0
            · have := (Rp.byte_only hyb).2
              rw [hyb] at hv0 hv1
              simp only [vl] at hv0 hv1 ⊢
              omega
          generalize nx (M.byte (lft (nx (M.int r)))) = st2 at *
          generalize vl 0 (M.byte (lft (nx (M.int r)))) = bv at *
          generalize vl 0 (M.int r) = id at *
          have dby : decide (1 < bv) = true := decide_eq_true hby1
          have hbq : (bv == 1) = false := by simpa using hv1
          have hbz : (bv == 0) = false := by simpa using hv0
          clear hbyl hil hrl
          obtain ⟨V3, HV3⟩ : ∃ V3, Hid (V2.alloc (.cells #[.int .i64 id, .bool false, .string ⟨#[]⟩] 62) = V3) := ⟨_, Hid_of rfl⟩
          have HBV3 : Hid (Below wr.heap.size wr V3) := by rw [← HV3.out]; exact bel_up HBV2.out (bel1 V2 _) (Nat.le_refl _)
          have hX13 : V3.heap[V2.heap.size]? = some (.cells #[.int .i64 id, .bool false, .string ⟨#[]⟩] 62 (0, 0)) := by rw [← HV3.out]; exact heap_alloc_last V2 _
          have hlt13 : w1.heap.size < V2.heap.size := (Array.getElem?_eq_some_iff.1 HX10.out).1
          have hX10 : V3.heap[w1.heap.size]? = some (.cells #[.string (ofL (lft st2)), .bool st2.isNone] 88 (0, 0)) := by rw [← HV3.out, Below.heap_alloc V2 _ _ hlt13]; exact HX10.out
          have HL13 : Hid (wr.heap.size ≤ w1.heap.size ∧ w1.heap.size < V2.heap.size) := ⟨HLE.out, hlt13⟩
          clear hlt13 HX10 HBV2
          go_upto_region 10 with fail
          rw [HV2.out]
          go_upto_region 11 with fail
          rw [HV3.out]
          clear HV2 HV3 e0 e1 ef0 ef1
          have HB := HBV3
          obtain ⟨g0, g1, _, _⟩ := row2 hX10
          obtain ⟨⟨j0, j1, j2⟩, _⟩ := row3 hX13
          clear hX10 hX13
          cases hso : st2.isNone with
          | true =>
            rw [hso] at g1
            have HB' := HB
            have hR4 := (HB.out.block _ (by have := HR.out.2.2.2; omega)).trans HR.out.2.1
            obtain ⟨y0, y1, yf0, yf1⟩ := row2 hR4
            obtain ⟨W7, HW7⟩ : ∃ W7, Hid ((V3.setCell ⟨w.heap.size + 1, 0, none⟩ (.string (ofL (lft st2)))).setCell ⟨w.heap.size + 1, 1, none⟩ (.bool true) = W7) := ⟨_, Hid_of rfl⟩
            have HR7 : Hid (W7.heap[w.heap.size + 1]? = some (.cells #[.string (ofL (lft st2)), .bool true] 88 (0, 0))) := by rw [← HW7.out]; exact row2set hR4 _ _
            have HK : Hid (OOut w room s (.returned (.tuple #[.agg #[.string (ofL (lft st2)), .bool true], .slice none 0 0, .bool false])) W7) := .inl ⟨by rw [HTE.out]; exact HT'.out.no HC.out (.inl rfl), ⟨_, _, rfl⟩, by rw [← HW7.out]; exact bel2 (bel_up HR.out.2.2.1 HB.out (Nat.le_refl _)) _ (by omega) _ _⟩
            clear hR4 HB HB' HR HO HT' HM HC HTE HL13
            generalize ofL (lft st2) = sv at *
            go_wp2
            rw [HW7.out]
            refine bodyPost_ret (v := .tuple #[.agg #[.string sv, .bool true], .slice none 0 0, .bool false]) ?_ rfl HK.out
            exact res88_3 f43_res _ _ (w.heap.size + 1) _ _ rfl HR7.out
          | false =>
            rw [hso] at g1
            have HB' := HB
            have hR4 := (HB.out.block _ (by have := HR.out.2.2.2; omega)).trans HR.out.2.1
            obtain ⟨y0, y1, yf0, yf1⟩ := row2 hR4
            obtain ⟨W7, HW7⟩ : ∃ W7, Hid ((V3.setCell ⟨w.heap.size + 1, 0, none⟩ (.string (ofL (lft st2)))).setCell ⟨w.heap.size + 1, 1, none⟩ (.bool false) = W7) := ⟨_, Hid_of rfl⟩
            have HR7 : Hid (W7.heap[w.heap.size + 1]? = some (.cells #[.string (ofL (lft st2)), .bool false] 88 (0, 0))) := by rw [← HW7.out]; exact row2set hR4 _ _
            have HK : Hid (OOut w room s (.returned (.tuple #[.agg #[.string (ofL (lft st2)), .bool false], .slice none 0 0, .bool false])) W7) := .inl ⟨by rw [HTE.out]; exact HT'.out.no HC.out (.inl rfl), ⟨_, _, rfl⟩, by rw [← HW7.out]; exact bel2 (bel_up HR.out.2.2.1 HB.out (Nat.le_refl _)) _ (by omega) _ _⟩
            clear hR4 HB HB' HR HO HT' HM HC HTE HL13
            generalize ofL (lft st2) = sv at *
            go_wp2
            rw [HW7.out]
            refine bodyPost_ret (v := .tuple #[.agg #[.string sv, .bool false], .slice none 0 0, .bool false]) ?_ rfl HK.out
            exact res88_3 f43_res _ _ (w.heap.size + 1) _ _ rfl HR7.out
    · obtain rfl : k = n := by omega
      have HT0 : Hid (tot = some (l, r)) := by
        rw [Nat.sub_self] at HT'
        exact HT'.out.done
      obtain ⟨y0, y1, yf0, yf1⟩ := row2 hr4
      obtain ⟨W7, HW7⟩ : ∃ W7, Hid ((wr.setCell ⟨w.heap.size + 1, 0, none⟩ (.string (ofL r))).setCell ⟨w.heap.size + 1, 1, none⟩ (.bool false) = W7) := ⟨_, Hid_of rfl⟩
      have HR7 : Hid (W7.heap[w.heap.size + 1]? = some (.cells #[.string (ofL r), .bool false] 88 (0, 0))) := by rw [← HW7.out]; exact row2set hr4 _ _
      have HK : Hid (OOut w room s (.returned (.tuple #[.agg #[.string (ofL r), .bool false], .slice av k capv, .bool true])) W7) := .inr ⟨l, r, _, by rw [HTE.out, HT0.out], rfl, (ho.keepBut (fun q hq e => by rw [← HW7.out, row2far _ _ _ _ _ (by have := (ho.lt e).1; omega)])).low (by omega), (fun e => by rw [e] at hlk; simp at hlk; omega), hrl, by rw [← HW7.out]; exact bel2 hbl _ (by omega) _ _⟩
      clear ho hxv hr2 hr4 hbl hsz hla HT' HT0 HTE
      generalize ofL r = sv at *
      go_wp2
      rw [HW7.out]
      refine bodyPost_ret (v := .tuple #[.agg #[.string sv, .bool false], .slice av k capv, .bool true]) ?_ rfl HK.out
      exact res88_3 f43_res _ _ (w.heap.size + 1) _ _ rfl HR7.out
theorem one_any (room : Nat) (s : List UInt8) (w : World) (hl : s.length ≤ 100000) (h16 : room ≤ 16) :
    Calls Try.prog 43 #[.agg #[.string (ofL s), .bool false], .int .i64 room] w (OOut w room s) := by
  by_cases hbad : vl 0 (M.int s) < 1 ∨ (room : Int) < vl 0 (M.int s)
  · exact one_no room s w hl h16 hbad
  · obtain ⟨n, hn⟩ := Int.eq_ofNat_of_zero_le (show 0 ≤ vl 0 (M.int s) by omega)
    exact one_yes room s w hl h16 n hn (by omega) (by omega)
end Go.Proofs.Ytjbcchipbdkplaa
