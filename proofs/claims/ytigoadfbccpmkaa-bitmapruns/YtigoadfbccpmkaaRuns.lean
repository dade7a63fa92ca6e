/-
  Proved: for every number and deeds the law BitmapRuns of the program returns true, and the arguments read as they did.
-/
import Derived.Test.YtigoadfbccpmkaaL
import Derived.Test.YtigoadfbccpmkaaR
import Derived.Deep.RegionHeld3
import Derived.ShutString
import Derived.OpenShut
namespace Go.Proofs.Ytigoadfbccpmkaa
open Go.ChangeShapes Go.WideShapes Go.ChangeAt Go.RowKit
open Go.ChangeMaps (open_string shut_string)
set_option linter.unusedVariables false

theorem nxt_nxt (f : Nat → Bool) (N : Nat) (on : Bool) (a : Nat) (h : a ≤ N) : M.nxt f N on (M.nxt f N on a) = M.nxt f N on a := by
  by_cases h2 : M.nxt f N on a < N
  · exact M.nxt_at f N on _ (M.nxt_is f N on a h2)
  · exact M.nxt_end f N on _ (by omega)
theorem drop_head {l r : List (Nat × Nat)} {p : Nat × Nat} {i : Nat} (h : l.drop i = p :: r) : ∃ hi : i < l.length, l[i] = p ∧ l.drop (i + 1) = r := by
  have hi : i < l.length := by
    rcases Nat.lt_or_ge i l.length with h' | h'
    · exact h'
    · rw [List.drop_of_length_le h'] at h; cases h
  rw [List.drop_eq_getElem_cons hi] at h
  simp only [List.cons.injEq] at h
  exact ⟨hi, h.1, h.2⟩
/-- What is left of the rows of both kinds. -/
structure Left (f : Nat → Bool) (N : Nat) (on : Bool) (a i : Nat) (l : List (Nat × Nat)) : Prop where
  le : i ≤ l.length
  eq : l.drop i = M.runsA f N on (M.nxt f N on a)
theorem Left.here {f : Nat → Bool} {N : Nat} {on : Bool} {a i : Nat} {l : List (Nat × Nat)} (h : Left f N on a i l) (ha : a < N) (hf : f a = on) :
    ∃ hi : i < l.length, l[i].1 = a ∧ a + l[i].2 = M.nxt f N (!on) a ∧ 1 ≤ l[i].2 ∧ Left f N on (M.nxt f N (!on) a) (i + 1) l := by
  have e := h.eq
  rw [M.nxt_at f N on a hf, M.runsA_step f N on a ha hf] at e
  obtain ⟨hi, h1, h2⟩ := drop_head e
  have hg := M.nxt_gt f N on a ha hf
  refine ⟨hi, ?_⟩
  rw [h1]
  exact ⟨rfl, by simp; omega, by simp; omega, ⟨by omega, h2⟩⟩
theorem Left.other {f : Nat → Bool} {N : Nat} {on : Bool} {a i : Nat} {l : List (Nat × Nat)} (h : Left f N on a i l) (ha : a < N) (hf : f a ≠ on) :
    Left f N on (M.nxt f N on a) i l ∧ ∀ hi : i < l.length, l[i].1 ≠ a := by
  refine ⟨⟨h.le, by rw [nxt_nxt f N on a (by omega)]; exact h.eq⟩, fun hi he => ?_⟩
  have e := h.eq
  rw [List.drop_eq_getElem_cons hi] at e
  by_cases h2 : M.nxt f N on a < N
  · have hn := M.nxt_is f N on a h2
    rw [M.runsA_step f N on _ h2 hn] at e
    simp only [List.cons.injEq] at e
    rw [e.1] at he
    simp only at he
    rw [he] at hn
    exact hf hn
  · rw [M.runsA_end f N on _ (by omega)] at e
    cases e
theorem Left.done {f : Nat → Bool} {N : Nat} {on : Bool} {i : Nat} {l : List (Nat × Nat)} (h : Left f N on N i l) : i = l.length := by
  have e := h.eq
  rw [M.nxt_end f N on N (Nat.le_refl _), M.runsA_end f N on N (Nat.le_refl _)] at e
  have := h.le
  rw [List.drop_eq_nil_iff] at e
  omega

set_option maxRecDepth 100000 in
set_option maxHeartbeats 4000000 in
theorem runs_walk (n : Int) (a : Option Addr) (cap : Nat) (l : List Dd) (w : World) (hl : l.length ≤ maxLen) (hd : Dds w a l) :
    Calls Try.prog 6 #[.int .i64 n, .slice a l.length cap] w fun e w' => e = .returned (.bool true) ∧ Below w.heap.size w w' := by
  by_cases h60 : 60 < l.length
  · go_enter Try.func6, Try.ntmps6
    go_wp2_with fail
    refine (awake_any _).mono ?_
    rintro x w1 ⟨rfl, hb⟩
    go_wp2
    go_ret
    exact ⟨rfl, hb⟩
  · have hN := sz_le n
    go_enter Try.func6, Try.ntmps6
    go_wp2_with fail
    refine (new_any n w).mono ?_
    rintro e w1 h
    obtain ⟨b, rfl, hb, m1, B1⟩ := h
    generalize hsz : sz n = N at *
    have HSZ : Hid (sz n = N) := hsz
    clear hsz
    go_wp2
    go_loopw [6] (fun i wr => ∃ (j : Nat) (f : Nat → Bool), j ≤ l.length ∧ i = .int .i64 j ∧ MIs wr b N f ∧ Below w.heap.size w wr) (fun i _ => l.length - (intOf i).toNat)
    case atStart => exact ⟨0, _, by omega, rfl, m1, B1⟩
    case round =>
      obtain ⟨j, f, hj, rfl, m2, B2⟩ := hrel
      clear m1 B1
      by_cases hlt : j < l.length
      · obtain ⟨bb, off, rfl, c0, c1, c2⟩ := (hd.keep B2) j hlt
        generalize l[j].k = dk at *
        generalize l[j].a = da at *
        generalize l[j].n = dn at *
        have d0 : wr.drew.cell? ⟨bb, off + j * 3, none⟩ = some (.int .i64 dk) := c0
        have d1 : wr.drew.cell? ⟨bb, off + j * 3 + 1, none⟩ = some (.int .i64 da) := c1
        have m3 := m2.drew
        have hz := B2.size
        have hbw : bb < w.heap.size := by
          obtain ⟨b', off', e', q0, _, _⟩ := hd j hlt
          cases e'
          exact World.block_lt_of_cell? w _ q0
        have hbr : bb < wr.heap.size := by omega
        clear hd c2
        go_wp2_with fail
        go_region_held3 (fun wq => wq.cell? ⟨bb, off + j * 3, none⟩ = some (.int .i64 dk) ∧ wq.cell? ⟨bb, off + j * 3 + 1, none⟩ = some (.int .i64 da)) (first | exact ⟨by assumption, by assumption⟩) ((go_at_call 12; refine (set_any b N f da (dk == 0) wr.drew m3).mono ?_; rintro x w4 ⟨rfl, m4, g4⟩; have q4 : w4.heap[bb]? = wr.drew.heap[bb]? := g4.block bb hbr (by simp; omega); have e0 := (World.cell?_of_block (w := wr.drew) (a := ⟨bb, off + j * 3, none⟩) q4).trans d0; have e1 := (World.cell?_of_block (w := wr.drew) (a := ⟨bb, off + j * 3 + 1, none⟩) q4).trans d1; clear q4))
        all_goals
          have B4 : Below w.heap.size w w4 := bgrow B2.drew (Nat.le_refl _) hb g4
          clear d0 d1 c0 c1 e0 e1
          go_wp2
          go_roundw
          case rel => exact ⟨j + 1, _, by omega, by go_num, m4, B4⟩
          case measure => simp [intOf]; omega
      · clear hd
        have hl1 := M.runs_len f N true
        have hl2 := M.runs_len f N false
        have L1 : Left f N true 0 0 (M.runs f N true) := ⟨by omega, by rw [List.drop_zero]; rfl⟩
        have L2 : Left f N false 0 0 (M.runs f N false) := ⟨by omega, by rw [List.drop_zero]; rfl⟩
        have hr1 := runs_any b N f true wr m2
        have hr2 := fun w' h' => runs_any b N f false w' h'
        generalize M.runs f N true = al at *
        generalize M.runs f N false = bl at *
        have HL1 : Hid _ := L1
        have HL2 : Hid _ := L2
        clear L1 L2
        go_wp2_with fail
        refine hr1.mono ?_
        rintro e w3 h
        obtain ⟨v1, rfl, own1, hb3⟩ := h
        obtain ⟨ad1, cp1, rfl, at1, _⟩ := owns_atR own1
        have m3 := m2.below hb3
        have B3 := B2.trans (hb3.mono B2.size)
        clear m2 B2 hb3 own1 hr1
        go_wp2_with fail
        refine (hr2 _ m3).mono ?_
        rintro e w4 h
        obtain ⟨v2, rfl, own2, hb4⟩ := h
        obtain ⟨ad2, cp2, rfl, at2, _⟩ := owns_atR own2
        have at1' := at1.keep hb4
        have B4 := B3.trans (hb4.mono B3.size)
        clear m3 B3 hb4 own2 hr2 at1
        go_wp2
        go_loopw [9, 10, 11] (fun s9 s10 s11 wx => ∃ (p i k : Nat), p ≤ N ∧ i ≤ al.length ∧ k ≤ bl.length ∧ s9 = .int .i64 p ∧ s10 = .int .i64 i ∧ s11 = .int .i64 k ∧ wx = w4 ∧ Hid (Left f N true p i al) ∧ Hid (Left f N false p k bl)) (fun s9 _ _ _ => N - (intOf s9).toNat)
        case atStart => exact ⟨0, 0, 0, by omega, by omega, by omega, rfl, rfl, rfl, rfl, HL1, HL2⟩
        case round =>
          obtain ⟨p, i, k, hp, hi0, hk0, rfl, rfl, rfl, rfl, X1, X2⟩ := hrel
          clear HL1 HL2
          by_cases hpN : p < N
          · cases hf : f p
            · obtain ⟨hk, e1, e2, e3, Y2⟩ := X2.out.here hpN hf
              obtain ⟨Y1, hne⟩ := X1.out.other hpN (by rw [hf]; decide)
              have hle := M.nxt_le f N (!false) p (by omega)
              have Y1 : Left f N true (M.nxt f N (!false) p) i al := Y1
              obtain ⟨b2, o2, rfl, c20, c21⟩ := at2 k hk
              rw [e1] at c20
              generalize bl[k].2 = q at *
              generalize M.nxt f N (!false) p = e at *
              have HY1 : Hid _ := Y1
              have HY2 : Hid _ := Y2
              have HE : Hid (p + q = e) := e2
              have hq : (p : Int) + q = (e : Int) := by omega
              have hq0 : 0 < q := by omega
              have hqe : q ≤ 4096 := by omega
              clear Y1 Y2 e1 e2 e3 hf at2
              by_cases hi : i < al.length
              · obtain ⟨b1, o1, rfl, c10, c11⟩ := at1' i hi
                have hne' := hne hi
                generalize al[i].1 = r at *
                generalize al[i].2 = r2 at *
                have hrp : ((r : Int) == (p : Int)) = false := by simp; omega
                clear hne hne' at1'
                go_wp2
                go_roundw
                case rel => exact ⟨e, i, k + 1, by omega, by omega, by omega, rfl, rfl, by go_num, by first | rfl | trivial, HY1, HY2⟩
                case measure => have := HE.out; simp [intOf]; omega
              · have hi' : decide ((i : Int) < (al.length : Int)) = false := by simp; omega
                clear at1' hne
                go_wp2
                go_roundw
                case rel => exact ⟨e, i, k + 1, by omega, by omega, by omega, rfl, rfl, by go_num, by first | rfl | trivial, HY1, HY2⟩
                case measure => have := HE.out; simp [intOf]; omega
            · obtain ⟨hi, e1, e2, e3, Y1⟩ := X1.out.here hpN hf
              obtain ⟨Y2, hne⟩ := X2.out.other hpN (by rw [hf]; decide)
              have hle := M.nxt_le f N (!true) p (by omega)
              have Y2 : Left f N false (M.nxt f N (!true) p) k bl := Y2
              obtain ⟨b1, o1, rfl, c10, c11⟩ := at1' i hi
              rw [e1] at c10
              generalize al[i].2 = q at *
              generalize M.nxt f N (!true) p = e at *
              have HY1 : Hid _ := Y1
              have HY2 : Hid _ := Y2
              have HE : Hid (p + q = e) := e2
              have hq : (p : Int) + q = (e : Int) := by omega
              have hq0 : 0 < q := by omega
              have hqe : q ≤ 4096 := by omega
              clear Y1 Y2 e1 e2 e3 hf at1' at2 hne
              go_wp2
              go_roundw
              case rel => exact ⟨e, i + 1, k, by omega, by omega, by omega, rfl, by go_num, rfl, by first | rfl | trivial, HY1, HY2⟩
              case measure => have := HE.out; simp [intOf]; omega
          · have hpe : p = N := by omega
            subst hpe
            have di := X1.out.done
            have dk := X2.out.done
            subst di dk
            obtain ⟨mx, hmx⟩ : ∃ mx : Nat, max n 0 = (mx : Int) := ⟨(max n 0).toNat, by omega⟩
            have hmn : min (mx : Int) 4096 = (p : Int) := by have := HSZ.out; unfold sz at this; omega
            clear X1 X2 at1' at2
            go_wp2_with fail
            refine (awake_any _).mono ?_
            rintro x w7 ⟨rfl, hb7⟩
            go_wp2
            go_ret
            exact ⟨rfl, B4.trans (hb7.mono B4.size)⟩

set_option maxRecDepth 100000 in
theorem runs_lifted (os : Os) (started : os.Started) (H : Type) (enc : TypeId × Value → H) :
    ReturnsInHanded {} Try.checked os 6 .any (Rows.bitmapRunsSpec.pre6 enc Try.prog Try.f6 Rows.bitmapRunsRow.domain false) (Rows.bitmapRunsSpec.post enc Try.prog Try.f6 false true false false) := by
  refine returnsInHanded_of_change (C := Try.checked) own started (by kernel_rfl) Try.func6
    (ChangeSpec.witness6 (enc := enc) (C := Try.checked) false ⟨#[], #[.int .i64 0, .slice none 0 0], []⟩ 8 (by kernel_rfl) (by kernel_rfl) (by kernel_rfl) (by kernel_rfl)) ?_
  intro W base args ds gs before hval0 hW hcnd _
  have hval : ∀ (j : Nat) t v, Try.f6.params[j]? = some t → args[j]? = some v → Value.okWide Try.prog W .any base t v := hval0
  have hW' := hW
  obtain ⟨p, q, hA0, hV, rfl, hfz, hnd⟩ := hW
  have hA : DataW.TrodAll enc Try.prog W 0 (fun _ => true) true Try.f6.params.toList args.toList ds p := hA0
  rw [Try.params6] at hA hval
  obtain ⟨v0, vs0, d0, ds0, p0, q0, hargs, rfl, rfl, h0, r0⟩ := trodAll_cons hA
  obtain ⟨v1, vs1, d1, ds1, p1, q1, rfl, rfl, rfl, h1, r1⟩ := trodAll_cons r0
  obtain ⟨rfl, rfl, rfl⟩ := trodAll_nil r1
  obtain rfl : args = #[v0, v1] := by cases args; simp_all
  obtain ⟨rfl, rfl⟩ := trodVars_none hV
  obtain ⟨a0, rfl, rfl, rfl, w0⟩ := open_int Try.underlying3 (hval 0 3 v0 rfl rfl) h0
  obtain ⟨a1, len1, cap1, rfl⟩ := okWide_slice Try.underlying22 (hval 1 22 v1 rfl rfl)
  have k1 := h1
  have lt1 : ∀ x ∈ p1, x.block < W.heap.size := by obtain ⟨m, hm⟩ := k1; exact DataW.trod_lt m _ _ _ hm
  obtain ⟨l, hlen, hit, hm⟩ : ∃ l : List Dd, len1 = l.length ∧ Dds W a1 l ∧ l.length ≤ maxLen := by
    obtain ⟨fuel, hf⟩ := h1
    obtain ⟨a', len', cap', l, hcs, hl, hi, hm⟩ := open_deeds hf
    simp [Value.cells] at hcs
    obtain ⟨rfl, rfl, rfl⟩ := hcs
    exact ⟨l, hl, hi, hm⟩
  clear hA0 hval0
  subst hlen
  refine (runs_walk a0 a1 cap1 l W hm hit).mono fun e W' ⟨he, bel⟩ => ?_
  subst he
  exact ⟨_, rfl, _, _, _, [], _, [], hW', trodAll_mk1 (shut_bool Try.underlying4 _), (trodAll_cons_mk (shut_int Try.underlying3 w0) (trodAll_cons_mk (Below.trod laidOut (by kernel_rfl) (of_decide_eq_true (by kernel_rfl)) k1 bel lt1) trodAll_mk0)), rfl, bel.frame _, fun h => by cases h⟩

theorem runs_holds : Rows.BitmapRunsSaid :=
  OpenClaim.holds_of_wide 6 Try.f6 rfl rfl rfl rfl rfl rfl rfl ⟨rfl, rfl, rfl, rfl, rfl⟩ rfl rfl rfl rfl rfl (by kernel_rfl) Try.func6 (by kernel_rfl)
    (of_decide_eq_true (by kernel_rfl)) (by unfold Func.isWrapper; first | (rw [if_pos (by decide +kernel)]; kernel_rfl) | (rw [if_neg (by decide +kernel)]; exact ⟨rfl, rfl⟩))
    (fun os started H enc _ => runs_lifted os started H enc)
#print axioms runs_holds


end Go.Proofs.Ytigoadfbccpmkaa
