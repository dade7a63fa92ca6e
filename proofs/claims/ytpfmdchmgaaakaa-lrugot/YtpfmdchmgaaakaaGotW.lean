/-
  What is got is what was put last.
-/
import Derived.Test.YtpfmdchmgaaakaaQ
import Derived.Test.YtpfmdchmgaaakaaP
import Derived.OpenShut
namespace Go.Proofs.Ytpfmdchmgaaakaa
open Go.ChangeShapes Go.WideShapes Go.ChangeAt Go.RowKit
set_option linter.unusedVariables false
open M (K)

theorem row3 {w : World} {k : Nat} {v0 v1 v2 : Value} {t : TypeId} (h : w.heap[k]? = some (.cells #[v0, v1, v2] t (0, 0))) :
    w.cell? ⟨k, 0, none⟩ = some v0 ∧ w.cell? ⟨k, 1, none⟩ = some v1 ∧ w.cell? ⟨k, 2, none⟩ = some v2 :=
  ⟨by rw [cell_of_row w k 0 _ _ _ h]; rfl, by rw [cell_of_row w k 1 _ _ _ h]; rfl, by rw [cell_of_row w k 2 _ _ _ h]; rfl⟩
/-- The loop's relation: a cache of which nothing is pinned. -/
structure GR (w0 w : World) (c m n : Nat) (most : Int) (L : List (Nat × K)) (k : Nat) : Prop where
  s : CS w0 w c m n most L
  n : n ≤ k
  len : L.length ≤ k
  pin : ∀ e ∈ ks L, e.pin = false
set_option maxRecDepth 100000 in
set_option maxHeartbeats 4000000 in
theorem got_walk (most : Int) (a : Option Addr) (cap : Nat) (l : List Dd) (w : World) (hl : l.length ≤ maxLen) (hd : Dds w a l) (hok : ∀ d ∈ l, d.ok) :
    Calls Try.prog 5 #[.int .i64 most, .slice a l.length cap] w fun e w' => e = .returned (.bool true) ∧ Below w.heap.size w w' := by
  go_enter Try.func5, Try.ntmps5
  go_wp2_with fail
  refine (few_any a cap l w hl hd hok).mono ?_
  rintro x w1 ⟨b, rfl, hfew, rfl⟩
  cases b with
  | false =>
    clear hfew hd hok
    go_wp2_with fail
    refine (awake_any _).mono ?_
    rintro x w2 ⟨rfl, hb⟩
    go_wp2
    go_ret
    exact ⟨rfl, hb⟩
  | true =>
    obtain ⟨hl80, hf7⟩ := hfew rfl
    have HOK := Hid_of hok
    have HF7 := Hid_of hf7
    clear hfew hok hf7
    go_wp2_with fail
    refine (new_any most w1).mono ?_
    rintro x w2 ⟨c, m, rfl, I2, hc, hm, B2⟩
    have HG : Hid (GR w1 w2 c m 0 (lim most) [] 0) := ⟨⟨I2, B2, hc, hm, by simp [bs]⟩, Nat.le_refl _, by simp, by simp [ks]⟩
    clear I2 hc hm B2
    go_wp2
    go_loopw [6] (fun i wr => ∃ (k n : Nat) (L : List (Nat × K)), k ≤ l.length ∧ i = .int .i64 k ∧ GR w1 wr c m n (lim most) L k) (fun i _ => l.length - (intOf i).toNat)
    case atStart => exact ⟨0, 0, [], by omega, rfl, HG.out⟩
    case round =>
      obtain ⟨k, n, L, hk, rfl, R⟩ := hrel
      clear HG
      by_cases hlt : k < l.length
      · obtain ⟨bb, off, rfl, c0, c1, c2⟩ := (hd.keep R.s.bel) k hlt
        obtain ⟨ok0, ok1, ok2⟩ := HOK.out l[k] (List.getElem_mem hlt)
        have hsz7 := HF7.out l[k] (List.getElem_mem hlt)
        clear hd ok0 ok2
        generalize l[k].val = sv at *
        generalize l[k].k = dk at *
        generalize l[k].key = dy at *
        have HB0 := Hid_of (bel1 wr (.cells #[.int .i64 dk, .int .i64 dy, .string sv] 32))
        obtain ⟨W1, HW1⟩ : ∃ W1, Hid (wr.alloc (.cells #[.int .i64 dk, .int .i64 dy, .string sv] 32) = W1) := ⟨_, rfl⟩
        have hrow1 : W1.heap[wr.heap.size]? = some (.cells #[.int .i64 dk, .int .i64 dy, .string sv] 32 (0, 0)) := by rw [← HW1.out]; exact heap_alloc_last wr _
        have HS1 : Hid (CS w1 W1 c m n (lim most) L) := by rw [← HW1.out]; exact R.s.keep HB0.out
        have HBB : Hid (∀ W : World, (∀ b, b < W1.heap.size → b ≠ c → b ≠ m → b ∉ bs L → W.heap[b]? = W1.heap[b]?) → W.heap[wr.heap.size]? = some (.cells #[.int .i64 dk, .int .i64 dy, .string sv] 32 (0, 0))) := by
          intro W hW
          have h1 := R.s.ci.lt
          have h2 := R.s.ci.mi.lt
          refine (hW wr.heap.size (Array.getElem?_eq_some_iff.1 hrow1).1 (by omega) (by omega) (fun e => ?_)).trans hrow1
          have := R.s.ci.lk.lt _ e
          omega
        have hput := put_any c m n (lim most) L dy sv W1 HS1.out.ci (by have := R.len; omega) (by have := R.n; unfold maxLen; omega) ok1 (by unfold maxLen; omega)
        have HR := Hid_of R
        obtain ⟨q0, q1, q2⟩ := row3 hrow1
        clear R hrow1 HB0
        obtain ⟨lm, hlm⟩ : ∃ lm, lim most = lm := ⟨_, rfl⟩
        obtain ⟨mx, hmx⟩ : ∃ mx, max most 0 = mx := ⟨_, rfl⟩
        have hmn : min mx 65536 = lm := by rw [← hlm, ← hmx]; rfl
        rw [hlm] at HR HS1 hput
        go_wp2_with fail
        rw [HW1.out]
        refine hput.mono ?_
        rintro x w3 ⟨u3, L3, n3, rfl, I3, hn3, e3, o3, F3, ap3⟩
        have HS3 := Hid_of (HS1.out.step I3 F3)
        obtain ⟨r0, r1, r2⟩ := row3 (HBB.out w3 F3.block)
        have HR3 := Hid_of (HBB.out w3 F3.block)
        have hwr1 : wr.heap.size < w3.heap.size := (Array.getElem?_eq_some_iff.1 HR3.out).1
        have hnotin : wr.heap.size ≠ c ∧ wr.heap.size ≠ m ∧ wr.heap.size ∉ bs L3 := by
          have h1 := HR.out.s.ci.lt
          have h2 := HR.out.s.ci.mi.lt
          refine ⟨by omega, by omega, fun e => ?_⟩
          rcases F3.new _ e with h | h
          · have := HR.out.s.ci.lk.lt _ h
            omega
          · have : W1.heap.size = wr.heap.size + 1 := by rw [← HW1.out]; simp
            omega
        have HNI := Hid_of hnotin
        have hlen3 : L3.length ≤ k + 1 := by
          have := (M.put_len lm (ks L) dy sv).1
          rw [← e3] at this
          simp [ks] at this
          have := HR.out.len
          omega
        obtain ⟨a3, cp3, rfl, _⟩ := o3.at
        clear hput HBB o3 ap3 F3 hnotin HW1 q0 q1 q2 c0 c1 c2 HS1
        by_cases hfit : (sv.size : Int) ≤ lm
        · have hdf : decide ((sv.size : Int) ≤ lm) = true := by simpa using hfit
          obtain ⟨X, hX, hX1, hX2⟩ := M.put_fits HR.out.s.ci.g HR.out.pin dy sv hfit
          rw [hX] at e3
          have hget := get_any c m n3 lm L3 dy w3 I3 ok1
          have HGT : Hid (∀ x w4, GtOut w3 c m n3 lm L3 dy x w4 → x = .returned (.tuple #[.string sv, .bool true]) ∧ ∃ L4, CI w4 c m n3 lm L4 ∧ ks L4 = X ++ [⟨dy, sv, false⟩] ∧ Fr w3 c m L3 w4 L4) := by
            rintro x w4 ⟨hx, L4, h4, e4, f4⟩
            have g1 := M.got_at X [] ⟨dy, sv, false⟩ hX1
            have g2 := M.has_at X [] ⟨dy, sv, false⟩ hX1
            simp only [List.append_nil] at g1
            rw [e3, g1.1] at e4
            rw [e3, g1.2, g2] at hx
            exact ⟨hx, L4, h4, e4, f4⟩
          clear I3 hfit
          go_wp2_with fail
          refine hget.mono ?_
          rintro x w4 hx4
          obtain ⟨rfl, L4, I4, e4, F4⟩ := HGT.out x w4 hx4
          have HR4 : Hid (w4.heap[wr.heap.size]? = some (.cells #[.int .i64 dk, .int .i64 dy, .string sv] 32 (0, 0))) := (F4.block _ hwr1 HNI.out.1 HNI.out.2.1 HNI.out.2.2).trans HR3.out
          have HS4 := Hid_of (HS3.out.step I4 F4)
          have hl4 : L4.length = X.length + 1 := by have := ks_len e4; simpa using this
          have hl4' : L4.length ≤ k + 1 := by have h1 := ks_len e4; have h2 := ks_len e3; omega
          have hkeys := keys_any c m n3 lm L4 w4 I4 (by omega)
          have HKL : Hid ((ks L4).map (·.key) = X.map (·.key) ++ [dy]) := by show _ = _; rw [e4]; simp
          rw [HKL.out] at hkeys
          have HE4 := Hid_of e4
          clear hget HGT hx4 I4 F4 r0 r1 r2 e4 e3 HS3
          go_wp2_with fail
          refine hkeys.mono ?_
          rintro x w5 ⟨u5, rfl, o5, B5⟩
          obtain ⟨a5, cp5, rfl, at5, _, _⟩ := o5.at
          have HS5 := Hid_of (HS4.out.keep B5)
          obtain ⟨t0, t1, t2⟩ := row3 ((B5.block wr.heap.size (Array.getElem?_eq_some_iff.1 HR4.out).1).trans HR4.out)
          have hkl : (X.map (·.key) ++ [dy]).length = X.length + 1 := by simp
          obtain ⟨b5, o5', rfl, cl5⟩ := at5 X.length (by simp)
          have hlast : (X.map (·.key) ++ [dy])[X.length]'(by simp) = dy := by simp
          rw [hlast] at cl5
          have hn3' : n3 ≤ k + 1 := by have := HR.out.n; omega
          have HGR : Hid (∀ j, GR w1 (w5.drewN j) c m n3 lm L4 (k + 1)) := fun j => ⟨HS5.out.keep (below_drewN (Below.refl _ _) j), hn3', hl4', fun e he => by
            rw [HE4.out] at he
            rcases List.mem_append.1 he with he | he
            · exact hX2 e he
            · simp at he
              subst he
              rfl⟩
          rw [hkl]
          clear hkeys o5 B5 at5 HS4 HR4 hlast HKL HE4 hX hX1 hX2 hkl
          have hq : IntKind.i64.wrap (((X.length + 1 : Nat) : Int) - 1) = X.length := by rw [IntKind.wrap_i64]; omega
          have hq2 : IntKind.i64.wrap ((X.length : Int) + 1 - 1) = X.length := by rw [IntKind.wrap_i64]; omega
          have hq3 : IntKind.i64.wrap (X.length : Int) = X.length := by rw [IntKind.wrap_i64]; omega
          have hx0 : ((X.length : Int) + 1 == 0) = false := by simp; omega
          generalize X.length = xl at *
          go_wp2_with fail
          go_quiet (fail)
          go_wp2
          go_roundw
          case rel => exact ⟨k + 1, n3, L4, by omega, by go_num, by rw [hlm]; exact HGR.out _⟩
          case measure => simp [intOf]; omega
        · have hdf : decide ((sv.size : Int) ≤ lm) = false := by simpa using hfit
          have hpl := M.put_long lm (ks L) dy sv (by omega)
          rw [hpl] at e3
          replace e3 : ks L3 = M.drp (ks L) dy := e3
          have hget := get_any c m n3 lm L3 dy w3 I3 ok1
          have hno := M.drp_ne HR.out.s.ci.g dy
          have HGT : Hid (∀ x w4, GtOut w3 c m n3 lm L3 dy x w4 → x = .returned (.tuple #[.string ByteArray.empty, .bool false]) ∧ ∃ L4, CI w4 c m n3 lm L4 ∧ ks L4 = ks L3 ∧ Fr w3 c m L3 w4 L4) := by
            rintro x w4 ⟨hx, L4, h4, e4, f4⟩
            have g1 := M.got_no _ dy hno
            have g2 := M.has_no _ dy hno
            rw [e3, g1.1, ← e3] at e4
            rw [e3, g1.2, g2] at hx
            exact ⟨hx, L4, h4, e4, f4⟩
          have HPN : Hid (∀ e ∈ ks L3, e.pin = false) := fun e he => HR.out.pin e ((M.drp_sub _ dy).subset (by rw [← e3]; exact he))
          have hn3' : n3 ≤ k + 1 := by have := HR.out.n; omega
          clear I3 hfit hpl hno e3
          go_wp2_with fail
          refine hget.mono ?_
          rintro x w4 hx4
          obtain ⟨rfl, L4, I4, e4, F4⟩ := HGT.out x w4 hx4
          have HGR : Hid (GR w1 w4 c m n3 lm L4 (k + 1)) := ⟨HS3.out.step I4 F4, hn3', by have h1 := ks_len e4; simp [ks] at h1; omega, fun e he => HPN.out e (by rw [← e4]; exact he)⟩
          clear hget HGT hx4 I4 F4 r0 r1 r2 e4 HS3 HPN
          go_wp2
          go_roundw
          case rel => exact ⟨k + 1, n3, L4, by omega, by go_num, by rw [hlm]; exact HGR.out⟩
          case measure => simp [intOf]; omega
      · have HB := Hid_of R.s.bel
        clear R hd
        go_wp2_with fail
        refine (awake_any _).mono ?_
        rintro x w3 ⟨rfl, b3⟩
        have HB3 := Hid_of (bel_up HB.out b3 (Nat.le_refl _))
        clear b3 HB
        go_wp2
        go_ret
        exact ⟨rfl, HB3.out⟩
end Go.Proofs.Ytpfmdchmgaaakaa
