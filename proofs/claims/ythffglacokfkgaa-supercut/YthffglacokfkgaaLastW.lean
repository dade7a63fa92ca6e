/-
  What is read is what was written last, whatever crashes come between writes.
-/
import Derived.Test.YthffglacokfkgaaL
namespace Go.Proofs.Ythffglacokfkgaa
open Go.RowKit
open M (ofL ofL_size ofL_of)
set_option linter.unusedVariables false

/-- A device whose newest state is known, nothing loose. -/
structure LS (w0 w : World) (b : Nat) (F : Nat → Prop) (P : List M.Pl) (m : Nat) (wt : List UInt8) : Prop where
  d : DS w0 w b F 8 P false
  r : rdP P = (m, wt)
  n : ∀ p ∈ P, M.lse p = false
theorem LS.keep {w0 w w' : World} {b : Nat} {F : Nat → Prop} {P : List M.Pl} {m : Nat} {wt : List UInt8} (h : LS w0 w b F P m wt) (hb : Below w.heap.size w w') : LS w0 w' b F P m wt := ⟨h.d.keep hb, h.r, h.n⟩
theorem LS.zero {w0 w : World} {b : Nat} {F : Nat → Prop} {P : List M.Pl} {wt : List UInt8} (h : LS w0 w b F P 0 wt) : wt = [] := by
  have := rd_par (both P)
  have hr : Sp.rd (both P) = (0, wt) := h.r
  rw [hr] at this
  rcases this with ⟨_, h'⟩ | ⟨h', _⟩
  · exact h'
  · simp at h'
theorem LS.write {w0 w : World} {b : Nat} {F : Nat → Prop} {P : List M.Pl} {m : Nat} {wt : List UInt8} (h : LS w0 w b F P m wt) (hm : m < 2147483647) (s : ByteArray) (hs : s.size ≤ 244) :
    Calls Try.prog 11 #[.pointer (some ⟨b, 0, none⟩), .string s] w fun e w' => ∃ G Q, e = .returned (.int .i64 0) ∧ LS w0 w' b G Q (m + 1) s.data.toList := by
  have hg : (rdP P).1 < 2147483647 := by rw [h.r]; exact hm
  refine (h.d.swrite s hs hg).mono ?_
  rintro e w' ⟨G, h1, h2, _⟩
  refine ⟨G, _, h1, h2, ?_, nxt_lse _ _⟩
  rw [rd_nxt h.d.len h.d.ok.1 _ (by rw [len_data]; exact hs) hg, h.r]
theorem LS.crash {w0 w : World} {b : Nat} {F : Nat → Prop} {P : List M.Pl} {m : Nat} {wt : List UInt8} (h : LS w0 w b F P m wt) (keep : Nat) (tear : Int) (hk : keep < 18446744073709551616) :
    Calls Try.prog 12 #[.pointer (some ⟨b, 0, none⟩), .int .u64 keep, .int .i64 tear] w fun e w' => ∃ G, e = .returned (.tuple #[]) ∧ LS w0 w' b G P m wt := by
  refine (h.d.crash keep tear hk).mono ?_
  rintro e w' ⟨G, h1, h2, _⟩
  rw [crash_same h.n] at h2
  exact ⟨G, h1, h2, h.r, h.n⟩
theorem LS.read {w0 w : World} {b : Nat} {F : Nat → Prop} {P : List M.Pl} {m : Nat} {wt : List UInt8} (h : LS w0 w b F P m wt) :
    Calls Try.prog 13 #[.pointer (some ⟨b, 0, none⟩)] w fun e w' => e = .returned (.tuple #[.string (ofL wt), .int .i64 m, .int .i64 (rcode (m, wt))]) ∧ LS w0 w' b F P m wt := by
  have := h.d.sread
  rw [h.r] at this
  exact this.mono fun e w' h' => ⟨h'.1, h.keep h'.2⟩
theorem newL (w : World) : Calls Try.prog 10 #[.int .i64 8] w fun e w' => ∃ b F P, e = .returned (.pointer (some ⟨b, 0, none⟩)) ∧ LS w w' b F P 0 [] := by
  have := newD 8 w
  rw [cnt8] at this
  exact this.mono fun e w' ⟨b, F, h1, h2⟩ => ⟨b, F, _, h1, h2, rd_new, new_lse 8⟩
theorem rcode_0 (wt : List UInt8) : rcode (0, wt) = 7 := rfl
theorem rcode_s (m : Nat) (wt : List UInt8) (h : 0 < m) : rcode (m, wt) = 0 := by unfold rcode; rw [decide_eq_false (by show ¬ m = 0; omega)]; rfl
set_option maxRecDepth 100000 in
set_option maxHeartbeats 400000 in
theorem last_walk (a : Option Addr) (cap : Nat) (l : List ByteArray) (keep : Nat) (w : World) (hl : l.length ≤ maxLen) (hat : AtV w a (SC l)) (hsz : ∀ s ∈ l, s.size ≤ maxLen) (hk : keep < 18446744073709551616) :
    Calls Try.prog 4 #[.slice a l.length cap, .int .u64 keep] w fun e w' => e = .returned (.bool true) ∧ Below w.heap.size w w' := by
  unfold maxLen at hl
  by_cases h30 : 30 < l.length
  · have d1 : decide ((30 : Int) < (l.length : Int)) = true := decide_eq_true (by omega)
    clear hat hsz
    go_enter Try.func4, Try.ntmps4
    go_wp2_with fail
    refine (awake_any _).mono ?_
    rintro x w2 ⟨rfl, hb⟩
    go_wp2
    go_ret
    exact ⟨rfl, hb⟩
  · have d1 : decide ((30 : Int) < (l.length : Int)) = false := decide_eq_false (by omega)
    have HAT := Hid_of hat
    have HSZ := Hid_of hsz
    clear hat hsz
    go_enter Try.func4, Try.ntmps4
    go_wp2_with fail
    refine (newL w).mono ?_
    rintro x w1 ⟨b, F1, P1, rfl, S1⟩
    have HS1 := Hid_of S1
    clear S1
    go_wp2
    go_loopw [6, 7, 8] (fun x n i wr => ∃ (k m : Nat) (F : Nat → Prop) (P : List M.Pl) (wt : List UInt8), k ≤ l.length ∧ m ≤ k ∧ i = .int .i64 k ∧ n = .int .i64 m ∧ x = .string (ofL wt) ∧ LS w wr b F P m wt) (fun _ _ i _ => l.length - (intOf i).toNat)
    case atStart => exact ⟨0, 0, _, _, [], by omega, by omega, rfl, rfl, rfl, HS1.out⟩
    case round =>
      obtain ⟨k, m, F, P, wt, hkl, hmk, rfl, rfl, rfl, S⟩ := hrel
      clear HS1
      by_cases hlt : k < l.length
      · obtain ⟨bb, off, rfl, c0⟩ := (HAT.out.keep S.d.bel).str k hlt
        have HC : Hid (∀ W, Below w.heap.size w W → W.cell? ⟨bb, off + k, none⟩ = some (.string l[k])) := fun W hW => by
          obtain ⟨b', o', e', q⟩ := (HAT.out.keep hW).str k hlt
          cases e'
          exact q
        have hs := HSZ.out l[k] (List.getElem_mem hlt)
        generalize l[k] = s at *
        by_cases hbig : 244 < s.size
        · rcases Nat.eq_zero_or_pos m with rfl | hm
          · obtain rfl := S.zero
            have dm : decide ((0 : Int) < ((0 : Nat) : Int)) = false := by decide
            have hw := S.d.swrite_no s hs hbig
            have HR := Hid_of S
            clear S
            go_wp2_with fail
            refine hw.mono ?_
            rintro x w4 ⟨rfl, rfl⟩
            have S4 := HR.out
            clear hw HR
            have hcr := S4.crash keep 5 hk
            clear S4
            go_wp2_with fail
            refine hcr.mono ?_
            rintro x w5 ⟨F5, rfl, S5⟩
            have hrd := S5.read
            rw [rcode_0] at hrd
            clear hcr S5
            go_wp2_with fail
            refine hrd.mono ?_
            rintro x w6 ⟨rfl, S6⟩
            have HS6 := Hid_of S6
            clear hrd S6
            go_wp2
            go_roundw
            case rel => exact ⟨k + 1, 0, _, _, [], by omega, by omega, by go_num, by go_num, rfl, HS6.out⟩
            case measure => simp [intOf]; omega
          · have dm : decide ((0 : Int) < (m : Int)) = true := decide_eq_true (by omega)
            have hw := S.d.swrite_no s hs hbig
            have HR := Hid_of S
            clear S
            go_wp2_with fail
            refine hw.mono ?_
            rintro x w4 ⟨rfl, rfl⟩
            have S4 := HR.out
            clear hw HR
            have hcr := S4.crash keep 5 hk
            clear S4
            go_wp2_with fail
            refine hcr.mono ?_
            rintro x w5 ⟨F5, rfl, S5⟩
            have hrd := S5.read
            rw [rcode_s m wt hm] at hrd
            clear hcr S5
            go_wp2_with fail
            refine hrd.mono ?_
            rintro x w6 ⟨rfl, S6⟩
            have HS6 := Hid_of S6
            clear hrd S6
            go_wp2
            go_roundw
            case rel => exact ⟨k + 1, m, _, _, wt, by omega, by omega, by go_num, by go_num, rfl, HS6.out⟩
            case measure => simp [intOf]; omega
        · have hsm : s.size ≤ 244 := by omega
          have dm : decide ((0 : Int) < (m : Int) + 1) = true := decide_eq_true (by omega)
          have HO : Hid (ofL s.data.toList = s) := ofL_of s
          have hw := S.write (by omega) s hsm
          clear S
          go_wp2_with fail
          refine hw.mono ?_
          rintro x w4 ⟨F4, P4, rfl, S4⟩
          have c4 := HC.out w4 S4.d.bel
          clear hw
          have hcr := S4.crash keep 5 hk
          clear S4
          go_wp2_with fail
          refine hcr.mono ?_
          rintro x w5 ⟨F5, rfl, S5⟩
          have hrd := S5.read
          rw [rcode_s (m + 1) _ (by omega), ofL_of] at hrd
          clear hcr S5
          go_wp2_with fail
          refine hrd.mono ?_
          rintro x w6 ⟨rfl, S6⟩
          have HS6 := Hid_of S6
          clear hrd S6
          go_wp2
          go_roundw
          case rel => exact ⟨k + 1, m + 1, _, _, s.data.toList, by omega, by omega, by go_num, by go_num, by rw [HO.out], HS6.out⟩
          case measure => simp [intOf]; omega
      · have HB := Hid_of S.d.bel
        clear S
        go_wp2_with fail
        refine (awake_any _).mono ?_
        rintro x w2 ⟨rfl, hb⟩
        have HB2 := Hid_of (bel_up HB.out hb (Nat.le_refl _))
        clear hb HB
        go_wp2
        go_ret
        exact ⟨rfl, HB2.out⟩
end Go.Proofs.Ythffglacokfkgaa
