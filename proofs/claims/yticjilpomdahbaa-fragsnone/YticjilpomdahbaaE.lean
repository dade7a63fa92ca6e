/-
  All stays; the device is lost.
-/
import Derived.Test.YticjilpomdahbaaD
namespace Go.Proofs.Yticjilpomdahbaa
open Go.RowKit
set_option linter.unusedVariables false

theorem grown_drew {a b : World} {r : Option Nat} (h : a.grownBy b r) : a.grownBy b.drew r := ⟨h.os, h.tape, h.output, h.size, h.block⟩
/-- A device that is lost, at block b. -/
structure LI (w : World) (base b n : Nat) : Prop where
  row : w.heap[b]? = some (.cells #[.int .i64 n, .slice none 0 0, .slice none 0 0, .bool true] 74 (0, 0))
  n1 : 1 ≤ n ∧ n ≤ 4096
  low : base ≤ b
section
variable {w w1 : World} {base b g : Nat} {vl vl' : Value} {n : Nat} {P P' Q : List M.Pl} {ls ls' : List Nat}
theorem LI.lt (h : LI w base b n) : b < w.heap.size := (Array.getElem?_eq_some_iff.1 h.row).1
theorem Ch.grown {F : Nat → Prop} (h : w.grownBy w1 (some g)) (hg : F g) : Ch w F w1 F :=
  ⟨h.os, h.tape, h.output, h.size, fun k hk hF => h.block k hk (fun e => hF (by cases e; exact hg)), fun k h => .inl h⟩
/-- The sectors alone have changed, and then none is loose. -/
theorem DI.none (h : DI w base b g vl n P ls) (hg : w.grownBy w1 (some g)) (hp : PR w1 g Q) (hl : Q.length = P.length) (ho : M.Ok Q) (hn : ∀ p ∈ Q, M.lse p = false) :
    DI (w1.setCell ⟨b, 2, none⟩ (.slice none 0 0)) base b g (.slice none 0 0) n Q [] ∧ Ch w (fp b g vl) (w1.setCell ⟨b, 2, none⟩ (.slice none 0 0)) (fp b g (.slice none 0 0)) := by
  have hrow : w1.heap[b]? = some (.cells #[.int .i64 n, .slice (some ⟨g, 0, Option.none⟩) n n, vl, .bool false] 74 (0, 0)) := (hg.block b h.lt (fun e => h.ne.1 (by cases e; rfl))).trans h.row
  refine ⟨⟨heap_setCell_same w1 b 2 _ _ _ hrow, (heap_setCell_other w1 ⟨b, 2, Option.none⟩ g _ (fun e => h.ne.1 e.symm)).trans hp, hl.trans h.len, h.n1, ho, World.ownsRow_nil _ _ _ _, M.Lo.none hn, ⟨h.ne.1, by simp [Value.ownBlock], by simp [Value.ownBlock]⟩, h.low⟩, ?_⟩
  have h1 : Ch w (Yticjilpomdahbaa.fp b g vl) (w1.setCell ⟨b, 2, Option.none⟩ (.slice Option.none 0 0)) (Yticjilpomdahbaa.fp b g vl) := (Ch.grown hg (fp_g _ _ _)).trans (Ch.cell b 2 _ (fp_b _ _ _))
  refine ⟨h1.os, h1.tape, h1.output, h1.size, h1.block, fun k hk => .inl ?_⟩
  rcases hk with h' | h' | h'
  · exact .inl h'
  · exact .inr (.inl h')
  · simp [Value.ownBlock] at h'
end
set_option maxRecDepth 100000 in
set_option maxHeartbeats 2000000 in
theorem flush_any (base b g : Nat) (vl : Value) (n : Nat) (P : List M.Pl) (ls : List Nat) (w : World) (h : DI w base b g vl n P ls) :
    Calls Try.prog 43 #[.pointer (some ⟨b, 0, none⟩)] w (ChOut w base b g vl n (M.flush P) (.tuple #[])) := by
  obtain ⟨⟨_, _, r2, _⟩, _⟩ := row4 h.row
  obtain ⟨a, cap, rfl, hat, hbl, hcap⟩ := owns_at h.own
  have HX := Hid_of h
  have hlsn := h.lsn
  have hn := h.n1
  have HBL : Hid (∀ k, blk a k → k ≠ g) := fun k hk e => h.ne.2.2 (by rw [(hbl k hk).2.1, e])
  have hzl := M.zs_len ls
  have HAT := Hid_of hat
  clear h hat hbl hcap
  rw [hzl] at r2
  go_enter Try.func43, Try.ntmps43
  go_wp2
  go_loopw [11] (fun i wr => ∃ k : Nat, k ≤ ls.length ∧ i = .int .i64 k ∧ PR wr g (M.half P (ls.take k)) ∧ w.grownBy wr (some g)) (fun i _ => ls.length - (intOf i).toNat)
  case atStart => exact ⟨0, Nat.zero_le _, rfl, by rw [List.take_zero, M.half_nil]; exact HX.out.pl, World.grownBy.refl _ _⟩
  case round =>
    obtain ⟨k, hk, rfl, hp, hg⟩ := hrel
    have hrow : wr.heap[b]? = _ := (hg.block b HX.out.lt (fun e => HX.out.ne.1 (by cases e; rfl))).trans HX.out.row
    obtain ⟨⟨s0, s1, s2, s3⟩, sf⟩ := row4 hrow
    by_cases hlt : k < ls.length
    · obtain ⟨bb, off, rfl, c0⟩ := (HAT.out.keepBut (w' := wr) fun j hj hbl => hg.block j hj (fun e => HBL.out j hbl (by cases e; rfl))).int k (by rw [hzl]; exact hlt)
      rw [M.zs_get ls k hlt] at c0
      have hmem : ls[k] ∈ ls := List.getElem_mem hlt
      obtain ⟨hiP, _⟩ := (HX.out.lo.2 _).1 hmem
      have hnt : ls[k] ∉ ls.take k := by
        have hnd := HX.out.lo.1
        rw [← List.take_append_drop k ls, List.nodup_append] at hnd
        intro hm
        exact hnd.2.2 _ hm _ (by rw [← List.getElem_cons_drop hlt]; exact List.mem_cons_self) rfl
      have hin : ls[k] < n := by rw [← HX.out.len]; exact hiP
      obtain ⟨e1, e2⟩ := M.half_step P (ls.take k) ls[k] hiP hnt
      have hil : ls[k] < (M.half P (ls.take k)).length := by rw [M.half_len]; exact hiP
      obtain ⟨p0, p1⟩ := hp.c ls[k] hil
      have pf0 := hp.free (ls[k] * 2)
      have pf1 := hp.free (ls[k] * 2 + 1)
      have HP : Hid (PR ((wr.setCell ⟨g, ls[k] * 2, none⟩ (.string P[ls[k]].2)).setCell ⟨g, ls[k] * 2 + 1, none⟩ (.string M.E)).drew g (M.half P (ls.take (k + 1))) ∧ w.grownBy ((wr.setCell ⟨g, ls[k] * 2, none⟩ (.string P[ls[k]].2)).setCell ⟨g, ls[k] * 2 + 1, none⟩ (.string M.E)).drew (some g)) := by
        refine ⟨?_, grown_drew (grown_trans (grown_trans hg (grown_set _ _ _ _)) (grown_set _ _ _ _))⟩
        show PR ((wr.setCell ⟨g, ls[k] * 2, none⟩ (.string P[ls[k]].2)).setCell ⟨g, ls[k] * 2 + 1, none⟩ (.string M.E)) g (M.half P (ls.take (k + 1)))
        have h1 := hp.set0 ls[k] hil P[ls[k]].2
        have h2 := h1.set1 ls[k] (by simpa using hil) M.E
        rw [List.take_succ_eq_append_getElem hlt, ← e2]
        simpa using h2
      rw [e1] at p0 p1
      clear hp hg hmem hnt e1 e2 hil HX HAT HBL hrow sf
      generalize P[ls[k]].2 = wn at *
      generalize P[ls[k]].1 = fl at *
      generalize hii : ls[k] = i at *
      go_wp2_with fail
      go_region
      all_goals
        go_wp2
        go_roundw
        case rel => exact ⟨k + 1, by omega, by go_num, HP.out⟩
        case measure => simp [intOf]; omega
    · obtain rfl : k = ls.length := by omega
      rw [List.take_length, M.half_all HX.out.lo] at hp
      obtain ⟨q1, q2⟩ := HX.out.none hg hp (M.flush_len P) (M.flush_ok HX.out.ok) (M.flush_lse P)
      have HK : Hid (ChOut w base b g (.slice a (M.zs ls).length cap) n (M.flush P) (.tuple #[]) (.returned (.tuple #[])) (wr.setCell ⟨b, 2, none⟩ (.slice none 0 0))) := ⟨_, [], rfl, q1, q2⟩
      have sf2 := sf 2
      clear q1 q2 hp hg HX HAT HBL hrow sf
      go_wp2
      go_end0
      exact HK.out
set_option maxHeartbeats 2000000 in
theorem flush_lost (base b n : Nat) (w : World) (h : LI w base b n) : Calls Try.prog 43 #[.pointer (some ⟨b, 0, none⟩)] w fun e w' => e = .returned (.tuple #[]) ∧ LI w' base b n ∧ Ch w (· = b) w' (· = b) := by
  obtain ⟨⟨_, _, r2, _⟩, rf⟩ := row4 h.row
  have HK : Hid (LI (w.setCell ⟨b, 2, none⟩ (.slice none 0 0)) base b n ∧ Ch w (· = b) (w.setCell ⟨b, 2, none⟩ (.slice none 0 0)) (· = b)) := ⟨⟨heap_setCell_same w b 2 _ _ _ h.row, h.n1, h.low⟩, Ch.cell b 2 _ rfl⟩
  have rf2 := rf 2
  clear h rf
  go_enter Try.func43, Try.ntmps43
  go_wp2
  go_loopw [11] (fun i wr => i = .int .i64 0 ∧ wr = w) (fun i _ => 0)
  case atStart => exact ⟨rfl, rfl⟩
  case round =>
    obtain ⟨rfl, rfl⟩ := hrel
    go_wp2
    go_end0
    exact ⟨rfl, HK.out⟩
end Go.Proofs.Yticjilpomdahbaa
