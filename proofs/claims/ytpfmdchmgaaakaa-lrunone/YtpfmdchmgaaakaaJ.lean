/-
  A value is put.
-/
import Derived.Test.YtpfmdchmgaaakaaI
namespace Go.Proofs.Ytpfmdchmgaaakaa
open Go.RowKit Go.Maps
set_option linter.unusedVariables false
open M (K)

def PtOut (w : World) (c m n : Nat) (most : Int) (L : List (Nat × K)) (k : Int) (s : ByteArray) (e : Ending) (w' : World) : Prop :=
  ∃ u L' n', e = .returned u ∧ CI w' c m n' most L' ∧ n' ≤ n + 1 ∧ ks L' = (M.put most (ks L) k s).1 ∧ OwnI w' w.heap.size u (M.put most (ks L) k s).2 ∧ Fr w c m L w' L' ∧ ∀ b, u.ownBlock = some b → b ∉ bs L'
theorem Fr.box {w w4 w6 : World} {c m : Nat} {L L2 : List (Nat × K)} {x : Nat × K} {o : Obj} (h : Fr w c m L w4 L2) (hx : x.1 = w4.heap.size) (h6 : Fr (w4.alloc o) c m (L2 ++ [x]) w6 (L2 ++ [x])) : Fr w c m L w6 (L2 ++ [x]) := by
  refine Fr.trans (w1 := w4.alloc o) (L1 := L2 ++ [x]) ?_ h6
  have h4 := h.trans (Fr.ofBelow (c := c) (m := m) (L := L2) (bel1 w4 o))
  refine ⟨h4.os, h4.tape, h4.output, h4.size, h4.block, fun b hb => ?_⟩
  rw [bs_app] at hb
  rcases List.mem_append.1 hb with hb | hb
  · exact h4.new b hb
  · simp [bs] at hb
    subst hb
    exact .inr (by rw [hx]; exact h.size)
theorem OwnI.lt {w : World} {base : Nat} {v : Value} {l : List Int} (h : OwnI w base v l) {b : Nat} (hb : v.ownBlock = some b) : base ≤ b ∧ b < w.heap.size := World.ownsRow.lt h b hb
set_option maxRecDepth 100000 in
set_option maxHeartbeats 4000000 in
theorem put_any (c m n : Nat) (most : Int) (L : List (Nat × K)) (k : Int) (s : ByteArray) (w : World) (h : CI w c m n most L) (hl : L.length ≤ 1000000) (hn : n < maxLen) (hk : (Lit.int .i64 k).wf = true) (hss : s.size ≤ maxLen) :
    Calls Try.prog 13 #[.pointer (some ⟨c, 0, none⟩), .int .i64 k, .string s] w (PtOut w c m n most L k s) := by
  have hdrop := drop_any c m n most L k w h hk
  have hcl := h.lt
  have hml := h.mi.lt
  have hg0 := h.g
  have hmo : most ≤ 65536 := h.hi
  have hne := M.drp_ne hg0 k
  have hdl := M.drp_len (ks L) k
  have hss' : (s.size : Int) ≤ 9223372036854775807 := by unfold maxLen at hss; omega
  generalize hhas : M.has (ks L) k = hb at *
  clear hhas
  go_enter Try.func13, Try.ntmps13
  go_wp2_with fail
  refine hdrop.mono ?_
  rintro e w1 ⟨rfl, L1, I1, e1, F1⟩
  clear hdrop
  obtain ⟨⟨c0, c1, c2, c3, c4⟩, cf⟩ := row5 I1.row
  clear c1 c2 c3 c4 cf
  have hl1 : L1.length ≤ 1000000 := by
    have : (ks L1).length ≤ (ks L).length := by rw [e1]; exact hdl
    simp [ks] at this
    omega
  by_cases hlong : most < (s.size : Int)
  · have hd : decide (most < (s.size : Int)) = true := by simpa using hlong
    have HK : Hid (PtOut w c m n most L k s (.returned (.slice none 0 0)) w1) := by
      refine ⟨_, L1, n, rfl, I1, by omega, ?_, ?_, F1, by simp [Value.ownBlock]⟩
      · unfold M.put; rw [if_pos hlong, e1]
      · unfold M.put; rw [if_pos hlong]; exact OwnI.nil _ _
    clear I1 F1 h hg0 hne hlong
    go_wp2
    go_ret
    exact HK.out
  · have hd : decide (most < (s.size : Int)) = false := by simpa using hlong
    have hmr := makeRoom_any c m n most L1 s.size w1 I1 hl1
    have HPUT1 : Hid ((M.bytes (M.wlk (most - s.size) (M.drp (ks L) k) (M.bytes (M.drp (ks L) k))).1 : Int) ≤ most - s.size → M.put most (ks L) k s = ((M.wlk (most - s.size) (M.drp (ks L) k) (M.bytes (M.drp (ks L) k))).1 ++ [⟨k, s, false⟩], (M.wlk (most - s.size) (M.drp (ks L) k) (M.bytes (M.drp (ks L) k))).2)) := fun hh => by unfold M.put; rw [if_neg hlong, if_pos hh]
    have HPUT0 : Hid (¬ (M.bytes (M.wlk (most - s.size) (M.drp (ks L) k) (M.bytes (M.drp (ks L) k))).1 : Int) ≤ most - s.size → M.put most (ks L) k s = M.wlk (most - s.size) (M.drp (ks L) k) (M.bytes (M.drp (ks L) k))) := fun hh => by unfold M.put; rw [if_neg hlong, if_neg hh]
    have HI1 := Hid_of I1
    have HF1 := Hid_of F1
    have HE1 := Hid_of e1
    have HCL : Hid (c < w.heap.size ∧ m < w.heap.size) := ⟨hcl, hml⟩
    have HNE := Hid_of hne
    have hsz : (s.size : Int) ≤ most := by omega
    clear I1 F1 e1 h hg0 hcl hml hne hlong
    go_wp2_with fail
    refine hmr.mono ?_
    rintro e w2 ⟨u, L2, rfl, I2, e2, o2, F2, sub2⟩
    clear hmr c0 hd
    rw [HE1.out] at e2 o2
    have hroom := hasRoom_any c m most _ _ _ s.size w2 I2.row I2.lo I2.hi (by omega) I2.b0
    rw [e2] at hroom
    obtain ⟨ax, cx, rfl⟩ := o2.slice
    have HI2 := Hid_of I2
    have HO2 := Hid_of o2
    have HF2 := Hid_of (HF1.out.trans F2)
    have HS2 := Hid_of sub2
    have HE2 := Hid_of e2
    have HB1 : Hid (∀ b ∈ bs L2, b < w1.heap.size) := fun b hb => HI1.out.lk.lt b (sub2 b hb)
    have hF1s := HF1.out.size
    clear I2 o2 F2 sub2 e2
    generalize hwq : M.wlk (most - s.size) (M.drp (ks L) k) (M.bytes (M.drp (ks L) k)) = wq at *
    have HWQ := Hid_of hwq
    clear hwq
    by_cases hrm : (s.size : Int) ≤ most - M.bytes wq.1
    · have hd : decide ((s.size : Int) ≤ most - M.bytes wq.1) = true := by simpa using hrm
      have HP := Hid_of (HPUT1.out (by omega))
      rw [hd] at hroom
      have hle : (M.bytes wq.1 : Int) + s.size ≤ most := by omega
      clear hd hrm HPUT0 HPUT1
      go_wp2_with fail
      refine hroom.mono ?_
      rintro e w3 ⟨rfl, j, hj⟩
      have HB3 : Hid (Below w2.heap.size w2 w3) := by rw [hj]; exact below_drewN (Below.refl _ _) j
      clear hj hroom
      go_wp2_with fail
      refine (clone_any s w3 (by omega)).mono ?_
      rintro e w4 ⟨rfl, hb4⟩
      have HB4 := Hid_of (bel_up HB3.out hb4 (Nat.le_refl _))
      clear hb4 HB3
      have HKP : Hid (∀ W, W = w4.alloc (.cells #[.int .i64 k, .string s, .bool false, .pointer none, .pointer none] 66) → Calls Try.prog 30 #[.pointer (some ⟨c, 0, none⟩), .pointer (some ⟨w4.heap.size, 0, none⟩)] W fun e w6 => e = .returned (.tuple #[]) ∧ PtOut w c m n most L k s (.returned (.slice ax wq.2.length cx)) w6) := by
        rintro W rfl
        have hb5 : Below w2.heap.size w2 (w4.alloc (.cells #[.int .i64 k, .string s, .bool false, .pointer none, .pointer none] 66)) := bel_up HB4.out (bel1 w4 _) (Nat.le_refl _)
        have hs24 := HB4.out.size
        have hs12 := HF2.out.size
        have hx0 : w4.heap.size ∉ bs L2 := fun e => by have := HB1.out _ e; have := HI2.out.lk.lt _ e; omega
        have hw12 : w1.heap.size ≤ w2.heap.size ∨ True := .inr trivial
        refine (keep_any c m n most L2 (w4.heap.size, ⟨k, s, false⟩) (.pointer none) (.pointer none) _ (HI2.out.keep hb5) (heap_alloc_last w4 _) hn hx0 (by have := HI2.out.lt; show c ≠ w4.heap.size; omega) (fun e he => ?_) (by rw [HE2.out]; exact hle) hk).mono ?_
        · rw [HE2.out, ← HWQ.out] at he
          exact HNE.out e ((M.wlk_sub _ _ _).subset he)
        · rintro e w6 ⟨rfl, I6, F6⟩
          have hF := (HF2.out.trans (Fr.ofBelow (c := c) (m := m) (L := L2) HB4.out)).box (x := (w4.heap.size, ⟨k, s, false⟩)) rfl F6
          have hap : ∀ b, (Value.slice ax wq.2.length cx).ownBlock = some b → b ∉ bs (L2 ++ [(w4.heap.size, (⟨k, s, false⟩ : K))]) := by
            intro b hb hbm
            have hlt := HO2.out.lt hb
            rw [bs_app] at hbm
            rcases List.mem_append.1 hbm with hbm | hbm
            · have := HB1.out b hbm
              omega
            · simp [bs] at hbm
              omega
          refine ⟨rfl, _, _, n + 1, rfl, I6, Nat.le_refl _, ?_, ?_, hF, hap⟩
          · rw [HP.out, ks_app, HE2.out]
            rfl
          · rw [HP.out]
            have o5 := HO2.out.keep hb5
            refine (o5.keepBut F6.os F6.tape F6.output F6.size fun q hq hv => ?_).low hF1s
            have hlt := HO2.out.lt hv
            obtain ⟨a1, a2⟩ := HCL.out
            exact F6.block q hq (by omega) (by omega) (hap q hv)
      clear HI1 HF1 HE1 HCL HNE HI2 HO2 HF2 HS2 HE2 HB1 HWQ HP HB4
      go_wp2_with fail
      refine (HKP.out _ rfl).mono ?_
      rintro e w6 ⟨rfl, hq⟩
      have HQ := Hid_of hq
      clear hq HKP
      go_wp2
      go_ret
      exact HQ.out
    · have hd : decide ((s.size : Int) ≤ most - M.bytes wq.1) = false := by simpa using hrm
      have HP := Hid_of (HPUT0.out (by omega))
      rw [hd] at hroom
      have HK : Hid (∀ w3, Below w2.heap.size w2 w3 → PtOut w c m n most L k s (.returned (.slice ax wq.2.length cx)) w3) := by
        intro w3 hb3
        refine ⟨_, L2, n, rfl, HI2.out.keep hb3, by omega, by rw [HP.out, HE2.out], by rw [HP.out]; exact (HO2.out.keep hb3).low hF1s, HF2.out.trans (Fr.ofBelow hb3), fun b hb hbm => ?_⟩
        have hlt := HO2.out.lt hb
        have := HB1.out b hbm
        omega
      clear hd hrm HPUT0 HPUT1 HI1 HF1 HE1 HCL HNE HI2 HO2 HF2 HS2 HE2 HB1 HWQ HP
      go_wp2_with fail
      refine hroom.mono ?_
      rintro e w3 ⟨rfl, j, hj⟩
      have HQ : Hid (PtOut w c m n most L k s (.returned (.slice ax wq.2.length cx)) w3) := HK.out w3 (by rw [hj]; exact below_drewN (Below.refl _ _) j)
      clear hj hroom HK
      go_wp2
      go_ret
      exact HQ.out
set_option maxHeartbeats 400000 in
theorem put_nil (k : Int) (s : ByteArray) (w : World) : Calls Try.prog 13 #[.pointer none, .int .i64 k, .string s] w fun e w' => e = .returned (.slice none 0 0) ∧ w' = w := by
  go_enter Try.func13, Try.ntmps13
  go_wp2
  go_ret
  exact ⟨rfl, rfl⟩
set_option maxHeartbeats 400000 in
theorem keys_nil (w : World) : Calls Try.prog 20 #[.pointer none] w fun e w' => e = .returned (.slice none 0 0) ∧ w' = w := by
  go_enter Try.func20, Try.ntmps20
  go_wp2
  go_ret
  exact ⟨rfl, rfl⟩
end Go.Proofs.Ytpfmdchmgaaakaa
