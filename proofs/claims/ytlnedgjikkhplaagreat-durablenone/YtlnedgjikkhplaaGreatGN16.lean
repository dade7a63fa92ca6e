/-
  A sector is written; all stays; the device is lost.
  All stays; the device is lost.
-/
import Derived.Test.YtlnedgjikkhplaaGreatGN14
import Derived.Test.YtlnedgjikkhplaaGreatGN15
import Derived.Deep.CutRange
section
namespace Go.Proofs.YtlnedgjikkhplaaGreat.Ns
open Go.RowKit
set_option linter.unusedVariables false

/-- What a call leaves. -/
def ChOut (w : World) (base b g : Nat) (vl : Value) (n : Nat) (P' : List M.Pl) (r : Value) (e : Ending) (w' : World) : Prop := ∃ vl' ls', e = .returned r ∧ DI w' base b g vl' n P' ls' ∧ Ch w (fp b g vl) w' (fp b g vl')
theorem fp_b (b g : Nat) (vl : Value) : fp b g vl b := .inl rfl
theorem fp_g (b g : Nat) (vl : Value) : fp b g vl g := .inr (.inl rfl)
/-- An append whose run is known, in a plain region. -/
theorem wpList_append_known {P : Program} {w : World} {ops : Array Oper} {rest : List Oper} {o : Oper} {a : Act} {Q : Exit → Act → World → Prop} (hgd : o.guard = none) (s x : Operand) (t : TypeId)
    (ho : o.op = .call { callee := .builtin .append, args := #[s, x], argTypes := #[t, t] }) (v sv : Value) (hs : a.eval s = v) (hx : a.eval x = sv) (v' : Value) (w' : World)
    (hr : (Builtin.append_ #[t, t] o.type #[v, sv]).run P w = .ok v' w') (h : wpList P ops Q rest (a.put o.dst v') w') : wpList P ops Q (o :: rest) a w := by
  refine wpList_plain hgd fun K' hK' => ?_
  unfold Oper.wp execOp
  simp only [ho, resolve, invoke, builtin, Sem.run_bind, Sem.run_pure, Result.andThen_ok, List.map_toArray, List.map_cons, List.map_nil, hs, hx, hr]
  exact hK' _ _ h
theorem ne_nil {s : ByteArray} (h : s.size = 64) : s.toList.isEmpty = false := by
  rw [ByteArray.toList_eq]
  cases hd : s.data.toList with
  | nil => rw [← ByteArray.size_data, ← Array.length_toList, hd] at h; cases h
  | cons a r => rfl
theorem is_nil : M.E.toList.isEmpty = true := by rw [ByteArray.toList_eq]; rfl
section
variable {w w1 : World} {base b g : Nat} {vl vl' : Value} {n : Nat} {P P' : List M.Pl} {ls ls' : List Nat}
/-- Another row of loose ones in the place of the old one. -/
theorem DI.loo (h : DI w base b g vl n P ls) (hr : Rw w vl w1 vl') (ho : w1.ownsRow base 3 1 vl' (M.zs ls').length (IC (M.zs ls'))) :
    PR (w1.setCell ⟨b, 2, none⟩ vl') g P ∧ (w1.setCell ⟨b, 2, none⟩ vl').heap[b]? = some (.cells #[.int .i64 n, .slice (some ⟨g, 0, none⟩) n n, vl', .bool false] 84 (0, 0)) ∧ (w1.setCell ⟨b, 2, none⟩ vl').ownsRow base 3 1 vl' (M.zs ls').length (IC (M.zs ls')) ∧ (vl'.ownBlock ≠ some b ∧ vl'.ownBlock ≠ some g) ∧ Ch w (fp b g vl) (w1.setCell ⟨b, 2, none⟩ vl') (fp b g vl') := by
  have hrow : w1.heap[b]? = some (.cells #[.int .i64 n, .slice (some ⟨g, 0, none⟩) n n, vl, .bool false] 84 (0, 0)) := (hr.g.block b h.lt (fun e => h.ne.2.1 e.symm)).trans h.row
  have hpl : PR w1 g P := (hr.g.block g h.pl.lt (fun e => h.ne.2.2 e.symm)).trans h.pl
  have hne : vl'.ownBlock ≠ some b := fun e => by
    rcases hr.n b e with h' | h'
    · exact h.ne.2.1 h'
    · have := h.lt; omega
  have hng : vl'.ownBlock ≠ some g := fun e => by
    rcases hr.n g e with h' | h'
    · exact h.ne.2.2 h'
    · have := h.pl.lt; omega
  refine ⟨(heap_setCell_other w1 ⟨b, 2, none⟩ g _ (fun e => h.ne.1 e.symm)).trans hpl, heap_setCell_same w1 b 2 _ _ _ hrow, owns_keepBut ho (fun k hk e => heap_setCell_other w1 ⟨b, 2, none⟩ k _ (fun e' => hne (by rw [e, e']))), ⟨hne, hng⟩, ?_⟩
  refine ⟨hr.g.os, hr.g.tape, hr.g.output, Nat.le_trans hr.g.size (by simp), fun k hk hF => ?_, fun k hk => ?_⟩
  · rw [heap_setCell_other w1 ⟨b, 2, none⟩ k _ (fun e => hF (.inl e))]
    exact hr.g.block k hk (fun e => hF (.inr (.inr e.symm)))
  · rcases hk with h' | h' | h'
    · exact .inl (.inl h')
    · exact .inl (.inr (.inl h'))
    · rcases hr.n k h' with h'' | h''
      · exact .inl (.inr (.inr h''))
      · exact .inr h''
end
set_option maxRecDepth 100000 in
set_option maxHeartbeats 2000000 in
theorem loosen_any (base b g : Nat) (vl : Value) (n : Nat) (P : List M.Pl) (ls : List Nat) (i : Nat) (s : ByteArray) (w : World) (hb : base ≤ w.heap.size) (h : DI w base b g vl n P ls) (hi : i < n) (hs : s.size = 64) :
    Calls Tryz.prog 120 #[.pointer (some ⟨b, 0, none⟩), .int .i64 i, .string s] w (ChOut w base b g vl n (M.st P i s) (.tuple #[])) := by
  have hiP : i < P.length := by rw [h.len]; exact hi
  have hn := h.n1.2
  obtain ⟨c0, c1⟩ := h.pl.c i hiP
  obtain ⟨⟨r0, r1, r2, r3⟩, rf⟩ := row4 h.row
  have hok := M.st_ok h.ok i s hiP hs
  have hlo := M.st_lo h.lo i s hiP hs
  cases hl : M.lse P[i] with
  | true =>
    have h64 : P[i].2.size = 64 := by
      rcases (h.ok.get i hiP).2 with h' | h'
      · exact h'
      · unfold M.lse at hl; rw [h'] at hl; cases hl
    have pf := h.pl.free (i * 2 + 1)
    have HK : Hid (ChOut w base b g vl n (M.st P i s) (.tuple #[]) (.returned (.tuple #[])) (w.setCell ⟨g, i * 2 + 1, none⟩ (.string s))) := by
      unfold M.ad at hlo
      rw [List.getElem?_eq_getElem hiP, Option.getD_some, hl] at hlo
      refine ⟨vl, ls, rfl, ⟨(heap_setCell_other w ⟨g, _, none⟩ b _ h.ne.1).trans h.row, ?_, by rw [M.st_len]; exact h.len, h.n1, hok, owns_keepBut h.own (fun k hk e => heap_setCell_other w ⟨g, _, none⟩ k _ (fun e' => h.ne.2.2 (by rw [e, e']))), hlo, h.ne, h.low⟩, Ch.cell g _ _ (fp_g _ _ _)⟩
      rw [M.st_eq P i s hiP]
      exact h.pl.set1 i hiP s
    clear h hok hlo hl
    generalize P[i].2 = old at *
    generalize P[i].1 = fl at *
    have he := ne_nil h64
    clear rf
    go_enter Tryz.func120, Tryz.ntmps120
    go_wp2
    go_end0
    exact HK.out
  | false =>
    obtain ⟨_, hE⟩ := M.lse_no hl
    rw [hE] at c1
    obtain ⟨a, cap, rfl, _, _⟩ := owns_at h.own
    have hX1 := h.keep (bel1 w (.cells #[.int .i64 (i : Int)] 3))
    have hlsn := h.lsn
    obtain ⟨gg, cp, w3, hrun, ho, hrw⟩ := run_app_int (w.alloc (.cells #[.int .i64 (i : Int)] 3)) base _ (M.zs ls) i w.heap.size 1 82 hX1.own (heap_alloc_last w _) (by rw [M.zs_len]; omega) (by simp; omega)
    have ez : M.zs ls ++ [(i : Int)] = M.zs (ls ++ [i]) := by simp [M.zs]
    rw [ez] at ho
    obtain ⟨q1, q2, q3, q4, q5⟩ := hX1.loo (ls' := ls ++ [i]) hrw ho
    obtain ⟨⟨_, _, m2, _⟩, mf⟩ := row4 ((hrw.g.block b hX1.lt (fun e => hX1.ne.2.1 e.symm)).trans hX1.row)
    have mf2 := mf 2
    obtain ⟨W4, HW4⟩ : ∃ W4, Hid (w3.setCell ⟨b, 2, none⟩ (.slice (some ⟨gg, 0, none⟩) ((M.zs ls).length + 1) cp) = W4) := ⟨_, rfl⟩
    rw [HW4.out] at q1 q2 q3 q5
    obtain ⟨⟨_, d1, _, _⟩, _⟩ := row4 q2
    obtain ⟨_, e1⟩ := q1.c i hiP
    have ef := q1.free (i * 2 + 1)
    have HK : Hid (ChOut w base b g (.slice a (M.zs ls).length cap) n (M.st P i s) (.tuple #[]) (.returned (.tuple #[])) (W4.setCell ⟨g, i * 2 + 1, none⟩ (.string s))) := by
      unfold M.ad at hlo
      rw [List.getElem?_eq_getElem hiP, Option.getD_some, hl] at hlo
      refine ⟨_, ls ++ [i], rfl, ⟨(heap_setCell_other W4 ⟨g, _, none⟩ b _ h.ne.1).trans q2, ?_, by rw [M.st_len]; exact h.len, h.n1, hok, owns_keepBut q3 (fun k hk e => heap_setCell_other W4 ⟨g, _, none⟩ k _ (fun e' => q4.2 (by rw [e, e']))), hlo, ⟨h.ne.1, q4⟩, h.low⟩, ((Ch.ofBelow (bel1 w _)).trans q5).trans (Ch.cell g _ _ (fp_g _ _ _))⟩
      rw [M.st_eq P i s hiP]
      exact q1.set1 i hiP s
    clear h hX1 hok hlo hl q1 q2 q3 q4 q5 mf rf ho hrw ez
    rw [hE] at e1
    clear hE
    generalize P[i].1 = fl at *
    have he := is_nil
    generalize hll : (M.zs ls).length = ll at *
    go_enter Tryz.func120, Tryz.ntmps120
    go_upto_region 2 with (at_builtin; refine wpList_append_known rfl (.tmp 19) (.tmp 21) 82 rfl _ _ (by simp [Act.eval]) (by simp [Act.eval]) _ _ hrun ?_)
    rw [HW4.out]
    clear HW4 hrun c0 c1 r0 r1 r2 r3
    go_wp2
    go_end0
    exact HK.out
/-- The k-th piece. -/
theorem piece_eq (s : ByteArray) (k : Nat) (h : k < s.size / 64) : piece s 64 k = M.pc s k := by
  have h' : k * 64 + 64 ≤ s.size := by omega
  unfold piece M.pc
  apply ByteArray.ext
  apply Array.ext'
  have e : (s.extract (k * 64) (k * 64 + 64)).data.toList = (s.data.toList.drop (k * 64)).take 64 := by rw [extract_list s _ _ h']; congr 1; omega
  rw [e]
  have hl : ((s.data.toList.drop (k * 64)).take 64).length = 64 := by rw [List.length_take, List.length_drop, len_data]; omega
  simp [M.ofL, pad, hl]
theorem count_64 (s : ByteArray) (h : s.size % 64 = 0) : count s 64 = s.size / 64 := by unfold count; omega
/-- A write's answer. -/
def WrOut (w : World) (base b g : Nat) (vl : Value) (n : Nat) (P : List M.Pl) (at' : Int) (s : ByteArray) (e : Ending) (w' : World) : Prop := ChOut w base b g vl n (M.wrote n false P at' s) (.int .i64 (M.wcode n false at' s)) e w'
set_option maxRecDepth 100000 in
set_option maxHeartbeats 2000000 in
theorem write_any (base b g : Nat) (vl : Value) (n : Nat) (P : List M.Pl) (ls : List Nat) (at' : Int) (s : ByteArray) (w : World) (hb : base ≤ w.heap.size) (h : DI w base b g vl n P ls) (hs : s.size ≤ 131072) :
    Calls Tryz.prog 71 #[.pointer (some ⟨b, 0, none⟩), .int .i64 at', .string s] w (WrOut w base b g vl n P at' s) := by
  by_cases hm : s.size % 64 = 0
  · have hmi : (s.size : Int) % 64 = 0 := by omega
    have hmt : (s.size : Int).tmod 64 = 0 := by rw [Int.tmod_eq_emod_of_nonneg (by omega)]; exact hmi
    have hdv : (s.size : Int).tdiv 64 = ((s.size / 64 : Nat) : Int) := by rw [Int.tdiv_eq_ediv_of_nonneg (by omega)]; omega
    have hdm : (s.size : Int) / 64 = ((s.size / 64 : Nat) : Int) := by omega
    have hwc : M.wcode n false at' s = M.refused n false at' ((s.size / 64 : Nat) : Int) := by unfold M.wcode; simp [hm]
    obtain ⟨m, hmm⟩ : ∃ m, s.size / 64 = m := ⟨_, rfl⟩
    rw [hmm] at hdv hdm hwc
    have href := refused_any b n _ _ false at' (m : Int) w h.row h.n1.2 (by omega)
    by_cases hz : M.refused n false at' (m : Int) = 0
    · obtain ⟨_, a, k, rfl, hk, hk1, hak⟩ := M.refused_ok hz
      obtain rfl : m = k := by omega
      have HW : Hid (M.wrote n false P (a : Int) s = M.wr P a s m ∧ M.wcode n false (a : Int) s = 0) := by
        refine ⟨?_, by rw [hwc, hz]⟩
        unfold M.wrote
        rw [hwc, hz, hmm]
        simp
      have HX := Hid_of h
      have HP : Hid (∀ k (hk : k < m), piece s 64 k = M.pc s k ∧ (M.pc s k).size = 64) := fun k hk => ⟨piece_eq s k (by omega), M.pc_size s k (by omega)⟩
      have hcut := cut_any s 64 w hs (by omega)
      have ecut : cutOut s 64 = (pieces s 64, 0) := by simp [cutOut]
      rw [ecut] at hcut
      have hpl : (pieces s 64).length = m := by rw [pieces_length, count_64 s hm, hmm]
      have HG : Hid (∀ k (hk : k < (pieces s 64).length), (pieces s 64)[k] = piece s 64 k) := fun k hk => by simp [pieces]
      rw [hz] at href
      have hn := h.n1.2
      clear h hz hwc ecut hmi
      go_enter Tryz.func71, Tryz.ntmps71
      go_wp2_with fail
      refine href.mono ?_
      rintro e w1 ⟨rfl, rfl⟩
      go_wp2_with fail
      refine hcut.mono ?_
      rintro e w2 ⟨aa, cap, rfl, hat, hb2, hnew⟩
      have hX2 := HX.out.keep hb2
      have hbb := hb2.size
      have HB2 := Hid_of hb2
      have HAT : Hid (AtT w2 aa (pieces s 64) ∧ ∀ k, blk aa k → ¬ fp b g vl k) := ⟨hat, fun k hk hF => by have := hnew k hk; have := (HX.out.mine k hF).2; omega⟩
      have HX2 := Hid_of hX2
      clear hcut href HX hat hX2 hnew hb2
      generalize hLL : pieces s 64 = L at *
      rw [hpl]
      go_wp2
      go_loopw [35] (fun i wr => ∃ (k : Nat) (vl' : Value) (ls' : List Nat), k ≤ m ∧ i = .int .i64 k ∧ DI wr base b g vl' n (M.wr P a s k) ls' ∧ Ch w1 (fp b g vl) wr (fp b g vl') ∧ Ch w2 (fp b g vl) wr (fp b g vl')) (fun i _ => m - (intOf i).toNat)
      case atStart => exact ⟨0, vl, ls, Nat.zero_le _, rfl, HX2.out, Ch.ofBelow HB2.out, Ch.refl _ _⟩
      case round =>
        obtain ⟨k, vl', ls', hk, rfl, hX, hC, hC2⟩ := hrel
        by_cases hlt : k < m
        · obtain ⟨bb, off, rfl, c0⟩ := (HAT.out.1.keepBut (w' := wr) fun j hj hbl => hC2.block j hj (HAT.out.2 j hbl)) k (by omega)
          rw [HG.out k (by omega), (HP.out k hlt).1] at c0
          have hsz := (HP.out k hlt).2
          have hlo := loosen_any base b g vl' n (M.wr P a s k) ls' (a + k) (M.pc s k) wr (by have := hC.size; omega) hX (by omega) hsz
          have HM : Hid (M.st (M.wr P a s k) (a + k) (M.pc s k) = M.wr P a s (k + 1)) := rfl
          rw [HM.out] at hlo
          have HC := Hid_of (And.intro hC hC2)
          clear hX hC hC2 HX2 HAT HG HP HM
          generalize M.pc s k = pk at *
          go_wp2_with fail
          rw [show (a : Int) + (k : Int) = ((a + k : Nat) : Int) by omega]
          refine hlo.mono ?_
          rintro e w3 ⟨vl3, ls3, rfl, hX3, hC3⟩
          have HR := Hid_of (And.intro hX3 (And.intro (HC.out.1.trans hC3) (HC.out.2.trans hC3)))
          clear hX3 hC3 HC hlo
          go_wp2
          go_roundw
          case rel => exact ⟨k + 1, vl3, ls3, by omega, by go_num, HR.out⟩
          case measure => simp [intOf]; omega
        · obtain rfl : k = m := by omega
          have HK : Hid (WrOut w1 base b g vl n P (a : Int) s (.returned (.int .i64 0)) wr) := by
            unfold WrOut
            rw [HW.out.1, HW.out.2]
            exact ⟨vl', ls', rfl, hX, hC⟩
          clear hX hC HX2 HW hC2
          go_wp2
          go_ret
          exact HK.out
    · have HK : Hid (WrOut w base b g vl n P at' s (.returned (.int .i64 (M.refused n false at' (m : Int)))) w) := by
        unfold WrOut M.wrote
        rw [hwc, decide_eq_false hz]
        exact ⟨vl, ls, rfl, h, Ch.refl _ _⟩
      have hz' : (M.refused n false at' (m : Int) == 0) = false := by simpa using hz
      generalize M.refused n false at' (m : Int) = r at *
      clear h hwc
      go_enter Tryz.func71, Tryz.ntmps71
      go_wp2_with fail
      refine href.mono ?_
      rintro e w1 ⟨rfl, rfl⟩
      clear href
      go_wp2
      go_ret
      exact HK.out
  · have hmt : (s.size : Int).tmod 64 ≠ 0 := by rw [Int.tmod_eq_emod_of_nonneg (by omega)]; omega
    have hmt' : ((s.size : Int).tmod 64 == 0) = false := by simpa using hmt
    have hme : ((s.size : Int) % 64 == 0) = false := by simp; omega
    have HK : Hid (WrOut w base b g vl n P at' s (.returned (.int .i64 1)) w) := by
      have : M.wcode n false at' s = 1 := by unfold M.wcode; simp [hm]
      unfold WrOut M.wrote
      rw [this]
      exact ⟨vl, ls, rfl, h, Ch.refl _ _⟩
    clear h
    go_enter Tryz.func71, Tryz.ntmps71
    go_wp2
    go_ret
    exact HK.out
end Go.Proofs.YtlnedgjikkhplaaGreat.Ns
end
section
namespace Go.Proofs.YtlnedgjikkhplaaGreat.Ns
open Go.RowKit
set_option linter.unusedVariables false

theorem grown_drew {a b : World} {r : Option Nat} (h : a.grownBy b r) : a.grownBy b.drew r := ⟨h.os, h.tape, h.output, h.size, h.block⟩
/-- A device that is lost, at block b. -/
structure LI (w : World) (base b n : Nat) : Prop where
  row : w.heap[b]? = some (.cells #[.int .i64 n, .slice none 0 0, .slice none 0 0, .bool true] 84 (0, 0))
  n1 : 1 ≤ n ∧ n ≤ 4096
  low : base ≤ b
section
variable {w w1 : World} {base b g : Nat} {vl vl' : Value} {n : Nat} {P P' Q : List M.Pl} {ls ls' : List Nat}
theorem LI.lt (h : LI w base b n) : b < w.heap.size := (Array.getElem?_eq_some_iff.1 h.row).1
theorem Ch.grown {F : Nat → Prop} (h : w.grownBy w1 (some g)) (hg : F g) : Ch w F w1 F :=
  ⟨h.os, h.tape, h.output, h.size, fun k hk hF => h.block k hk (fun e => hF (by cases e; exact hg)), fun k h => .inl h⟩
/-- The sectors alone have changed, and then none is loose. -/
theorem DI.none (h : DI w base b g vl n P ls) (hg : w.grownBy w1 (some g)) (hp : PR w1 g Q) (hl : Q.length = P.length) (ho : M.Ok Q) (hn : ∀ p ∈ Q, M.lse p = false) :
    DI (w1.setCell ⟨b, 2, none⟩ (.slice none 0 0)) base b g (.slice none 0 0) n Q [] ∧ Ch w (fp b g vl) (w1.setCell ⟨b, 2, none⟩ (.slice none 0 0)) (fp b g (.slice none 0 0)) := by
  have hrow : w1.heap[b]? = some (.cells #[.int .i64 n, .slice (some ⟨g, 0, Option.none⟩) n n, vl, .bool false] 84 (0, 0)) := (hg.block b h.lt (fun e => h.ne.1 (by cases e; rfl))).trans h.row
  refine ⟨⟨heap_setCell_same w1 b 2 _ _ _ hrow, (heap_setCell_other w1 ⟨b, 2, Option.none⟩ g _ (fun e => h.ne.1 e.symm)).trans hp, hl.trans h.len, h.n1, ho, World.ownsRow_nil _ _ _ _, M.Lo.none hn, ⟨h.ne.1, by simp [Value.ownBlock], by simp [Value.ownBlock]⟩, h.low⟩, ?_⟩
  have h1 : Ch w (YtlnedgjikkhplaaGreat.Ns.fp b g vl) (w1.setCell ⟨b, 2, Option.none⟩ (.slice Option.none 0 0)) (YtlnedgjikkhplaaGreat.Ns.fp b g vl) := (Ch.grown hg (fp_g _ _ _)).trans (Ch.cell b 2 _ (fp_b _ _ _))
  refine ⟨h1.os, h1.tape, h1.output, h1.size, h1.block, fun k hk => .inl ?_⟩
  rcases hk with h' | h' | h'
  · exact .inl h'
  · exact .inr (.inl h')
  · simp [Value.ownBlock] at h'
end
set_option maxRecDepth 100000 in
set_option maxHeartbeats 2000000 in
theorem flush_any (base b g : Nat) (vl : Value) (n : Nat) (P : List M.Pl) (ls : List Nat) (w : World) (h : DI w base b g vl n P ls) :
    Calls Tryz.prog 109 #[.pointer (some ⟨b, 0, none⟩)] w (ChOut w base b g vl n (M.flush P) (.tuple #[])) := by
  obtain ⟨⟨_, _, r2, _⟩, _⟩ := row4 h.row
  obtain ⟨a, cap, rfl, hat, hbl, hcap⟩ := owns_at h.own
  have HX := Hid_of h
  have hlsn := h.lsn
  have hn := h.n1
  have HBL : Hid (∀ k, blk a k → k ≠ g) := fun k hk e => h.ne.2.2 (by rw [(hbl k hk).2.1, e])
  have hzl := M.zs_len ls
  have HAT := Hid_of hat
  clear h hat hbl hcap
  rw [hzl] at r2
  go_enter Tryz.func109, Tryz.ntmps109
  go_wp2
  go_loopw [11] (fun i wr => ∃ k : Nat, k ≤ ls.length ∧ i = .int .i64 k ∧ PR wr g (M.half P (ls.take k)) ∧ w.grownBy wr (some g)) (fun i _ => ls.length - (intOf i).toNat)
  case atStart => exact ⟨0, Nat.zero_le _, rfl, by rw [List.take_zero, M.half_nil]; exact HX.out.pl, World.grownBy.refl _ _⟩
  case round =>
    obtain ⟨k, hk, rfl, hp, hg⟩ := hrel
    have hrow : wr.heap[b]? = _ := (hg.block b HX.out.lt (fun e => HX.out.ne.1 (by cases e; rfl))).trans HX.out.row
    obtain ⟨⟨s0, s1, s2, s3⟩, sf⟩ := row4 hrow
    by_cases hlt : k < ls.length
    · obtain ⟨bb, off, rfl, c0⟩ := (HAT.out.keepBut (w' := wr) fun j hj hbl => hg.block j hj (fun e => HBL.out j hbl (by cases e; rfl))).int k (by rw [hzl]; exact hlt)
      rw [M.zs_get ls k hlt] at c0
      have hmem : ls[k] ∈ ls := List.getElem_mem hlt
      obtain ⟨hiP, _⟩ := (HX.out.lo.2 _).1 hmem
      have hnt : ls[k] ∉ ls.take k := by
        have hnd := HX.out.lo.1
        rw [← List.take_append_drop k ls, List.nodup_append] at hnd
        intro hm
        exact hnd.2.2 _ hm _ (by rw [← List.getElem_cons_drop hlt]; exact List.mem_cons_self) rfl
      have hin : ls[k] < n := by rw [← HX.out.len]; exact hiP
      obtain ⟨e1, e2⟩ := M.half_step P (ls.take k) ls[k] hiP hnt
      have hil : ls[k] < (M.half P (ls.take k)).length := by rw [M.half_len]; exact hiP
      obtain ⟨p0, p1⟩ := hp.c ls[k] hil
      have pf0 := hp.free (ls[k] * 2)
      have pf1 := hp.free (ls[k] * 2 + 1)
      have HP : Hid (PR ((wr.setCell ⟨g, ls[k] * 2, none⟩ (.string P[ls[k]].2)).setCell ⟨g, ls[k] * 2 + 1, none⟩ (.string M.E)).drew g (M.half P (ls.take (k + 1))) ∧ w.grownBy ((wr.setCell ⟨g, ls[k] * 2, none⟩ (.string P[ls[k]].2)).setCell ⟨g, ls[k] * 2 + 1, none⟩ (.string M.E)).drew (some g)) := by
        refine ⟨?_, grown_drew (grown_trans (grown_trans hg (grown_set _ _ _ _)) (grown_set _ _ _ _))⟩
        show PR ((wr.setCell ⟨g, ls[k] * 2, none⟩ (.string P[ls[k]].2)).setCell ⟨g, ls[k] * 2 + 1, none⟩ (.string M.E)) g (M.half P (ls.take (k + 1)))
        have h1 := hp.set0 ls[k] hil P[ls[k]].2
        have h2 := h1.set1 ls[k] (by simpa using hil) M.E
        rw [List.take_succ_eq_append_getElem hlt, ← e2]
        simpa using h2
      rw [e1] at p0 p1
      clear hp hg hmem hnt e1 e2 hil HX HAT HBL hrow sf
      generalize P[ls[k]].2 = wn at *
      generalize P[ls[k]].1 = fl at *
      generalize hii : ls[k] = i at *
      go_wp2_with fail
      go_region
      all_goals
        go_wp2
        go_roundw
        case rel => exact ⟨k + 1, by omega, by go_num, HP.out⟩
        case measure => simp [intOf]; omega
    · obtain rfl : k = ls.length := by omega
      rw [List.take_length, M.half_all HX.out.lo] at hp
      obtain ⟨q1, q2⟩ := HX.out.none hg hp (M.flush_len P) (M.flush_ok HX.out.ok) (M.flush_lse P)
      have HK : Hid (ChOut w base b g (.slice a (M.zs ls).length cap) n (M.flush P) (.tuple #[]) (.returned (.tuple #[])) (wr.setCell ⟨b, 2, none⟩ (.slice none 0 0))) := ⟨_, [], rfl, q1, q2⟩
      have sf2 := sf 2
      clear q1 q2 hp hg HX HAT HBL hrow sf
      go_wp2
      go_end0
      exact HK.out
set_option maxHeartbeats 2000000 in
theorem flush_lost (base b n : Nat) (w : World) (h : LI w base b n) : Calls Tryz.prog 109 #[.pointer (some ⟨b, 0, none⟩)] w fun e w' => e = .returned (.tuple #[]) ∧ LI w' base b n ∧ Ch w (· = b) w' (· = b) := by
  obtain ⟨⟨_, _, r2, _⟩, rf⟩ := row4 h.row
  have HK : Hid (LI (w.setCell ⟨b, 2, none⟩ (.slice none 0 0)) base b n ∧ Ch w (· = b) (w.setCell ⟨b, 2, none⟩ (.slice none 0 0)) (· = b)) := ⟨⟨heap_setCell_same w b 2 _ _ _ h.row, h.n1, h.low⟩, Ch.cell b 2 _ rfl⟩
  have rf2 := rf 2
  clear h rf
  go_enter Tryz.func109, Tryz.ntmps109
  go_wp2
  go_loopw [11] (fun i wr => i = .int .i64 0 ∧ wr = w) (fun i _ => 0)
  case atStart => exact ⟨rfl, rfl⟩
  case round =>
    obtain ⟨rfl, rfl⟩ := hrel
    go_wp2
    go_end0
    exact ⟨rfl, HK.out⟩
end Go.Proofs.YtlnedgjikkhplaaGreat.Ns
end
