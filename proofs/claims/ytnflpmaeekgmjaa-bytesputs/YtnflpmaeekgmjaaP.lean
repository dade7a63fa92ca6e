/-
  The document's answer for putting a text into another one: the same text, or the same error, as the plain function of the text I says. For every input; nothing that was there is written.
-/
import Derived.Test.YtnflpmaeekgmjaaK
import Derived.ArgAppend
namespace Go.Proofs.Ytnflpmaeekgmjaa
open Go.RowKit
set_option linter.unusedVariables false

/-- A buffer of one's own: the block g, room for cap bytes, the first of which are l. -/
structure Buf (w : World) (base g cap : Nat) (l : List UInt8) : Prop where
  base : base ≤ g
  lt : g < w.heap.size
  le : l.length ≤ cap
  cell : ∀ j (h : j < l.length), w.cell? ⟨g, j, none⟩ = some (.int .u8 (l[j].toNat : Int))
  room : ∀ j, j < cap → (w.cell? ⟨g, j, none⟩).isSome = true ∧ w.frozen? ⟨g, j, none⟩ = false

theorem Buf.alloc {w : World} {base g cap : Nat} {l : List UInt8} (h : Buf w base g cap l) (o : Obj) : Buf (w.alloc o) base g cap l := by
  have e : (w.alloc o).heap[g]? = w.heap[g]? := Below.heap_alloc w o g h.lt
  refine ⟨h.base, by have := h.lt; simp; omega, h.le, fun j hj => ?_, fun j hj => ?_⟩
  · rw [World.cell?_of_block (w := w) e]; exact h.cell j hj
  · rw [World.cell?_of_block (w := w) e, World.frozen?_of_block (w := w) e]; exact h.room j hj

theorem Buf.set {w : World} {base g cap : Nat} {l : List UInt8} (h : Buf w base g cap l) (i : Nat) (hi : i < l.length) (b : UInt8) : Buf (w.setCell ⟨g, i, none⟩ (.int .u8 (b.toNat : Int))) base g cap (l.set i b) := by
  refine ⟨h.base, by have := h.lt; simpa using this, by rw [List.length_set]; exact h.le, fun j hj => ?_, fun j hj => ?_⟩
  · rw [List.length_set] at hj
    rw [List.getElem_set]
    by_cases e : i = j
    · subst e
      rw [if_pos rfl, World.cell?_setCell_same w _ _ (h.cell i hi)]
    · rw [if_neg e, World.cell?_setCell_other w _ _ _ (fun h => e (congrArg Addr.off h))]
      exact h.cell j hj
  · rw [World.frozen?_setCell]
    refine ⟨?_, (h.room j hj).2⟩
    by_cases e : i = j
    · subst e
      rw [World.cell?_setCell_same w _ _ (h.cell i hi)]; rfl
    · rw [World.cell?_setCell_other w _ _ _ (fun h => e (congrArg Addr.off h))]; exact (h.room j hj).1

theorem Buf.grow {w : World} {base g cap : Nat} {l : List UInt8} (h : Buf w base g cap l) (hr : l.length < cap) (b : UInt8) : Buf (w.setCell ⟨g, l.length, none⟩ (.int .u8 (b.toNat : Int))) base g cap (l ++ [b]) := by
  obtain ⟨u, hu⟩ := Option.isSome_iff_exists.1 (h.room l.length hr).1
  refine ⟨h.base, by have := h.lt; simpa using this, by rw [List.length_append]; exact hr, fun j hj => ?_, fun j hj => ?_⟩
  · rw [List.length_append, List.length_singleton] at hj
    by_cases e : l.length = j
    · subst e
      rw [World.cell?_setCell_same w _ _ hu]
      simp
    · rw [World.cell?_setCell_other w _ _ _ (fun h => e (congrArg Addr.off h)), h.cell j (by omega)]
      rw [List.getElem_append_left (by omega)]
  · rw [World.frozen?_setCell]
    refine ⟨?_, (h.room j hj).2⟩
    by_cases e : l.length = j
    · subst e
      rw [World.cell?_setCell_same w _ _ hu]; rfl
    · rw [World.cell?_setCell_other w _ _ _ (fun h => e (congrArg Addr.off h))]; exact (h.room j hj).1

theorem buf_of_owns {w : World} {base n : Nat} {v : Value} {l : List UInt8} (h : w.ownsRow base 5 1 v n (vals l)) (hn : l.length = n) (h0 : 0 < n) : ∃ g cap, v = .slice (some ⟨g, 0, none⟩) n cap ∧ Buf w base g cap l := by
  rcases h.2 with ⟨rfl, h1⟩ | ⟨g, cap, cur, rfl, hb, hh, hc, hm, hs, ht⟩
  · omega
  · refine ⟨g, cap, rfl, hb, ?_, by omega, fun j hj => ?_, fun j hj => ?_⟩
    · rcases Nat.lt_or_ge g w.heap.size with h' | h'
      · exact h'
      · rw [Array.getElem?_eq_none h'] at hh; cases hh
    · have := h.cells (g := g) rfl j (.int .u8 (l[j].toNat : Int)) (by simp [vals, hj])
      rwa [show ((⟨g, 0, none⟩ : Addr).add j) = ⟨g, j, none⟩ by unfold Addr.add; split <;> simp_all] at this
    · refine ⟨?_, frozen_of_row w g j _ _ hh⟩
      rw [cell_of_row w g j _ _ _ hh]
      simp
      omega

theorem Buf.convert {w : World} {base g cap n : Nat} {l : List UInt8} (h : Buf w base g cap l) (hn : n = l.length) : (Go.convert 46 9 (.slice (some ⟨g, 0, none⟩) n cap)).run Try.prog w = .ok (.string (ofL l)) w := by
  subst hn
  refine run_convert_bytes_back w 46 9 5 ⟨g, 0, none⟩ cap l Try.underlying46 Try.underlying5 Try.underlying9 fun j hj => ?_
  rw [show ((⟨g, 0, none⟩ : Addr).add j) = ⟨g, j, none⟩ by unfold Addr.add; split <;> simp_all]
  exact h.cell j hj

/-- What making bytes of a text leaves. -/
theorem buf_of_text (s : ByteArray) (w : World) : ∃ cap w1, (Go.convert 9 46 (.string s)).run Try.prog w = .ok (.slice (some ⟨w.heap.size, 0, none⟩) s.size cap) w1 ∧ Buf w1 w.heap.size w.heap.size cap s.data.toList ∧ Below w.heap.size w w1 := by
  refine ⟨_, _, run_bytes_of_string (P := Try.prog) w 9 46 5 s Try.underlying9 Try.underlying46 Try.underlying5, ?_, ((Below.refl _ _).drew).alloc (Nat.le_refl _) _⟩
  have hge := grownCap_ge w s.size 0 5
  generalize grownCap w s.size 0 5 = cap at *
  have hsz : (bytesRow s cap).size = cap := by
    simp [bytesRow]
    have : s.data.size = s.size := rfl
    omega
  have hh : (w.drew.alloc (.cells (bytesRow s cap) 5 ((bytesRow s cap).size, (bytesRow s cap).size + 1))).heap[w.heap.size]? = some (.cells (bytesRow s cap) 5 ((bytesRow s cap).size, (bytesRow s cap).size + 1)) := heap_alloc_new w.drew _
  refine ⟨Nat.le_refl _, by simp, by rw [len_data]; exact hge, fun j hj => ?_, fun j hj => ?_⟩
  · rw [cell_of_row _ _ _ _ _ _ hh]
    rw [len_data] at hj
    have hj' : j < s.data.size := hj
    unfold bytesRow
    rw [Array.getElem?_append_left (by simpa using hj')]
    simp
    exact ⟨_, Array.getElem?_eq_getElem hj', rfl⟩
  · refine ⟨?_, ?_⟩
    · rw [cell_of_row _ _ _ _ _ _ hh]
      simp [hsz]
      exact hj
    · simp only [World.frozen?, hh]
      rw [hsz, Bool.and_eq_false_imp]
      intro h
      have := of_decide_eq_true h
      omega

set_option maxHeartbeats 400000 in
/-- One byte more, whether or not there was room. -/
theorem wpList_append_buf (w : World) {ops : Array Oper} {rest : List Oper} {o : Oper} {a : Act} {Q : Exit → Act → World → Prop}
    (hg : o.guard = none) (s x : Operand) (hop : o.op = Op.call { callee := Callee.builtin Builtin.append, args := #[s, x], argTypes := #[46, 46] })
    (base g cap n : Nat) (l : List UInt8) (hb : Buf w base g cap l) (hn : n = l.length) (hs : a.eval s = .slice (some ⟨g, 0, none⟩) n cap) (ad : Addr) (b : UInt8) (hx : a.eval x = .slice (some ad) 1 1)
    (hc : ∀ j u, [Value.int .u8 (b.toNat : Int)][j]? = some u → w.cell? (ad.add j) = some u) (hbound : n + 1 ≤ 140737488355328) (hbase : base ≤ w.heap.size)
    (hK : ∀ g' cap' w', Buf w' base g' cap' (l ++ [b]) → Below base w w' → wpList Try.prog ops Q rest (a.put o.dst (.slice (some ⟨g', 0, none⟩) (n + 1) cap')) w') :
    wpList Try.prog ops Q (o :: rest) a w := by
  obtain ⟨i0, hi, hz0, hz1, hz2⟩ := info_parts Try.info5
  subst hn
  refine wpList_append_arg w hg s x 46 hop 5 i0 (.int .u8 0) 1 1 Try.underlying46 hi hz0 hz1 hz2 rfl (by decide) g 0 l.length cap (vals l) hs (by simp [vals]) ?_ ad 1 1 [.int .u8 (b.toNat : Int)] hx rfl hc (by simp; rfl) ?_ (by unfold maxLen; omega) (by omega) ?_ ?_
  · intro j u hu
    rw [Nat.zero_add]
    have hj : j < l.length := by
      have := (List.getElem?_eq_some_iff.1 hu).1
      simpa [vals] using this
    rw [hb.cell j hj]
    rw [← hu]
    simp [vals, hj]
  · intro hr j hj
    have hj0 : j = 0 := by simpa using hj
    subst hj0
    simp only [Nat.zero_add, Nat.mul_one, Nat.add_zero]
    exact hb.room l.length (by omega)
  · intro hr
    have e : w.setCells g (0 + l.length * 1) [Value.int .u8 (b.toNat : Int)] = w.setCell ⟨g, l.length, none⟩ (.int .u8 (b.toNat : Int)) := by
      rw [Nat.zero_add, Nat.mul_one]
      rfl
    rw [e]
    exact hK g cap _ (hb.grow (by omega) b) ((Below.refl _ _).setCell (p := ⟨g, l.length, none⟩) hb.base _)
  · intro hr v' w' ho hgr
    have e : vals l ++ [Value.int .u8 (b.toNat : Int)] = vals (l ++ [b]) := by simp [vals]
    rw [e] at ho
    obtain ⟨g', cap', rfl, hb'⟩ := buf_of_owns ho (by simp) (by omega)
    exact hK g' cap' w' ⟨Nat.le_trans hbase hb'.base, hb'.lt, hb'.le, hb'.cell, hb'.room⟩ ((Below.refl _ _).grown hgr hbase (by simp))

theorem pad_self (l : List UInt8) : pad l l.length = l := by simp [pad]
theorem pad_more (l : List UInt8) (j : Nat) (h : l.length ≤ j) : pad l j ++ [0] = pad l (j + 1) := by
  unfold pad
  rw [show j + 1 - l.length = (j - l.length) + 1 by omega, List.replicate_succ', List.append_assoc]

set_option maxHeartbeats 1000000 in
theorem refPut_any (s : ByteArray) (k : Int) (t : ByteArray) (w : World) (hs : s.size ≤ maxLen) (ht : t.size ≤ maxLen) (hk : -9223372036854775808 ≤ k ∧ k ≤ 9223372036854775807) :
    Calls Try.prog 24 #[.string s, .int .i64 k, .string t] w fun e w' => e = .returned (.tuple #[.string (putOut s k t).1, .int .i64 (putOut s k t).2]) ∧ Below w.heap.size w w' := by
  unfold maxLen at hs ht
  by_cases h1 : k < 0
  · have e : putOut s k t = (ByteArray.empty, 1) := by simp [putOut, h1]
    rw [e]
    go_enter Try.func24, Try.ntmps24
    go_wp2
    go_ret2
    exact ⟨rfl, Below.refl _ _⟩
  · by_cases h2 : k > 65536 - (t.size : Int) ∨ (s.size : Int) > 65536
    · have e : putOut s k t = (ByteArray.empty, 2) := by simp only [putOut]; rw [if_neg h1, if_pos h2]
      rw [e]
      clear e
      have h5 : decide ((65536 : Int) < (s.size : Int)) = true ∨ decide ((65536 : Int) < (s.size : Int)) = false ∧ decide ((65536 : Int) < (t.size : Int)) = true ∨ decide ((65536 : Int) < (s.size : Int)) = false ∧ decide ((65536 : Int) < (t.size : Int)) = false ∧ 65536 - (t.size : Int) < k := by
        simp only [decide_eq_true_eq, decide_eq_false_iff_not]
        omega
      clear h2
      rcases h5 with hd1 | ⟨hd1, hd2⟩ | ⟨hd1, hd2, hd3⟩
      all_goals
        go_enter Try.func24, Try.ntmps24
        go_wp2
        go_ret2
        exact ⟨rfl, Below.refl _ _⟩
    · have e : putOut s k t = (ofL (putL s.data.toList k.toNat t.data.toList), 0) := by simp only [putOut]; rw [if_neg h1, if_neg h2]
      rw [e]
      clear e
      obtain ⟨m, rfl⟩ := Int.eq_ofNat_of_zero_le (show 0 ≤ k by omega)
      rw [Int.toNat_natCast]
      have hd1 : decide ((65536 : Int) < (s.size : Int)) = false := by simp; omega
      have hd2 : decide ((65536 : Int) < (t.size : Int)) = false := by simp; omega
      have hd3 : ¬ (65536 - (t.size : Int) < (m : Int)) := by omega
      obtain ⟨z, hz⟩ : ∃ z : Nat, z = m + t.size := ⟨_, rfl⟩
      have hz' : ((m : Int) + (t.size : Int)) = (z : Int) := by omega
      have hz1 : z ≤ 65536 := by omega
      have hs1 : s.size ≤ 65536 := by omega
      have HZ : Hid (z = m + t.size) := hz
      have HP : Hid (putL s.data.toList m t.data.toList = M.over (pad s.data.toList (max s.size z)) m t.data.toList) := by
        show _ = _
        rw [putL, len_data, len_data, hz]
      clear hz h2
      obtain ⟨cap0, w0, hcv, hbuf0, hbel0⟩ := buf_of_text s w
      go_enter Try.func24, Try.ntmps24
      go_wp2
      clear hcv
      go_loopw [8] (fun v wr => ∃ j g cap : Nat, s.size ≤ j ∧ j ≤ max s.size z ∧ v = .slice (some ⟨g, 0, none⟩) j cap ∧ Buf wr w.heap.size g cap (pad s.data.toList j) ∧ Below w.heap.size w wr) (fun v _ => match v with | .slice _ n _ => max s.size z - n | _ => 0)
      case atStart => exact ⟨s.size, _, _, Nat.le_refl _, Nat.le_max_left _ _, rfl, by have := pad_self s.data.toList; rw [len_data] at this; rw [this]; exact hbuf0, hbel0⟩
      case round =>
        obtain ⟨j, g, cap, hj1, hj2, rfl, hbuf, hbel⟩ := hrel
        clear hbuf0 hbel0
        have hle := hbel.size
        have HL : Hid (j = (pad s.data.toList j).length) := (pad_length _ _ (by rw [len_data]; exact hj1)).symm
        have HM := pad_more s.data.toList j (by rw [len_data]; exact hj1)
        by_cases hlt : j < z
        · have HM' : Hid (pad s.data.toList j ++ [0] = pad s.data.toList (j + 1)) := HM
          clear HM
          go_wp2_with (at_builtin; refine wpList_append_buf _ rfl _ _ rfl w.heap.size g cap j _ (hbuf.alloc _) HL.out rfl ⟨wr.heap.size, 0, none⟩ 0 rfl (cell_one_new _ _ _) (by omega) (by simp; omega) ?_; intro g' cap' w1 hbuf' hbel')
          go_roundw
          case rel => exact ⟨j + 1, g', cap', by omega, by omega, rfl, by rw [← HM'.out]; exact hbuf', (hbel.alloc hle _).trans hbel'⟩
          case measure => simp; omega
        · have hjm : j = max s.size z := by omega
          clear HM
          have HB : Hid (M.over (pad s.data.toList j) m t.data.toList = putL s.data.toList m t.data.toList) := by
            show _ = _
            rw [HP.out, hjm]
          have hpl : (pad s.data.toList j).length = j := HL.out.symm
          have hmz : m + t.size ≤ j := by rw [← HZ.out]; omega
          clear hjm hz' hd1 hd2 hd3
          generalize pad s.data.toList j = q at *
          have HQ : Hid (q.length = j) := hpl
          clear hpl HL
          go_wp2
          go_loopw [9] (fun i wr' => ∃ k : Nat, k ≤ t.size ∧ i = .int .i64 k ∧ Buf wr' w.heap.size g cap (M.over q m (t.data.toList.take k)) ∧ Below w.heap.size w wr') (fun i _ => t.size - (intOf i).toNat)
          case atStart => exact ⟨0, Nat.zero_le _, rfl, by rw [List.take_zero, M.over_nil]; exact hbuf, hbel⟩
          case round =>
            obtain ⟨k, hkt, rfl, hbuf2, hbel2⟩ := hrel
            clear hbuf hbel hle
            by_cases hlt2 : k < t.size
            · have hol : (M.over q m (t.data.toList.take k)).length = j := by
                rw [M.over_length _ _ _ (by rw [List.length_take, len_data, HQ.out]; omega), HQ.out]
              have hst := M.over_step q m t.data.toList k (by rw [len_data]; exact hlt2) (by rw [len_data, HQ.out]; exact hmz)
              have hc := hbuf2.cell (m + k) (by omega)
              have hf := (hbuf2.room (m + k) (by have := hbuf2.le; omega)).2
              have R : Buf (wr.setCell ⟨g, m + k, none⟩ (.int .u8 (t[k].toNat : Int))) w.heap.size g cap (M.over q m (t.data.toList.take (k + 1))) := by
                rw [← hst]
                exact hbuf2.set (m + k) (by omega) _
              have B := hbel2.setCell (p := ⟨g, m + k, none⟩) hbuf2.base (.int .u8 (t[k].toNat : Int))
              generalize (M.over q m (t.data.toList.take k))[m + k]'(by omega) = old at hc
              clear hst hol
              go_wp2
              go_roundw
              case rel => exact ⟨k + 1, by omega, by go_num, R, B⟩
              case measure => simp [intOf]; omega
            · rw [List.take_of_length_le (by rw [len_data]; omega)] at hbuf2
              have hcv := hbuf2.convert (n := j) (by rw [M.over_length _ _ _ (by rw [len_data, HQ.out]; exact hmz), HQ.out])
              rw [HB.out] at hcv
              clear hbuf2
              go_wp2
              go_ret2
              exact ⟨rfl, hbel2⟩

end Go.Proofs.Ytnflpmaeekgmjaa
