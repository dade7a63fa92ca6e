/-
  The document's writer: a byte, any item, a new one, what Done tells; and that it goes as the program's does.
-/
import Derived.Test.YtanpplndoemgoaaQ
namespace Go.Proofs.Ytanpplndoemgoaa
open Go.RowKit
set_option linter.unusedVariables false

def rb (m : Nat) (p : Nat × List UInt8) (n : Int) : Nat × List UInt8 :=
  if p.1 = 0 ∧ (n < 0 ∨ 255 < n) then (1, p.2) else rl m p [UInt8.ofNat (n % 256).toNat]

set_option maxRecDepth 100000 in
set_option maxHeartbeats 2000000 in
theorem refByte_any (m e : Nat) (s : List UInt8) (n : Int) (w : World) (hm : m ≤ 65536) (hs : s.length ≤ 65536) (hn : -9223372036854775808 ≤ n ∧ n ≤ 9223372036854775807) :
    Calls Try.prog 33 #[.agg #[.int .i64 (m : Int), .int .i64 (e : Int), .string (ofL s)], .int .i64 n] w fun x w' => x = .returned (.agg #[.int .i64 (m : Int), .int .i64 ((rb m (e, s) n).1 : Nat), .string (ofL (rb m (e, s) n).2)]) ∧ Below w.heap.size w w' := by
  obtain ⟨k, hnk⟩ : ∃ k : Nat, n % 256 = (k : Int) := ⟨(n % 256).toNat, by omega⟩
  have hk : k < 256 := by omega
  have hkn : (n % 256).toNat = k := by omega
  by_cases he : e = 0
  · subst he
    by_cases hbad : n < 0 ∨ 255 < n
    · have HL : Hid (rl m (1, s) [UInt8.ofNat k] = rb m (0, s) n) := by
        show _ = _
        rw [rl_bad m 1 s _ (by decide), rb, if_pos ⟨rfl, hbad⟩]
      have hd : decide (n < 0) = true ∨ decide (n < 0) = false ∧ decide (255 < n) = true := by simp; omega
      clear hbad
      rcases hd with d1 | ⟨d1, d2⟩
      · have hcv := one_convert ((w.alloc (.cells #[.int .i64 (m : Int), .int .i64 1, .string (ofL s)] 28)).alloc (.cells #[.int .i64 0, .int .i64 0, .string { data := #[] }] 28)) k hk
        rw [show ((w.alloc (.cells #[.int .i64 (m : Int), .int .i64 1, .string (ofL s)] 28)).alloc (.cells #[.int .i64 0, .int .i64 0, .string { data := #[] }] 28)).heap.size = w.heap.size + 1 + 1 by simp] at hcv
        have B3 : Below w.heap.size w (((w.alloc (.cells #[.int .i64 (m : Int), .int .i64 1, .string (ofL s)] 28)).alloc (.cells #[.int .i64 0, .int .i64 0, .string { data := #[] }] 28)).alloc (.cells #[.int .u8 (k : Int)] 5)) := (((Below.refl w.heap.size w).alloc (Nat.le_refl _) _).alloc (by simp) _).alloc (by simp; omega) _
        have gC : (((w.alloc (.cells #[.int .i64 (m : Int), .int .i64 1, .string (ofL s)] 28)).alloc (.cells #[.int .i64 0, .int .i64 0, .string { data := #[] }] 28)).alloc (.cells #[.int .u8 (k : Int)] 5)).heap[w.heap.size + 1]? = some (.cells #[.int .i64 0, .int .i64 0, .string { data := #[] }] 28) := by rw [Below.heap_alloc _ _ _ (by simp)]; exact heap_alloc2_new w _ _
        go_enter Try.func33, Try.ntmps33
        go_wp2_with fail
        refine (refLay_any m 1 s [UInt8.ofNat k] _ hm hs (by simp)).mono ?_
        rintro x w1 ⟨rfl, hb1⟩
        rw [HL.out]
        have gC1 := (hb1.block (w.heap.size + 1) (by simp)).trans gC
        obtain ⟨q0, q1, q2, z0, z1, z2⟩ := row3 gC1
        have BF := B3.trans (hb1.mono B3.size)
        clear hcv hb1 gC
        go_wp2
        refine bodyPost_ret (v := .agg #[.int .i64 (m : Int), .int .i64 ((rb m (0, s) n).1 : Nat), .string (ofL (rb m (0, s) n).2)]) ?_ rfl ⟨rfl, ((BF.setCell (p := ⟨w.heap.size + 1, 0, none⟩) (by show _ ≤ w.heap.size + 1; omega) _).setCell (p := ⟨w.heap.size + 1, 1, none⟩) (by show _ ≤ w.heap.size + 1; omega) _).setCell (p := ⟨w.heap.size + 1, 2, none⟩) (by show _ ≤ w.heap.size + 1; omega) _⟩
        obtain ⟨fs, hf⟩ := Try.und28
        exact results_cell_row f33_res _ _ (w.heap.size + 1) 28 _ (0, 0) _ rfl (rowset3 gC1 _ _ _) hf rfl Try.size28
      · have hcv := one_convert ((w.alloc (.cells #[.int .i64 (m : Int), .int .i64 1, .string (ofL s)] 28)).alloc (.cells #[.int .i64 0, .int .i64 0, .string { data := #[] }] 28)) k hk
        rw [show ((w.alloc (.cells #[.int .i64 (m : Int), .int .i64 1, .string (ofL s)] 28)).alloc (.cells #[.int .i64 0, .int .i64 0, .string { data := #[] }] 28)).heap.size = w.heap.size + 1 + 1 by simp] at hcv
        have B3 : Below w.heap.size w (((w.alloc (.cells #[.int .i64 (m : Int), .int .i64 1, .string (ofL s)] 28)).alloc (.cells #[.int .i64 0, .int .i64 0, .string { data := #[] }] 28)).alloc (.cells #[.int .u8 (k : Int)] 5)) := (((Below.refl w.heap.size w).alloc (Nat.le_refl _) _).alloc (by simp) _).alloc (by simp; omega) _
        have gC : (((w.alloc (.cells #[.int .i64 (m : Int), .int .i64 1, .string (ofL s)] 28)).alloc (.cells #[.int .i64 0, .int .i64 0, .string { data := #[] }] 28)).alloc (.cells #[.int .u8 (k : Int)] 5)).heap[w.heap.size + 1]? = some (.cells #[.int .i64 0, .int .i64 0, .string { data := #[] }] 28) := by rw [Below.heap_alloc _ _ _ (by simp)]; exact heap_alloc2_new w _ _
        go_enter Try.func33, Try.ntmps33
        go_wp2_with fail
        refine (refLay_any m 1 s [UInt8.ofNat k] _ hm hs (by simp)).mono ?_
        rintro x w1 ⟨rfl, hb1⟩
        rw [HL.out]
        have gC1 := (hb1.block (w.heap.size + 1) (by simp)).trans gC
        obtain ⟨q0, q1, q2, z0, z1, z2⟩ := row3 gC1
        have BF := B3.trans (hb1.mono B3.size)
        clear hcv hb1 gC
        go_wp2
        refine bodyPost_ret (v := .agg #[.int .i64 (m : Int), .int .i64 ((rb m (0, s) n).1 : Nat), .string (ofL (rb m (0, s) n).2)]) ?_ rfl ⟨rfl, ((BF.setCell (p := ⟨w.heap.size + 1, 0, none⟩) (by show _ ≤ w.heap.size + 1; omega) _).setCell (p := ⟨w.heap.size + 1, 1, none⟩) (by show _ ≤ w.heap.size + 1; omega) _).setCell (p := ⟨w.heap.size + 1, 2, none⟩) (by show _ ≤ w.heap.size + 1; omega) _⟩
        obtain ⟨fs, hf⟩ := Try.und28
        exact results_cell_row f33_res _ _ (w.heap.size + 1) 28 _ (0, 0) _ rfl (rowset3 gC1 _ _ _) hf rfl Try.size28
    · have HL : Hid (rl m (0, s) [UInt8.ofNat k] = rb m (0, s) n) := by
        show _ = _
        rw [rb, if_neg (fun h => hbad h.2), hkn]
      have d1 : decide (n < 0) = false := by simp; omega
      have d2 : decide (255 < n) = false := by simp; omega
      have hnk2 : n = (k : Int) := by omega
      clear hbad hkn hnk
      subst hnk2
      have hcv := one_convert ((w.alloc (.cells #[.int .i64 (m : Int), .int .i64 0, .string (ofL s)] 28)).alloc (.cells #[.int .i64 0, .int .i64 0, .string { data := #[] }] 28)) k hk
      rw [show ((w.alloc (.cells #[.int .i64 (m : Int), .int .i64 0, .string (ofL s)] 28)).alloc (.cells #[.int .i64 0, .int .i64 0, .string { data := #[] }] 28)).heap.size = w.heap.size + 1 + 1 by simp] at hcv
      have B3 : Below w.heap.size w (((w.alloc (.cells #[.int .i64 (m : Int), .int .i64 0, .string (ofL s)] 28)).alloc (.cells #[.int .i64 0, .int .i64 0, .string { data := #[] }] 28)).alloc (.cells #[.int .u8 (k : Int)] 5)) := (((Below.refl w.heap.size w).alloc (Nat.le_refl _) _).alloc (by simp) _).alloc (by simp; omega) _
      have gC : (((w.alloc (.cells #[.int .i64 (m : Int), .int .i64 0, .string (ofL s)] 28)).alloc (.cells #[.int .i64 0, .int .i64 0, .string { data := #[] }] 28)).alloc (.cells #[.int .u8 (k : Int)] 5)).heap[w.heap.size + 1]? = some (.cells #[.int .i64 0, .int .i64 0, .string { data := #[] }] 28) := by rw [Below.heap_alloc _ _ _ (by simp)]; exact heap_alloc2_new w _ _
      go_enter Try.func33, Try.ntmps33
      go_wp2_with fail
      refine (refLay_any m 0 s [UInt8.ofNat k] _ hm hs (by simp)).mono ?_
      rintro x w1 ⟨rfl, hb1⟩
      rw [HL.out]
      have gC1 := (hb1.block (w.heap.size + 1) (by simp)).trans gC
      obtain ⟨q0, q1, q2, z0, z1, z2⟩ := row3 gC1
      have BF := B3.trans (hb1.mono B3.size)
      clear hcv hb1 gC
      go_wp2
      refine bodyPost_ret (v := .agg #[.int .i64 (m : Int), .int .i64 ((rb m (0, s) k).1 : Nat), .string (ofL (rb m (0, s) k).2)]) ?_ rfl ⟨rfl, ((BF.setCell (p := ⟨w.heap.size + 1, 0, none⟩) (by show _ ≤ w.heap.size + 1; omega) _).setCell (p := ⟨w.heap.size + 1, 1, none⟩) (by show _ ≤ w.heap.size + 1; omega) _).setCell (p := ⟨w.heap.size + 1, 2, none⟩) (by show _ ≤ w.heap.size + 1; omega) _⟩
      obtain ⟨fs, hf⟩ := Try.und28
      exact results_cell_row f33_res _ _ (w.heap.size + 1) 28 _ (0, 0) _ rfl (rowset3 gC1 _ _ _) hf rfl Try.size28
  · have HL : Hid (rl m (e, s) [UInt8.ofNat k] = rb m (e, s) n) := by
      show _ = _
      rw [rb, if_neg (fun h => he h.1), hkn]
    have d0 : ((e : Int) == 0) = false := by simpa using he
    have hcv := one_convert ((w.alloc (.cells #[.int .i64 (m : Int), .int .i64 (e : Int), .string (ofL s)] 28)).alloc (.cells #[.int .i64 0, .int .i64 0, .string { data := #[] }] 28)) k hk
    rw [show ((w.alloc (.cells #[.int .i64 (m : Int), .int .i64 (e : Int), .string (ofL s)] 28)).alloc (.cells #[.int .i64 0, .int .i64 0, .string { data := #[] }] 28)).heap.size = w.heap.size + 1 + 1 by simp] at hcv
    have B3 : Below w.heap.size w (((w.alloc (.cells #[.int .i64 (m : Int), .int .i64 (e : Int), .string (ofL s)] 28)).alloc (.cells #[.int .i64 0, .int .i64 0, .string { data := #[] }] 28)).alloc (.cells #[.int .u8 (k : Int)] 5)) := (((Below.refl w.heap.size w).alloc (Nat.le_refl _) _).alloc (by simp) _).alloc (by simp; omega) _
    have gC : (((w.alloc (.cells #[.int .i64 (m : Int), .int .i64 (e : Int), .string (ofL s)] 28)).alloc (.cells #[.int .i64 0, .int .i64 0, .string { data := #[] }] 28)).alloc (.cells #[.int .u8 (k : Int)] 5)).heap[w.heap.size + 1]? = some (.cells #[.int .i64 0, .int .i64 0, .string { data := #[] }] 28) := by rw [Below.heap_alloc _ _ _ (by simp)]; exact heap_alloc2_new w _ _
    go_enter Try.func33, Try.ntmps33
    go_wp2_with fail
    refine (refLay_any m e s [UInt8.ofNat k] _ hm hs (by simp)).mono ?_
    rintro x w1 ⟨rfl, hb1⟩
    rw [HL.out]
    have gC1 := (hb1.block (w.heap.size + 1) (by simp)).trans gC
    obtain ⟨q0, q1, q2, z0, z1, z2⟩ := row3 gC1
    have BF := B3.trans (hb1.mono B3.size)
    clear hcv hb1 gC
    go_wp2
    refine bodyPost_ret (v := .agg #[.int .i64 (m : Int), .int .i64 ((rb m (e, s) n).1 : Nat), .string (ofL (rb m (e, s) n).2)]) ?_ rfl ⟨rfl, ((BF.setCell (p := ⟨w.heap.size + 1, 0, none⟩) (by show _ ≤ w.heap.size + 1; omega) _).setCell (p := ⟨w.heap.size + 1, 1, none⟩) (by show _ ≤ w.heap.size + 1; omega) _).setCell (p := ⟨w.heap.size + 1, 2, none⟩) (by show _ ≤ w.heap.size + 1; omega) _⟩
    obtain ⟨fs, hf⟩ := Try.und28
    exact results_cell_row f33_res _ _ (w.heap.size + 1) 28 _ (0, 0) _ rfl (rowset3 gC1 _ _ _) hf rfl Try.size28

set_option maxRecDepth 100000 in
set_option maxHeartbeats 2000000 in
theorem laid_byte (m e : Nat) (s : List UInt8) (n : Int) (text : List UInt8) (ints : List Int) (texts : List (List UInt8)) (ia ta : Option Addr) (icap tcap : Nat) (w : World) (hm : m ≤ 65536) (hs : s.length ≤ 65536) (hn : -9223372036854775808 ≤ n ∧ n ≤ 9223372036854775807) :
    Calls Try.prog 13 #[.agg #[.int .i64 (m : Int), .int .i64 (e : Int), .string (ofL s)], .agg #[.int .i64 1, .int .i64 n, .string (ofL text), .slice ia ints.length icap, .slice ta texts.length tcap]] w fun x w' => x = .returned (.agg #[.int .i64 (m : Int), .int .i64 ((rb m (e, s) n).1 : Nat), .string (ofL (rb m (e, s) n).2)]) ∧ Below w.heap.size w w' := by
  have B3 : Below w.heap.size w (((w.alloc (.cells #[.int .i64 (m : Int), .int .i64 (e : Int), .string (ofL s)] 28)).alloc (.cells #[.int .i64 1, .int .i64 n, .string (ofL text), .slice ia ints.length icap, .slice ta texts.length tcap] 34)).alloc (.cells #[.int .i64 0, .int .i64 0, .string { data := #[] }] 28)) := (((Below.refl w.heap.size w).alloc (Nat.le_refl _) _).alloc (by simp) _).alloc (by simp; omega) _
  have gC : (((w.alloc (.cells #[.int .i64 (m : Int), .int .i64 (e : Int), .string (ofL s)] 28)).alloc (.cells #[.int .i64 1, .int .i64 n, .string (ofL text), .slice ia ints.length icap, .slice ta texts.length tcap] 34)).alloc (.cells #[.int .i64 0, .int .i64 0, .string { data := #[] }] 28)).heap[w.heap.size + 2]? = some (.cells #[.int .i64 0, .int .i64 0, .string { data := #[] }] 28) := by
    have h := heap_alloc_new ((w.alloc (.cells #[.int .i64 (m : Int), .int .i64 (e : Int), .string (ofL s)] 28)).alloc (.cells #[.int .i64 1, .int .i64 n, .string (ofL text), .slice ia ints.length icap, .slice ta texts.length tcap] 34)) (.cells #[.int .i64 0, .int .i64 0, .string { data := #[] }] 28)
    rw [show ((w.alloc (.cells #[.int .i64 (m : Int), .int .i64 (e : Int), .string (ofL s)] 28)).alloc (.cells #[.int .i64 1, .int .i64 n, .string (ofL text), .slice ia ints.length icap, .slice ta texts.length tcap] 34)).heap.size = w.heap.size + 2 by simp] at h
    exact h
  go_enter Try.func13, Try.ntmps13
  go_wp2_with fail
  refine (refByte_any m e s n _ hm hs hn).mono ?_
  rintro x w1 ⟨rfl, hb1⟩
  have gC1 := (hb1.block (w.heap.size + 2) (by simp)).trans gC
  obtain ⟨q0, q1, q2, z0, z1, z2⟩ := row3 gC1
  have BF := B3.trans (hb1.mono B3.size)
  clear hb1 gC
  go_wp2
  refine bodyPost_ret (v := .agg #[.int .i64 (m : Int), .int .i64 ((rb m (e, s) n).1 : Nat), .string (ofL (rb m (e, s) n).2)]) ?_ rfl ⟨rfl, ((BF.setCell (p := ⟨w.heap.size + 2, 0, none⟩) (by show _ ≤ w.heap.size + 2; omega) _).setCell (p := ⟨w.heap.size + 2, 1, none⟩) (by show _ ≤ w.heap.size + 2; omega) _).setCell (p := ⟨w.heap.size + 2, 2, none⟩) (by show _ ≤ w.heap.size + 2; omega) _⟩
  obtain ⟨fs, hf⟩ := Try.und28
  exact results_cell_row f13_res _ _ (w.heap.size + 2) 28 _ (0, 0) _ rfl (rowset3 gC1 _ _ _) hf rfl Try.size28

/-- What the document's writer makes of an item. -/
def rItem (m : Nat) (p : Nat × List UInt8) (x : M.Item) : Nat × List UInt8 :=
  if x.kind = 1 then rb m p x.n else if x.kind = 2 then rl m p (M.encT x.text) else if x.kind = 3 then rl m p (M.encIs x.ints) else if x.kind = 4 then rl m p (M.encTs x.texts) else rl m p (M.enc x.n)
theorem laid_any (m e : Nat) (s : List UInt8) (kind n : Int) (text : List UInt8) (ints : List Int) (texts : List (List UInt8)) (ia ta : Option Addr) (icap tcap : Nat) (w : World) (hm : m ≤ 65536) (hs : s.length ≤ 65536) (pt : Parts w kind n text ints texts ia ta) :
    Calls Try.prog 13 #[.agg #[.int .i64 (m : Int), .int .i64 (e : Int), .string (ofL s)], .agg #[.int .i64 kind, .int .i64 n, .string (ofL text), .slice ia ints.length icap, .slice ta texts.length tcap]] w fun x w' => x = .returned (.agg #[.int .i64 (m : Int), .int .i64 ((rItem m (e, s) ⟨kind, n, text, ints, texts⟩).1 : Nat), .string (ofL (rItem m (e, s) ⟨kind, n, text, ints, texts⟩).2)]) ∧ Below w.heap.size w w' := by
  by_cases h1 : kind = 1
  · subst h1; exact laid_byte m e s n text ints texts ia ta icap tcap w hm hs pt.n
  · by_cases h2 : kind = 2
    · subst h2; exact laid_text m e s n text ints texts ia ta icap tcap w hm hs 2 pt
    · by_cases h3 : kind = 3
      · subst h3; exact laid_ints m e s n text ints texts ia ta icap tcap w hm hs 3 pt
      · by_cases h4 : kind = 4
        · subst h4; exact laid_texts m e s n text ints texts ia ta icap tcap w hm hs 4 pt
        · have e1 : rItem m (e, s) ⟨kind, n, text, ints, texts⟩ = rl m (e, s) (M.enc n) := by simp [rItem, h1, h2, h3, h4]
          rw [e1]
          exact laid_int m e s kind h1 h2 h3 h4 n text ints texts ia ta icap tcap w hm hs kind pt

/-- The two writers go alike. -/
def Sim (m : Nat) (st p : Nat × List UInt8) : Prop := p.1 = st.1 ∧ (st.1 = 0 → p.2 = st.2) ∧ p.2.length ≤ m
theorem sim_lay (m : Nat) (st p : Nat × List UInt8) (t : List UInt8) (h : Sim m st p) : Sim m (M.lay m st t) (rl m p t) := by
  obtain ⟨e, l⟩ := st
  obtain ⟨e', s⟩ := p
  obtain ⟨h1, h2, h3⟩ := h
  simp only at h1 h2 h3
  subst h1
  by_cases he : e' = 0
  · subst he
    have := h2 rfl
    subst this
    by_cases ho : m < s.length + t.length
    · rw [M.lay_over m s t ho, rl_over m s t ho]
      exact ⟨rfl, fun h => by simp at h, h3⟩
    · rw [M.lay_fits m s t ho, rl_fits m s t ho]
      exact ⟨rfl, fun _ => rfl, by simp; omega⟩
  · rw [M.lay_bad m (e', l) t he, rl_bad m e' s t he]
    exact ⟨rfl, h2, h3⟩
theorem sim_byte (m : Nat) (st p : Nat × List UInt8) (n : Int) (h : Sim m st p) : Sim m (M.byteW m st n) (rb m p n) := by
  by_cases he : st.1 = 0
  · by_cases hb : n < 0 ∨ 255 < n
    · rw [M.byteW, if_neg (by simp [he]), if_pos hb, rb, if_pos ⟨h.1.trans he, hb⟩]
      exact ⟨rfl, fun h => by simp at h, h.2.2⟩
    · rw [M.byteW, if_neg (by simp [he]), if_neg hb, rb, if_neg (fun h => hb h.2), show (n % 256).toNat = n.toNat by omega]
      exact sim_lay m st p _ h
  · rw [M.byteW, if_pos he, rb, if_neg (fun h' => he (h.1.symm.trans h'.1))]
    have := sim_lay m st p [UInt8.ofNat (n % 256).toNat] h
    rw [M.lay_bad m st _ he] at this
    exact this
theorem sim_item (m : Nat) (st p : Nat × List UInt8) (x : M.Item) (h : Sim m st p) : Sim m (M.layItem m st x) (rItem m p x) := by
  unfold M.layItem rItem
  repeat' split
  all_goals first | exact sim_byte m st p _ h | exact sim_lay m st p _ h

set_option maxHeartbeats 400000 in
theorem refNew_any (n : Int) (w : World) : Calls Try.prog 11 #[.int .i64 n] w fun x w' => x = .returned (.agg #[.int .i64 (clip n : Nat), .int .i64 0, .string (ofL [])]) ∧ Below w.heap.size w w' := by
  go_enter Try.func11, Try.ntmps11
  go_wp2
  refine bodyPost_ret (v := .agg #[.int .i64 (clip n : Nat), .int .i64 0, .string (ofL [])]) ?_ rfl ⟨rfl, (Below.refl w.heap.size w).alloc (Nat.le_refl _) _⟩
  obtain ⟨fs, hf⟩ := Try.und28
  rw [clip_eq]
  exact results_cell_row f11_res _ _ w.heap.size 28 _ (0, 0) _ rfl (heap_alloc_new w _) hf rfl Try.size28
/-- What the document's Done tells. -/
def rdn (p : Nat × List UInt8) : List UInt8 := if p.1 = 0 then p.2 else []
set_option maxHeartbeats 400000 in
theorem refDone_any (m e : Nat) (s : List UInt8) (w : World) : Calls Try.prog 15 #[.agg #[.int .i64 (m : Int), .int .i64 (e : Int), .string (ofL s)]] w fun x w' => x = .returned (.tuple #[.string (ofL (rdn (e, s))), .int .i64 (e : Int)]) ∧ Below w.heap.size w w' := by
  by_cases he : e = 0
  · subst he
    go_enter Try.func15, Try.ntmps15
    go_wp2
    go_ret2
    exact ⟨rfl, (Below.refl w.heap.size w).alloc (Nat.le_refl _) _⟩
  · have hd : ((e : Int) != 0) = true := by simpa using he
    have HR : Hid (rdn (e, s) = []) := by show _ = _; simp [rdn, he]
    go_enter Try.func15, Try.ntmps15
    go_wp2_with fail
    go_region
    all_goals
      go_wp2
      go_ret2
      rw [HR.out]
      exact ⟨rfl, ((Below.refl w.heap.size w).alloc (Nat.le_refl _) _).drew⟩

end Go.Proofs.Ytanpplndoemgoaa
