/-
  A deed of a file and of the document's.
-/
import Derived.Test.YtajgjkkggppbiaaZ
namespace Go.Proofs.Ytajgjkkggppbiaa
open Go.RowKit
set_option linter.unusedVariables false
open M (E RX)

/-- An int as Go has it. -/
def I64 (x : Int) : Prop := -9223372036854775808 ≤ x ∧ x ≤ 9223372036854775807
/-- A deed. -/
structure Dd where
  k : Int
  e : E
def Dd.ok (d : Dd) : Prop := I64 d.k ∧ I64 d.e.a ∧ I64 d.e.n ∧ I64 d.e.d ∧ I64 d.e.f
def DoOut (W w : World) (b : Nat) (v : Value) (P : List E) (a : Option Addr) (L : List (Int × Int)) (x : Ending) (w' : World) : Prop :=
  ∃ v' P' a' cap' L' bq, x = .returned (.tuple #[.agg #[.slice a' (L' : List (Int × Int)).length cap'], .bool bq]) ∧ Two W w' b v' P' a' cap' L' ∧ (RX L P → RX L' P' ∧ bq = true) ∧ Ch w b v w' v' ∧ ∀ k, blk a' k → w.heap.size ≤ k ∨ blk a k
theorem Ch.set {w w' : World} {b k : Nat} {v v' : Value} (h : Ch w b v w' v') (hk : w.heap.size ≤ k) (u : Value) : Ch w b v (w'.setCell ⟨k, 0, none⟩ u) v' :=
  ⟨h.os, h.tape, h.output, by have := h.size; simpa using this, fun j hj hb hv => (heap_setCell_other w' ⟨k, 0, none⟩ j _ (by show j ≠ k; omega)).trans (h.block j hj hb hv), h.n⟩
theorem f9_res : Try.f9.results = #[.cell 6 28, .tmp 7] := rfl
theorem row5 {w : World} {k : Nat} {v0 v1 v2 v3 v4 : Value} {t : TypeId} (h : w.heap[k]? = some (.cells #[v0, v1, v2, v3, v4] t (0, 0))) :
    w.cell? ⟨k, 0, none⟩ = some v0 ∧ w.cell? ⟨k, 1, none⟩ = some v1 ∧ w.cell? ⟨k, 2, none⟩ = some v2 ∧ w.cell? ⟨k, 3, none⟩ = some v3 ∧ w.cell? ⟨k, 4, none⟩ = some v4 :=
  ⟨by rw [cell_of_row w k 0 _ _ _ h]; rfl, by rw [cell_of_row w k 1 _ _ _ h]; rfl, by rw [cell_of_row w k 2 _ _ _ h]; rfl, by rw [cell_of_row w k 3 _ _ _ h]; rfl, by rw [cell_of_row w k 4 _ _ _ h]; rfl⟩
theorem alloc4 (w : World) (A B C D : Obj) : ((((w.alloc A).alloc B).alloc C).alloc D).heap[w.heap.size]? = some A ∧ ((((w.alloc A).alloc B).alloc C).alloc D).heap[w.heap.size + 1]? = some B ∧ ((((w.alloc A).alloc B).alloc C).alloc D).heap[w.heap.size + 2]? = some C ∧ ((((w.alloc A).alloc B).alloc C).alloc D).heap[w.heap.size + 3]? = some D := by
  have h := heap_alloc_last (((w.alloc A).alloc B).alloc C) D
  rw [show (((w.alloc A).alloc B).alloc C).heap.size = w.heap.size + 3 by simp] at h
  obtain ⟨h0, h1, h2⟩ := alloc3 w A B C
  exact ⟨(Below.heap_alloc _ D _ (by simp <;> omega)).trans h0, (Below.heap_alloc _ D _ (by simp <;> omega)).trans h1, (Below.heap_alloc _ D _ (by simp)).trans h2, h⟩
/-- What the deed's own boxes hold: they stay, whatever is done to the file. -/
structure Bxs (W0 w : World) (a : Option Addr) (n cap : Nat) (e : E) : Prop where
  y : w.heap[W0.heap.size]? = some (.cells #[.slice a n cap] 28 (0, 0))
  r : w.heap[W0.heap.size + 2]? = some (.cells #[.slice none 0 0] 28 (0, 0))
  e : w.heap[W0.heap.size + 3]? = some (.cells #[.int .i64 e.a, .int .i64 e.n, .int .i64 e.d, .int .i64 e.f] 32 (0, 0))
  sz : W0.heap.size + 4 ≤ w.heap.size
theorem Bxs.keep {W0 w w' : World} {a : Option Addr} {n cap : Nat} {e : E} (h : Bxs W0 w a n cap e) (hb : Below w.heap.size w w') : Bxs W0 w' a n cap e :=
  have hs := h.sz
  ⟨(hb.block _ (by omega)).trans h.y, (hb.block _ (by omega)).trans h.r, (hb.block _ (by omega)).trans h.e, Nat.le_trans hs hb.size⟩
theorem Bxs.ch {W0 w w' : World} {a : Option Addr} {n cap b : Nat} {e : E} {v v' : Value} (h : Bxs W0 w a n cap e) (hc : Ch w b v w' v') (hb : b < W0.heap.size) (hv : ∀ k, v.ownBlock = some k → k < W0.heap.size) : Bxs W0 w' a n cap e := by
  have hs := h.sz
  have key : ∀ j, w'.heap[W0.heap.size + j]? = w.heap[W0.heap.size + j]? ∨ 4 ≤ j := by
    intro j
    rcases Nat.lt_or_ge j 4 with hj | hj
    · exact .inl (hc.block _ (by omega) (by omega) (fun e => by have := hv _ e; omega))
    · exact .inr hj
  refine ⟨?_, ?_, ?_, Nat.le_trans hs hc.size⟩
  · rcases key 0 with h' | h'
    · exact h'.trans h.y
    · omega
  · rcases key 2 with h' | h'
    · exact h'.trans h.r
    · omega
  · rcases key 3 with h' | h'
    · exact h'.trans h.e
    · omega
theorem ownB_low {w : World} {base n c : Nat} {a : Option Addr} {L : List (Int × Int)} (h : OwnB w base (.slice a n c) L) : ∀ k, blk a k → base ≤ k := by
  intro k hk
  obtain ⟨a2, cap2, hv, _, hk2⟩ := ownB_at h
  simp only [Value.slice.injEq] at hv
  obtain ⟨rfl, _, _⟩ := hv
  exact (hk2 k hk).1
theorem xres_low {w w' : World} {n c cap : Nat} {a a2 : Option Addr} {L L' : List (Int × Int)} (h : XRes w w' a cap (.slice a2 n c) L L') : ∀ k, blk a2 k → w.heap.size ≤ k ∨ blk a k := by
  intro k hk
  rcases h with ⟨hv, _⟩ | h
  · simp only [Value.slice.injEq] at hv
    obtain ⟨rfl, _, _⟩ := hv
    exact .inr hk
  · exact .inl (ownB_low h k hk)
/-- A cell of the deed's own is set: the two files do not see it. -/
theorem Two.set {W wr : World} {b k : Nat} {v : Value} {P : List E} {a : Option Addr} {cap : Nat} {L : List (Int × Int)} (h : Two W wr b v P a cap L) (u : Value) (hk : W.heap.size ≤ k) (hb : k ≠ b) (hv : v.ownBlock ≠ some k) (ha : ¬ blk a k) : Two W (wr.setCell ⟨k, 0, none⟩ u) b v P a cap L := by
  have hgr : wr.grownBy (wr.setCell ⟨k, 0, none⟩ u) (some k) := ⟨rfl, rfl, rfl, by simp, fun j hj hne => heap_setCell_other wr ⟨k, 0, none⟩ j _ (fun e => hne (by rw [e]))⟩
  refine ⟨⟨(hgr.block b h.x.lt (by simp; omega)).trans h.x.row, World.ownsRow.kept h.x.own hgr (.inr hv), h.x.ne, h.x.g⟩, ⟨h.y.at'.keepBut (fun j hj hja => hgr.block j hj (by intro e; simp at e; subst e; exact ha hja)), h.y.le, h.y.mx, h.y.nil⟩, h.ll, fun j hj => ⟨(h.ap j hj).1, (h.ap j hj).2.1, by simpa using (h.ap j hj).2.2⟩, h.bel.setCell hk _, h.low⟩

set_option maxRecDepth 100000 in
set_option maxHeartbeats 4000000 in
theorem do_1 (W w : World) (b : Nat) (v : Value) (P : List E) (a : Option Addr) (cap : Nat) (L : List (Int × Int)) (e : E) (T : Two W w b v P a cap L) (fb : ∀ j (hj : j < L.length), 0 ≤ L[j].1 → 0 ≤ L[j].2 ∧ L[j].2 ≤ 1099511627776) (he : I64 e.a ∧ I64 e.n ∧ I64 e.d ∧ I64 e.f) :
    Calls Try.prog 9 #[.pointer (some ⟨b, 0, none⟩), .agg #[.slice a L.length cap], .agg #[.int .i64 1, .int .i64 e.a, .int .i64 e.n, .int .i64 e.d, .int .i64 e.f]] w (DoOut W w b v P a L) := by
  obtain ⟨W1, HW1⟩ : ∃ W1, Hid ((((w.alloc (.cells #[.slice a L.length cap] 28)).alloc (.cells #[.int .i64 1, .int .i64 e.a, .int .i64 e.n, .int .i64 e.d, .int .i64 e.f] 34)).alloc (.cells #[.slice none 0 0] 28)).alloc (.cells #[.int .i64 e.a, .int .i64 e.n, .int .i64 e.d, .int .i64 e.f] 32) = W1) := ⟨_, rfl⟩
  have HB1 : Hid (Below w.heap.size w W1) := by rw [← HW1.out]; exact (((bel1 w _).alloc (by simp) _).alloc (by simp; omega) _).alloc (by simp; omega) _
  have hs1 : W1.heap.size = w.heap.size + 4 := by rw [← HW1.out]; simp
  have hal := alloc4 w (.cells #[.slice a L.length cap] 28) (.cells #[.int .i64 1, .int .i64 e.a, .int .i64 e.n, .int .i64 e.d, .int .i64 e.f] 34) (.cells #[.slice none 0 0] 28) (.cells #[.int .i64 e.a, .int .i64 e.n, .int .i64 e.d, .int .i64 e.f] 32)
  rw [HW1.out] at hal
  obtain ⟨r0, r1, r2, r3⟩ := hal
  have hbx : Bxs w W1 a L.length cap e := ⟨r0, r2, r3, by omega⟩
  have T1 := T.step HB1.out
  obtain ⟨q0, q1, q2, q3, q4⟩ := row5 r1
  obtain ⟨y0, y1⟩ := row1 r0
  obtain ⟨e0, e1, e2, e3⟩ := row4 r3
  have hbw := T.x.lt
  have HVW : Hid (∀ k, v.ownBlock = some k → k < w.heap.size) := fun k hk => (T.x.own.lt k hk).2
  have HAW : Hid (∀ k, blk a k → k < w.heap.size) := fun k hk => (T.ap k hk).2.2
  have hWw := T.bel.size
  obtain ⟨ha, hn, hd, hf⟩ := he
  unfold I64 at ha hn hd hf
  rw [← HW1.out] at q0 q1 q2 q3 q4 y0 e0 e1 e2 e3
  have hcut := cut_any W.heap.size b v P e.a W1 T1.x (by have := T1.bel.size; omega)
  have HT1 := Hid_of T1
  have HBX := Hid_of hbx
  clear T T1 hbx r0 r1 r2 r3 y1 fb
  generalize hea : e.a = pa at *
  generalize hen : e.n = pn at *
  generalize hed : e.d = pd at *
  generalize hef : e.f = pf at *
  go_enter Try.func9, Try.ntmps9
  go_wp2_with fail
  rw [HW1.out]
  refine hcut.mono ?_
  rintro x w2 ⟨rfl, v2, P2, X2, R2, C2⟩
  have T2 := HT1.out.obj X2 C2
  have hb2 := HBX.out.ch C2 hbw HVW.out
  obtain ⟨y0', _⟩ := row1 hb2.y
  obtain ⟨e0', _, _, _⟩ := row4 hb2.e
  rw [hea] at e0'
  have hrc := refCut_any L a cap pa w2 T2.ll T2.y
  have HT2 := Hid_of T2
  have HB2 := Hid_of hb2
  have HR2 := Hid_of R2
  have HC2 : Hid (Ch w b v w2 v2) := (Ch.ofBelow HB1.out).trans C2
  have HV2 : Hid (v2.ownBlock ≠ some (w.heap.size + 2)) := fun e' => by
    rcases C2.n _ e' with h' | h'
    · have := HVW.out _ h'; omega
    · omega
  clear T2 hb2 R2 X2 C2 hcut HW1 q0 q1 q2 q3 q4 y0 e0 e1 e2 e3
  go_wp2_with fail
  refine hrc.mono ?_
  rintro x w3 hx
  obtain ⟨v3, rfl, o3, B3⟩ := hx
  obtain ⟨a3, cap3, rfl, T3⟩ := HT2.out.ref B3 o3 (by simp; have := HT2.out.ll; omega)
  have hb3 := HB2.out.keep B3
  obtain ⟨z0, z1⟩ := row1 hb3.r
  have HRR := Hid_of (heap_setCell_same w3 (w.heap.size + 2) 0 _ _ (.slice a3 (L.take (cutN L pa)).length cap3) hb3.r)
  have HK : Hid (DoOut W w b v P a L (.returned (.tuple #[.agg #[.slice a3 (L.take (cutN L pa)).length cap3], .bool true])) (w3.setCell ⟨w.heap.size + 2, 0, none⟩ (.slice a3 (L.take (cutN L pa)).length cap3))) := by
    refine ⟨v2, P2, a3, cap3, _, true, rfl, T3.set _ (by omega) (by omega) ?_ ?_, fun hrx => ⟨rx_cut hrx HT1.out.x.g HR2.out, rfl⟩, (HC2.out.trans (Ch.ofBelow B3)).set (by omega) _, fun k hk => .inl (by have := ownB_low o3 k hk; have := HB2.out.sz; omega)⟩
    · exact HV2.out
    · intro hk
      have := ownB_low o3 _ hk
      have := HB2.out.sz
      omega
  clear HT2 HB2 HR2 T3 hb3 o3 B3 hrc
  generalize (L.take (cutN L pa)).length = nn at *
  go_wp2
  refine bodyPost_ret (v := .tuple #[.agg #[.slice a3 nn cap3], .bool true]) ?_ rfl HK.out
  exact res_cell_tmp f9_res _ _ (w.heap.size + 2) _ rfl HRR.out

set_option maxRecDepth 100000 in
set_option maxHeartbeats 4000000 in
theorem do_2 (W w : World) (b : Nat) (v : Value) (P : List E) (a : Option Addr) (cap : Nat) (L : List (Int × Int)) (e : E) (T : Two W w b v P a cap L) (fb : ∀ j (hj : j < L.length), 0 ≤ L[j].1 → 0 ≤ L[j].2 ∧ L[j].2 ≤ 1099511627776) (he : I64 e.a ∧ I64 e.n ∧ I64 e.d ∧ I64 e.f) :
    Calls Try.prog 9 #[.pointer (some ⟨b, 0, none⟩), .agg #[.slice a L.length cap], .agg #[.int .i64 2, .int .i64 e.a, .int .i64 e.n, .int .i64 e.d, .int .i64 e.f]] w (DoOut W w b v P a L) := by
  obtain ⟨W1, HW1⟩ : ∃ W1, Hid ((((w.alloc (.cells #[.slice a L.length cap] 28)).alloc (.cells #[.int .i64 2, .int .i64 e.a, .int .i64 e.n, .int .i64 e.d, .int .i64 e.f] 34)).alloc (.cells #[.slice none 0 0] 28)).alloc (.cells #[.int .i64 e.a, .int .i64 e.n, .int .i64 e.d, .int .i64 e.f] 32) = W1) := ⟨_, rfl⟩
  have HB1 : Hid (Below w.heap.size w W1) := by rw [← HW1.out]; exact (((bel1 w _).alloc (by simp) _).alloc (by simp; omega) _).alloc (by simp; omega) _
  have hs1 : W1.heap.size = w.heap.size + 4 := by rw [← HW1.out]; simp
  have hal := alloc4 w (.cells #[.slice a L.length cap] 28) (.cells #[.int .i64 2, .int .i64 e.a, .int .i64 e.n, .int .i64 e.d, .int .i64 e.f] 34) (.cells #[.slice none 0 0] 28) (.cells #[.int .i64 e.a, .int .i64 e.n, .int .i64 e.d, .int .i64 e.f] 32)
  rw [HW1.out] at hal
  obtain ⟨r0, r1, r2, r3⟩ := hal
  have hbx : Bxs w W1 a L.length cap e := ⟨r0, r2, r3, by omega⟩
  have T1 := T.step HB1.out
  obtain ⟨q0, q1, q2, q3, q4⟩ := row5 r1
  obtain ⟨y0, y1⟩ := row1 r0
  obtain ⟨e0, e1, e2, e3⟩ := row4 r3
  have hbw := T.x.lt
  have HVW : Hid (∀ k, v.ownBlock = some k → k < w.heap.size) := fun k hk => (T.x.own.lt k hk).2
  have HAW : Hid (∀ k, blk a k → k < w.heap.size) := fun k hk => (T.ap k hk).2.2
  have hWw := T.bel.size
  obtain ⟨ha, hn, hd, hf⟩ := he
  unfold I64 at ha hn hd hf
  rw [← HW1.out] at q0 q1 q2 q3 q4 y0 e0 e1 e2 e3
  have hcut := hole_any W.heap.size b v P e.a e.n W1 T1.x (by have := T1.bel.size; omega) ha.1 hn.2
  have HT1 := Hid_of T1
  have HBX := Hid_of hbx
  clear T T1 hbx r0 r1 r2 r3 y1 fb
  generalize hea : e.a = pa at *
  generalize hen : e.n = pn at *
  generalize hed : e.d = pd at *
  generalize hef : e.f = pf at *
  go_enter Try.func9, Try.ntmps9
  go_wp2_with fail
  rw [HW1.out]
  refine hcut.mono ?_
  rintro x w2 ⟨rfl, v2, P2, X2, R2, C2⟩
  have T2 := HT1.out.obj X2 C2
  have hb2 := HBX.out.ch C2 hbw HVW.out
  obtain ⟨y0', _⟩ := row1 hb2.y
  obtain ⟨e0', e1', _, _⟩ := row4 hb2.e
  rw [hea] at e0'
  rw [hen] at e1'
  have hrc := refHole_any L a cap pa pn w2 T2.ll T2.y hn.2
  have HT2 := Hid_of T2
  have HB2 := Hid_of hb2
  have HR2 := Hid_of R2
  have HC2 : Hid (Ch w b v w2 v2) := (Ch.ofBelow HB1.out).trans C2
  have HV2 : Hid (v2.ownBlock ≠ some (w.heap.size + 2)) := fun e' => by
    rcases C2.n _ e' with h' | h'
    · have := HVW.out _ h'; omega
    · omega
  clear T2 hb2 R2 X2 C2 hcut HW1 q0 q1 q2 q3 q4 y0 e0 e1 e2 e3
  go_wp2_with fail
  refine hrc.mono ?_
  rintro x w3 hx
  obtain ⟨L3, ⟨v3, rfl, o3, B3⟩, hl3, hg3⟩ := hx
  obtain ⟨a3, cap3, rfl, T3⟩ := HT2.out.ref B3 o3 (by have := HT2.out.ll; omega)
  have hb3 := HB2.out.keep B3
  obtain ⟨z0, z1⟩ := row1 hb3.r
  have HRR := Hid_of (heap_setCell_same w3 (w.heap.size + 2) 0 _ _ (.slice a3 L3.length cap3) hb3.r)
  have HK : Hid (DoOut W w b v P a L (.returned (.tuple #[.agg #[.slice a3 L3.length cap3], .bool true])) (w3.setCell ⟨w.heap.size + 2, 0, none⟩ (.slice a3 L3.length cap3))) := by
    refine ⟨v2, P2, a3, cap3, _, true, rfl, T3.set _ (by omega) (by omega) ?_ ?_, fun hrx => ⟨rx_hole hrx HT1.out.x.g hl3 hg3 HR2.out, rfl⟩, (HC2.out.trans (Ch.ofBelow B3)).set (by omega) _, fun k hk => .inl (by have := ownB_low o3 k hk; have := HB2.out.sz; omega)⟩
    · exact HV2.out
    · intro hk
      have := ownB_low o3 _ hk
      have := HB2.out.sz
      omega
  clear HT2 HB2 HR2 T3 hb3 o3 B3 hrc
  clear hg3 hl3
  generalize L3.length = nn at *
  go_wp2
  refine bodyPost_ret (v := .tuple #[.agg #[.slice a3 nn cap3], .bool true]) ?_ rfl HK.out
  exact res_cell_tmp f9_res _ _ (w.heap.size + 2) _ rfl HRR.out

set_option maxRecDepth 100000 in
set_option maxHeartbeats 4000000 in
theorem do_none (W w : World) (b : Nat) (v : Value) (P : List E) (a : Option Addr) (cap : Nat) (L : List (Int × Int)) (kd : Int) (e : E) (T : Two W w b v P a cap L) (k0 : ¬ kd = 0) (k1 : ¬ kd = 1) (k2 : ¬ kd = 2) (k3 : ¬ kd = 3) :
    Calls Try.prog 9 #[.pointer (some ⟨b, 0, none⟩), .agg #[.slice a L.length cap], .agg #[.int .i64 kd, .int .i64 e.a, .int .i64 e.n, .int .i64 e.d, .int .i64 e.f]] w (DoOut W w b v P a L) := by
  have c0 : (kd == 0) = false := by simpa using k0
  have c1 : (kd == 1) = false := by simpa using k1
  have c2 : (kd == 2) = false := by simpa using k2
  have c3 : (kd == 3) = false := by simpa using k3
  have hb : Below w.heap.size w ((((w.alloc (.cells #[.slice a L.length cap] 28)).alloc (.cells #[.int .i64 kd, .int .i64 e.a, .int .i64 e.n, .int .i64 e.d, .int .i64 e.f] 34)).alloc (.cells #[.slice a L.length cap] 28)).alloc (.cells #[.int .i64 e.a, .int .i64 e.n, .int .i64 e.d, .int .i64 e.f] 32)) := (((bel1 w _).alloc (by simp) _).alloc (by simp; omega) _).alloc (by simp; omega) _
  have HK : Hid (DoOut W w b v P a L (.returned (.tuple #[.agg #[.slice a L.length cap], .bool true])) ((((w.alloc (.cells #[.slice a L.length cap] 28)).alloc (.cells #[.int .i64 kd, .int .i64 e.a, .int .i64 e.n, .int .i64 e.d, .int .i64 e.f] 34)).alloc (.cells #[.slice a L.length cap] 28)).alloc (.cells #[.int .i64 e.a, .int .i64 e.n, .int .i64 e.d, .int .i64 e.f] 32))) := ⟨v, P, a, cap, L, true, rfl, T.step hb, fun h => ⟨h, rfl⟩, Ch.ofBelow hb, fun k hk => .inr hk⟩
  have HR := Hid_of (alloc4 w (.cells #[.slice a L.length cap] 28) (.cells #[.int .i64 kd, .int .i64 e.a, .int .i64 e.n, .int .i64 e.d, .int .i64 e.f] 34) (.cells #[.slice a L.length cap] 28) (.cells #[.int .i64 e.a, .int .i64 e.n, .int .i64 e.d, .int .i64 e.f] 32)).2.2.1
  clear T k0 k1 k2 k3 hb
  generalize e.a = pa at *
  generalize e.n = pn at *
  generalize e.d = pd at *
  generalize e.f = pf at *
  go_enter Try.func9, Try.ntmps9
  go_wp2
  refine bodyPost_ret (v := .tuple #[.agg #[.slice a L.length cap], .bool true]) ?_ rfl HK.out
  exact res_cell_tmp f9_res _ _ (w.heap.size + 2) _ rfl HR.out
end Go.Proofs.Ytajgjkkggppbiaa
