/-
  The document's net: what a call that answers a net leaves; a message is sent.
-/
import Derived.Test.YtjbodjjeenjbeaaRB
namespace Go.Proofs.Ytjbodjjeenjbeaa
open Go.RowKit
set_option linter.unusedVariables false
set_option linter.unusedSimpArgs false
open Nt (Pk)

theorem res3 {fn : Func} {p u : Tmp} (h : fn.results = #[.cell p 30, .tmp u]) (tmps : Array Value) (w : World) (g : Nat) (v0 v1 v2 : Value) (hp : tmps.getD p undef = .pointer (some ⟨g, 0, none⟩)) (hg : w.heap[g]? = some (.cells #[v0, v1, v2] 30 (0, 0))) :
    (results fn tmps).run Try.prog w = .ok (.tuple #[.agg #[v0, v1, v2], tmps.getD u undef]) w := by
  have hp' : tmps[p]?.getD undef = .pointer (some ⟨g, 0, none⟩) := by simpa using hp
  rw [results_cell_tmp h]
  simp [asAddr, hp', run_loadVar_row w g 30 30 #[v0, v1, v2] (0, 0) _ hg Try.underlying30 rfl Try.size30]
/-- A net is laid into its result's box. -/
theorem ref_lay {w w2 : World} {r : Nat} {x v1 v2 z0 z1 z2 : Value} (hB : Below w.heap.size w w2) (hr : w2.heap[r]? = some (.cells #[z0, z1, z2] 30 (0, 0))) (hrw : w.heap.size ≤ r) :
    ((w2.cell? ⟨r, 0, none⟩ = some z0 ∧ w2.cell? ⟨r, 1, none⟩ = some z1 ∧ w2.cell? ⟨r, 2, none⟩ = some z2) ∧ (w2.frozen? ⟨r, 0, none⟩ = false ∧ w2.frozen? ⟨r, 1, none⟩ = false ∧ w2.frozen? ⟨r, 2, none⟩ = false)) ∧ (put3 w2 r x v1 v2).heap[r]? = some (.cells #[x, v1, v2] 30 (0, 0)) ∧ Below w.heap.size w (put3 w2 r x v1 v2) ∧ ∀ k, k ≠ r → (put3 w2 r x v1 v2).heap[k]? = w2.heap[k]? := by
  obtain ⟨h1, h2⟩ := rw3 hr
  exact ⟨⟨h1, h2 0, h2 1, h2 2⟩, put3_row hr _ _ _, put3_bel hB hrw _ _ _, fun k hk => put3_oth hk _ _ _⟩
/-- .. behind a new row. -/
theorem ref_fin {w w2 : World} {p r : Nat} {x v1 v2 v' z0 z1 z2 : Value} (hB : Below w.heap.size w w2) (hp : w2.heap[p]? = some (.cells #[x, v1, v2] 30 (0, 0))) (hr : w2.heap[r]? = some (.cells #[z0, z1, z2] 30 (0, 0))) (hpr : p ≠ r) (hpw : w.heap.size ≤ p) (hrw : w.heap.size ≤ r) (W3 : World) (hW3 : w2.setCell ⟨p, 1, none⟩ v' = W3) :
    (w2.cell? ⟨p, 1, none⟩ = some v1 ∧ w2.frozen? ⟨p, 1, none⟩ = false) ∧ (W3.cell? ⟨p, 0, none⟩ = some x ∧ W3.cell? ⟨p, 1, none⟩ = some v' ∧ W3.cell? ⟨p, 2, none⟩ = some v2) ∧ ((W3.cell? ⟨r, 0, none⟩ = some z0 ∧ W3.cell? ⟨r, 1, none⟩ = some z1 ∧ W3.cell? ⟨r, 2, none⟩ = some z2) ∧ (W3.frozen? ⟨r, 0, none⟩ = false ∧ W3.frozen? ⟨r, 1, none⟩ = false ∧ W3.frozen? ⟨r, 2, none⟩ = false)) ∧ (put3 W3 r x v' v2).heap[r]? = some (.cells #[x, v', v2] 30 (0, 0)) ∧ Below w.heap.size w (put3 W3 r x v' v2) ∧ ∀ k, k ≠ p → k ≠ r → (put3 W3 r x v' v2).heap[k]? = w2.heap[k]? := by
  obtain ⟨⟨_, k1, _⟩, k2⟩ := rw3 hp
  have hp3 : W3.heap[p]? = some (.cells #[x, v', v2] 30 (0, 0)) := by rw [← hW3]; exact heap_setCell_same w2 p 1 _ _ _ hp
  have hr3 : W3.heap[r]? = some (.cells #[z0, z1, z2] 30 (0, 0)) := by rw [← hW3]; exact (heap_setCell_other w2 ⟨p, 1, none⟩ r _ (fun e => hpr e.symm)).trans hr
  have hB3 : Below w.heap.size w W3 := by rw [← hW3]; exact hB.setCell (p := ⟨p, 1, none⟩) hpw _
  obtain ⟨j1, j2, j3, j4⟩ := ref_lay (x := x) (v1 := v') (v2 := v2) hB3 hr3 hrw
  refine ⟨⟨k1, k2 1⟩, (rw3 hp3).1, j1, j2, j3, fun k hk1 hk2 => (j4 k hk2).trans ?_⟩
  rw [← hW3]
  exact heap_setCell_other w2 ⟨p, 1, none⟩ k _ hk1
theorem f11_res : Try.f11.results = #[.cell 4 30, .tmp 5] := rfl
theorem XRes.same {w w' : World} {a : Option Addr} {cap : Nat} {R : List Pk} : XRes w w' a cap R (.slice a R.length cap) R := .inl ⟨rfl, rfl⟩
theorem KRes.same {w w' : World} {a : Option Addr} {cap : Nat} {K : List (Int × Int)} : KRes w w' a cap K (.slice a K.length cap) K := .inl ⟨rfl, rfl⟩
set_option maxRecDepth 100000 in
set_option maxHeartbeats 1000000 in
theorem rsend_ck {w : World} {N : Int} {a : Option Addr} {cap : Nat} {R : List Pk} {ka : Option Addr} {kc : Nat} {K : List (Int × Int)} (h : RN w a cap R ka kc K) (k f t i : Int) (bd : List UInt8) (hb : bd.length ≤ maxLen) (hck : Msg.chk k f t i bd.length ≠ 0) :
    Calls Try.prog 11 #[.agg #[.int .i64 N, .slice a R.length cap, .slice ka K.length kc], .agg #[.int .i64 k, .int .i64 f, .int .i64 t, .int .i64 i, .string (ofL bd)]] w (ROut w N a cap R ka kc K (Nt.add false R ⟨f, t, ofL (Msg.ecode k f t i bd)⟩) K false) := by
  obtain ⟨W1, HW1⟩ : ∃ W1, Hid (((w.alloc (.cells #[.int .i64 N, .slice a R.length cap, .slice ka K.length kc] 30)).alloc (.cells #[.int .i64 k, .int .i64 f, .int .i64 t, .int .i64 i, .string (ofL bd)] 33)).alloc (.cells #[.int .i64 0, .slice none 0 0, .slice none 0 0] 30) = W1) := ⟨_, rfl⟩
  have hB1 : Below w.heap.size w W1 := by rw [← HW1.out]; exact (bel2 w _ _).alloc (by simp; omega) _
  obtain ⟨hr1, hr2, hr3⟩ : W1.heap[w.heap.size]? = some (.cells #[.int .i64 N, .slice a R.length cap, .slice ka K.length kc] 30 (0, 0)) ∧ W1.heap[w.heap.size + 1]? = some (.cells #[.int .i64 k, .int .i64 f, .int .i64 t, .int .i64 i, .string (ofL bd)] 33 (0, 0)) ∧ W1.heap[w.heap.size + 2]? = some (.cells #[.int .i64 0, .slice none 0 0, .slice none 0 0] 30 (0, 0)) := by
    rw [← HW1.out]
    exact heap_alloc3 w _ _ _
  have HRN := Hid_of h
  have HROW : Hid (∀ w', Below W1.heap.size W1 w' → w'.heap[w.heap.size]? = some (.cells #[.int .i64 N, .slice a R.length cap, .slice ka K.length kc] 30 (0, 0)) ∧ w'.heap[w.heap.size + 1]? = some (.cells #[.int .i64 k, .int .i64 f, .int .i64 t, .int .i64 i, .string (ofL bd)] 33 (0, 0)) ∧ w'.heap[w.heap.size + 2]? = some (.cells #[.int .i64 0, .slice none 0 0, .slice none 0 0] 30 (0, 0)) ∧ Below w.heap.size w w') := fun w' hb' => ⟨bel_row hr1 hb', bel_row hr2 hb', bel_row hr3 hb', bel_up hB1 hb' (Nat.le_refl _)⟩
  have cE := refEncode_any k f t i bd W1 hb
  have hRn := h.ok.n
  have d1 : (Msg.chk k f t i bd.length != 0) = true := by simpa using hck
  have d2 : (Msg.chk k f t i bd.length = 0) = False := by simpa using hck
  have d3 : (Msg.chk k f t i bd.length == 0) = false := by simpa using hck
  generalize Msg.chk k f t i bd.length = ck at *
  obtain ⟨⟨m0, m1, m2, m3, m4⟩, _⟩ := row5 hr2
  clear h hr1 hr2 hr3
  go_enter Try.func11, Try.ntmps11
  go_upto_region 1 with fail
  rw [HW1.out]
  clear HW1
  go_wp2_with fail
  refine cE.mono ?_
  rintro e w2 ⟨rfl, hb2⟩
  have HB2 := Hid_of hb2
  obtain ⟨r1, r2, r3, rB⟩ := HROW.out w2 hb2
  clear cE hb2 m0 m1 m2 m3 m4
  obtain ⟨j1, j2, j3, _⟩ := ref_lay (x := .int .i64 N) (v1 := .slice a R.length cap) (v2 := .slice ka K.length kc) rB r3 (by omega)
  obtain ⟨⟨y0, y1, y2⟩, yf0, yf1, yf2⟩ := j1
  obtain ⟨⟨n0, n1, n2⟩, _⟩ := rw3 r1
  have HQ1 := Hid_of j2
  have HQ2 : Hid (ROut w N a cap R ka kc K (Nt.add false R ⟨f, t, ofL (Msg.ecode k f t i bd)⟩) K false (.returned (.tuple #[.agg #[.int .i64 N, .slice a R.length cap, .slice ka K.length kc], .bool false])) (put3 w2 (w.heap.size + 2) (.int .i64 N) (.slice a R.length cap) (.slice ka K.length kc))) := ⟨_, _, rfl, XRes.same, KRes.same, j3⟩
  clear j2 j3 r1 r2 r3 rB HROW HRN HB2
  go_wp2
  refine bodyPost_ret (v := .tuple #[.agg #[.int .i64 N, .slice a R.length cap, .slice ka K.length kc], .bool false]) ?_ rfl HQ2.out
  exact res3 f11_res _ _ (w.heap.size + 2) _ _ _ rfl HQ1.out
set_option maxRecDepth 100000 in
set_option maxHeartbeats 1000000 in
theorem rsend_f {w : World} {N : Int} {a : Option Addr} {cap : Nat} {R : List Pk} {ka : Option Addr} {kc : Nat} {K : List (Int × Int)} (h : RN w a cap R ka kc K) (k f t i : Int) (bd : List UInt8) (hb : bd.length ≤ maxLen) (hck : Msg.chk k f t i bd.length = 0) (hf : Nt.node N f = false) :
    Calls Try.prog 11 #[.agg #[.int .i64 N, .slice a R.length cap, .slice ka K.length kc], .agg #[.int .i64 k, .int .i64 f, .int .i64 t, .int .i64 i, .string (ofL bd)]] w (ROut w N a cap R ka kc K (Nt.add false R ⟨f, t, ofL (Msg.ecode k f t i bd)⟩) K false) := by
  obtain ⟨W1, HW1⟩ : ∃ W1, Hid (((w.alloc (.cells #[.int .i64 N, .slice a R.length cap, .slice ka K.length kc] 30)).alloc (.cells #[.int .i64 k, .int .i64 f, .int .i64 t, .int .i64 i, .string (ofL bd)] 33)).alloc (.cells #[.int .i64 0, .slice none 0 0, .slice none 0 0] 30) = W1) := ⟨_, rfl⟩
  have hB1 : Below w.heap.size w W1 := by rw [← HW1.out]; exact (bel2 w _ _).alloc (by simp; omega) _
  obtain ⟨hr1, hr2, hr3⟩ : W1.heap[w.heap.size]? = some (.cells #[.int .i64 N, .slice a R.length cap, .slice ka K.length kc] 30 (0, 0)) ∧ W1.heap[w.heap.size + 1]? = some (.cells #[.int .i64 k, .int .i64 f, .int .i64 t, .int .i64 i, .string (ofL bd)] 33 (0, 0)) ∧ W1.heap[w.heap.size + 2]? = some (.cells #[.int .i64 0, .slice none 0 0, .slice none 0 0] 30 (0, 0)) := by
    rw [← HW1.out]
    exact heap_alloc3 w _ _ _
  have HRN := Hid_of h
  have HROW : Hid (∀ w', Below W1.heap.size W1 w' → w'.heap[w.heap.size]? = some (.cells #[.int .i64 N, .slice a R.length cap, .slice ka K.length kc] 30 (0, 0)) ∧ w'.heap[w.heap.size + 1]? = some (.cells #[.int .i64 k, .int .i64 f, .int .i64 t, .int .i64 i, .string (ofL bd)] 33 (0, 0)) ∧ w'.heap[w.heap.size + 2]? = some (.cells #[.int .i64 0, .slice none 0 0, .slice none 0 0] 30 (0, 0)) ∧ Below w.heap.size w w') := fun w' hb' => ⟨bel_row hr1 hb', bel_row hr2 hb', bel_row hr3 hb', bel_up hB1 hb' (Nat.le_refl _)⟩
  have cE := refEncode_any k f t i bd W1 hb
  have hRn := h.ok.n
  rw [hck] at cE
  have cF := fun W => rnode_any N (.slice a R.length cap) (.slice ka K.length kc) f W
  rw [hf] at cF
  obtain ⟨⟨m0, m1, m2, m3, m4⟩, _⟩ := row5 hr2
  clear h hr1 hr2 hr3
  go_enter Try.func11, Try.ntmps11
  go_upto_region 1 with fail
  rw [HW1.out]
  clear HW1
  go_wp2_with fail
  refine cE.mono ?_
  rintro e w2 ⟨rfl, hb2⟩
  have HB2 := Hid_of hb2
  obtain ⟨r1, r2, r3, rB⟩ := HROW.out w2 hb2
  clear cE hb2 m0 m1 m2 m3 m4
  obtain ⟨⟨n0, n1, n2⟩, _⟩ := rw3 r1
  obtain ⟨⟨m0, m1, m2, m3, m4⟩, _⟩ := row5 r2
  go_wp2_with fail
  refine (cF _).mono ?_
  rintro e w3 ⟨rfl, hb3⟩
  have hb3' := bel_up HB2.out hb3 (Nat.le_refl _)
  obtain ⟨r1, r2, r3, rB⟩ := HROW.out w3 hb3'
  have HB3 := Hid_of hb3'
  clear hb3 hb3' cF m0 m1 m2 m3 m4 n0 n1 n2 HB2
  obtain ⟨j1, j2, j3, _⟩ := ref_lay (x := .int .i64 N) (v1 := .slice a R.length cap) (v2 := .slice ka K.length kc) rB r3 (by omega)
  obtain ⟨⟨y0, y1, y2⟩, yf0, yf1, yf2⟩ := j1
  obtain ⟨⟨n0, n1, n2⟩, _⟩ := rw3 r1
  have HQ1 := Hid_of j2
  have HQ2 : Hid (ROut w N a cap R ka kc K (Nt.add false R ⟨f, t, ofL (Msg.ecode k f t i bd)⟩) K false (.returned (.tuple #[.agg #[.int .i64 N, .slice a R.length cap, .slice ka K.length kc], .bool false])) (put3 w3 (w.heap.size + 2) (.int .i64 N) (.slice a R.length cap) (.slice ka K.length kc))) := ⟨_, _, rfl, XRes.same, KRes.same, j3⟩
  clear j2 j3 r1 r2 r3 rB HROW HRN HB3
  go_wp2
  refine bodyPost_ret (v := .tuple #[.agg #[.int .i64 N, .slice a R.length cap, .slice ka K.length kc], .bool false]) ?_ rfl HQ2.out
  exact res3 f11_res _ _ (w.heap.size + 2) _ _ _ rfl HQ1.out
set_option maxRecDepth 100000 in
set_option maxHeartbeats 1000000 in
theorem rsend_t {w : World} {N : Int} {a : Option Addr} {cap : Nat} {R : List Pk} {ka : Option Addr} {kc : Nat} {K : List (Int × Int)} (h : RN w a cap R ka kc K) (k f t i : Int) (bd : List UInt8) (hb : bd.length ≤ maxLen) (hck : Msg.chk k f t i bd.length = 0) (hf : Nt.node N f = true) (ht : Nt.node N t = false) :
    Calls Try.prog 11 #[.agg #[.int .i64 N, .slice a R.length cap, .slice ka K.length kc], .agg #[.int .i64 k, .int .i64 f, .int .i64 t, .int .i64 i, .string (ofL bd)]] w (ROut w N a cap R ka kc K (Nt.add false R ⟨f, t, ofL (Msg.ecode k f t i bd)⟩) K false) := by
  obtain ⟨W1, HW1⟩ : ∃ W1, Hid (((w.alloc (.cells #[.int .i64 N, .slice a R.length cap, .slice ka K.length kc] 30)).alloc (.cells #[.int .i64 k, .int .i64 f, .int .i64 t, .int .i64 i, .string (ofL bd)] 33)).alloc (.cells #[.int .i64 0, .slice none 0 0, .slice none 0 0] 30) = W1) := ⟨_, rfl⟩
  have hB1 : Below w.heap.size w W1 := by rw [← HW1.out]; exact (bel2 w _ _).alloc (by simp; omega) _
  obtain ⟨hr1, hr2, hr3⟩ : W1.heap[w.heap.size]? = some (.cells #[.int .i64 N, .slice a R.length cap, .slice ka K.length kc] 30 (0, 0)) ∧ W1.heap[w.heap.size + 1]? = some (.cells #[.int .i64 k, .int .i64 f, .int .i64 t, .int .i64 i, .string (ofL bd)] 33 (0, 0)) ∧ W1.heap[w.heap.size + 2]? = some (.cells #[.int .i64 0, .slice none 0 0, .slice none 0 0] 30 (0, 0)) := by
    rw [← HW1.out]
    exact heap_alloc3 w _ _ _
  have HRN := Hid_of h
  have HROW : Hid (∀ w', Below W1.heap.size W1 w' → w'.heap[w.heap.size]? = some (.cells #[.int .i64 N, .slice a R.length cap, .slice ka K.length kc] 30 (0, 0)) ∧ w'.heap[w.heap.size + 1]? = some (.cells #[.int .i64 k, .int .i64 f, .int .i64 t, .int .i64 i, .string (ofL bd)] 33 (0, 0)) ∧ w'.heap[w.heap.size + 2]? = some (.cells #[.int .i64 0, .slice none 0 0, .slice none 0 0] 30 (0, 0)) ∧ Below w.heap.size w w') := fun w' hb' => ⟨bel_row hr1 hb', bel_row hr2 hb', bel_row hr3 hb', bel_up hB1 hb' (Nat.le_refl _)⟩
  have cE := refEncode_any k f t i bd W1 hb
  have hRn := h.ok.n
  rw [hck] at cE
  have cF := fun W => rnode_any N (.slice a R.length cap) (.slice ka K.length kc) f W
  rw [hf] at cF
  have cT := fun W => rnode_any N (.slice a R.length cap) (.slice ka K.length kc) t W
  rw [ht] at cT
  obtain ⟨⟨m0, m1, m2, m3, m4⟩, _⟩ := row5 hr2
  clear h hr1 hr2 hr3
  go_enter Try.func11, Try.ntmps11
  go_upto_region 1 with fail
  rw [HW1.out]
  clear HW1
  go_wp2_with fail
  refine cE.mono ?_
  rintro e w2 ⟨rfl, hb2⟩
  have HB2 := Hid_of hb2
  obtain ⟨r1, r2, r3, rB⟩ := HROW.out w2 hb2
  clear cE hb2 m0 m1 m2 m3 m4
  obtain ⟨⟨n0, n1, n2⟩, _⟩ := rw3 r1
  obtain ⟨⟨m0, m1, m2, m3, m4⟩, _⟩ := row5 r2
  go_wp2_with fail
  refine (cF _).mono ?_
  rintro e w3 ⟨rfl, hb3⟩
  have hb3' := bel_up HB2.out hb3 (Nat.le_refl _)
  obtain ⟨r1, r2, r3, rB⟩ := HROW.out w3 hb3'
  have HB3 := Hid_of hb3'
  clear hb3 hb3' cF m0 m1 m2 m3 m4 n0 n1 n2 HB2
  obtain ⟨⟨n0, n1, n2⟩, _⟩ := rw3 r1
  obtain ⟨⟨m0, m1, m2, m3, m4⟩, _⟩ := row5 r2
  go_wp2_with fail
  refine (cT _).mono ?_
  rintro e w4 ⟨rfl, hb4⟩
  have hb4' := bel_up HB3.out hb4 (Nat.le_refl _)
  obtain ⟨r1, r2, r3, rB⟩ := HROW.out w4 hb4'
  have HB4 := Hid_of hb4'
  clear hb4 hb4' cT m0 m1 m2 m3 m4 n0 n1 n2 HB3
  obtain ⟨j1, j2, j3, _⟩ := ref_lay (x := .int .i64 N) (v1 := .slice a R.length cap) (v2 := .slice ka K.length kc) rB r3 (by omega)
  obtain ⟨⟨y0, y1, y2⟩, yf0, yf1, yf2⟩ := j1
  obtain ⟨⟨n0, n1, n2⟩, _⟩ := rw3 r1
  have HQ1 := Hid_of j2
  have HQ2 : Hid (ROut w N a cap R ka kc K (Nt.add false R ⟨f, t, ofL (Msg.ecode k f t i bd)⟩) K false (.returned (.tuple #[.agg #[.int .i64 N, .slice a R.length cap, .slice ka K.length kc], .bool false])) (put3 w4 (w.heap.size + 2) (.int .i64 N) (.slice a R.length cap) (.slice ka K.length kc))) := ⟨_, _, rfl, XRes.same, KRes.same, j3⟩
  clear j2 j3 r1 r2 r3 rB HROW HRN HB4
  go_wp2
  refine bodyPost_ret (v := .tuple #[.agg #[.int .i64 N, .slice a R.length cap, .slice ka K.length kc], .bool false]) ?_ rfl HQ2.out
  exact res3 f11_res _ _ (w.heap.size + 2) _ _ _ rfl HQ1.out
set_option maxRecDepth 100000 in
set_option maxHeartbeats 1000000 in
theorem rsend_n {w : World} {N : Int} {a : Option Addr} {cap : Nat} {R : List Pk} {ka : Option Addr} {kc : Nat} {K : List (Int × Int)} (h : RN w a cap R ka kc K) (k f t i : Int) (bd : List UInt8) (hb : bd.length ≤ maxLen) (hck : Msg.chk k f t i bd.length = 0) (hf : Nt.node N f = true) (ht : Nt.node N t = true) (hn : ¬ R.length < 1024) :
    Calls Try.prog 11 #[.agg #[.int .i64 N, .slice a R.length cap, .slice ka K.length kc], .agg #[.int .i64 k, .int .i64 f, .int .i64 t, .int .i64 i, .string (ofL bd)]] w (ROut w N a cap R ka kc K (Nt.add false R ⟨f, t, ofL (Msg.ecode k f t i bd)⟩) K false) := by
  obtain ⟨W1, HW1⟩ : ∃ W1, Hid (((w.alloc (.cells #[.int .i64 N, .slice a R.length cap, .slice ka K.length kc] 30)).alloc (.cells #[.int .i64 k, .int .i64 f, .int .i64 t, .int .i64 i, .string (ofL bd)] 33)).alloc (.cells #[.int .i64 0, .slice none 0 0, .slice none 0 0] 30) = W1) := ⟨_, rfl⟩
  have hB1 : Below w.heap.size w W1 := by rw [← HW1.out]; exact (bel2 w _ _).alloc (by simp; omega) _
  obtain ⟨hr1, hr2, hr3⟩ : W1.heap[w.heap.size]? = some (.cells #[.int .i64 N, .slice a R.length cap, .slice ka K.length kc] 30 (0, 0)) ∧ W1.heap[w.heap.size + 1]? = some (.cells #[.int .i64 k, .int .i64 f, .int .i64 t, .int .i64 i, .string (ofL bd)] 33 (0, 0)) ∧ W1.heap[w.heap.size + 2]? = some (.cells #[.int .i64 0, .slice none 0 0, .slice none 0 0] 30 (0, 0)) := by
    rw [← HW1.out]
    exact heap_alloc3 w _ _ _
  have HRN := Hid_of h
  have HROW : Hid (∀ w', Below W1.heap.size W1 w' → w'.heap[w.heap.size]? = some (.cells #[.int .i64 N, .slice a R.length cap, .slice ka K.length kc] 30 (0, 0)) ∧ w'.heap[w.heap.size + 1]? = some (.cells #[.int .i64 k, .int .i64 f, .int .i64 t, .int .i64 i, .string (ofL bd)] 33 (0, 0)) ∧ w'.heap[w.heap.size + 2]? = some (.cells #[.int .i64 0, .slice none 0 0, .slice none 0 0] 30 (0, 0)) ∧ Below w.heap.size w w') := fun w' hb' => ⟨bel_row hr1 hb', bel_row hr2 hb', bel_row hr3 hb', bel_up hB1 hb' (Nat.le_refl _)⟩
  have cE := refEncode_any k f t i bd W1 hb
  have hRn := h.ok.n
  rw [hck] at cE
  have dn : decide ((1024 : Int) ≤ (R.length : Int)) = true := decide_eq_true (by omega)
  have cF := fun W => rnode_any N (.slice a R.length cap) (.slice ka K.length kc) f W
  rw [hf] at cF
  have cT := fun W => rnode_any N (.slice a R.length cap) (.slice ka K.length kc) t W
  rw [ht] at cT
  obtain ⟨⟨m0, m1, m2, m3, m4⟩, _⟩ := row5 hr2
  clear h hr1 hr2 hr3
  go_enter Try.func11, Try.ntmps11
  go_upto_region 1 with fail
  rw [HW1.out]
  clear HW1
  go_wp2_with fail
  refine cE.mono ?_
  rintro e w2 ⟨rfl, hb2⟩
  have HB2 := Hid_of hb2
  obtain ⟨r1, r2, r3, rB⟩ := HROW.out w2 hb2
  clear cE hb2 m0 m1 m2 m3 m4
  obtain ⟨⟨n0, n1, n2⟩, _⟩ := rw3 r1
  obtain ⟨⟨m0, m1, m2, m3, m4⟩, _⟩ := row5 r2
  go_wp2_with fail
  refine (cF _).mono ?_
  rintro e w3 ⟨rfl, hb3⟩
  have hb3' := bel_up HB2.out hb3 (Nat.le_refl _)
  obtain ⟨r1, r2, r3, rB⟩ := HROW.out w3 hb3'
  have HB3 := Hid_of hb3'
  clear hb3 hb3' cF m0 m1 m2 m3 m4 n0 n1 n2 HB2
  obtain ⟨⟨n0, n1, n2⟩, _⟩ := rw3 r1
  obtain ⟨⟨m0, m1, m2, m3, m4⟩, _⟩ := row5 r2
  go_wp2_with fail
  refine (cT _).mono ?_
  rintro e w4 ⟨rfl, hb4⟩
  have hb4' := bel_up HB3.out hb4 (Nat.le_refl _)
  obtain ⟨r1, r2, r3, rB⟩ := HROW.out w4 hb4'
  have HB4 := Hid_of hb4'
  clear hb4 hb4' cT m0 m1 m2 m3 m4 n0 n1 n2 HB3
  obtain ⟨j1, j2, j3, _⟩ := ref_lay (x := .int .i64 N) (v1 := .slice a R.length cap) (v2 := .slice ka K.length kc) rB r3 (by omega)
  obtain ⟨⟨y0, y1, y2⟩, yf0, yf1, yf2⟩ := j1
  obtain ⟨⟨n0, n1, n2⟩, _⟩ := rw3 r1
  have HQ1 := Hid_of j2
  have HQ2 : Hid (ROut w N a cap R ka kc K (Nt.add false R ⟨f, t, ofL (Msg.ecode k f t i bd)⟩) K false (.returned (.tuple #[.agg #[.int .i64 N, .slice a R.length cap, .slice ka K.length kc], .bool false])) (put3 w4 (w.heap.size + 2) (.int .i64 N) (.slice a R.length cap) (.slice ka K.length kc))) := ⟨_, _, rfl, XRes.same, KRes.same, j3⟩
  clear j2 j3 r1 r2 r3 rB HROW HRN HB4
  go_wp2
  refine bodyPost_ret (v := .tuple #[.agg #[.int .i64 N, .slice a R.length cap, .slice ka K.length kc], .bool false]) ?_ rfl HQ2.out
  exact res3 f11_res _ _ (w.heap.size + 2) _ _ _ rfl HQ1.out

set_option maxRecDepth 100000 in
set_option maxHeartbeats 1000000 in
theorem rsend_y {w : World} {N : Int} {a : Option Addr} {cap : Nat} {R : List Pk} {ka : Option Addr} {kc : Nat} {K : List (Int × Int)} (h : RN w a cap R ka kc K) (k f t i : Int) (bd : List UInt8) (hb : bd.length ≤ maxLen) (hck : Msg.chk k f t i bd.length = 0) (hf : Nt.node N f = true) (ht : Nt.node N t = true) (hn : R.length < 1024) :
    Calls Try.prog 11 #[.agg #[.int .i64 N, .slice a R.length cap, .slice ka K.length kc], .agg #[.int .i64 k, .int .i64 f, .int .i64 t, .int .i64 i, .string (ofL bd)]] w (ROut w N a cap R ka kc K (Nt.add true R ⟨f, t, ofL (Msg.ecode k f t i bd)⟩) K true) := by
  obtain ⟨W1, HW1⟩ : ∃ W1, Hid (((w.alloc (.cells #[.int .i64 N, .slice a R.length cap, .slice ka K.length kc] 30)).alloc (.cells #[.int .i64 k, .int .i64 f, .int .i64 t, .int .i64 i, .string (ofL bd)] 33)).alloc (.cells #[.int .i64 0, .slice none 0 0, .slice none 0 0] 30) = W1) := ⟨_, rfl⟩
  have hB1 : Below w.heap.size w W1 := by rw [← HW1.out]; exact (bel2 w _ _).alloc (by simp; omega) _
  obtain ⟨hr1, hr2, hr3⟩ : W1.heap[w.heap.size]? = some (.cells #[.int .i64 N, .slice a R.length cap, .slice ka K.length kc] 30 (0, 0)) ∧ W1.heap[w.heap.size + 1]? = some (.cells #[.int .i64 k, .int .i64 f, .int .i64 t, .int .i64 i, .string (ofL bd)] 33 (0, 0)) ∧ W1.heap[w.heap.size + 2]? = some (.cells #[.int .i64 0, .slice none 0 0, .slice none 0 0] 30 (0, 0)) := by
    rw [← HW1.out]
    exact heap_alloc3 w _ _ _
  have HRN := Hid_of h
  have HROW : Hid (∀ w', Below W1.heap.size W1 w' → w'.heap[w.heap.size]? = some (.cells #[.int .i64 N, .slice a R.length cap, .slice ka K.length kc] 30 (0, 0)) ∧ w'.heap[w.heap.size + 1]? = some (.cells #[.int .i64 k, .int .i64 f, .int .i64 t, .int .i64 i, .string (ofL bd)] 33 (0, 0)) ∧ w'.heap[w.heap.size + 2]? = some (.cells #[.int .i64 0, .slice none 0 0, .slice none 0 0] 30 (0, 0)) ∧ Below w.heap.size w w') := fun w' hb' => ⟨bel_row hr1 hb', bel_row hr2 hb', bel_row hr3 hb', bel_up hB1 hb' (Nat.le_refl _)⟩
  have cE := refEncode_any k f t i bd W1 hb
  have hRn := h.ok.n
  rw [hck] at cE
  have dn : decide ((1024 : Int) ≤ (R.length : Int)) = false := decide_eq_false (by omega)
  show Calls Try.prog 11 _ w (ROut w N a cap R ka kc K (R ++ [⟨f, t, ofL (Msg.ecode k f t i bd)⟩]) K true)
  obtain ⟨S, hS⟩ : ∃ S, ofL (Msg.ecode k f t i bd) = S := ⟨_, rfl⟩
  rw [hS] at cE ⊢
  have cF := fun W => rnode_any N (.slice a R.length cap) (.slice ka K.length kc) f W
  rw [hf] at cF
  have cT := fun W => rnode_any N (.slice a R.length cap) (.slice ka K.length kc) t W
  rw [ht] at cT
  obtain ⟨⟨m0, m1, m2, m3, m4⟩, _⟩ := row5 hr2
  clear h hr1 hr2 hr3
  go_enter Try.func11, Try.ntmps11
  go_upto_region 1 with fail
  rw [HW1.out]
  clear HW1
  go_wp2_with fail
  refine cE.mono ?_
  rintro e w2 ⟨rfl, hb2⟩
  have HB2 := Hid_of hb2
  obtain ⟨r1, r2, r3, rB⟩ := HROW.out w2 hb2
  clear cE hb2 m0 m1 m2 m3 m4
  obtain ⟨⟨n0, n1, n2⟩, _⟩ := rw3 r1
  obtain ⟨⟨m0, m1, m2, m3, m4⟩, _⟩ := row5 r2
  go_wp2_with fail
  refine (cF _).mono ?_
  rintro e w3 ⟨rfl, hb3⟩
  have hb3' := bel_up HB2.out hb3 (Nat.le_refl _)
  obtain ⟨r1, r2, r3, rB⟩ := HROW.out w3 hb3'
  have HB3 := Hid_of hb3'
  clear hb3 hb3' cF m0 m1 m2 m3 m4 n0 n1 n2 HB2
  obtain ⟨⟨n0, n1, n2⟩, _⟩ := rw3 r1
  obtain ⟨⟨m0, m1, m2, m3, m4⟩, _⟩ := row5 r2
  go_wp2_with fail
  refine (cT _).mono ?_
  rintro e w4 ⟨rfl, hb4⟩
  have hb4' := bel_up HB3.out hb4 (Nat.le_refl _)
  obtain ⟨r1, r2, r3, rB⟩ := HROW.out w4 hb4'
  have HB4 := Hid_of hb4'
  clear hb4 hb4' cT m0 m1 m2 m3 m4 n0 n1 n2 HB3
  have HR4 := Hid_of (And.intro r1 (And.intro r3 rB))
  have hrn := HRN.out.keep rB
  have HM4 := Hid_of (And.intro r1 r2)
  clear HROW HRN
  obtain ⟨⟨n0, n1, n2⟩, _⟩ := rw3 r1
  obtain ⟨⟨m0, m1, m2, m3, m4⟩, _⟩ := row5 r2
  go_wp2_with fail
  obtain ⟨wd, hwd⟩ : ∃ wd, w4.drew = wd := ⟨_, rfl⟩
  have bd : Below w4.heap.size w4 wd := by rw [← hwd]; exact (Below.refl _ _).drew
  have hsd : wd.heap.size = w4.heap.size := by rw [← hwd]; rfl
  have hrd := hrn.keep bd
  obtain ⟨va, ca, wa, runA1, oA, bA⟩ := run_copyP pt27 wd 27 a cap R hrd.r (by omega)
  obtain ⟨vb, cb, wb, runB1, oB, bB⟩ := run_copyP pt27 (wd.alloc (.cells #[.int .i64 f, .int .i64 t, .string S] 44)) 27 a cap R (hrd.r.keep (bel1 wd _)) (by omega)
  have bA' : Below w4.heap.size w4 wa := bel_up bd bA (Nat.le_refl _)
  have bBb : Below w4.heap.size w4 (wd.alloc (.cells #[.int .i64 f, .int .i64 t, .string S] 44)) := bel_up bd (bel1 wd _) (Nat.le_refl _)
  have bB' : Below w4.heap.size w4 wb := bel_up bBb bB (Nat.le_refl _)
  have honeB : wb.heap[wd.heap.size]? = some (.cells #[.int .i64 f, .int .i64 t, .string S] 44 (0, 0)) := (bB.block wd.heap.size (by simp)).trans (heap_alloc_last wd _)
  obtain ⟨va2, ca2, wa2, runA2, oA2, rA2⟩ := run_appP pt27 (wa.alloc (.cells #[.int .i64 f, .int .i64 t, .string S] 44)) 27 w4.heap.size (.slice va R.length ca) R [⟨f, t, S⟩] wa.heap.size 0 1 1 ((oA.keep (bel1 wa _)).low (by omega)) (atP_one (heap_alloc_last wa _)) rfl (by have := bA'.size; simp; omega) (by simp; omega)
  obtain ⟨vb2, cb2, wb2, runB2, oB2, rB2⟩ := run_appP pt27 wb 27 w4.heap.size (.slice vb R.length cb) R [⟨f, t, S⟩] wd.heap.size 0 1 1 (oB.low (by simp; omega)) (atP_one honeB) rfl bB'.size (by simp; omega)
  have bA2 : Below w4.heap.size w4 wa2 := Below.trans (bel_up bA' (bel1 wa (.cells #[.int .i64 f, .int .i64 t, .string S] 44)) (Nat.le_refl _)) (rA2.below (fun k hk => by have := (oA.lt hk).1; omega) (by have := bA'.size; simp; omega))
  have bB2 : Below w4.heap.size w4 wb2 := Below.trans bB' (rB2.below (fun k hk => by have := (oB.lt hk).1; simp at this; omega) bB'.size)
  have HFIN : Hid (∀ (v' : Value) (w5 W6 : World), OwnP 44 w5 w4.heap.size v' (R ++ [⟨f, t, S⟩]) → Below w4.heap.size w4 w5 → w5.setCell ⟨w.heap.size, 1, none⟩ v' = W6 →
      (w5.cell? ⟨w.heap.size, 1, none⟩ = some (.slice a R.length cap) ∧ w5.frozen? ⟨w.heap.size, 1, none⟩ = false) ∧ (W6.cell? ⟨w.heap.size, 0, none⟩ = some (.int .i64 N) ∧ W6.cell? ⟨w.heap.size, 1, none⟩ = some v' ∧ W6.cell? ⟨w.heap.size, 2, none⟩ = some (.slice ka K.length kc)) ∧ ((W6.cell? ⟨w.heap.size + 2, 0, none⟩ = some (.int .i64 0) ∧ W6.cell? ⟨w.heap.size + 2, 1, none⟩ = some (.slice none 0 0) ∧ W6.cell? ⟨w.heap.size + 2, 2, none⟩ = some (.slice none 0 0)) ∧ (W6.frozen? ⟨w.heap.size + 2, 0, none⟩ = false ∧ W6.frozen? ⟨w.heap.size + 2, 1, none⟩ = false ∧ W6.frozen? ⟨w.heap.size + 2, 2, none⟩ = false)) ∧ (put3 W6 (w.heap.size + 2) (.int .i64 N) v' (.slice ka K.length kc)).heap[w.heap.size + 2]? = some (.cells #[.int .i64 N, v', .slice ka K.length kc] 30 (0, 0)) ∧ ROut w N a cap R ka kc K (R ++ [⟨f, t, S⟩]) K true (.returned (.tuple #[.agg #[.int .i64 N, v', .slice ka K.length kc], .bool true])) (put3 W6 (w.heap.size + 2) (.int .i64 N) v' (.slice ka K.length kc))) := by
    intro v' w5 W6 ho hb5 hW6
    obtain ⟨q1, q3, qB⟩ := HR4.out
    obtain ⟨e1, e2, e3, e4, e5, e6⟩ := ref_fin (bel_up qB hb5 (Nat.le_refl _)) (bel_row q1 hb5) (bel_row q3 hb5) (by omega) (Nat.le_refl _) (by omega) W6 hW6
    have hl4 : w.heap.size + 2 < w4.heap.size := (Array.getElem?_eq_some_iff.1 q3).1
    exact ⟨e1, e2, e3, e4, _, _, rfl, .inr (OwnP.low (ho.keepBut fun k hk hv => e6 k (by have := (ho.lt hv).1; omega) (by have := (ho.lt hv).1; omega)) qB.size), KRes.same, e5⟩
  obtain ⟨WA6, hWA6⟩ : ∃ W, wa2.setCell ⟨w.heap.size, 1, none⟩ (.slice va2 (R.length + 1) ca2) = W := ⟨_, rfl⟩
  obtain ⟨WB6, hWB6⟩ : ∃ W, wb2.setCell ⟨w.heap.size, 1, none⟩ (.slice vb2 (R.length + 1) cb2) = W := ⟨_, rfl⟩
  have kA := HFIN.out (.slice va2 (R.length + 1) ca2) wa2 WA6 oA2 bA2 hWA6
  have kB := HFIN.out (.slice vb2 (R.length + 1) cb2) wb2 WB6 oB2 bB2 hWB6
  have HWA6 := Hid_of hWA6
  have HWB6 := Hid_of hWB6
  clear hWA6 hWB6
  obtain ⟨⟨xA1, xA2⟩, ⟨xA3, xA4, xA5⟩, ⟨⟨xA6, xA7, xA8⟩, xA9, xA10, xA11⟩, xA12, xA13⟩ := kA
  obtain ⟨⟨xB1, xB2⟩, ⟨xB3, xB4, xB5⟩, ⟨⟨xB6, xB7, xB8⟩, xB9, xB10, xB11⟩, xB12, xB13⟩ := kB
  have HA12 := Hid_of xA12
  have HA13 := Hid_of xA13
  have HB12 := Hid_of xB12
  have HB13 := Hid_of xB13
  have SM_d : wd.cell? ⟨w.heap.size + 1, 1, none⟩ = some (.int .i64 f) ∧ wd.cell? ⟨w.heap.size + 1, 2, none⟩ = some (.int .i64 t) := ⟨(row5 (bel_row HM4.out.2 bd)).1.2.1, (row5 (bel_row HM4.out.2 bd)).1.2.2.1⟩
  have SM_a : wa.cell? ⟨w.heap.size + 1, 1, none⟩ = some (.int .i64 f) ∧ wa.cell? ⟨w.heap.size + 1, 2, none⟩ = some (.int .i64 t) := ⟨(row5 (bel_row HM4.out.2 bA')).1.2.1, (row5 (bel_row HM4.out.2 bA')).1.2.2.1⟩
  have SM_a1 : (wa.alloc (.cells #[.int .i64 f, .int .i64 t, .string S] 44)).cell? ⟨w.heap.size + 1, 1, none⟩ = some (.int .i64 f) ∧ (wa.alloc (.cells #[.int .i64 f, .int .i64 t, .string S] 44)).cell? ⟨w.heap.size + 1, 2, none⟩ = some (.int .i64 t) := ⟨(row5 (bel_row HM4.out.2 (bel_up bA' (bel1 wa (.cells #[.int .i64 f, .int .i64 t, .string S] 44)) (Nat.le_refl _)))).1.2.1, (row5 (bel_row HM4.out.2 (bel_up bA' (bel1 wa (.cells #[.int .i64 f, .int .i64 t, .string S] 44)) (Nat.le_refl _)))).1.2.2.1⟩
  have SM_a2 : wa2.cell? ⟨w.heap.size + 1, 1, none⟩ = some (.int .i64 f) ∧ wa2.cell? ⟨w.heap.size + 1, 2, none⟩ = some (.int .i64 t) := ⟨(row5 (bel_row HM4.out.2 bA2)).1.2.1, (row5 (bel_row HM4.out.2 bA2)).1.2.2.1⟩
  have SM_b0 : (wd.alloc (.cells #[.int .i64 f, .int .i64 t, .string S] 44)).cell? ⟨w.heap.size + 1, 1, none⟩ = some (.int .i64 f) ∧ (wd.alloc (.cells #[.int .i64 f, .int .i64 t, .string S] 44)).cell? ⟨w.heap.size + 1, 2, none⟩ = some (.int .i64 t) := ⟨(row5 (bel_row HM4.out.2 bBb)).1.2.1, (row5 (bel_row HM4.out.2 bBb)).1.2.2.1⟩
  have SM_b : wb.cell? ⟨w.heap.size + 1, 1, none⟩ = some (.int .i64 f) ∧ wb.cell? ⟨w.heap.size + 1, 2, none⟩ = some (.int .i64 t) := ⟨(row5 (bel_row HM4.out.2 bB')).1.2.1, (row5 (bel_row HM4.out.2 bB')).1.2.2.1⟩
  have SM_b2 : wb2.cell? ⟨w.heap.size + 1, 1, none⟩ = some (.int .i64 f) ∧ wb2.cell? ⟨w.heap.size + 1, 2, none⟩ = some (.int .i64 t) := ⟨(row5 (bel_row HM4.out.2 bB2)).1.2.1, (row5 (bel_row HM4.out.2 bB2)).1.2.2.1⟩
  have SM_a3 : (wa2.setCell ⟨w.heap.size, 1, none⟩ (.slice va2 (R.length + 1) ca2)).cell? ⟨w.heap.size + 1, 1, none⟩ = some (.int .i64 f) ∧ (wa2.setCell ⟨w.heap.size, 1, none⟩ (.slice va2 (R.length + 1) ca2)).cell? ⟨w.heap.size + 1, 2, none⟩ = some (.int .i64 t) := by
    rw [World.cell?_setCell_other _ _ _ _ (fun e => by have := congrArg Addr.block e; simp at this), World.cell?_setCell_other _ _ _ _ (fun e => by have := congrArg Addr.block e; simp at this)]; exact SM_a2
  have SM_b3 : (wb2.setCell ⟨w.heap.size, 1, none⟩ (.slice vb2 (R.length + 1) cb2)).cell? ⟨w.heap.size + 1, 1, none⟩ = some (.int .i64 f) ∧ (wb2.setCell ⟨w.heap.size, 1, none⟩ (.slice vb2 (R.length + 1) cb2)).cell? ⟨w.heap.size + 1, 2, none⟩ = some (.int .i64 t) := by
    rw [World.cell?_setCell_other _ _ _ _ (fun e => by have := congrArg Addr.block e; simp at this), World.cell?_setCell_other _ _ _ _ (fun e => by have := congrArg Addr.block e; simp at this)]; exact SM_b2
  have n1d : wd.cell? ⟨w.heap.size, 1, none⟩ = some (.slice a R.length cap) := (rw3 (bel_row HM4.out.1 bd)).1.2.1
  have n1b : (wd.alloc (.cells #[.int .i64 f, .int .i64 t, .string S] 44)).cell? ⟨w.heap.size, 1, none⟩ = some (.slice a R.length cap) := (rw3 (bel_row HM4.out.1 bBb)).1.2.1
  clear HFIN HR4 HB4 hrn oA oB bA bB bA' bB' bBb honeB oA2 oB2 rA2 rB2 bA2 bB2 xA12 xA13 xB12 xB13 r1 r2 r3 rB hS hrd bd HM4 hsd
  refine wp_region_held_drew (S := fun wq => wq.cell? ⟨w.heap.size + 1, 1, none⟩ = some (.int .i64 f) ∧ wq.cell? ⟨w.heap.size + 1, 2, none⟩ = some (.int .i64 t)) (by kernel_rfl) ⟨m1, m2⟩ (fun hHeld => ?_)
  rw [hwd] at hHeld ⊢
  clear hwd n0 n1 n2 m0 m1 m2 m3 m4
  refine wpAnyH_take (i := 0) (oi := ?p0x1) (v := ?v0x1) ?o0x1 (by kernel_rfl) (by kernel_rfl) (by kernel_rfl) ?q0x1 ?y0x1 hHeld ?r0x1
  case o0x1 => (simp only [List.getElem?_toArray, List.getElem?_cons_zero]; try rfl)
  case q0x1 => exact fun _ _ _ h => h
  case y0x1 => (refine Or.inl ⟨rfl, ?_⟩; intro wq hq; obtain ⟨q0, q1⟩ := hq; go_simp; try with_reducible rfl)
  simp only [Act.put, List.setIfInBounds_toArray, List.set_cons_zero, List.set_cons_succ]
  refine wpAnyH_take (i := 3) (oi := ?p3x2) (v := ?v3x2) ?o3x2 (by kernel_rfl) (by kernel_rfl) (by kernel_rfl) ?q3x2 ?y3x2 hHeld ?r3x2
  case o3x2 => (simp only [List.getElem?_toArray, List.getElem?_cons_succ, List.getElem?_cons_zero]; try rfl)
  case q3x2 => exact fun _ _ _ h => h
  case y3x2 => (refine Or.inl ⟨rfl, ?_⟩; intro wq hq; obtain ⟨q0, q1⟩ := hq; go_simp; try with_reducible rfl)
  simp only [Act.put, List.setIfInBounds_toArray, List.set_cons_zero, List.set_cons_succ]
  refine wpAnyH_take (i := 4) (oi := ?p4x3) (v := ?v4x3) ?o4x3 (by kernel_rfl) (by kernel_rfl) (by kernel_rfl) ?q4x3 ?y4x3 hHeld ?r4x3
  case o4x3 => (simp only [List.getElem?_toArray, List.getElem?_cons_succ, List.getElem?_cons_zero]; try rfl)
  case q4x3 => exact fun _ _ _ h => h
  case y4x3 => (refine Or.inl ⟨rfl, ?_⟩; intro wq hq; obtain ⟨q0, q1⟩ := hq; go_simp; try with_reducible rfl)
  simp only [Act.put, List.setIfInBounds_toArray, List.set_cons_zero, List.set_cons_succ]
  refine wpAnyH_take (i := 5) (oi := ?p5x4) (v := ?v5x4) ?o5x4 (by kernel_rfl) (by kernel_rfl) (by kernel_rfl) ?q5x4 ?y5x4 hHeld ?r5x4
  case o5x4 => (simp only [List.getElem?_toArray, List.getElem?_cons_succ, List.getElem?_cons_zero]; try rfl)
  case q5x4 => exact fun _ _ _ h => h
  case y5x4 => (refine Or.inl ⟨rfl, ?_⟩; intro wq hq; obtain ⟨q0, q1⟩ := hq; go_simp; try with_reducible rfl)
  simp only [Act.put, List.setIfInBounds_toArray, List.set_cons_zero, List.set_cons_succ]
  refine wpAnyH_take (i := 6) (oi := ?p6x5) (v := ?v6x5) ?o6x5 (by kernel_rfl) (by kernel_rfl) (by kernel_rfl) ?q6x5 ?y6x5 hHeld ?r6x5
  case o6x5 => (simp only [List.getElem?_toArray, List.getElem?_cons_succ, List.getElem?_cons_zero]; try rfl)
  case q6x5 => exact fun _ _ _ h => h
  case y6x5 => (refine Or.inl ⟨rfl, ?_⟩; intro wq hq; obtain ⟨q0, q1⟩ := hq; go_simp; try with_reducible rfl)
  simp only [Act.put, List.setIfInBounds_toArray, List.set_cons_zero, List.set_cons_succ]
  refine wpAnyH_take (i := 7) (oi := ?p7x6) (v := ?v7x6) ?o7x6 (by kernel_rfl) (by kernel_rfl) (by kernel_rfl) ?q7x6 ?y7x6 hHeld ?r7x6
  case o7x6 => (simp only [List.getElem?_toArray, List.getElem?_cons_succ, List.getElem?_cons_zero]; try rfl)
  case q7x6 => exact fun _ _ _ h => h
  case y7x6 => (refine Or.inl ⟨rfl, ?_⟩; intro wq hq; obtain ⟨q0, q1⟩ := hq; go_simp; try with_reducible rfl)
  simp only [Act.put, List.setIfInBounds_toArray, List.set_cons_zero, List.set_cons_succ]
  refine wpAnyH_take (i := 8) (oi := ?p8x7) (v := ?v8x7) ?o8x7 (by kernel_rfl) (by kernel_rfl) (by kernel_rfl) ?q8x7 ?y8x7 hHeld ?r8x7
  case o8x7 => (simp only [List.getElem?_toArray, List.getElem?_cons_succ, List.getElem?_cons_zero]; try rfl)
  case q8x7 => exact fun _ _ _ h => h
  case y8x7 => (refine Or.inl ⟨rfl, ?_⟩; intro wq hq; obtain ⟨q0, q1⟩ := hq; go_simp; try with_reducible rfl)
  simp only [Act.put, List.setIfInBounds_toArray, List.set_cons_zero, List.set_cons_succ]
  refine wpAnyH_ready (rs := [1, 9]) (by kernel_rfl) (by simp) ?_
  refine (AllReadyH.cons (o := ?p1x8) ?o1x8 ?s1x8 (AllReadyH.cons (o := ?p9x8) ?o9x8 ?s9x8 AllReadyH.nil))
  case o1x8 => (simp only [List.getElem?_toArray, List.getElem?_cons_succ, List.getElem?_cons_zero]; try rfl)
  case o9x8 => (simp only [List.getElem?_toArray, List.getElem?_cons_succ, List.getElem?_cons_zero]; try rfl)
  case s1x8 =>
    intro Kk hK
    go_simp
    refine hK.out _ _ SM_d (fun hHeld => ?_)
    clear hK Kk
    refine wpAnyH_ready (rs := [2, 9]) (by kernel_rfl) (by simp) ?_
    refine (AllReadyH.cons (o := ?p2x9) ?o2x9 ?s2x9 (AllReadyH.cons (o := ?p9x9) ?o9x9 ?s9x9 AllReadyH.nil))
    case o2x9 => (simp only [List.getElem?_toArray, List.getElem?_cons_succ, List.getElem?_cons_zero]; try rfl)
    case o9x9 => (simp only [List.getElem?_toArray, List.getElem?_cons_succ, List.getElem?_cons_zero]; try rfl)
    case s2x9 =>
      intro Kk hK
      refine step_append_run rfl (.const (.slice none 0 0)) (.tmp 37) 27 rfl _ _ rfl rfl _ _ runA1 ?_
      refine hK.out _ _ SM_a (fun hHeld => ?_)
      clear hK Kk
      simp only [Act.put, List.setIfInBounds_toArray, List.set_cons_zero, List.set_cons_succ]
      refine wpAnyH_ready (rs := [9]) (by kernel_rfl) (by simp) ?_
      refine (AllReadyH.cons (o := ?p9x10) ?o9x10 ?s9x10 AllReadyH.nil)
      case o9x10 => (simp only [List.getElem?_toArray, List.getElem?_cons_succ, List.getElem?_cons_zero]; try rfl)
      intro Kk hK
      go_simp
      refine hK.out _ _ SM_a1 (fun hHeld => ?_)
      clear hK Kk
      refine wpAnyH_ready (rs := [10]) (by kernel_rfl) (by simp) ?_
      refine (AllReadyH.cons (o := ?p10x11) ?o10x11 ?s10x11 AllReadyH.nil)
      case o10x11 => (simp only [List.getElem?_toArray, List.getElem?_cons_succ, List.getElem?_cons_zero]; try rfl)
      intro Kk hK
      refine step_append_run rfl (.tmp 38) (.tmp 45) 27 rfl _ _ rfl rfl _ _ runA2 ?_
      refine hK.out _ _ SM_a2 (fun hHeld => ?_)
      clear hK Kk
      simp only [Act.put, List.setIfInBounds_toArray, List.set_cons_zero, List.set_cons_succ]
      refine wpAnyH_take (i := 11) (oi := ?p11x12) (v := ?v11x12) ?o11x12 (by kernel_rfl) (by kernel_rfl) (by kernel_rfl) ?q11x12 ?y11x12 hHeld ?r11x12
      case o11x12 => (simp only [List.getElem?_toArray, List.getElem?_cons_succ, List.getElem?_cons_zero]; try rfl)
      case q11x12 => exact fun _ _ _ h => h
      case y11x12 => (refine Or.inl ⟨rfl, ?_⟩; intro wq hq; obtain ⟨q0, q1⟩ := hq; go_simp; try with_reducible rfl)
      simp only [Act.put, List.setIfInBounds_toArray, List.set_cons_zero, List.set_cons_succ]
      refine wpAnyH_ready (rs := [12]) (by kernel_rfl) (by simp) ?_
      refine (AllReadyH.cons (o := ?p12x13) ?o12x13 ?s12x13 AllReadyH.nil)
      case o12x13 => (simp only [List.getElem?_toArray, List.getElem?_cons_succ, List.getElem?_cons_zero]; try rfl)
      intro Kk hK
      go_simp
      refine hK.out _ _ SM_a3 (fun hHeld => ?_)
      clear hK Kk
      refine wpAnyH_done (by kernel_rfl) ?_ _
      rw [HWA6.out]
      go_wp2
      refine bodyPost_ret (v := .tuple #[.agg #[.int .i64 N, .slice va2 (R.length + 1) ca2, .slice ka K.length kc], .bool true]) ?_ rfl HA13.out
      exact res3 f11_res _ _ (w.heap.size + 2) _ _ _ rfl HA12.out
    case s9x9 =>
      intro Kk hK
      go_simp
      refine hK.out _ _ SM_b0 (fun hHeld => ?_)
      clear hK Kk
      refine wpAnyH_ready (rs := [2]) (by kernel_rfl) (by simp) ?_
      refine (AllReadyH.cons (o := ?p2x14) ?o2x14 ?s2x14 AllReadyH.nil)
      case o2x14 => (simp only [List.getElem?_toArray, List.getElem?_cons_succ, List.getElem?_cons_zero]; try rfl)
      intro Kk hK
      refine step_append_run rfl (.const (.slice none 0 0)) (.tmp 37) 27 rfl _ _ rfl rfl _ _ runB1 ?_
      refine hK.out _ _ SM_b (fun hHeld => ?_)
      clear hK Kk
      simp only [Act.put, List.setIfInBounds_toArray, List.set_cons_zero, List.set_cons_succ]
      refine wpAnyH_ready (rs := [10]) (by kernel_rfl) (by simp) ?_
      refine (AllReadyH.cons (o := ?p10x15) ?o10x15 ?s10x15 AllReadyH.nil)
      case o10x15 => (simp only [List.getElem?_toArray, List.getElem?_cons_succ, List.getElem?_cons_zero]; try rfl)
      intro Kk hK
      refine step_append_run rfl (.tmp 38) (.tmp 45) 27 rfl _ _ rfl rfl _ _ runB2 ?_
      refine hK.out _ _ SM_b2 (fun hHeld => ?_)
      clear hK Kk
      simp only [Act.put, List.setIfInBounds_toArray, List.set_cons_zero, List.set_cons_succ]
      refine wpAnyH_take (i := 11) (oi := ?p11x16) (v := ?v11x16) ?o11x16 (by kernel_rfl) (by kernel_rfl) (by kernel_rfl) ?q11x16 ?y11x16 hHeld ?r11x16
      case o11x16 => (simp only [List.getElem?_toArray, List.getElem?_cons_succ, List.getElem?_cons_zero]; try rfl)
      case q11x16 => exact fun _ _ _ h => h
      case y11x16 => (refine Or.inl ⟨rfl, ?_⟩; intro wq hq; obtain ⟨q0, q1⟩ := hq; go_simp; try with_reducible rfl)
      simp only [Act.put, List.setIfInBounds_toArray, List.set_cons_zero, List.set_cons_succ]
      refine wpAnyH_ready (rs := [12]) (by kernel_rfl) (by simp) ?_
      refine (AllReadyH.cons (o := ?p12x17) ?o12x17 ?s12x17 AllReadyH.nil)
      case o12x17 => (simp only [List.getElem?_toArray, List.getElem?_cons_succ, List.getElem?_cons_zero]; try rfl)
      intro Kk hK
      go_simp
      refine hK.out _ _ SM_b3 (fun hHeld => ?_)
      clear hK Kk
      refine wpAnyH_done (by kernel_rfl) ?_ _
      rw [HWB6.out]
      go_wp2
      refine bodyPost_ret (v := .tuple #[.agg #[.int .i64 N, .slice vb2 (R.length + 1) cb2, .slice ka K.length kc], .bool true]) ?_ rfl HB13.out
      exact res3 f11_res _ _ (w.heap.size + 2) _ _ _ rfl HB12.out
  case s9x8 =>
    intro Kk hK
    go_simp
    refine hK.out _ _ SM_b0 (fun hHeld => ?_)
    clear hK Kk
    refine wpAnyH_ready (rs := [1]) (by kernel_rfl) (by simp) ?_
    refine (AllReadyH.cons (o := ?p1x18) ?o1x18 ?s1x18 AllReadyH.nil)
    case o1x18 => (simp only [List.getElem?_toArray, List.getElem?_cons_succ, List.getElem?_cons_zero]; try rfl)
    intro Kk hK
    go_simp
    refine hK.out _ _ SM_b0 (fun hHeld => ?_)
    clear hK Kk
    refine wpAnyH_ready (rs := [2]) (by kernel_rfl) (by simp) ?_
    refine (AllReadyH.cons (o := ?p2x19) ?o2x19 ?s2x19 AllReadyH.nil)
    case o2x19 => (simp only [List.getElem?_toArray, List.getElem?_cons_succ, List.getElem?_cons_zero]; try rfl)
    intro Kk hK
    refine step_append_run rfl (.const (.slice none 0 0)) (.tmp 37) 27 rfl _ _ rfl rfl _ _ runB1 ?_
    refine hK.out _ _ SM_b (fun hHeld => ?_)
    clear hK Kk
    simp only [Act.put, List.setIfInBounds_toArray, List.set_cons_zero, List.set_cons_succ]
    refine wpAnyH_ready (rs := [10]) (by kernel_rfl) (by simp) ?_
    refine (AllReadyH.cons (o := ?p10x20) ?o10x20 ?s10x20 AllReadyH.nil)
    case o10x20 => (simp only [List.getElem?_toArray, List.getElem?_cons_succ, List.getElem?_cons_zero]; try rfl)
    intro Kk hK
    refine step_append_run rfl (.tmp 38) (.tmp 45) 27 rfl _ _ rfl rfl _ _ runB2 ?_
    refine hK.out _ _ SM_b2 (fun hHeld => ?_)
    clear hK Kk
    simp only [Act.put, List.setIfInBounds_toArray, List.set_cons_zero, List.set_cons_succ]
    refine wpAnyH_take (i := 11) (oi := ?p11x21) (v := ?v11x21) ?o11x21 (by kernel_rfl) (by kernel_rfl) (by kernel_rfl) ?q11x21 ?y11x21 hHeld ?r11x21
    case o11x21 => (simp only [List.getElem?_toArray, List.getElem?_cons_succ, List.getElem?_cons_zero]; try rfl)
    case q11x21 => exact fun _ _ _ h => h
    case y11x21 => (refine Or.inl ⟨rfl, ?_⟩; intro wq hq; obtain ⟨q0, q1⟩ := hq; go_simp; try with_reducible rfl)
    simp only [Act.put, List.setIfInBounds_toArray, List.set_cons_zero, List.set_cons_succ]
    refine wpAnyH_ready (rs := [12]) (by kernel_rfl) (by simp) ?_
    refine (AllReadyH.cons (o := ?p12x22) ?o12x22 ?s12x22 AllReadyH.nil)
    case o12x22 => (simp only [List.getElem?_toArray, List.getElem?_cons_succ, List.getElem?_cons_zero]; try rfl)
    intro Kk hK
    go_simp
    refine hK.out _ _ SM_b3 (fun hHeld => ?_)
    clear hK Kk
    refine wpAnyH_done (by kernel_rfl) ?_ _
    rw [HWB6.out]
    go_wp2
    refine bodyPost_ret (v := .tuple #[.agg #[.int .i64 N, .slice vb2 (R.length + 1) cb2, .slice ka K.length kc], .bool true]) ?_ rfl HB13.out
    exact res3 f11_res _ _ (w.heap.size + 2) _ _ _ rfl HB12.out
end Go.Proofs.Ytjbodjjeenjbeaa
