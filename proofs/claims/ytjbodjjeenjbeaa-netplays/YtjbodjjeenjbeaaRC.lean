/-
  The document's net: what a call that answers a net leaves; a message is sent.
-/
import Derived.Test.YtjbodjjeenjbeaaRB
namespace Go.Proofs.Ytjbodjjeenjbeaa
open Go.RowKit
set_option linter.unusedVariables false
open Nt (Pk)

theorem res3 {fn : Func} {p u : Tmp} (h : fn.results = #[.cell p 30, .tmp u]) (tmps : Array Value) (w : World) (g : Nat) (v0 v1 v2 : Value) (hp : tmps.getD p undef = .pointer (some ⟨g, 0, none⟩)) (hg : w.heap[g]? = some (.cells #[v0, v1, v2] 30 (0, 0))) :
    (results fn tmps).run Try.prog w = .ok (.tuple #[.agg #[v0, v1, v2], tmps.getD u undef]) w := by
  have hp' : tmps[p]?.getD undef = .pointer (some ⟨g, 0, none⟩) := by simpa using hp
  rw [results_cell_tmp h]
  simp [asAddr, hp', run_loadVar_row w g 30 30 #[v0, v1, v2] (0, 0) _ hg Try.underlying30 rfl Try.size30]
/-- A net is laid into its result's box. -/
theorem ref_lay {w w2 : World} {r : Nat} {x v1 v2 z0 z1 z2 : Value} (hB : Below w.heap.size w w2) (hr : w2.heap[r]? = some (.cells #[z0, z1, z2] 30 (0, 0))) (hrw : w.heap.size ≤ r) :
    ((w2.cell? ⟨r, 0, none⟩ = some z0 ∧ w2.cell? ⟨r, 1, none⟩ = some z1 ∧ w2.cell? ⟨r, 2, none⟩ = some z2) ∧ (w2.frozen? ⟨r, 0, none⟩ = false ∧ w2.frozen? ⟨r, 1, none⟩ = false ∧ w2.frozen? ⟨r, 2, none⟩ = false)) ∧ (put3 w2 r x v1 v2).heap[r]? = some (.cells #[x, v1, v2] 30 (0, 0)) ∧ Below w.heap.size w (put3 w2 r x v1 v2) ∧ ∀ k, k ≠ r → (put3 w2 r x v1 v2).heap[k]? = w2.heap[k]? := by
  obtain ⟨h1, h2⟩ := rw3 hr
  exact ⟨⟨h1, h2 0, h2 1, h2 2⟩, put3_row hr _ _ _, put3_bel hB hrw _ _ _, fun k hk => put3_oth hk _ _ _⟩
/-- .. behind a new row. -/
theorem ref_fin {w w2 : World} {p r : Nat} {x v1 v2 v' z0 z1 z2 : Value} (hB : Below w.heap.size w w2) (hp : w2.heap[p]? = some (.cells #[x, v1, v2] 30 (0, 0))) (hr : w2.heap[r]? = some (.cells #[z0, z1, z2] 30 (0, 0))) (hpr : p ≠ r) (hpw : w.heap.size ≤ p) (hrw : w.heap.size ≤ r) (W3 : World) (hW3 : w2.setCell ⟨p, 1, none⟩ v' = W3) :
    (w2.cell? ⟨p, 1, none⟩ = some v1 ∧ w2.frozen? ⟨p, 1, none⟩ = false) ∧ (W3.cell? ⟨p, 0, none⟩ = some x ∧ W3.cell? ⟨p, 1, none⟩ = some v' ∧ W3.cell? ⟨p, 2, none⟩ = some v2) ∧ ((W3.cell? ⟨r, 0, none⟩ = some z0 ∧ W3.cell? ⟨r, 1, none⟩ = some z1 ∧ W3.cell? ⟨r, 2, none⟩ = some z2) ∧ (W3.frozen? ⟨r, 0, none⟩ = false ∧ W3.frozen? ⟨r, 1, none⟩ = false ∧ W3.frozen? ⟨r, 2, none⟩ = false)) ∧ (put3 W3 r x v' v2).heap[r]? = some (.cells #[x, v', v2] 30 (0, 0)) ∧ Below w.heap.size w (put3 W3 r x v' v2) ∧ ∀ k, k ≠ p → k ≠ r → (put3 W3 r x v' v2).heap[k]? = w2.heap[k]? := by
  obtain ⟨⟨_, k1, _⟩, k2⟩ := rw3 hp
  have hp3 : W3.heap[p]? = some (.cells #[x, v', v2] 30 (0, 0)) := by rw [← hW3]; exact heap_setCell_same w2 p 1 _ _ _ hp
  have hr3 : W3.heap[r]? = some (.cells #[z0, z1, z2] 30 (0, 0)) := by rw [← hW3]; exact (heap_setCell_other w2 ⟨p, 1, none⟩ r _ (fun e => hpr e.symm)).trans hr
  have hB3 : Below w.heap.size w W3 := by rw [← hW3]; exact hB.setCell (p := ⟨p, 1, none⟩) hpw _
  obtain ⟨j1, j2, j3, j4⟩ := ref_lay (x := x) (v1 := v') (v2 := v2) hB3 hr3 hrw
  refine ⟨⟨k1, k2 1⟩, (rw3 hp3).1, j1, j2, j3, fun k hk1 hk2 => (j4 k hk2).trans ?_⟩
  rw [← hW3]
  exact heap_setCell_other w2 ⟨p, 1, none⟩ k _ hk1
theorem f11_res : Try.f11.results = #[.cell 4 30, .tmp 5] := rfl
theorem XRes.same {w w' : World} {a : Option Addr} {cap : Nat} {R : List Pk} : XRes w w' a cap R (.slice a R.length cap) R := .inl ⟨rfl, rfl⟩
theorem KRes.same {w w' : World} {a : Option Addr} {cap : Nat} {K : List (Int × Int)} : KRes w w' a cap K (.slice a K.length cap) K := .inl ⟨rfl, rfl⟩
set_option maxRecDepth 100000 in
set_option maxHeartbeats 1000000 in
theorem rsend_ck {w : World} {N : Int} {a : Option Addr} {cap : Nat} {R : List Pk} {ka : Option Addr} {kc : Nat} {K : List (Int × Int)} (h : RN w a cap R ka kc K) (k f t i : Int) (bd : List UInt8) (hb : bd.length ≤ maxLen) (hck : Msg.chk k f t i bd.length ≠ 0) :
    Calls Try.prog 11 #[.agg #[.int .i64 N, .slice a R.length cap, .slice ka K.length kc], .agg #[.int .i64 k, .int .i64 f, .int .i64 t, .int .i64 i, .string (ofL bd)]] w (ROut w N a cap R ka kc K (Nt.add false R ⟨f, t, ofL (Msg.ecode k f t i bd)⟩) K false) := by
  obtain ⟨W1, HW1⟩ : ∃ W1, Hid (((w.alloc (.cells #[.int .i64 N, .slice a R.length cap, .slice ka K.length kc] 30)).alloc (.cells #[.int .i64 k, .int .i64 f, .int .i64 t, .int .i64 i, .string (ofL bd)] 33)).alloc (.cells #[.int .i64 0, .slice none 0 0, .slice none 0 0] 30) = W1) := ⟨_, rfl⟩
  have hB1 : Below w.heap.size w W1 := by rw [← HW1.out]; exact (bel2 w _ _).alloc (by simp; omega) _
  obtain ⟨hr1, hr2, hr3⟩ : W1.heap[w.heap.size]? = some (.cells #[.int .i64 N, .slice a R.length cap, .slice ka K.length kc] 30 (0, 0)) ∧ W1.heap[w.heap.size + 1]? = some (.cells #[.int .i64 k, .int .i64 f, .int .i64 t, .int .i64 i, .string (ofL bd)] 33 (0, 0)) ∧ W1.heap[w.heap.size + 2]? = some (.cells #[.int .i64 0, .slice none 0 0, .slice none 0 0] 30 (0, 0)) := by
    rw [← HW1.out]
    exact heap_alloc3 w _ _ _
  have HRN := Hid_of h
  have HROW : Hid (∀ w', Below W1.heap.size W1 w' → w'.heap[w.heap.size]? = some (.cells #[.int .i64 N, .slice a R.length cap, .slice ka K.length kc] 30 (0, 0)) ∧ w'.heap[w.heap.size + 1]? = some (.cells #[.int .i64 k, .int .i64 f, .int .i64 t, .int .i64 i, .string (ofL bd)] 33 (0, 0)) ∧ w'.heap[w.heap.size + 2]? = some (.cells #[.int .i64 0, .slice none 0 0, .slice none 0 0] 30 (0, 0)) ∧ Below w.heap.size w w') := fun w' hb' => ⟨bel_row hr1 hb', bel_row hr2 hb', bel_row hr3 hb', bel_up hB1 hb' (Nat.le_refl _)⟩
  have cE := refEncode_any k f t i bd W1 hb
  have hRn := h.ok.n
  have d1 : (Msg.chk k f t i bd.length != 0) = true := by simpa using hck
  have d2 : (Msg.chk k f t i bd.length = 0) = False := by simpa using hck
  have d3 : (Msg.chk k f t i bd.length == 0) = false := by simpa using hck
  generalize Msg.chk k f t i bd.length = ck at *
  obtain ⟨⟨m0, m1, m2, m3, m4⟩, _⟩ := row5 hr2
  clear h hr1 hr2 hr3
  go_enter Try.func11, Try.ntmps11
  go_upto_region 1 with fail
  rw [HW1.out]
  clear HW1
  go_wp2_with fail
  refine cE.mono ?_
  rintro e w2 ⟨rfl, hb2⟩
  have HB2 := Hid_of hb2
  obtain ⟨r1, r2, r3, rB⟩ := HROW.out w2 hb2
  clear cE hb2 m0 m1 m2 m3 m4
  obtain ⟨j1, j2, j3, _⟩ := ref_lay (x := .int .i64 N) (v1 := .slice a R.length cap) (v2 := .slice ka K.length kc) rB r3 (by omega)
  obtain ⟨⟨y0, y1, y2⟩, yf0, yf1, yf2⟩ := j1
  obtain ⟨⟨n0, n1, n2⟩, _⟩ := rw3 r1
  have HQ1 := Hid_of j2
  have HQ2 : Hid (ROut w N a cap R ka kc K (Nt.add false R ⟨f, t, ofL (Msg.ecode k f t i bd)⟩) K false (.returned (.tuple #[.agg #[.int .i64 N, .slice a R.length cap, .slice ka K.length kc], .bool false])) (put3 w2 (w.heap.size + 2) (.int .i64 N) (.slice a R.length cap) (.slice ka K.length kc))) := ⟨_, _, rfl, XRes.same, KRes.same, j3⟩
  clear j2 j3 r1 r2 r3 rB HROW HRN HB2
  go_wp2
  refine bodyPost_ret (v := .tuple #[.agg #[.int .i64 N, .slice a R.length cap, .slice ka K.length kc], .bool false]) ?_ rfl HQ2.out
  exact res3 f11_res _ _ (w.heap.size + 2) _ _ _ rfl HQ1.out
set_option maxRecDepth 100000 in
set_option maxHeartbeats 1000000 in
theorem rsend_f {w : World} {N : Int} {a : Option Addr} {cap : Nat} {R : List Pk} {ka : Option Addr} {kc : Nat} {K : List (Int × Int)} (h : RN w a cap R ka kc K) (k f t i : Int) (bd : List UInt8) (hb : bd.length ≤ maxLen) (hck : Msg.chk k f t i bd.length = 0) (hf : Nt.node N f = false) :
    Calls Try.prog 11 #[.agg #[.int .i64 N, .slice a R.length cap, .slice ka K.length kc], .agg #[.int .i64 k, .int .i64 f, .int .i64 t, .int .i64 i, .string (ofL bd)]] w (ROut w N a cap R ka kc K (Nt.add false R ⟨f, t, ofL (Msg.ecode k f t i bd)⟩) K false) := by
  obtain ⟨W1, HW1⟩ : ∃ W1, Hid (((w.alloc (.cells #[.int .i64 N, .slice a R.length cap, .slice ka K.length kc] 30)).alloc (.cells #[.int .i64 k, .int .i64 f, .int .i64 t, .int .i64 i, .string (ofL bd)] 33)).alloc (.cells #[.int .i64 0, .slice none 0 0, .slice none 0 0] 30) = W1) := ⟨_, rfl⟩
  have hB1 : Below w.heap.size w W1 := by rw [← HW1.out]; exact (bel2 w _ _).alloc (by simp; omega) _
  obtain ⟨hr1, hr2, hr3⟩ : W1.heap[w.heap.size]? = some (.cells #[.int .i64 N, .slice a R.length cap, .slice ka K.length kc] 30 (0, 0)) ∧ W1.heap[w.heap.size + 1]? = some (.cells #[.int .i64 k, .int .i64 f, .int .i64 t, .int .i64 i, .string (ofL bd)] 33 (0, 0)) ∧ W1.heap[w.heap.size + 2]? = some (.cells #[.int .i64 0, .slice none 0 0, .slice none 0 0] 30 (0, 0)) := by
    rw [← HW1.out]
    exact heap_alloc3 w _ _ _
  have HRN := Hid_of h
  have HROW : Hid (∀ w', Below W1.heap.size W1 w' → w'.heap[w.heap.size]? = some (.cells #[.int .i64 N, .slice a R.length cap, .slice ka K.length kc] 30 (0, 0)) ∧ w'.heap[w.heap.size + 1]? = some (.cells #[.int .i64 k, .int .i64 f, .int .i64 t, .int .i64 i, .string (ofL bd)] 33 (0, 0)) ∧ w'.heap[w.heap.size + 2]? = some (.cells #[.int .i64 0, .slice none 0 0, .slice none 0 0] 30 (0, 0)) ∧ Below w.heap.size w w') := fun w' hb' => ⟨bel_row hr1 hb', bel_row hr2 hb', bel_row hr3 hb', bel_up hB1 hb' (Nat.le_refl _)⟩
  have cE := refEncode_any k f t i bd W1 hb
  have hRn := h.ok.n
  rw [hck] at cE
  have cF := fun W => rnode_any N (.slice a R.length cap) (.slice ka K.length kc) f W
  rw [hf] at cF
  obtain ⟨⟨m0, m1, m2, m3, m4⟩, _⟩ := row5 hr2
  clear h hr1 hr2 hr3
  go_enter Try.func11, Try.ntmps11
  go_upto_region 1 with fail
  rw [HW1.out]
  clear HW1
  go_wp2_with fail
  refine cE.mono ?_
  rintro e w2 ⟨rfl, hb2⟩
  have HB2 := Hid_of hb2
  obtain ⟨r1, r2, r3, rB⟩ := HROW.out w2 hb2
  clear cE hb2 m0 m1 m2 m3 m4
  obtain ⟨⟨n0, n1, n2⟩, _⟩ := rw3 r1
  obtain ⟨⟨m0, m1, m2, m3, m4⟩, _⟩ := row5 r2
  go_wp2_with fail
  refine (cF _).mono ?_
  rintro e w3 ⟨rfl, hb3⟩
  have hb3' := bel_up HB2.out hb3 (Nat.le_refl _)
  obtain ⟨r1, r2, r3, rB⟩ := HROW.out w3 hb3'
  have HB3 := Hid_of hb3'
  clear hb3 hb3' cF m0 m1 m2 m3 m4 n0 n1 n2 HB2
  obtain ⟨j1, j2, j3, _⟩ := ref_lay (x := .int .i64 N) (v1 := .slice a R.length cap) (v2 := .slice ka K.length kc) rB r3 (by omega)
  obtain ⟨⟨y0, y1, y2⟩, yf0, yf1, yf2⟩ := j1
  obtain ⟨⟨n0, n1, n2⟩, _⟩ := rw3 r1
  have HQ1 := Hid_of j2
  have HQ2 : Hid (ROut w N a cap R ka kc K (Nt.add false R ⟨f, t, ofL (Msg.ecode k f t i bd)⟩) K false (.returned (.tuple #[.agg #[.int .i64 N, .slice a R.length cap, .slice ka K.length kc], .bool false])) (put3 w3 (w.heap.size + 2) (.int .i64 N) (.slice a R.length cap) (.slice ka K.length kc))) := ⟨_, _, rfl, XRes.same, KRes.same, j3⟩
  clear j2 j3 r1 r2 r3 rB HROW HRN HB3
  go_wp2
  refine bodyPost_ret (v := .tuple #[.agg #[.int .i64 N, .slice a R.length cap, .slice ka K.length kc], .bool false]) ?_ rfl HQ2.out
  exact res3 f11_res _ _ (w.heap.size + 2) _ _ _ rfl HQ1.out
set_option maxRecDepth 100000 in
set_option maxHeartbeats 1000000 in
theorem rsend_t {w : World} {N : Int} {a : Option Addr} {cap : Nat} {R : List Pk} {ka : Option Addr} {kc : Nat} {K : List (Int × Int)} (h : RN w a cap R ka kc K) (k f t i : Int) (bd : List UInt8) (hb : bd.length ≤ maxLen) (hck : Msg.chk k f t i bd.length = 0) (hf : Nt.node N f = true) (ht : Nt.node N t = false) :
    Calls Try.prog 11 #[.agg #[.int .i64 N, .slice a R.length cap, .slice ka K.length kc], .agg #[.int .i64 k, .int .i64 f, .int .i64 t, .int .i64 i, .string (ofL bd)]] w (ROut w N a cap R ka kc K (Nt.add false R ⟨f, t, ofL (Msg.ecode k f t i bd)⟩) K false) := by
  obtain ⟨W1, HW1⟩ : ∃ W1, Hid (((w.alloc (.cells #[.int .i64 N, .slice a R.length cap, .slice ka K.length kc] 30)).alloc (.cells #[.int .i64 k, .int .i64 f, .int .i64 t, .int .i64 i, .string (ofL bd)] 33)).alloc (.cells #[.int .i64 0, .slice none 0 0, .slice none 0 0] 30) = W1) := ⟨_, rfl⟩
  have hB1 : Below w.heap.size w W1 := by rw [← HW1.out]; exact (bel2 w _ _).alloc (by simp; omega) _
  obtain ⟨hr1, hr2, hr3⟩ : W1.heap[w.heap.size]? = some (.cells #[.int .i64 N, .slice a R.length cap, .slice ka K.length kc] 30 (0, 0)) ∧ W1.heap[w.heap.size + 1]? = some (.cells #[.int .i64 k, .int .i64 f, .int .i64 t, .int .i64 i, .string (ofL bd)] 33 (0, 0)) ∧ W1.heap[w.heap.size + 2]? = some (.cells #[.int .i64 0, .slice none 0 0, .slice none 0 0] 30 (0, 0)) := by
    rw [← HW1.out]
    exact heap_alloc3 w _ _ _
  have HRN := Hid_of h
  have HROW : Hid (∀ w', Below W1.heap.size W1 w' → w'.heap[w.heap.size]? = some (.cells #[.int .i64 N, .slice a R.length cap, .slice ka K.length kc] 30 (0, 0)) ∧ w'.heap[w.heap.size + 1]? = some (.cells #[.int .i64 k, .int .i64 f, .int .i64 t, .int .i64 i, .string (ofL bd)] 33 (0, 0)) ∧ w'.heap[w.heap.size + 2]? = some (.cells #[.int .i64 0, .slice none 0 0, .slice none 0 0] 30 (0, 0)) ∧ Below w.heap.size w w') := fun w' hb' => ⟨bel_row hr1 hb', bel_row hr2 hb', bel_row hr3 hb', bel_up hB1 hb' (Nat.le_refl _)⟩
  have cE := refEncode_any k f t i bd W1 hb
  have hRn := h.ok.n
  rw [hck] at cE
  have cF := fun W => rnode_any N (.slice a R.length cap) (.slice ka K.length kc) f W
  rw [hf] at cF
  have cT := fun W => rnode_any N (.slice a R.length cap) (.slice ka K.length kc) t W
  rw [ht] at cT
  obtain ⟨⟨m0, m1, m2, m3, m4⟩, _⟩ := row5 hr2
  clear h hr1 hr2 hr3
  go_enter Try.func11, Try.ntmps11
  go_upto_region 1 with fail
  rw [HW1.out]
  clear HW1
  go_wp2_with fail
  refine cE.mono ?_
  rintro e w2 ⟨rfl, hb2⟩
  have HB2 := Hid_of hb2
  obtain ⟨r1, r2, r3, rB⟩ := HROW.out w2 hb2
  clear cE hb2 m0 m1 m2 m3 m4
  obtain ⟨⟨n0, n1, n2⟩, _⟩ := rw3 r1
  obtain ⟨⟨m0, m1, m2, m3, m4⟩, _⟩ := row5 r2
  go_wp2_with fail
  refine (cF _).mono ?_
  rintro e w3 ⟨rfl, hb3⟩
  have hb3' := bel_up HB2.out hb3 (Nat.le_refl _)
  obtain ⟨r1, r2, r3, rB⟩ := HROW.out w3 hb3'
  have HB3 := Hid_of hb3'
  clear hb3 hb3' cF m0 m1 m2 m3 m4 n0 n1 n2 HB2
  obtain ⟨⟨n0, n1, n2⟩, _⟩ := rw3 r1
  obtain ⟨⟨m0, m1, m2, m3, m4⟩, _⟩ := row5 r2
  go_wp2_with fail
  refine (cT _).mono ?_
  rintro e w4 ⟨rfl, hb4⟩
  have hb4' := bel_up HB3.out hb4 (Nat.le_refl _)
  obtain ⟨r1, r2, r3, rB⟩ := HROW.out w4 hb4'
  have HB4 := Hid_of hb4'
  clear hb4 hb4' cT m0 m1 m2 m3 m4 n0 n1 n2 HB3
  obtain ⟨j1, j2, j3, _⟩ := ref_lay (x := .int .i64 N) (v1 := .slice a R.length cap) (v2 := .slice ka K.length kc) rB r3 (by omega)
  obtain ⟨⟨y0, y1, y2⟩, yf0, yf1, yf2⟩ := j1
  obtain ⟨⟨n0, n1, n2⟩, _⟩ := rw3 r1
  have HQ1 := Hid_of j2
  have HQ2 : Hid (ROut w N a cap R ka kc K (Nt.add false R ⟨f, t, ofL (Msg.ecode k f t i bd)⟩) K false (.returned (.tuple #[.agg #[.int .i64 N, .slice a R.length cap, .slice ka K.length kc], .bool false])) (put3 w4 (w.heap.size + 2) (.int .i64 N) (.slice a R.length cap) (.slice ka K.length kc))) := ⟨_, _, rfl, XRes.same, KRes.same, j3⟩
  clear j2 j3 r1 r2 r3 rB HROW HRN HB4
  go_wp2
  refine bodyPost_ret (v := .tuple #[.agg #[.int .i64 N, .slice a R.length cap, .slice ka K.length kc], .bool false]) ?_ rfl HQ2.out
  exact res3 f11_res _ _ (w.heap.size + 2) _ _ _ rfl HQ1.out
set_option maxRecDepth 100000 in
set_option maxHeartbeats 1000000 in
theorem rsend_n {w : World} {N : Int} {a : Option Addr} {cap : Nat} {R : List Pk} {ka : Option Addr} {kc : Nat} {K : List (Int × Int)} (h : RN w a cap R ka kc K) (k f t i : Int) (bd : List UInt8) (hb : bd.length ≤ maxLen) (hck : Msg.chk k f t i bd.length = 0) (hf : Nt.node N f = true) (ht : Nt.node N t = true) (hn : ¬ R.length < 1024) :
    Calls Try.prog 11 #[.agg #[.int .i64 N, .slice a R.length cap, .slice ka K.length kc], .agg #[.int .i64 k, .int .i64 f, .int .i64 t, .int .i64 i, .string (ofL bd)]] w (ROut w N a cap R ka kc K (Nt.add false R ⟨f, t, ofL (Msg.ecode k f t i bd)⟩) K false) := by
  obtain ⟨W1, HW1⟩ : ∃ W1, Hid (((w.alloc (.cells #[.int .i64 N, .slice a R.length cap, .slice ka K.length kc] 30)).alloc (.cells #[.int .i64 k, .int .i64 f, .int .i64 t, .int .i64 i, .string (ofL bd)] 33)).alloc (.cells #[.int .i64 0, .slice none 0 0, .slice none 0 0] 30) = W1) := ⟨_, rfl⟩
  have hB1 : Below w.heap.size w W1 := by rw [← HW1.out]; exact (bel2 w _ _).alloc (by simp; omega) _
  obtain ⟨hr1, hr2, hr3⟩ : W1.heap[w.heap.size]? = some (.cells #[.int .i64 N, .slice a R.length cap, .slice ka K.length kc] 30 (0, 0)) ∧ W1.heap[w.heap.size + 1]? = some (.cells #[.int .i64 k, .int .i64 f, .int .i64 t, .int .i64 i, .string (ofL bd)] 33 (0, 0)) ∧ W1.heap[w.heap.size + 2]? = some (.cells #[.int .i64 0, .slice none 0 0, .slice none 0 0] 30 (0, 0)) := by
    rw [← HW1.out]
    exact heap_alloc3 w _ _ _
  have HRN := Hid_of h
  have HROW : Hid (∀ w', Below W1.heap.size W1 w' → w'.heap[w.heap.size]? = some (.cells #[.int .i64 N, .slice a R.length cap, .slice ka K.length kc] 30 (0, 0)) ∧ w'.heap[w.heap.size + 1]? = some (.cells #[.int .i64 k, .int .i64 f, .int .i64 t, .int .i64 i, .string (ofL bd)] 33 (0, 0)) ∧ w'.heap[w.heap.size + 2]? = some (.cells #[.int .i64 0, .slice none 0 0, .slice none 0 0] 30 (0, 0)) ∧ Below w.heap.size w w') := fun w' hb' => ⟨bel_row hr1 hb', bel_row hr2 hb', bel_row hr3 hb', bel_up hB1 hb' (Nat.le_refl _)⟩
  have cE := refEncode_any k f t i bd W1 hb
  have hRn := h.ok.n
  rw [hck] at cE
  have dn : decide ((1024 : Int) ≤ (R.length : Int)) = true := decide_eq_true (by omega)
  have cF := fun W => rnode_any N (.slice a R.length cap) (.slice ka K.length kc) f W
  rw [hf] at cF
  have cT := fun W => rnode_any N (.slice a R.length cap) (.slice ka K.length kc) t W
  rw [ht] at cT
  obtain ⟨⟨m0, m1, m2, m3, m4⟩, _⟩ := row5 hr2
  clear h hr1 hr2 hr3
  go_enter Try.func11, Try.ntmps11
  go_upto_region 1 with fail
  rw [HW1.out]
  clear HW1
  go_wp2_with fail
  refine cE.mono ?_
  rintro e w2 ⟨rfl, hb2⟩
  have HB2 := Hid_of hb2
  obtain ⟨r1, r2, r3, rB⟩ := HROW.out w2 hb2
  clear cE hb2 m0 m1 m2 m3 m4
  obtain ⟨⟨n0, n1, n2⟩, _⟩ := rw3 r1
  obtain ⟨⟨m0, m1, m2, m3, m4⟩, _⟩ := row5 r2
  go_wp2_with fail
  refine (cF _).mono ?_
  rintro e w3 ⟨rfl, hb3⟩
  have hb3' := bel_up HB2.out hb3 (Nat.le_refl _)
  obtain ⟨r1, r2, r3, rB⟩ := HROW.out w3 hb3'
  have HB3 := Hid_of hb3'
  clear hb3 hb3' cF m0 m1 m2 m3 m4 n0 n1 n2 HB2
  obtain ⟨⟨n0, n1, n2⟩, _⟩ := rw3 r1
  obtain ⟨⟨m0, m1, m2, m3, m4⟩, _⟩ := row5 r2
  go_wp2_with fail
  refine (cT _).mono ?_
  rintro e w4 ⟨rfl, hb4⟩
  have hb4' := bel_up HB3.out hb4 (Nat.le_refl _)
  obtain ⟨r1, r2, r3, rB⟩ := HROW.out w4 hb4'
  have HB4 := Hid_of hb4'
  clear hb4 hb4' cT m0 m1 m2 m3 m4 n0 n1 n2 HB3
  obtain ⟨j1, j2, j3, _⟩ := ref_lay (x := .int .i64 N) (v1 := .slice a R.length cap) (v2 := .slice ka K.length kc) rB r3 (by omega)
  obtain ⟨⟨y0, y1, y2⟩, yf0, yf1, yf2⟩ := j1
  obtain ⟨⟨n0, n1, n2⟩, _⟩ := rw3 r1
  have HQ1 := Hid_of j2
  have HQ2 : Hid (ROut w N a cap R ka kc K (Nt.add false R ⟨f, t, ofL (Msg.ecode k f t i bd)⟩) K false (.returned (.tuple #[.agg #[.int .i64 N, .slice a R.length cap, .slice ka K.length kc], .bool false])) (put3 w4 (w.heap.size + 2) (.int .i64 N) (.slice a R.length cap) (.slice ka K.length kc))) := ⟨_, _, rfl, XRes.same, KRes.same, j3⟩
  clear j2 j3 r1 r2 r3 rB HROW HRN HB4
  go_wp2
  refine bodyPost_ret (v := .tuple #[.agg #[.int .i64 N, .slice a R.length cap, .slice ka K.length kc], .bool false]) ?_ rfl HQ2.out
  exact res3 f11_res _ _ (w.heap.size + 2) _ _ _ rfl HQ1.out
end Go.Proofs.Ytjbodjjeenjbeaa
