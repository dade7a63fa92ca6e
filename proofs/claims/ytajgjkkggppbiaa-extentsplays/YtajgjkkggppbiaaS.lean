/-
  A file's calls: Move.
-/
import Derived.Test.YtajgjkkggppbiaaR
import Derived.Test.YtajgjkkggppbiaaMM
namespace Go.Proofs.Ytajgjkkggppbiaa
open Go.RowKit
set_option linter.unusedVariables false
open M (E)

/-- A piece in a block of its own, apart from a row. -/
structure Bx (w : World) (v : Value) (k : Nat) (a n d f : Int) : Prop where
  row : w.heap[k]? = some (.cells #[.int .i64 a, .int .i64 n, .int .i64 d, .int .i64 f] 32 (0, 0))
  ne : v.ownBlock ≠ some k
theorem Bx.lt {w : World} {v : Value} {k : Nat} {a n d f : Int} (h : Bx w v k a n d f) : k < w.heap.size := (Array.getElem?_eq_some_iff.1 h.row).1
theorem Bx.keep {w w' : World} {v : Value} {k : Nat} {a n d f : Int} (h : Bx w v k a n d f) (hb : Below w.heap.size w w') : Bx w' v k a n d f := ⟨(hb.block k h.lt).trans h.row, h.ne⟩
theorem Bx.rw {w w' : World} {v v' : Value} {k : Nat} {a n d f : Int} (h : Bx w v k a n d f) (hr : Rw w v w' v') : Bx w' v' k a n d f := by
  refine ⟨(hr.g.block k h.lt (fun e => h.ne e.symm)).trans h.row, fun e => ?_⟩
  rcases hr.n k e with h' | h'
  · exact h.ne h'
  · have := h.lt; omega
theorem Bx.cells {w : World} {v : Value} {k : Nat} {a n d f : Int} (h : Bx w v k a n d f) : w.cell? ⟨k, 0, none⟩ = some (.int .i64 a) ∧ w.cell? ⟨k, 1, none⟩ = some (.int .i64 n) ∧ w.cell? ⟨k, 2, none⟩ = some (.int .i64 d) ∧ w.cell? ⟨k, 3, none⟩ = some (.int .i64 f) := row4 h.row
theorem Gr.callR {base : Nat} {w0 wr : World} {v : Value} {L rest final : List E} {e : E} (h : Gr base w0 wr v L (e :: rest) final) (hB : base ≤ w0.heap.size) (he : Sm e.n) :
    Calls Try.prog 36 #[v, EV e] wr fun x w1 => ∃ v1, x = .returned v1 ∧ Gr base w0 w1 v1 (M.addp L e) rest final ∧ Rw wr v w1 v1 :=
  (add_any base v L e wr (Nat.le_trans hB h.bel.size) h.own h.len (sm_of_G h.adds.g) he).mono fun x w1 ⟨v1, hx, ho, hr, hn⟩ => ⟨v1, hx, h.step hB ho hr hn, hr⟩
theorem Gr.drewN {base : Nat} {w0 wr : World} {v : Value} {L rest final : List E} (h : Gr base w0 wr v L rest final) (n : Nat) : Gr base w0 (wr.drewN n) v L rest final := ⟨h.own, below_drewN h.bel n, h.adds, h.fin, h.nil⟩
theorem Gr.lt {base : Nat} {w0 wr : World} {v : Value} {L rest final : List E} (h : Gr base w0 wr v L rest final) : v.ownBlock ≠ some wr.heap.size := fun e => by have := (h.own.lt _ e).2; omega

/-- What Move tells, and leaves. -/
def movN (P : List E) (id lo hi tg : Int) : Int := if tg < 0 then 0 else M.sumP (M.mvN id lo hi) P
def movF (P : List E) (id lo hi tg : Int) (i : Int) : Option (Int × Int) := if tg < 0 then M.rep P i else (M.rep P i).map (M.mvF id lo hi tg)
theorem sum_take (s : E → Int) (P : List E) (k : Nat) (h : k < P.length) : M.sumP s (P.take (k + 1)) = M.sumP s (P.take k) + s P[k] := by
  have key : ∀ (l q : List E), M.sumP s (l ++ q) = M.sumP s l + M.sumP s q := by
    intro l q
    induction l with
    | nil => simp [M.sumP]
    | cons p r ih => simp only [List.cons_append, M.sumP, ih]; omega
  rw [List.take_succ_eq_append_getElem h, key]
  simp only [M.sumP]
  omega
theorem mvN_bd {p : E} (h : M.Ok p) (id lo hi : Int) : 0 ≤ M.mvN id lo hi p ∧ M.mvN id lo hi p ≤ 16384 := by
  obtain ⟨o1, o2, o3, _⟩ := h
  unfold M.mvN
  simp only [M.part]
  split <;> omega
theorem sum_bd (id lo hi : Int) : ∀ (P : List E), (∀ p ∈ P, M.Ok p) → 0 ≤ M.sumP (M.mvN id lo hi) P ∧ M.sumP (M.mvN id lo hi) P ≤ 16384 * P.length
  | [], _ => by simp [M.sumP]
  | p :: r, h => by
    have := sum_bd id lo hi r fun q hq => h q (by simp [hq])
    have := mvN_bd (h p (by simp)) id lo hi
    simp only [M.sumP, List.length_cons]
    omega
set_option maxRecDepth 100000 in
set_option maxHeartbeats 8000000 in
theorem move_any (base b : Nat) (v : Value) (P : List E) (id frm n tg : Int) (w : World) (h : XI w base b v P) (hbw : base ≤ w.heap.size) (ha : -9223372036854775808 ≤ frm) (hn : n ≤ 9223372036854775807) :
    Calls Try.prog 21 #[.pointer (some ⟨b, 0, none⟩), .int .i64 id, .int .i64 frm, .int .i64 n, .int .i64 tg] w fun x w' => x = .returned (.int .i64 (movN P id (wlo frm 1073758208) (whi frm n 1073758208) tg)) ∧ XOut w base b v (movF P id (wlo frm 1073758208) (whi frm n 1073758208) tg) w' := by
  by_cases htg : tg < 0
  · have hd : decide (tg < 0) = true := by simpa using htg
    have HK : Hid (movN P id (wlo frm 1073758208) (whi frm n 1073758208) tg = 0 ∧ XOut w base b v (movF P id (wlo frm 1073758208) (whi frm n 1073758208) tg) w) := by
      refine ⟨by unfold movN; rw [if_pos htg], ?_⟩
      obtain ⟨v', P', x1, x2, x3⟩ := XOut.same h (Below.refl _ _)
      exact ⟨v', P', x1, fun i => by rw [x2]; unfold movF; rw [if_pos htg], x3⟩
    rw [HK.out.1]
    clear htg h ha hn
    go_enter Try.func21, Try.ntmps21
    go_wp2
    go_ret
    exact ⟨rfl, HK.out.2⟩
  · have hd : decide (tg < 0) = false := by simpa using htg
    obtain ⟨a, cap, hv, hat, hbk, hcap⟩ := owns_atE h.own
    have hw := within_any frm n 1073758208 w (by decide) ⟨by decide, by decide⟩ ha hn
    obtain ⟨h0, h1, h2⟩ := w_le frm n 1073758208 (by decide)
    have hlen := h.len
    have c0 := h.c0
    rw [hv] at c0
    generalize wlo frm 1073758208 = lo at *
    generalize whi frm n 1073758208 = hi at *
    have HN : Hid (movN P id lo hi tg = M.sumP (M.mvN id lo hi) P) := by show _ = _; unfold movN; rw [if_neg htg]
    have had := M.mvs_adds h.g id lo hi tg h1 (by omega)
    obtain ⟨final, hfin⟩ : ∃ final, (P.flatMap (M.mvs id lo hi tg)).foldl M.addp [] = final := ⟨_, rfl⟩
    have HD : Hid (M.G final ∧ ∀ i, M.rep final i = movF P id lo hi tg i) := by
      obtain ⟨d1, d2⟩ := had.done
      rw [hfin] at d1 d2
      refine ⟨d1, fun i => ?_⟩
      rw [d2, M.rep_flat id lo hi tg h1]
      unfold movF
      rw [if_neg htg]
      rfl
    have HG0 : Hid (Gr w.heap.size w w (.slice none 0 0) [] ((P.drop 0).flatMap (M.mvs id lo hi tg)) final) := ⟨World.ownsRow_nil _ _ _ _, Below.refl _ _, had, hfin, fun _ => rfl⟩
    have HOK : Hid (∀ p ∈ P, M.Ok p) := h.g.1
    have HAT : Hid (AtE w a P) := hat
    have HH : Hid (XI w base b (.slice a P.length cap) P) := by rw [← hv]; exact h
    have HV : Hid (v = .slice a P.length cap) := hv
    clear h hv hbk hat had hfin htg ha hn
    go_enter Try.func21, Try.ntmps21
    go_wp2_with fail
    refine hw.mono ?_
    rintro x w1 ⟨rfl, rfl⟩
    clear hw
    go_wp2
    go_loopw [13, 14, 37] (fun c x i wr => ∃ (k : Nat) (L : List E), k ≤ P.length ∧ i = .int .i64 k ∧ c = .int .i64 (M.sumP (M.mvN id lo hi) (P.take k)) ∧ Gr w1.heap.size w1 wr x L ((P.drop k).flatMap (M.mvs id lo hi tg)) final) (fun _ _ i _ => P.length - (intOf i).toNat)
    case atStart => exact ⟨0, [], by omega, rfl, rfl, HG0.out⟩
    case round =>
      obtain ⟨k, L, hk, rfl, rfl, hgr⟩ := hrel
      clear HG0
      by_cases hlt : k < P.length
      · obtain ⟨bb, off, rfl, d0, d1, d2, d3⟩ := (HAT.out.keep hgr.bel) k hlt
        have hok := HOK.out P[k] (List.getElem_mem hlt)
        have hsm := sm_of_ok hok
        have HU : Hid (M.sumP (M.mvN id lo hi) (P.take (k + 1)) = M.sumP (M.mvN id lo hi) (P.take k) + M.mvN id lo hi P[k]) := sum_take _ P k hlt
        have hbd := sum_bd id lo hi (P.take (k + 1)) (fun p hp => HOK.out p (List.mem_of_mem_take hp))
        simp only [List.length_take] at hbd
        have hflat : (P.drop k).flatMap (M.mvs id lo hi tg) = M.mvs id lo hi tg P[k] ++ (P.drop (k + 1)).flatMap (M.mvs id lo hi tg) := by rw [List.drop_eq_getElem_cons hlt, List.flatMap_cons]
        rw [hflat] at hgr
        have hgr1 := hgr.keep (bel1 wr (.cells #[.int .i64 P[k].a, .int .i64 P[k].n, .int .i64 P[k].d, .int .i64 P[k].f] 32)) (Nat.le_refl _)
        have HP0 : Hid (∀ w', Below (wr.heap.size + 1) (wr.alloc (.cells #[.int .i64 P[k].a, .int .i64 P[k].n, .int .i64 P[k].d, .int .i64 P[k].f] 32)) w' → w'.cell? ⟨wr.heap.size, 0, none⟩ = some (.int .i64 P[k].a) ∧ w'.cell? ⟨wr.heap.size, 1, none⟩ = some (.int .i64 P[k].n) ∧ w'.cell? ⟨wr.heap.size, 2, none⟩ = some (.int .i64 P[k].d) ∧ w'.cell? ⟨wr.heap.size, 3, none⟩ = some (.int .i64 P[k].f)) := fun w' hb' => row4 ((hb'.block _ (by omega)).trans (heap_alloc_last wr _))
        by_cases hid : P[k].d = id
        · have hdd : (P[k].d != id) = false := by simp [hid]
          have hm1 : M.mvs id lo hi tg P[k] = M.mv3 lo hi tg P[k] := by unfold M.mvs; rw [if_pos hid]
          have hmn : M.mvN id lo hi P[k] = max (M.part P[k] (P[k].a + lo - P[k].f) (P[k].a + hi - P[k].f)).n 0 := by unfold M.mvN; rw [if_pos hid]
          rw [hmn] at HU
          rw [hm1] at hgr1
          unfold M.mv3 at hgr1
          simp only [List.cons_append, List.nil_append] at hgr1
          have hbx : Bx (wr.alloc (.cells #[.int .i64 P[k].a, .int .i64 P[k].n, .int .i64 P[k].d, .int .i64 P[k].f] 32)) u14 wr.heap.size P[k].a P[k].n P[k].d P[k].f := ⟨heap_alloc_last wr _, hgr.lt⟩
          obtain ⟨o1, o2, o3, o4, o5, o6⟩ := hok
          obtain ⟨ft, hft⟩ : ∃ ft, P[k].a + lo - P[k].f = ft := ⟨_, rfl⟩
          obtain ⟨lt, hlt'⟩ : ∃ lt, P[k].a + hi - P[k].f = lt := ⟨_, rfl⟩
          rw [hft, hlt'] at hgr1 HU
          have hsf : Sm ft := ⟨by omega, by omega⟩
          have hst : Sm lt := ⟨by omega, by omega⟩
          have hpt := fun lo' hi' w' hl hh => part_any P[k].a P[k].n P[k].d P[k].f lo' hi' w' hsm.1 hsm.2.1 hsm.2.2 hl hh
          have HEQ : Hid (∀ lo' hi', EV (M.part ⟨P[k].a, P[k].n, P[k].d, P[k].f⟩ lo' hi') = .agg #[.int .i64 (M.part P[k] lo' hi').a, .int .i64 (M.part P[k] lo' hi').n, .int .i64 (M.part P[k] lo' hi').d, .int .i64 (M.part P[k] lo' hi').f]) := fun _ _ => rfl
          have hend := fun w' => ending_any P[k].a P[k].n P[k].d P[k].f w' hsm.1 hsm.2.1
          have hok' : M.Ok P[k] := ⟨o1, o2, o3, o4, o5, o6⟩
          have hsa : Sm P[k].a := hsm.1
          have hsae : Sm (P[k].a + P[k].n) := ⟨by omega, by omega⟩
          have n1 : Sm (M.part P[k] P[k].a ft).n := sm_part hok' ⟨by omega, by omega⟩ ⟨by omega, by omega⟩
          have n2 : Sm (M.part P[k] ft lt).n := sm_part hok' ⟨by omega, by omega⟩ ⟨by omega, by omega⟩
          have n3 : Sm (M.part P[k] lt (P[k].a + P[k].n)).n := sm_part hok' ⟨by omega, by omega⟩ ⟨by omega, by omega⟩
          have hp1 := fun w' => hpt P[k].a ft w' hsa hsf
          have hp2 := fun w' => hpt ft lt w' hsf hst
          have hp3 := fun w' => hpt lt (P[k].a + P[k].n) w' hst hsae
          simp only [HEQ.out] at hp1 hp2 hp3
          have hwa : IntKind.i64.wrap (P[k].a + lo) = P[k].a + lo := by rw [IntKind.wrap_i64]; omega
          have hwb : IntKind.i64.wrap (P[k].a + lo - P[k].f) = ft := by rw [IntKind.wrap_i64]; omega
          have hwc : IntKind.i64.wrap (P[k].a + hi) = P[k].a + hi := by rw [IntKind.wrap_i64]; omega
          have hwd : IntKind.i64.wrap (P[k].a + hi - P[k].f) = lt := by rw [IntKind.wrap_i64]; omega
          have hu0 := sum_bd id lo hi (P.take k) (fun p hp => HOK.out p (List.mem_of_mem_take hp))
          simp only [List.length_take] at hu0
          have hwe : IntKind.i64.wrap (M.sumP (M.mvN id lo hi) (P.take k) + max (M.part P[k] ft lt).n 0) = M.sumP (M.mvN id lo hi) (P.take k) + max (M.part P[k] ft lt).n 0 := by rw [← HU.out, IntKind.wrap_i64]; omega
          obtain ⟨p1, e1⟩ : ∃ p1, M.part P[k] P[k].a ft = p1 := ⟨_, rfl⟩
          obtain ⟨p2, e2⟩ : ∃ p2, M.part P[k] ft lt = p2 := ⟨_, rfl⟩
          obtain ⟨p3, e3⟩ : ∃ p3, M.part P[k] lt (P[k].a + P[k].n) = p3 := ⟨_, rfl⟩
          rw [e1] at hp1 n1 hgr1
          rw [e2] at hp2 n2 hgr1 HU hwe
          rw [e3] at hp3 n3 hgr1
          obtain ⟨mx, hmx⟩ : ∃ mx, max p2.n 0 = mx := ⟨_, rfl⟩
          rw [hmx] at HU hwe
          have HGR : Hid _ := hgr1
          have HBX : Hid _ := hbx
          have N1 := Hid_of n1
          have N2 := Hid_of n2
          have N3 := Hid_of n3
          clear hgr hgr1 hok' o1 o2 o3 o4 o5 o6 hsm hflat hbd hu0 hid hm1 hmn HAT HOK HP0 HEQ hpt e1 e2 e3 hsa hsae hsf hst n1 n2 n3 hbx hft hlt'
          generalize P[k].a = pa at *
          generalize P[k].n = pn at *
          generalize P[k].d = pd at *
          generalize P[k].f = pf at *
          generalize M.sumP (M.mvN id lo hi) (P.take k) = u0 at *
          go_wp2_with fail
          go_quiet (fail)
          obtain ⟨W0, hW0⟩ : ∃ W0, W0 = (wr.alloc (.cells #[.int .i64 pa, .int .i64 pn, .int .i64 pd, .int .i64 pf] 32)).drewN nq := ⟨_, rfl⟩
          have HG0 : Hid (Gr w1.heap.size w1 W0 u14 L (p1 :: ⟨p2.a, p2.n, tg, p2.f⟩ :: p3 :: (P.drop (k + 1)).flatMap (M.mvs id lo hi tg)) final) := by rw [hW0]; exact HGR.out.drewN nq
          have HX0 : Hid (Bx W0 u14 wr.heap.size pa pn pd pf) := by rw [hW0]; exact ⟨HBX.out.row, HBX.out.ne⟩
          rw [← hW0]
          obtain ⟨q0, q1, q2, q3⟩ := HX0.out.cells
          clear hW0 HGR HBX d0 d1 d2 d3
          go_wp2_with fail
          refine (hp2 _).mono ?_
          rintro x w2 ⟨rfl, hb2⟩
          have hg3 := (HG0.out.keep hb2 (Nat.le_refl _)).keep (bel1 w2 (.cells #[.int .i64 p2.a, .int .i64 p2.n, .int .i64 tg, .int .i64 p2.f] 32)) (Nat.le_refl _)
          have hx3 := (HX0.out.keep hb2).keep (bel1 w2 (.cells #[.int .i64 p2.a, .int .i64 p2.n, .int .i64 tg, .int .i64 p2.f] 32))
          have hm3 : Bx (w2.alloc (.cells #[.int .i64 p2.a, .int .i64 p2.n, .int .i64 tg, .int .i64 p2.f] 32)) u14 w2.heap.size p2.a p2.n tg p2.f := ⟨heap_alloc_last w2 _, (HG0.out.keep hb2 (Nat.le_refl _)).lt⟩
          obtain ⟨r0, r1, r2, r3⟩ := hx3.cells
          have HG3 := Hid_of hg3
          have HX3 := Hid_of hx3
          have HM3 := Hid_of hm3
          clear hg3 hx3 hm3 hb2 q0 q1 q2 q3 HG0 HX0
          go_wp2_with fail
          refine (hp1 _).mono ?_
          rintro x w4 ⟨rfl, hb4⟩
          have hca1 := (HG3.out.keep hb4 (Nat.le_refl _)).callR (Nat.le_refl _) N1.out
          have HX4 := Hid_of (HX3.out.keep hb4)
          have HM4 := Hid_of (HM3.out.keep hb4)
          rw [show EV p1 = .agg #[.int .i64 p1.a, .int .i64 p1.n, .int .i64 p1.d, .int .i64 p1.f] from rfl] at hca1
          clear HG3 HX3 HM3 hb4 r0 r1 r2 r3
          go_wp2_with fail
          refine hca1.mono ?_
          rintro x w5 ⟨v5, rfl, hg5, hr5⟩
          have HX5 := Hid_of (HX4.out.rw hr5)
          have HM5 := Hid_of (HM4.out.rw hr5)
          obtain ⟨r0, r1, r2, r3⟩ := HM5.out.cells
          have hca2 := hg5.callR (Nat.le_refl _) N2.out
          rw [show EV ⟨p2.a, p2.n, tg, p2.f⟩ = .agg #[.int .i64 p2.a, .int .i64 p2.n, .int .i64 tg, .int .i64 p2.f] from rfl] at hca2
          obtain ⟨L5, hL5⟩ : ∃ L5, M.addp L p1 = L5 := ⟨_, rfl⟩
          rw [hL5] at hca2
          clear hca1 hg5 hr5 HX4 HM4 hL5
          go_wp2_with fail
          refine hca2.mono ?_
          rintro x w6 ⟨v6, rfl, hg6, hr6⟩
          obtain ⟨L6, hL6⟩ : ∃ L6, M.addp L5 ⟨p2.a, p2.n, tg, p2.f⟩ = L6 := ⟨_, rfl⟩
          rw [hL6] at hg6
          have HX6 := Hid_of (HX5.out.rw hr6)
          have HG6 := Hid_of hg6
          have HS : Hid (∀ w', Below w6.heap.size w6 w' → w'.cell? ⟨wr.heap.size, 0, none⟩ = some (.int .i64 pa) ∧ w'.cell? ⟨wr.heap.size, 1, none⟩ = some (.int .i64 pn) ∧ w'.cell? ⟨wr.heap.size, 2, none⟩ = some (.int .i64 pd) ∧ w'.cell? ⟨wr.heap.size, 3, none⟩ = some (.int .i64 pf)) := fun w' hb' => (HX6.out.keep hb').cells
          obtain ⟨s0, s1, s2, s3⟩ := HS.out w6 (Below.refl _ _)
          have HC : Hid (∀ w', Below w6.heap.size w6 w' → Calls Try.prog 36 #[v6, .agg #[.int .i64 p3.a, .int .i64 p3.n, .int .i64 p3.d, .int .i64 p3.f]] w' fun x w1' => ∃ v1, x = .returned v1 ∧ Gr w1.heap.size w1 w1' v1 (M.addp L6 p3) ((P.drop (k + 1)).flatMap (M.mvs id lo hi tg)) final ∧ Rw w' v6 w1' v1) := fun w' hb' => (HG6.out.keep hb' (Nat.le_refl _)).callR (Nat.le_refl _) N3.out
          clear hca2 hg6 hr6 HX5 HM5 hL6 r0 r1 r2 r3 HG6
          go_wp2_with fail
          go_region_held3 (fun wq => wq.cell? ⟨wr.heap.size, 0, none⟩ = some (.int .i64 pa) ∧ wq.cell? ⟨wr.heap.size, 1, none⟩ = some (.int .i64 pn) ∧ wq.cell? ⟨wr.heap.size, 2, none⟩ = some (.int .i64 pd) ∧ wq.cell? ⟨wr.heap.size, 3, none⟩ = some (.int .i64 pf)) (first | exact HS.out _ (Below.refl _ _) | exact HS.out _ (Below.drew (Below.refl _ _)) | exact HS.out _ (by assumption) | assumption) (first
            | (go_at_call 27; refine (hend _).mono ?_; rintro x w7 ⟨rfl, hb7⟩; have B7 : Below w6.heap.size w6 w7 := Below.trans (Below.drew (Below.refl _ _)) hb7; clear hb7)
            | (go_at_call 31; refine (hp3 _).mono ?_; rintro x w8 ⟨rfl, hb8⟩; have B8 : Below w6.heap.size w6 w8 := bel_up B7 hb8 (Nat.le_refl _); clear hb8)
            | (go_at_call 36; refine (HC.out _ B8).mono ?_; rintro x w9 hx9; obtain ⟨v9, rfl, hg9, hr9⟩ := hx9; have hs9 := ((HX6.out.keep B8).rw hr9).cells; have HG9 := Hid_of hg9; clear hg9 hr9))
          all_goals
            clear HC HS HX6 s0 s1 s2 s3
            go_wp2
            go_roundw
            case rel => exact ⟨k + 1, _, by omega, by go_num, by rw [HU.out], HG9.out⟩
            case measure => simp [intOf]; omega
        · have hdd : (P[k].d != id) = true := by simpa using hid
          have hm1 : M.mvs id lo hi tg P[k] = [P[k]] := by unfold M.mvs; rw [if_neg hid]
          have hmn : M.mvN id lo hi P[k] = 0 := by unfold M.mvN; rw [if_neg hid]
          rw [hm1, List.cons_append, List.nil_append] at hgr1
          rw [hmn, Int.add_zero] at HU
          have hca := hgr1.call (Nat.le_refl _) hsm.2.1
          have hEV : EV P[k] = .agg #[.int .i64 P[k].a, .int .i64 P[k].n, .int .i64 P[k].d, .int .i64 P[k].f] := rfl
          rw [hEV] at hca
          obtain ⟨LL, hLL⟩ : ∃ LL, M.addp L P[k] = LL := ⟨_, rfl⟩
          rw [hLL] at hca
          clear hgr hgr1 hok hsm hflat hbd hid hm1 hmn hEV hLL HP0 HAT HOK
          generalize P[k].a = pa at *
          generalize P[k].n = pn at *
          generalize P[k].d = pd at *
          generalize P[k].f = pf at *
          go_wp2_with fail
          refine hca.mono ?_
          rintro x w2 ⟨v2, rfl, hg2⟩
          have HG2 : Hid _ := hg2
          clear hca hg2
          go_wp2
          go_roundw
          case rel => exact ⟨k + 1, LL, by omega, by go_num, by rw [HU.out], HG2.out⟩
          case measure => simp [intOf]; omega
      · have hkn : k = P.length := by omega
        subst hkn
        rw [List.drop_length, List.flatMap_nil] at hgr
        rw [List.take_length]
        have hLf : L = final := hgr.fin
        subst hLf
        have hrw : Rw w1 (.slice a P.length cap) wr u14 := ⟨⟨hgr.bel.os, hgr.bel.tape, hgr.bel.output, hgr.bel.size, fun k hk _ => hgr.bel.block k hk⟩, fun k hk => .inr (hgr.own.lt k hk).1⟩
        obtain ⟨e0, f0⟩ := HH.out.c1 hrw
        obtain ⟨X7, C7⟩ := HH.out.put hrw (hgr.own.low hbw) HD.out.1
        obtain ⟨a6, cp6, rfl, _, _, _⟩ := owns_atE hgr.own
        have HK : Hid (XOut w1 base b v (movF P id lo hi tg) (wr.setCell ⟨b, 0, none⟩ (.slice a6 L.length cp6))) := by
          refine ⟨_, L, X7, HD.out.2, ?_⟩
          rw [HV.out]
          exact C7
        clear hgr hrw X7 C7 HD HH HAT HOK HV
        go_wp2
        go_ret
        exact ⟨by rw [HN.out]; rfl, HK.out⟩
end Go.Proofs.Ytajgjkkggppbiaa
