import Derived.Test.YtgodnpngdbelhaaGreatGP19
set_option maxRecDepth 100000
set_option maxHeartbeats 8000000
set_option linter.unusedVariables false
set_option linter.unusedSimpArgs false
open Go.Proofs.Tryz
namespace Go.Proofs.YtgodnpngdbelhaaGreat
open Go.RowKit Go.Maps
open M (E V)
open Rm (NT R)
theorem outN_up {w0 w w1 w' : World} {F : Nat → Prop} {b : Nat} {r' : R} {l : List NT} {e : Ending} (hb : Bl w w1) (h : OutN w0 w1 F b r' l e w') : OutN w0 w F b r' l e w' := by
 obtain ⟨u, G, he, ⟨ys, h1, h2⟩, h4, h5⟩ := h; exact ⟨u, G, he, ⟨ys, h1.low hb.size, h2⟩, h4, (Fr.ofBelow hb).trans h5⟩
theorem q6L_c : ∀ (v : List V) (l : Nl.M.S), (Rm.q6L l v).c ≤ l.c + v.length
 | [], l => Nat.le_refl _
 | x :: v, l => by
  have h1 := q6L_c v (Nl.M.ts l x.s x.v); have h2 := ts_c l x.s x.v; have e : Rm.q6L l (x :: v) = Rm.q6L (Nl.M.ts l x.s x.v) v := rfl; rw [e, List.length_cons]; omega
theorem OutN.self {w0 w w' : World} {F G : Nat → Prop} {b : Nat} {r' : R} (h : RS w0 w' G b r') (hf : Fr w F w' G) : OutN w0 w F b r' [] (.returned (.slice none 0 0)) w' := ⟨_, _, rfl, NO.nil _ _ _, h, hf⟩
section
variable {w0 w : World} {b ba bp bl : Nat} {Fa Fp Fl : Nat → Prop} {r : R}
set_option maxRecDepth 100000
set_option maxHeartbeats 2000000
theorem RP.do1 (h : RP w0 w b ba bp bl Fa Fp Fl r) (f s : Int) (x : E) : Calls prog 77 #[ptr b, .iface 170 (.agg #[.int .i64 f, .int .i64 s, .int .i64 x.i, .int .i64 x.t])] w (OutN w0 w (uni b Fa Fp Fl) b (Rm.q1S r x s) (Rm.q1N r f x s)) := by
 have t97 := ta_yes underlying170; obtain ⟨W1, HW1⟩ := Nh (w.alloc (.cells #[.int .i64 f, .int .i64 s, .int .i64 x.i, .int .i64 x.t] 170)); have hb1 := Ab HW1; have hz1 := Ac HW1; obtain ⟨x0, -⟩ := row4 hz1; have cc := (h.keep hb1).prepare f s x; have HB1 := Hf hb1; clear h hb1 hz1 ; go_enter func77, ntmps77; go_upto_region 4 with fail
 rw [HW1.out]; clear HW1 t97; go_wp2_with fail; refine cc.mono ?_; clear cc; rintro e w2 ho; have HO := Hf (outN_up HB1.out ho); obtain ⟨u, G, rfl, -⟩ := ho; clear x0; go_wp2; go_ret; exact HO.out
theorem RP.do2 (h : RP w0 w b ba bp bl Fa Fp Fl r) (f : Int) (x : E) (ad : Option Addr) (c : Nat) (l : List V) (hx : XL vl w ad c l) (hap : 0 < l.length → ∀ k, blk ad k → k < w.heap.size ∧ ¬ uni b Fa Fp Fl k) (hcl : r.p.c + l.length ≤ 900000) : Calls prog 77 #[ptr b, .iface 173 (.agg #[.int .i64 f, .int .i64 x.i, .int .i64 x.t, .slice ad l.length c])] w (OutN w0 w (uni b Fa Fp Fl) b (Rm.q2S r f x l) (Rm.q2N r f x l)) := by
 have t97 := ta_no (T := 173) underlying170 zero114 (by decide); have t100 := ta_yes underlying173; obtain ⟨W1, HW1⟩ := Nh (w.alloc (.cells #[.int .i64 f, .int .i64 x.i, .int .i64 x.t, .slice ad l.length c] 173)); have hb1 := Ab HW1; have hz1 := Ac HW1; obtain ⟨x0, -⟩ := row4 hz1; have cc := (h.keep hb1).promise f x ad c l (hx.keep hb1) (fun h0 k hk => ⟨Nat.lt_of_lt_of_le (hap h0 k hk).1 hb1.size, (hap h0 k hk).2⟩) hcl; have HB1 := Hf hb1; clear h hb1 hz1 hx hap hcl; go_enter func77, ntmps77; go_upto_region 7 with fail
 rw [HW1.out]; clear HW1 t97 t100; go_wp2_with fail; refine cc.mono ?_; clear cc; rintro e w2 ho; have HO := Hf (outN_up HB1.out ho); obtain ⟨u, G, rfl, -⟩ := ho; clear x0; go_wp2; go_ret; exact HO.out
theorem RP.do3 (h : RP w0 w b ba bp bl Fa Fp Fl r) (x : V) : Calls prog 77 #[ptr b, .iface 176 (.agg #[.int .i64 x.s, .int .i64 x.b.i, .int .i64 x.b.t, .string x.v])] w (OutN w0 w (uni b Fa Fp Fl) b (Rm.q3S r x) (Rm.q3N r x)) := by
 have t97 := ta_no (T := 176) underlying170 zero114 (by decide); have t100 := ta_no (T := 176) underlying173 zero100 (by decide); have t103 := ta_yes underlying176; obtain ⟨W1, HW1⟩ := Nh (w.alloc (.cells #[.int .i64 x.s, .int .i64 x.b.i, .int .i64 x.b.t, .string x.v] 176)); have hb1 := Ab HW1; have hz1 := Ac HW1; obtain ⟨x0, -⟩ := row4 hz1; have cc := (h.keep hb1).accept x; have HB1 := Hf hb1; clear h hb1 hz1 ; go_enter func77, ntmps77; go_upto_region 10 with fail
 rw [HW1.out]; clear HW1 t97 t100 t103; go_wp2_with fail; refine cc.mono ?_; clear cc; rintro e w2 ho; have HO := Hf (outN_up HB1.out ho); obtain ⟨u, G, rfl, -⟩ := ho; clear x0; go_wp2; go_ret; exact HO.out
theorem RP.do5 (h : RP w0 w b ba bp bl Fa Fp Fl r) (f s : Int) : Calls prog 77 #[ptr b, .iface 182 (.agg #[.int .i64 f, .int .i64 s])] w (OutN w0 w (uni b Fa Fp Fl) b r (Rm.q5N r f s)) := by
 have t97 := ta_no (T := 182) underlying170 zero114 (by decide); have t100 := ta_no (T := 182) underlying173 zero100 (by decide); have t103 := ta_no (T := 182) underlying176 zero103 (by decide); have t106 := ta_no (T := 182) underlying179 zero106 (by decide); have t109 := ta_yes underlying182; obtain ⟨W1, HW1⟩ := Nh (w.alloc (.cells #[.int .i64 f, .int .i64 s] 182)); have hb1 := Ab HW1; have hz1 := Ac HW1; obtain ⟨x0, -⟩ := row2 hz1; have cc := (h.keep hb1).asked f s; have HB1 := Hf hb1; clear h hb1 hz1 ; go_enter func77, ntmps77; go_upto_region 16 with fail
 rw [HW1.out]; clear HW1 t97 t100 t103 t106 t109; go_wp2_with fail; refine cc.mono ?_; clear cc; rintro e w2 ho; have HO := Hf (outN_up HB1.out ho); obtain ⟨u, G, rfl, -⟩ := ho; clear x0; go_wp2; go_ret; exact HO.out
theorem RP.do4 (h : RP w0 w b ba bp bl Fa Fp Fl r) (f : Int) (x : V) (hwf : (Lit.int .i64 x.s).wf = true) (hc : r.l.c ≤ 900000) : Calls prog 77 #[ptr b, .iface 179 (.agg #[.int .i64 f, .int .i64 x.s, .int .i64 x.b.i, .int .i64 x.b.t, .string x.v])] w (OutN w0 w (uni b Fa Fp Fl) b (Rm.q4S r f x) []) := by
 have t97 := ta_no (T := 179) underlying170 zero114 (by decide); have t100 := ta_no (T := 179) underlying173 zero100 (by decide); have t103 := ta_no (T := 179) underlying176 zero103 (by decide); have t106 := ta_yes underlying179; obtain ⟨W1, HW1⟩ := Nh (w.alloc (.cells #[.int .i64 f, .int .i64 x.s, .int .i64 x.b.i, .int .i64 x.b.t, .string x.v] 179)); have hb1 := Ab HW1; have hz1 := Ac HW1; obtain ⟨g, hg⟩ := Nq (w.heap.size); rw [hg] at hz1; have hnu : ¬ uni b Fa Fp Fl g := fun e => by have := (h.mine _ e).2; omega
 have H1 := Hf (h.keep hb1); have HZ1 := Hf hz1; have HB1 := Hf hb1; have HG := Hf hg; obtain ⟨SQ, HSQ⟩ : ∃ SQ : World → Prop, Hid (SQ = fun wq => wq.heap[b]? = some (rrow r ba bp bl) ∧ wq.heap[g]? = some (.cells #[.int .i64 f, .int .i64 x.s, .int .i64 x.b.i, .int .i64 x.b.t, .string x.v] 179 (0, 0))) := ⟨_, Hf rfl⟩; have HS : Hid (∀ wq, SQ wq → (wq.cell? ⟨b, 0, none⟩ = some (.int .i64 r.n) ∧ wq.cell? ⟨b, 1, none⟩ = some (.int .i64 r.me) ∧ wq.cell? ⟨b, 2, none⟩ = some (ptr ba) ∧ wq.cell? ⟨b, 3, none⟩ = some (ptr bp) ∧ wq.cell? ⟨b, 4, none⟩ = some (ptr bl)) ∧ (wq.cell? ⟨g, 0, none⟩ = some (.int .i64 f) ∧ wq.cell? ⟨g, 1, none⟩ = some (.int .i64 x.s) ∧ wq.cell? ⟨g, 2, none⟩ = some (.int .i64 x.b.i) ∧ wq.cell? ⟨g, 3, none⟩ = some (.int .i64 x.b.t) ∧ wq.cell? ⟨g, 4, none⟩ = some (.string x.v))) := fun wq hq => by
  rw [HSQ.out] at hq; exact ⟨(row5 hq.1).1, (row5 hq.2).1⟩
 have SK : Hid (∀ w', w'.heap[b]? = some (rrow r ba bp bl) → w'.heap[g]? = some (.cells #[.int .i64 f, .int .i64 x.s, .int .i64 x.b.i, .int .i64 x.b.t, .string x.v] 179 (0, 0)) → SQ w') := fun w' h1 h2 => by rw [HSQ.out]; exact ⟨h1, h2⟩
 clear HSQ; have HSI : Hid (SQ W1.drew) := SK.out _ H1.out.row hz1; have HWF := Hf hwf; have HC := Hf hc; clear h hb1 hz1 hwf hc hg; go_enter func77, ntmps77; go_upto_region 13 with fail
 rw [HW1.out]; clear HW1 t97 t100 t103 t106; rw [HG.out]; refine Wm (fun wq => SQ wq) HSI.out fun wdx hBwd Hl => ?_; refine Tm 0 Hl ?_; refine Tm 1 Hl ?_; refine Tm 2 Hl ?_; refine Tj 3 Hl ?_; refine Tm 4 Hl ?_; refine Tj 5 Hl ?_; refine Tm 6 Hl ?_; refine Tj 7 Hl ?_; simp only [Act.put, Pz]; refine Rd 8 ?pI ?sI; intro K hK; go_simp; refine ((H1.out.keep hBwd).ls.hear f x HWF.out HC.out).mono ?_; rintro e v8 ⟨Gl, rfl, hl8, hf8⟩; obtain ⟨hrp, hfu⟩ := (H1.out.keep hBwd).setL hl8 hf8; have hz8 := (hfu.block g (Array.getElem?_eq_some_iff.1 (Br HZ1.out hBwd)).1 hnu).trans (Br HZ1.out hBwd); have S8 := SK.out v8 hrp.row hz8; have HQ : Hid (OutN w0 w (uni b Fa Fp Fl) b (Rm.q4S r f x) [] (.returned (.slice none 0 0)) v8) := OutN.self hrp.rs (((Fr.ofBelow HB1.out).up hBwd).trans hfu); clear hl8 hf8 hrp hfu hz8; refine hK.out _ _ S8 fun Hl => ?_; refine Wd ?_; go_wp2; go_ret; exact HQ.out
theorem RP.do6 (h : RP w0 w b ba bp bl Fa Fp Fl r) (ad : Option Addr) (c : Nat) (l : List V) (hx : XL vl w ad c l) (hap : 0 < l.length → ∀ k, blk ad k → k < w.heap.size ∧ ¬ uni b Fa Fp Fl k) (hwf : ∀ x ∈ l, (Lit.int .i64 x.s).wf = true) (hc : r.l.c + l.length ≤ 900000) : Calls prog 77 #[ptr b, .iface 185 (.agg #[.slice ad l.length c])] w (OutN w0 w (uni b Fa Fp Fl) b (Rm.q6S r l) []) := by
 have t97 := ta_no (T := 185) underlying170 zero114 (by decide); have t100 := ta_no (T := 185) underlying173 zero100 (by decide); have t103 := ta_no (T := 185) underlying176 zero103 (by decide); have t106 := ta_no (T := 185) underlying179 zero106 (by decide); have t109 := ta_no (T := 185) underlying182 zero109 (by decide); have t112 := ta_yes underlying185; obtain ⟨W1, HW1⟩ := Nh (w.alloc (.cells #[.slice ad l.length c] 185)); have hb1 := Ab HW1; have hz1 := Ac HW1; obtain ⟨x0, -⟩ := row1 hz1; have H1 := Hf (h.keep hb1); have HB1 := Hf hb1; have HX := Hf (hx.keep hb1); have HAP : Hid (0 < l.length → ∀ k, blk ad k → k < W1.heap.size ∧ ¬ uni b Fa Fp Fl k) := fun h0 k hk => ⟨Nat.lt_of_lt_of_le (hap h0 k hk).1 hb1.size, (hap h0 k hk).2⟩; have HWA := Hf hwf; have HC := Hf hc; have hll : l.length ≤ 900000 := by omega
 clear h hb1 hz1 hx hap hwf hc; go_enter func77, ntmps77; go_upto_region 19 with fail
 rw [HW1.out]; clear HW1 t97 t100 t103 t106 t109 t112; go_wp2_with fail; go_loopw [56] (fun q wr => ∃ (j : Nat) (G : Nat → Prop), j ≤ l.length ∧ q = .int .i64 j ∧ RP w0 wr b ba bp bl Fa Fp G { r with l := Rm.q6L r.l (l.take j) } ∧ Fr W1 (uni b Fa Fp Fl) wr (uni b Fa Fp G)) (fun q _ => l.length - (intOf q).toNat)
 case atStart => exact ⟨0, Fl, Nat.zero_le _, rfl, by rw [List.take_zero]; exact H1.out, Fr.refl _ _⟩
 case round =>
  obtain ⟨j, G, hj, rfl, hr, hf⟩ := hrel; by_cases hlt : j < l.length
  ·have hjn : (j : Int) < (l.length : Int) := by omega
   have hxr := HX.out.keepBut (w' := wr) (fun k hk hk2 => hf.block k hk (HAP.out (by omega) k hk2).2); obtain ⟨g0, off0, eA, q0, q1, q2, q3⟩ := hxr.at'.getV j hlt; have HQL : Hid (Rm.q6L r.l (l.take (j + 1)) = Nl.M.ts (Rm.q6L r.l (l.take j)) l[j].s l[j].v) := Hf (by rw [List.take_succ_eq_append_getElem hlt]; unfold Rm.q6L; rw [List.foldl_append]; rfl); have HCC : Hid ((Rm.q6L r.l (l.take j)).c ≤ r.l.c + j ∧ r.l.c + l.length ≤ 900000) := Hf ⟨by have := q6L_c (l.take j) r.l; rw [List.length_take] at this; omega, HC.out⟩; have HWF := Hf (HWA.out _ (List.getElem_mem hlt)); obtain ⟨x, HXX⟩ := Nq (l[j]); rw [HXX] at HQL HWF q0 q1 q2 q3; clear HXX hxr; obtain ⟨s, ⟨i, t⟩, v⟩ := x; simp only at HQL HWF q0 q1 q2 q3; obtain ⟨W2, HW2⟩ := Nh (wr.alloc (.cells #[.int .i64 s, .int .i64 i, .int .i64 t, .string v] 126)); have hb2 := Ab HW2; have hbox := Ac HW2; have hng : ¬ uni b Fa Fp G wr.heap.size := fun e => by have := (hr.mine _ e).2; omega
   have hr2 := hr.keep hb2; have HFj := Hf hf; obtain ⟨g, hg⟩ := Nq (wr.heap.size); rw [hg] at hbox hng; have HG := Hf hg; obtain ⟨SQ2, HSQ2⟩ : ∃ SQ : World → Prop, Hid (SQ = fun wq => wq.heap[b]? = some (rrow r ba bp bl) ∧ wq.heap[g]? = some (.cells #[.int .i64 s, .int .i64 i, .int .i64 t, .string v] 126 (0, 0))) := ⟨_, Hf rfl⟩; have HS2 : Hid (∀ wq, SQ2 wq → (wq.cell? ⟨b, 0, none⟩ = some (.int .i64 r.n) ∧ wq.cell? ⟨b, 1, none⟩ = some (.int .i64 r.me) ∧ wq.cell? ⟨b, 2, none⟩ = some (ptr ba) ∧ wq.cell? ⟨b, 3, none⟩ = some (ptr bp) ∧ wq.cell? ⟨b, 4, none⟩ = some (ptr bl)) ∧ (wq.cell? ⟨g, 0, none⟩ = some (.int .i64 s) ∧ wq.cell? ⟨g, 1, none⟩ = some (.int .i64 i) ∧ wq.cell? ⟨g, 2, none⟩ = some (.int .i64 t) ∧ wq.cell? ⟨g, 3, none⟩ = some (.string v))) := fun wq hq => by
    rw [HSQ2.out] at hq; exact ⟨(row5 hq.1).1, (row4 hq.2).1⟩
   have SK2 : Hid (∀ w', w'.heap[b]? = some (rrow r ba bp bl) → w'.heap[g]? = some (.cells #[.int .i64 s, .int .i64 i, .int .i64 t, .string v] 126 (0, 0)) → SQ2 w') := fun w' h1 h2 => by rw [HSQ2.out]; exact ⟨h1, h2⟩
   clear HSQ2; have HSI2 : Hid (SQ2 W2.drew) := SK2.out _ hr2.row hbox; clear hr hf hg; cases eA; go_upto_region 22 with fail
   rw [HW2.out]; clear HW2 q0 q1 q2 q3; rw [HG.out]; refine Wm (fun wq => SQ2 wq) HSI2.out fun wdz hBwd Hl => ?_; refine Tm 0 Hl ?_; refine Tm 1 Hl ?_; refine Tm 2 Hl ?_; refine Tk 3 ?pM ?vM ?yM Hl ?rM
   case yM => intro wq hq; have g := HS2.out wq hq; go_simp; try with_reducible rfl
   refine Tm 4 Hl ?_
   refine Tk 5 ?pO ?vO ?yO Hl ?rO
   case yO => intro wq hq; have g := HS2.out wq hq; go_simp; try with_reducible rfl
   refine Tm 6 Hl ?_
   refine Tk 7 ?pQ ?vQ ?yQ Hl ?rQ
   case yQ => intro wq hq; have g := HS2.out wq hq; go_simp; try with_reducible rfl
   simp only [Act.put, Pz]; refine Rd 8 ?pR ?sR; intro K hK; go_simp; refine ((hr2.keep hBwd).ls.tell s v HWF.out (by show (Rm.q6L r.l (l.take j)).c ≤ 900000; have := HCC.out; omega)).mono ?_; rintro e v8 ⟨Gl, rfl, hl8, hf8⟩; obtain ⟨hrp, hfu⟩ := (hr2.keep hBwd).setL hl8 hf8; have hz8 := (hfu.block g (Array.getElem?_eq_some_iff.1 (Br hbox hBwd)).1 hng).trans (Br hbox hBwd); have S8 := SK2.out v8 hrp.row hz8; have HR8 := Hf hrp; have HF8 := Hf ((HFj.out.trans ((Fr.ofBelow hb2).up hBwd)).trans hfu); clear hl8 hf8 hrp hfu hz8; refine hK.out _ _ S8 fun Hl => ?_; refine Wd ?_; go_wp2_with fail; go_roundw
   case rel => exact ⟨j + 1, Gl, by omega, by go_num, by rw [HQL.out]; exact HR8.out, HF8.out⟩
   case measure => simp [intOf]; omega
  ·obtain rfl : j = l.length := by omega
   have HQ : Hid (OutN w0 w (uni b Fa Fp Fl) b (Rm.q6S r l) [] (.returned (.slice none 0 0)) wr) := by
    rw [List.take_of_length_le Lr] at hr; exact OutN.self hr.rs ((Fr.ofBelow HB1.out).trans hf)
   clear hr hf; go_wp2; go_ret; exact HQ.out
theorem RP.do0 (h : RP w0 w b ba bp bl Fa Fp Fl r) : Calls prog 77 #[ptr b, .nilIface] w (OutN w0 w (uni b Fa Fp Fl) b r []) := by
 have t97 := ta_nil underlying170 zero114; have t100 := ta_nil underlying173 zero100; have t103 := ta_nil underlying176 zero103; have t106 := ta_nil underlying179 zero106; have t109 := ta_nil underlying182 zero109; have t112 := ta_nil underlying185 zero112; have HQ : Hid (OutN w0 w (uni b Fa Fp Fl) b r [] (.returned (.slice none 0 0)) w) := OutN.self h.rs (Fr.refl _ _); clear h; go_enter func77, ntmps77; go_wp2; go_ret; exact HQ.out
end
section
variable {w0 w : World} {b ba bp bl : Nat} {Fa Fp Fl : Nat → Prop} {r : R}
theorem kd_cases (x : NT) : Rm.kd x = 1 ∨ Rm.kd x = 2 ∨ (Rm.kd x = 3 ∧ x.v.length = 1) ∨ (Rm.kd x = 4 ∧ x.v.length = 1) ∨ Rm.kd x = 5 ∨ Rm.kd x = 6 ∨ Rm.kd x = 0 := by
 unfold Rm.kd; split
 ·exact .inl rfl
 split
 ·exact .inr (.inl rfl)
 split
 ·next h => exact .inr (.inr (.inl ⟨rfl, h.2⟩))
 split
 ·next h => exact .inr (.inr (.inr (.inl ⟨rfl, h.2⟩)))
 split
 ·exact .inr (.inr (.inr (.inr (.inl rfl))))
 split
 ·exact .inr (.inr (.inr (.inr (.inr (.inl rfl)))))
 ·exact .inr (.inr (.inr (.inr (.inr (.inr rfl)))))
theorem RP.do_any (h : RP w0 w b ba bp bl Fa Fp Fl r) (y : RN) (hx : XL vl w y.ad y.c y.x.v) (hap : 0 < y.x.v.length → ∀ k, blk y.ad k → k < w.heap.size ∧ ¬ uni b Fa Fp Fl k) (hwf : ∀ x ∈ y.x.v, (Lit.int .i64 x.s).wf = true) (hc1 : r.p.c + y.x.v.length ≤ 900000) (hc2 : r.l.c + y.x.v.length ≤ 900000) :
  Calls prog 77 #[ptr b, sdV y] w (OutN w0 w (uni b Fa Fp Fl) b (Rm.doS r y.x) (Rm.doN r y.x)) := by
 obtain ⟨⟨k, f, t, s, ⟨bi, bt⟩, v⟩, ad, c⟩ := y; simp only at hx hap hwf hc1 hc2; rcases kd_cases ⟨k, f, t, s, ⟨bi, bt⟩, v⟩ with e | e | ⟨e, hl⟩ | ⟨e, hl⟩ | e | e | e
 ·rw [sdV_of e]; unfold Rm.doS Rm.doN; rw [e]; exact h.do1 f s ⟨bi, bt⟩
 ·rw [sdV_of e]; unfold Rm.doS Rm.doN; rw [e]; exact h.do2 f ⟨bi, bt⟩ ad c v hx hap hc1
 ·obtain ⟨x, rfl⟩ := List.length_eq_one_iff.1 hl; rw [sdV_of e]; unfold Rm.doS Rm.doN; rw [e]; exact h.do3 x
 ·obtain ⟨x, rfl⟩ := List.length_eq_one_iff.1 hl; rw [sdV_of e]; unfold Rm.doS Rm.doN; rw [e]; exact h.do4 f x (hwf x (by simp)) (by simp at hc2; omega)
 ·rw [sdV_of e]; unfold Rm.doS Rm.doN; rw [e]; exact h.do5 f s
 ·rw [sdV_of e]; unfold Rm.doS Rm.doN; rw [e]; exact h.do6 ad c v hx hap hwf hc2
 ·rw [sdV_of e]; unfold Rm.doS Rm.doN; rw [e]; exact h.do0
theorem RP.take (h : RP w0 w b ba bp bl Fa Fp Fl r) (y : RN) (hx : XL vl w y.ad y.c y.x.v) (hap : 0 < y.x.v.length → ∀ k, blk y.ad k → k < w.heap.size ∧ ¬ uni b Fa Fp Fl k) (hwf : ∀ x ∈ y.x.v, (Lit.int .i64 x.s).wf = true) (hc1 : r.p.c + y.x.v.length ≤ 900000) (hc2 : r.l.c + y.x.v.length ≤ 900000) :
  Calls prog 45 #[ptr b, nV y] w (OutN w0 w (uni b Fa Fp Fl) b (Rm.tkS r y.x) (Rm.tkN r y.x)) := by
 obtain ⟨⟨k, f, t, s, ⟨bi, bt⟩, v⟩, ad, c⟩ := y; simp only at hx hap hwf hc1 hc2; obtain ⟨W1, HW1⟩ := Nh (w.alloc (.cells #[.int .i64 k, .int .i64 f, .int .i64 t, .int .i64 s, .int .i64 bi, .int .i64 bt, .slice ad v.length c] 72)); have hb1 := Ab HW1; have hz1 := Ac HW1; obtain ⟨g, hg⟩ := Nq (w.heap.size); rw [hg] at hz1; have hnu : ¬ uni b Fa Fp Fl g := fun e => by have := (h.mine _ e).2; omega
 have H1 := Hf (h.keep hb1); have HZ1 := Hf hz1; have HB1 := Hf hb1; have HG := Hf hg; have HX := Hf hx; have HAP := Hf hap; have HWF := Hf hwf; have HC1 := Hf hc1; have HC2 := Hf hc2; obtain ⟨SQ, HSQ⟩ : ∃ SQ : World → Prop, Hid (SQ = fun wq => wq.heap[b]? = some (rrow r ba bp bl) ∧ wq.heap[g]? = some (.cells #[.int .i64 k, .int .i64 f, .int .i64 t, .int .i64 s, .int .i64 bi, .int .i64 bt, .slice ad v.length c] 72 (0, 0))) := ⟨_, Hf rfl⟩; have HS : Hid (∀ wq, SQ wq → (wq.cell? ⟨b, 0, none⟩ = some (.int .i64 r.n) ∧ wq.cell? ⟨b, 1, none⟩ = some (.int .i64 r.me) ∧ wq.cell? ⟨b, 2, none⟩ = some (ptr ba) ∧ wq.cell? ⟨b, 3, none⟩ = some (ptr bp) ∧ wq.cell? ⟨b, 4, none⟩ = some (ptr bl)) ∧ (wq.cell? ⟨g, 0, none⟩ = some (.int .i64 k) ∧ wq.cell? ⟨g, 1, none⟩ = some (.int .i64 f) ∧ wq.cell? ⟨g, 2, none⟩ = some (.int .i64 t) ∧ wq.cell? ⟨g, 3, none⟩ = some (.int .i64 s) ∧ wq.cell? ⟨g, 4, none⟩ = some (.int .i64 bi) ∧ wq.cell? ⟨g, 5, none⟩ = some (.int .i64 bt) ∧ wq.cell? ⟨g, 6, none⟩ = some (.slice ad v.length c))) := fun wq hq => by
  rw [HSQ.out] at hq; exact ⟨(row5 hq.1).1, (row7 hq.2).1⟩
 have SK : Hid (∀ w', w'.heap[b]? = some (rrow r ba bp bl) → w'.heap[g]? = some (.cells #[.int .i64 k, .int .i64 f, .int .i64 t, .int .i64 s, .int .i64 bi, .int .i64 bt, .slice ad v.length c] 72 (0, 0)) → SQ w') := fun w' h1 h2 => by rw [HSQ.out]; exact ⟨h1, h2⟩
 clear HSQ; have HSI : Hid (SQ W1.drew) := SK.out _ H1.out.row hz1; simp only [nV]; clear h hb1 hz1 hx hap hwf hc1 hc2 hg; by_cases ht : t = r.me
 ·subst ht; cases hi : Rm.isN r f with
  | false =>
   have HTB : Rm.tkb r ⟨k, f, r.me, s, ⟨bi, bt⟩, v⟩ = false := by unfold Rm.tkb; simp only; rw [hi, Bool.and_false]
   have HQ : Hid (∀ w', Bl W1 w' → OutN w0 w (uni b Fa Fp Fl) b (Rm.tkS r ⟨k, f, r.me, s, ⟨bi, bt⟩, v⟩) (Rm.tkN r ⟨k, f, r.me, s, ⟨bi, bt⟩, v⟩) (.returned (.slice none 0 0)) w') := fun w' hw' => by
    have hb : Rm.tkb r ⟨k, f, r.me, s, ⟨bi, bt⟩, v⟩ = false := HTB; unfold Rm.tkS Rm.tkN; rw [hb]; exact OutN.self (H1.out.keep hw').rs (Fr.ofBelow (Bu HB1.out hw' Lr))
   clear HTB; go_enter func45, ntmps45; go_upto_region 1 with fail
   rw [HW1.out]; clear HW1; rw [HG.out]; refine Wm (fun wq => SQ wq) HSI.out fun wdx hBwd Hl => ?_; refine Tm 0 Hl ?_; simp only [Act.put, Pz]; refine Tm 1 Hl ?_; simp only [Act.put, Pz]; refine Tm 2 Hl ?_; simp only [Act.put, Pz]; refine Tm 3 Hl ?_; simp only [Act.put, Pz]; refine Tj 4 Hl ?_; simp only [Act.put, Pz]; refine Tm 5 Hl ?_; simp only [Act.put, Pz]; refine Tm 6 Hl ?_; simp only [Act.put, Pz]; refine Tm 7 Hl ?_; simp only [Act.put, Pz]; refine Tj 8 Hl ?_; simp only [Act.put, Pz]; refine Tm 9 Hl ?_; simp only [Act.put, Pz]; refine Tm 10 Hl ?_; simp only [Act.put, Pz]; refine Tm 11 Hl ?_; simp only [Act.put, Pz]; refine Tm 12 Hl ?_; simp only [Act.put, Pz]; refine Tm 13 Hl ?_; simp only [Act.put, Pz]; refine Tj 14 Hl ?_; simp only [Act.put, Pz]; refine Rd 15 ?pP ?sP; intro K hK; go_simp; refine (isNode_any (Br H1.out.row hBwd) f).mono ?_; rintro e v15 ⟨he, hv⟩; subst hv; rw [hi] at he; subst he; refine hK.out _ _ Hl fun Hl => ?_; refine Tm 16 Hl ?_; simp only [Act.put, Pz]; refine Tm 17 Hl ?_; simp only [Act.put, Pz]; refine Wd ?_; have HBQ := Hf (HQ.out _ hBwd); go_wp2; go_ret; exact HBQ.out
  | true =>
   have HTB : Rm.tkb r ⟨k, f, r.me, s, ⟨bi, bt⟩, v⟩ = true := by unfold Rm.tkb; simp [hi]
   go_enter func45, ntmps45; go_upto_region 1 with fail; rw [HW1.out]; clear HW1; rw [HG.out]; refine Wm (fun wq => SQ wq) HSI.out fun wdy hBwd Hl => ?_; refine Tm 0 Hl ?_; simp only [Act.put, Pz]; refine Tm 1 Hl ?_; simp only [Act.put, Pz]; refine Tm 2 Hl ?_; simp only [Act.put, Pz]; refine Tm 3 Hl ?_; simp only [Act.put, Pz]; refine Tj 4 Hl ?_; simp only [Act.put, Pz]; refine Tm 5 Hl ?_; simp only [Act.put, Pz]; refine Tm 6 Hl ?_; simp only [Act.put, Pz]; refine Tm 7 Hl ?_; simp only [Act.put, Pz]; refine Tj 8 Hl ?_; simp only [Act.put, Pz]; refine Tm 9 Hl ?_; simp only [Act.put, Pz]; refine Tm 10 Hl ?_; simp only [Act.put, Pz]; refine Tm 11 Hl ?_; simp only [Act.put, Pz]; refine Tm 12 Hl ?_; simp only [Act.put, Pz]; refine Tm 13 Hl ?_; simp only [Act.put, Pz]; refine Tj 14 Hl ?_; simp only [Act.put, Pz]; refine Rd 15 ?ph ?sh; intro K hK; go_simp; refine (isNode_any (Br H1.out.row hBwd) f).mono ?_; rintro e v15 ⟨he, hv⟩; subst hv; rw [hi] at he; subst he; refine hK.out _ _ Hl fun Hl => ?_; refine Tm 16 Hl ?_; simp only [Act.put, Pz]; refine Tm 17 Hl ?_; simp only [Act.put, Pz]; refine Wd ?_; have HBQ := Hf hBwd; have H2 := H1.out.keep hBwd; have hx2 := (HX.out.keep HB1.out).keep hBwd; have hap2 : 0 < v.length → ∀ k, blk ad k → k < v15.heap.size ∧ ¬ uni b Fa Fp Fl k := fun h0 k hk => ⟨Nat.lt_of_lt_of_le (HAP.out h0 k hk).1 (Bu HB1.out hBwd Lr).size, (HAP.out h0 k hk).2⟩; have hz2 := Br HZ1.out hBwd; obtain ⟨x0, -⟩ := row7 hz2
   have cs := said_any ⟨⟨k, f, r.me, s, ⟨bi, bt⟩, v⟩, ad, c⟩ v15 hx2; have H2 := Hf H2; have HX2 := Hf hx2; have HAP2 := Hf hap2; have HYES : Hid (Rm.tkb r ⟨k, f, r.me, s, ⟨bi, bt⟩, v⟩ = true) := HTB; clear hx2 hap2 hz2; go_wp2_with fail; refine cs.mono ?_; clear cs x0; rintro e w3 ⟨rfl, hb3⟩; have cd := (H2.out.keep hb3).do_any ⟨⟨k, f, r.me, s, ⟨bi, bt⟩, v⟩, ad, c⟩ (HX2.out.keep hb3) (fun h0 q hq => ⟨Nat.lt_of_lt_of_le (HAP2.out h0 q hq).1 hb3.size, (HAP2.out h0 q hq).2⟩) HWF.out HC1.out HC2.out; have HB3 := Hf (Bu (Bu HB1.out HBQ.out Lr) hb3 Lr); generalize sdV _ = sv at *; clear hb3; go_wp2_with fail; refine cd.mono ?_; clear cd; rintro e w4 ho; have HO : Hid (OutN w0 w (uni b Fa Fp Fl) b (Rm.tkS r ⟨k, f, r.me, s, ⟨bi, bt⟩, v⟩) (Rm.tkN r ⟨k, f, r.me, s, ⟨bi, bt⟩, v⟩) e w4) := by
    unfold Rm.tkS Rm.tkN; rw [HYES.out]; exact outN_up HB3.out ho
   obtain ⟨u, G, rfl, -⟩ := ho; go_wp2; go_ret; exact HO.out
 ·have dt : (t != r.me) = true := by simpa using ht
  have HTB : Rm.tkb r ⟨k, f, t, s, ⟨bi, bt⟩, v⟩ = false := by unfold Rm.tkb; simp only; rw [decide_eq_false ht, Bool.false_and]
  have HQ : Hid (∀ w', Bl W1 w' → OutN w0 w (uni b Fa Fp Fl) b (Rm.tkS r ⟨k, f, t, s, ⟨bi, bt⟩, v⟩) (Rm.tkN r ⟨k, f, t, s, ⟨bi, bt⟩, v⟩) (.returned (.slice none 0 0)) w') := fun w' hw' => by
   have hb : Rm.tkb r ⟨k, f, t, s, ⟨bi, bt⟩, v⟩ = false := HTB; unfold Rm.tkS Rm.tkN; rw [hb]; exact OutN.self (H1.out.keep hw').rs (Fr.ofBelow (Bu HB1.out hw' Lr))
  clear HTB ht; go_enter func45, ntmps45; go_upto_region 1 with fail
  rw [HW1.out]; clear HW1; rw [HG.out]; refine Wm (fun wq => SQ wq) HSI.out fun wdz hBwd Hl => ?_; refine Tm 0 Hl ?_; simp only [Act.put, Pz]; refine Tm 1 Hl ?_; simp only [Act.put, Pz]; refine Tm 2 Hl ?_; simp only [Act.put, Pz]; refine Tm 3 Hl ?_; simp only [Act.put, Pz]; refine Tj 4 Hl ?_; simp only [Act.put, Pz]; refine Tm 5 Hl ?_; simp only [Act.put, Pz]; refine Tm 6 Hl ?_; simp only [Act.put, Pz]; refine Tm 7 Hl ?_; simp only [Act.put, Pz]; refine Tj 8 Hl ?_; simp only [Act.put, Pz]; refine Tm 9 Hl ?_; simp only [Act.put, Pz]; refine Tm 10 Hl ?_; simp only [Act.put, Pz]; refine Tm 11 Hl ?_; simp only [Act.put, Pz]; refine Ts 12 Hl ?_; simp only [Act.put, Pz]; refine Ts 13 Hl ?_; simp only [Act.put, Pz]; refine Ts 14 Hl ?_; simp only [Act.put, Pz]; refine Ts 15 Hl ?_; simp only [Act.put, Pz]; refine Ts 16 Hl ?_; simp only [Act.put, Pz]; refine Tm 17 Hl ?_; simp only [Act.put, Pz]; refine Wd ?_; have HBQ := Hf (HQ.out _ hBwd); go_wp2; go_ret; exact HBQ.out
end
end Go.Proofs.YtgodnpngdbelhaaGreat
namespace Go.Proofs.YtgodnpngdbelhaaGreat
open Go.RowKit Go.Maps
open M (E V)
open Rm (NT R)
namespace Rm
end Rm
theorem AtL.getN {w : World} {a : Option Addr} {l : List RN} (h : AtL nl w a l) (j : Nat) (hj : j < l.length) : ∃ b off, a = some ⟨b, off, none⟩ ∧ w.cell? ⟨b, off + j * 7, none⟩ = some (.int .i64 l[j].x.k) ∧ w.cell? ⟨b, off + j * 7 + 1, none⟩ = some (.int .i64 l[j].x.f) ∧ w.cell? ⟨b, off + j * 7 + 2, none⟩ = some (.int .i64 l[j].x.t) ∧ w.cell? ⟨b, off + j * 7 + 3, none⟩ = some (.int .i64 l[j].x.s) ∧ w.cell? ⟨b, off + j * 7 + 4, none⟩ = some (.int .i64 l[j].x.b.i) ∧ w.cell? ⟨b, off + j * 7 + 5, none⟩ = some (.int .i64 l[j].x.b.t) ∧ w.cell? ⟨b, off + j * 7 + 6, none⟩ = some (.slice l[j].ad l[j].x.v.length l[j].c) := by
 obtain ⟨b, off, e, h0⟩ := h j hj; exact ⟨b, off, e, h0 0 (by decide), h0 1 (by decide), h0 2 (by decide), h0 3 (by decide), h0 4 (by decide), h0 5 (by decide), h0 6 (by decide)⟩
structure OB (w : World) (base : Nat) (G : Nat → Prop) (v : Value) (ys : List RN) : Prop where
 ow : OW w base v ys
 own : ∀ k, v.ownBlock = some k → ¬ G k
 all : ∀ y ∈ ys, ∀ k, blk y.ad k → ¬ G k
theorem OB.fr {w w' : World} {base : Nat} {G G' : Nat → Prop} {v : Value} {ys : List RN} (h : OB w base G v ys) (hf : Fr w G w' G') : OB w' base G' v ys := by
 refine ⟨⟨h.ow.own.keepBut fun k hk hk2 => hf.block k hk (h.own k hk2), fun y hy => ?_⟩, fun k hk => not_n hf (h.own k hk) (h.ow.own.lt hk).2, fun y hy k hk => not_n hf (h.all y hy k hk) ((h.ow.all y hy).blk k hk).1⟩; have h1 := h.ow.all y hy; exact ⟨h1.xl.keepBut fun k hk hk2 => hf.block k hk (h.all y hy k hk2), fun k hk => ⟨Nat.lt_of_lt_of_le (h1.blk k hk).1 hf.size, (h1.blk k hk).2⟩⟩
theorem RS.mine {w0 w : World} {F : Nat → Prop} {b : Nat} {r : R} (h : RS w0 w F b r) : ∀ k, F k → w0.heap.size ≤ k ∧ k < w.heap.size := by
 obtain ⟨ba, bp, bl, Fa, Fp, Fl, rfl, hp⟩ := h; exact hp.mine
theorem RS.bel {w0 w : World} {F : Nat → Prop} {b : Nat} {r : R} (h : RS w0 w F b r) : Bl w0 w := by
 obtain ⟨ba, bp, bl, Fa, Fp, Fl, rfl, hp⟩ := h; exact hp.bel
theorem RS.keep {w0 w w' : World} {F : Nat → Prop} {b : Nat} {r : R} (h : RS w0 w F b r) (hb : Bl w w') : RS w0 w' F b r := by
 obtain ⟨ba, bp, bl, Fa, Fp, Fl, rfl, hp⟩ := h; exact (hp.keep hb).rs
theorem RS.step {w0 w w' : World} {F H H' : Nat → Prop} {b : Nat} {r : R} (h : RS w0 w F b r) (hF : Fr w H w' H') (hap : ∀ k, F k → ¬ H k) (hH : ∀ k, H k → w0.heap.size ≤ k) : RS w0 w' F b r := by
 obtain ⟨ba, bp, bl, Fa, Fp, Fl, rfl, hp⟩ := h; exact RP.rs ⟨(hF.block b hp.lt (hap b (.inl rfl))).trans hp.row, (hp.ac.step hF (fun k hk => hap k (.inr (.inl hk))) hH).1, (hp.ps.step hF (fun k hk => hap k (.inr (.inr (.inl hk)))) hH).1, (ls_step hp.ls hF (fun k hk => hap k (.inr (.inr (.inr hk)))) hH).1, hp.ap, hp.al, hp.pl, hp.nb, hp.lo, hp.nm⟩
theorem rw_fr {w w' : World} {v v' : Value} (h : Rw w v w' v') : Fr w (fun k => v.ownBlock = some k) w' (fun k => v'.ownBlock = some k) :=
 ⟨h.g.os, h.g.tape, h.g.output, h.g.size, fun k hk hn => h.g.block k hk (fun e => hn e.symm), h.n⟩
end Go.Proofs.YtgodnpngdbelhaaGreat
namespace Go.Proofs.YtgodnpngdbelhaaGreat
open M (E V)
open Rm (NT R)
end Go.Proofs.YtgodnpngdbelhaaGreat
namespace Go.Proofs.YtgodnpngdbelhaaGreat
open Go.RowKit Go.Maps
open M (E V)
open Rm (NT R)
theorem tl_at {w : World} {k : Nat} {l : List ByteArray} (h : w.heap[k]? = some (.cells (Nl.tl.cells l).toArray 9 (0, 0))) : AtL Nl.tl w (some ⟨k, 0, none⟩) l := by
 intro j hj; refine ⟨k, 0, rfl, fun q hq => ?_⟩; rw [cell_of_row w _ _ _ _ _ h, List.getElem?_toArray, Nat.zero_add]; exact Nl.tl.get _ j hj q hq
end Go.Proofs.YtgodnpngdbelhaaGreat
namespace Go.Proofs.YtgodnpngdbelhaaGreat.Rm
open Go.Proofs.YtgodnpngdbelhaaGreat.M (E V cmpE cmpE_three)
theorem cmp_le {a b : E} : cmpE a b ≤ 0 ↔ (a.i < b.i ∨ (a.i = b.i ∧ a.t ≤ b.t)) := by
 rcases cmpE_three a b with ⟨h, e⟩ | ⟨h, e⟩ | ⟨h, e⟩ <;> rw [e] <;> omega
theorem cmp_lt' {a b : E} : 0 < cmpE a b ↔ (b.i < a.i ∨ (a.i = b.i ∧ b.t < a.t)) := by
 rcases cmpE_three a b with ⟨h, e⟩ | ⟨h, e⟩ | ⟨h, e⟩ <;> rw [e] <;> omega
theorem cmp_ge {a b : E} : 0 ≤ cmpE a b ↔ (b.i < a.i ∨ (a.i = b.i ∧ b.t ≤ a.t)) := by
 rcases cmpE_three a b with ⟨h, e⟩ | ⟨h, e⟩ | ⟨h, e⟩ <;> rw [e] <;> omega
section
variable {p p' : Np.M.S} {ap ap' : E} {l : List V}
theorem grt_ge (a b : E) : cmpE b (Np.M.grt a b) ≤ 0 ∧ cmpE a (Np.M.grt a b) ≤ 0 := by
 unfold Np.M.grt; split
 ·next h => rw [cmp_lt'] at h; constructor <;> (rw [cmp_le]; omega)
 ·next h => rw [cmp_lt'] at h; constructor <;> (rw [cmp_le]; omega)
theorem lde_is (ok : Np.M.Ok p) {a : E} {k : Int} (h : Np.M.ldc p a k = 0) : 0 < cmpE (Np.M.lde p a k) a ∧ M.vld (Np.M.lde p a k) = true ∧ (Np.M.lds p a k).b = Np.M.lde p a k ∧ (Np.M.lds p a k).st = 1 := by
 have hv : M.vld a = true ∧ ¬ 2147483647 ≤ (Np.M.grt a p.b).i := by
  unfold Np.M.ldc at h
  split at h
  ·next h1 =>
   simp only [Bool.and_eq_true] at h1; refine ⟨h1.1, fun h2 => ?_⟩; rw [if_pos h2] at h; omega
  ·omega
 obtain ⟨hv, hg⟩ := hv; unfold M.vld at hv; simp only [Bool.and_eq_true, decide_eq_true_eq] at hv; obtain ⟨g1, g2⟩ := grt_ge a p.b; have hm0 := ok.m0; have hm1 := ok.m1; have hn := ok.n7; have e1 : Np.M.lde p a k = M.nxt (Np.M.grt a p.b) p.me := by unfold Np.M.lde; rw [if_pos h]
 have e2 : Np.M.lds p a k = { Np.M.enter p 1 (M.nxt (Np.M.grt a p.b) p.me) with ask := k, fin := k, nx := k } := by unfold Np.M.lds; rw [if_pos h]
 rw [cmp_le] at g1 g2; have e3 : M.nxt (Np.M.grt a p.b) p.me = ⟨(Np.M.grt a p.b).i + 1, M.nod p.me⟩ := by unfold M.nxt; rw [if_neg (by omega)]
 have e4 : M.nod p.me = p.me := by unfold M.nod; omega
 rw [e1, e2, e3, e4]; refine ⟨?_, ?_, rfl, rfl⟩
 ·rw [cmp_lt']; simp only; omega
 ·unfold M.vld; simp only [Bool.and_eq_true, decide_eq_true_eq]; omega
end
section
variable {n me : Int} {r : R} {l : List V}
end
end Go.Proofs.YtgodnpngdbelhaaGreat.Rm
