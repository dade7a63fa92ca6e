/-
  What was said is done; a note is taken.
-/
import Derived.Test.YtgodnpngdbelhaaG22
namespace Go.Proofs.Ytgodnpngdbelhaa
open Go.RowKit Go.Maps
set_option linter.unusedVariables false
open M (E V)
open Rm (NT R)

theorem outN_up {w0 w w1 w' : World} {F : Nat → Prop} {b : Nat} {r' : R} {l : List NT} {e : Ending} (hb : Below w.heap.size w w1) (h : OutN w0 w1 F b r' l e w') : OutN w0 w F b r' l e w' := by
  obtain ⟨u, G, he, ⟨ys, h1, h2⟩, h4, h5⟩ := h
  exact ⟨u, G, he, ⟨ys, h1.low hb.size, h2⟩, h4, (Fr.ofBelow hb).trans h5⟩
theorem q6L_c : ∀ (v : List V) (l : Nl.M.S), (Rm.q6L l v).c ≤ l.c + v.length
  | [], l => Nat.le_refl _
  | x :: v, l => by
    have h1 := q6L_c v (Nl.M.ts l x.s x.v)
    have h2 := ts_c l x.s x.v
    have e : Rm.q6L l (x :: v) = Rm.q6L (Nl.M.ts l x.s x.v) v := rfl
    rw [e, List.length_cons]
    omega
theorem OutN.self {w0 w w' : World} {F G : Nat → Prop} {b : Nat} {r' : R} (h : RS w0 w' G b r') (hf : Fr w F w' G) : OutN w0 w F b r' [] (.returned (.slice none 0 0)) w' := ⟨_, _, rfl, NO.nil _ _ _, h, hf⟩
section
variable {w0 w : World} {b ba bp bl : Nat} {Fa Fp Fl : Nat → Prop} {r : R}
set_option maxRecDepth 100000
set_option maxHeartbeats 2000000
theorem RP.do1 (h : RP w0 w b ba bp bl Fa Fp Fl r) (f s : Int) (x : E) : Calls Try.prog 55 #[ptr b, .iface 114 (.agg #[.int .i64 f, .int .i64 s, .int .i64 x.i, .int .i64 x.t])] w (OutN w0 w (uni b Fa Fp Fl) b (Rm.q1S r x s) (Rm.q1N r f x s)) := by
  have t97 := ta_yes Try.underlying114
  obtain ⟨W1, HW1⟩ : ∃ W1, Hid (w.alloc (.cells #[.int .i64 f, .int .i64 s, .int .i64 x.i, .int .i64 x.t] 114) = W1) := ⟨_, Hid_of rfl⟩
  have hb1 : Below w.heap.size w W1 := by rw [← HW1.out]; exact bel1 w _
  have hz1 : W1.heap[w.heap.size]? = some (.cells #[.int .i64 f, .int .i64 s, .int .i64 x.i, .int .i64 x.t] 114 (0, 0)) := by rw [← HW1.out]; exact heap_alloc_last w _
  obtain ⟨⟨x0, x1, x2, x3⟩, -⟩ := row4 hz1
  have cc := (h.keep hb1).prepare f s x
  have HB1 := Hid_of hb1
  clear h hb1 hz1 
  go_enter Try.func55, Try.ntmps55
  go_upto_region 4 with fail
  rw [HW1.out]
  clear HW1 t97
  go_wp2_with fail
  refine cc.mono ?_
  clear cc
  rintro e w2 ho
  have HO := Hid_of (outN_up HB1.out ho)
  obtain ⟨u, G, rfl, -⟩ := ho
  clear x0 x1 x2 x3
  go_wp2
  go_ret
  exact HO.out
theorem RP.do2 (h : RP w0 w b ba bp bl Fa Fp Fl r) (f : Int) (x : E) (ad : Option Addr) (c : Nat) (l : List V) (hx : XL vl w ad c l) (hap : 0 < l.length → ∀ k, blk ad k → k < w.heap.size ∧ ¬ uni b Fa Fp Fl k) (hcl : r.p.c + l.length ≤ 900000) : Calls Try.prog 55 #[ptr b, .iface 117 (.agg #[.int .i64 f, .int .i64 x.i, .int .i64 x.t, .slice ad l.length c])] w (OutN w0 w (uni b Fa Fp Fl) b (Rm.q2S r f x l) (Rm.q2N r f x l)) := by
  have t97 := ta_no (T := 117) Try.underlying114 zero114 (by decide)
  have t100 := ta_yes Try.underlying117
  obtain ⟨W1, HW1⟩ : ∃ W1, Hid (w.alloc (.cells #[.int .i64 f, .int .i64 x.i, .int .i64 x.t, .slice ad l.length c] 117) = W1) := ⟨_, Hid_of rfl⟩
  have hb1 : Below w.heap.size w W1 := by rw [← HW1.out]; exact bel1 w _
  have hz1 : W1.heap[w.heap.size]? = some (.cells #[.int .i64 f, .int .i64 x.i, .int .i64 x.t, .slice ad l.length c] 117 (0, 0)) := by rw [← HW1.out]; exact heap_alloc_last w _
  obtain ⟨⟨x0, x1, x2, x3⟩, -⟩ := row4 hz1
  have cc := (h.keep hb1).promise f x ad c l (hx.keep hb1) (fun h0 k hk => ⟨Nat.lt_of_lt_of_le (hap h0 k hk).1 hb1.size, (hap h0 k hk).2⟩) hcl
  have HB1 := Hid_of hb1
  clear h hb1 hz1 hx hap hcl
  go_enter Try.func55, Try.ntmps55
  go_upto_region 7 with fail
  rw [HW1.out]
  clear HW1 t97 t100
  go_wp2_with fail
  refine cc.mono ?_
  clear cc
  rintro e w2 ho
  have HO := Hid_of (outN_up HB1.out ho)
  obtain ⟨u, G, rfl, -⟩ := ho
  clear x0 x1 x2 x3
  go_wp2
  go_ret
  exact HO.out
theorem RP.do3 (h : RP w0 w b ba bp bl Fa Fp Fl r) (x : V) : Calls Try.prog 55 #[ptr b, .iface 120 (.agg #[.int .i64 x.s, .int .i64 x.b.i, .int .i64 x.b.t, .string x.v])] w (OutN w0 w (uni b Fa Fp Fl) b (Rm.q3S r x) (Rm.q3N r x)) := by
  have t97 := ta_no (T := 120) Try.underlying114 zero114 (by decide)
  have t100 := ta_no (T := 120) Try.underlying117 zero100 (by decide)
  have t103 := ta_yes Try.underlying120
  obtain ⟨W1, HW1⟩ : ∃ W1, Hid (w.alloc (.cells #[.int .i64 x.s, .int .i64 x.b.i, .int .i64 x.b.t, .string x.v] 120) = W1) := ⟨_, Hid_of rfl⟩
  have hb1 : Below w.heap.size w W1 := by rw [← HW1.out]; exact bel1 w _
  have hz1 : W1.heap[w.heap.size]? = some (.cells #[.int .i64 x.s, .int .i64 x.b.i, .int .i64 x.b.t, .string x.v] 120 (0, 0)) := by rw [← HW1.out]; exact heap_alloc_last w _
  obtain ⟨⟨x0, x1, x2, x3⟩, -⟩ := row4 hz1
  have cc := (h.keep hb1).accept x
  have HB1 := Hid_of hb1
  clear h hb1 hz1 
  go_enter Try.func55, Try.ntmps55
  go_upto_region 10 with fail
  rw [HW1.out]
  clear HW1 t97 t100 t103
  go_wp2_with fail
  refine cc.mono ?_
  clear cc
  rintro e w2 ho
  have HO := Hid_of (outN_up HB1.out ho)
  obtain ⟨u, G, rfl, -⟩ := ho
  clear x0 x1 x2 x3
  go_wp2
  go_ret
  exact HO.out
theorem RP.do5 (h : RP w0 w b ba bp bl Fa Fp Fl r) (f s : Int) : Calls Try.prog 55 #[ptr b, .iface 126 (.agg #[.int .i64 f, .int .i64 s])] w (OutN w0 w (uni b Fa Fp Fl) b r (Rm.q5N r f s)) := by
  have t97 := ta_no (T := 126) Try.underlying114 zero114 (by decide)
  have t100 := ta_no (T := 126) Try.underlying117 zero100 (by decide)
  have t103 := ta_no (T := 126) Try.underlying120 zero103 (by decide)
  have t106 := ta_no (T := 126) Try.underlying123 zero106 (by decide)
  have t109 := ta_yes Try.underlying126
  obtain ⟨W1, HW1⟩ : ∃ W1, Hid (w.alloc (.cells #[.int .i64 f, .int .i64 s] 126) = W1) := ⟨_, Hid_of rfl⟩
  have hb1 : Below w.heap.size w W1 := by rw [← HW1.out]; exact bel1 w _
  have hz1 : W1.heap[w.heap.size]? = some (.cells #[.int .i64 f, .int .i64 s] 126 (0, 0)) := by rw [← HW1.out]; exact heap_alloc_last w _
  obtain ⟨⟨x0, x1⟩, -⟩ := row2 hz1
  have cc := (h.keep hb1).asked f s
  have HB1 := Hid_of hb1
  clear h hb1 hz1 
  go_enter Try.func55, Try.ntmps55
  go_upto_region 16 with fail
  rw [HW1.out]
  clear HW1 t97 t100 t103 t106 t109
  go_wp2_with fail
  refine cc.mono ?_
  clear cc
  rintro e w2 ho
  have HO := Hid_of (outN_up HB1.out ho)
  obtain ⟨u, G, rfl, -⟩ := ho
  clear x0 x1
  go_wp2
  go_ret
  exact HO.out
theorem RP.do4 (h : RP w0 w b ba bp bl Fa Fp Fl r) (f : Int) (x : V) (hwf : (Lit.int .i64 x.s).wf = true) (hc : r.l.c ≤ 900000) : Calls Try.prog 55 #[ptr b, .iface 123 (.agg #[.int .i64 f, .int .i64 x.s, .int .i64 x.b.i, .int .i64 x.b.t, .string x.v])] w (OutN w0 w (uni b Fa Fp Fl) b (Rm.q4S r f x) []) := by
  have t97 := ta_no (T := 123) Try.underlying114 zero114 (by decide)
  have t100 := ta_no (T := 123) Try.underlying117 zero100 (by decide)
  have t103 := ta_no (T := 123) Try.underlying120 zero103 (by decide)
  have t106 := ta_yes Try.underlying123
  obtain ⟨W1, HW1⟩ : ∃ W1, Hid (w.alloc (.cells #[.int .i64 f, .int .i64 x.s, .int .i64 x.b.i, .int .i64 x.b.t, .string x.v] 123) = W1) := ⟨_, Hid_of rfl⟩
  have hb1 : Below w.heap.size w W1 := by rw [← HW1.out]; exact bel1 w _
  have hz1 : W1.heap[w.heap.size]? = some (.cells #[.int .i64 f, .int .i64 x.s, .int .i64 x.b.i, .int .i64 x.b.t, .string x.v] 123 (0, 0)) := by rw [← HW1.out]; exact heap_alloc_last w _
  obtain ⟨g, hg⟩ : ∃ g, w.heap.size = g := ⟨_, rfl⟩
  rw [hg] at hz1
  have hnu : ¬ uni b Fa Fp Fl g := fun e => by have := (h.mine _ e).2; omega
  have H1 := Hid_of (h.keep hb1)
  have HZ1 := Hid_of hz1
  have HB1 := Hid_of hb1
  have HG := Hid_of hg
  obtain ⟨SQ, HSQ⟩ : ∃ SQ : World → Prop, Hid (SQ = fun wq => wq.heap[b]? = some (rrow r ba bp bl) ∧ wq.heap[g]? = some (.cells #[.int .i64 f, .int .i64 x.s, .int .i64 x.b.i, .int .i64 x.b.t, .string x.v] 123 (0, 0))) := ⟨_, Hid_of rfl⟩
  have HS : Hid (∀ wq, SQ wq → (wq.cell? ⟨b, 0, none⟩ = some (.int .i64 r.n) ∧ wq.cell? ⟨b, 1, none⟩ = some (.int .i64 r.me) ∧ wq.cell? ⟨b, 2, none⟩ = some (ptr ba) ∧ wq.cell? ⟨b, 3, none⟩ = some (ptr bp) ∧ wq.cell? ⟨b, 4, none⟩ = some (ptr bl)) ∧ (wq.cell? ⟨g, 0, none⟩ = some (.int .i64 f) ∧ wq.cell? ⟨g, 1, none⟩ = some (.int .i64 x.s) ∧ wq.cell? ⟨g, 2, none⟩ = some (.int .i64 x.b.i) ∧ wq.cell? ⟨g, 3, none⟩ = some (.int .i64 x.b.t) ∧ wq.cell? ⟨g, 4, none⟩ = some (.string x.v))) := fun wq hq => by
    rw [HSQ.out] at hq
    exact ⟨(row5 hq.1).1, (row5 hq.2).1⟩
  have SK : Hid (∀ w', w'.heap[b]? = some (rrow r ba bp bl) → w'.heap[g]? = some (.cells #[.int .i64 f, .int .i64 x.s, .int .i64 x.b.i, .int .i64 x.b.t, .string x.v] 123 (0, 0)) → SQ w') := fun w' h1 h2 => by rw [HSQ.out]; exact ⟨h1, h2⟩
  clear HSQ
  have HSI : Hid (SQ W1.drew) := SK.out _ H1.out.row hz1
  have HWF := Hid_of hwf
  have HC := Hid_of hc
  clear h hb1 hz1 hwf hc hg
  go_enter Try.func55, Try.ntmps55
  go_upto_region 13 with fail
  rw [HW1.out]
  clear HW1 t97 t100 t103 t106
  rw [HG.out]
  refine wp_region_held_drew (S := fun wq => SQ wq) (by kernel_rfl) HSI.out (fun hHeld => ?_)
  obtain ⟨wdx, hwdx⟩ : ∃ wd, W1.drew = wd := ⟨_, rfl⟩
  have hBwd : Below W1.heap.size W1 wdx := by rw [← hwdx]; exact Below.drew (Below.refl _ _)
  rw [hwdx] at hHeld ⊢
  clear hwdx
  refine Tm 0 ?p0x ?v0x hHeld ?r0x
  refine Tm 1 ?p1x ?v1x hHeld ?r1x
  refine Tm 2 ?p2x ?v2x hHeld ?r2x
  refine Tk 3 ?p3x ?v3x ?y3x hHeld ?r3x
  case y3x => intro wq hq; obtain ⟨⟨b0, b1, b2, b3, b4⟩, ⟨d0, d1, d2, d3, d4⟩⟩ := HS.out wq hq; go_simp; try with_reducible rfl
  refine Tm 4 ?p4x ?v4x hHeld ?r4x
  refine Tk 5 ?p5x ?v5x ?y5x hHeld ?r5x
  case y5x => intro wq hq; obtain ⟨⟨b0, b1, b2, b3, b4⟩, ⟨d0, d1, d2, d3, d4⟩⟩ := HS.out wq hq; go_simp; try with_reducible rfl
  refine Tm 6 ?p6x ?v6x hHeld ?r6x
  refine Tk 7 ?p7x ?v7x ?y7x hHeld ?r7x
  case y7x => intro wq hq; obtain ⟨⟨b0, b1, b2, b3, b4⟩, ⟨d0, d1, d2, d3, d4⟩⟩ := HS.out wq hq; go_simp; try with_reducible rfl
  simp only [Act.put, Pa, Pb, Pc]
  refine Rd 8 ?p8x ?s8x
  intro K hK
  go_simp
  refine ((H1.out.keep hBwd).ls.hear f x HWF.out HC.out).mono ?_
  rintro e v8 ⟨Gl, rfl, hl8, hf8⟩
  obtain ⟨hrp, hfu⟩ := (H1.out.keep hBwd).setL hl8 hf8
  have hz8 := (hfu.block g (Array.getElem?_eq_some_iff.1 (bel_row HZ1.out hBwd)).1 hnu).trans (bel_row HZ1.out hBwd)
  have S8 := SK.out v8 hrp.row hz8
  have HQ : Hid (OutN w0 w (uni b Fa Fp Fl) b (Rm.q4S r f x) [] (.returned (.slice none 0 0)) v8) := OutN.self hrp.rs (((Fr.ofBelow HB1.out).up hBwd).trans hfu)
  clear hl8 hf8 hrp hfu hz8
  refine hK.out _ _ S8 (fun hHeld => ?_)
  clear hK K
  refine wpAnyH_done (by kernel_rfl) ?_ _
  go_wp2
  go_ret
  exact HQ.out
theorem RP.do6 (h : RP w0 w b ba bp bl Fa Fp Fl r) (ad : Option Addr) (c : Nat) (l : List V) (hx : XL vl w ad c l) (hap : 0 < l.length → ∀ k, blk ad k → k < w.heap.size ∧ ¬ uni b Fa Fp Fl k) (hwf : ∀ x ∈ l, (Lit.int .i64 x.s).wf = true) (hc : r.l.c + l.length ≤ 900000) : Calls Try.prog 55 #[ptr b, .iface 129 (.agg #[.slice ad l.length c])] w (OutN w0 w (uni b Fa Fp Fl) b (Rm.q6S r l) []) := by
  have t97 := ta_no (T := 129) Try.underlying114 zero114 (by decide)
  have t100 := ta_no (T := 129) Try.underlying117 zero100 (by decide)
  have t103 := ta_no (T := 129) Try.underlying120 zero103 (by decide)
  have t106 := ta_no (T := 129) Try.underlying123 zero106 (by decide)
  have t109 := ta_no (T := 129) Try.underlying126 zero109 (by decide)
  have t112 := ta_yes Try.underlying129
  obtain ⟨W1, HW1⟩ : ∃ W1, Hid (w.alloc (.cells #[.slice ad l.length c] 129) = W1) := ⟨_, Hid_of rfl⟩
  have hb1 : Below w.heap.size w W1 := by rw [← HW1.out]; exact bel1 w _
  have hz1 : W1.heap[w.heap.size]? = some (.cells #[.slice ad l.length c] 129 (0, 0)) := by rw [← HW1.out]; exact heap_alloc_last w _
  obtain ⟨x0, -⟩ := row1 hz1
  have H1 := Hid_of (h.keep hb1)
  have HB1 := Hid_of hb1
  have HX := Hid_of (hx.keep hb1)
  have HAP : Hid (0 < l.length → ∀ k, blk ad k → k < W1.heap.size ∧ ¬ uni b Fa Fp Fl k) := fun h0 k hk => ⟨Nat.lt_of_lt_of_le (hap h0 k hk).1 hb1.size, (hap h0 k hk).2⟩
  have HWA := Hid_of hwf
  have HC := Hid_of hc
  have hll : l.length ≤ 900000 := by omega
  clear h hb1 hz1 hx hap hwf hc
  go_enter Try.func55, Try.ntmps55
  go_upto_region 19 with fail
  rw [HW1.out]
  clear HW1 t97 t100 t103 t106 t109 t112
  go_wp2_with fail
  go_loopw [56] (fun q wr => ∃ (j : Nat) (G : Nat → Prop), j ≤ l.length ∧ q = .int .i64 j ∧ RP w0 wr b ba bp bl Fa Fp G { r with l := Rm.q6L r.l (l.take j) } ∧ Fr W1 (uni b Fa Fp Fl) wr (uni b Fa Fp G)) (fun q _ => l.length - (intOf q).toNat)
  case atStart => exact ⟨0, Fl, Nat.zero_le _, rfl, by rw [List.take_zero]; exact H1.out, Fr.refl _ _⟩
  case round =>
    obtain ⟨j, G, hj, rfl, hr, hf⟩ := hrel
    by_cases hlt : j < l.length
    · have hjn : (j : Int) < (l.length : Int) := by omega
      have hxr := HX.out.keepBut (w' := wr) (fun k hk hk2 => hf.block k hk (HAP.out (by omega) k hk2).2)
      obtain ⟨g0, off0, eA, q0, q1, q2, q3⟩ := hxr.at'.getV j hlt
      have HQL : Hid (Rm.q6L r.l (l.take (j + 1)) = Nl.M.ts (Rm.q6L r.l (l.take j)) l[j].s l[j].v) := Hid_of (by rw [List.take_succ_eq_append_getElem hlt]; unfold Rm.q6L; rw [List.foldl_append]; rfl)
      have HCC : Hid ((Rm.q6L r.l (l.take j)).c ≤ r.l.c + j ∧ r.l.c + l.length ≤ 900000) := Hid_of ⟨by have := q6L_c (l.take j) r.l; rw [List.length_take] at this; omega, HC.out⟩
      have HWF := Hid_of (HWA.out _ (List.getElem_mem hlt))
      obtain ⟨x, HXX⟩ : ∃ x, l[j] = x := ⟨_, rfl⟩
      rw [HXX] at HQL HWF q0 q1 q2 q3
      clear HXX hxr
      obtain ⟨s, ⟨i, t⟩, v⟩ := x
      simp only at HQL HWF q0 q1 q2 q3
      obtain ⟨W2, HW2⟩ : ∃ W2, Hid (wr.alloc (.cells #[.int .i64 s, .int .i64 i, .int .i64 t, .string v] 84) = W2) := ⟨_, Hid_of rfl⟩
      have hb2 : Below wr.heap.size wr W2 := by rw [← HW2.out]; exact bel1 wr _
      have hbox : W2.heap[wr.heap.size]? = some (.cells #[.int .i64 s, .int .i64 i, .int .i64 t, .string v] 84 (0, 0)) := by rw [← HW2.out]; exact heap_alloc_last wr _
      have hng : ¬ uni b Fa Fp G wr.heap.size := fun e => by have := (hr.mine _ e).2; omega
      have hr2 := hr.keep hb2
      have HFj := Hid_of hf
      obtain ⟨g, hg⟩ : ∃ g, wr.heap.size = g := ⟨_, rfl⟩
      rw [hg] at hbox hng
      have HG := Hid_of hg
      obtain ⟨SQ2, HSQ2⟩ : ∃ SQ : World → Prop, Hid (SQ = fun wq => wq.heap[b]? = some (rrow r ba bp bl) ∧ wq.heap[g]? = some (.cells #[.int .i64 s, .int .i64 i, .int .i64 t, .string v] 84 (0, 0))) := ⟨_, Hid_of rfl⟩
      have HS2 : Hid (∀ wq, SQ2 wq → (wq.cell? ⟨b, 0, none⟩ = some (.int .i64 r.n) ∧ wq.cell? ⟨b, 1, none⟩ = some (.int .i64 r.me) ∧ wq.cell? ⟨b, 2, none⟩ = some (ptr ba) ∧ wq.cell? ⟨b, 3, none⟩ = some (ptr bp) ∧ wq.cell? ⟨b, 4, none⟩ = some (ptr bl)) ∧ (wq.cell? ⟨g, 0, none⟩ = some (.int .i64 s) ∧ wq.cell? ⟨g, 1, none⟩ = some (.int .i64 i) ∧ wq.cell? ⟨g, 2, none⟩ = some (.int .i64 t) ∧ wq.cell? ⟨g, 3, none⟩ = some (.string v))) := fun wq hq => by
        rw [HSQ2.out] at hq
        exact ⟨(row5 hq.1).1, (row4 hq.2).1⟩
      have SK2 : Hid (∀ w', w'.heap[b]? = some (rrow r ba bp bl) → w'.heap[g]? = some (.cells #[.int .i64 s, .int .i64 i, .int .i64 t, .string v] 84 (0, 0)) → SQ2 w') := fun w' h1 h2 => by rw [HSQ2.out]; exact ⟨h1, h2⟩
      clear HSQ2
      have HSI2 : Hid (SQ2 W2.drew) := SK2.out _ hr2.row hbox
      clear hr hf hg
      cases eA
      go_upto_region 22 with fail
      rw [HW2.out]
      clear HW2 q0 q1 q2 q3
      rw [HG.out]
      refine wp_region_held_drew (S := fun wq => SQ2 wq) (by kernel_rfl) HSI2.out (fun hHeld => ?_)
      obtain ⟨wdz, hwdz⟩ : ∃ wd, W2.drew = wd := ⟨_, rfl⟩
      have hBwd : Below W2.heap.size W2 wdz := by rw [← hwdz]; exact Below.drew (Below.refl _ _)
      rw [hwdz] at hHeld ⊢
      clear hwdz
      refine Tm 0 ?p0z ?v0z hHeld ?r0z
      refine Tm 1 ?p1z ?v1z hHeld ?r1z
      refine Tm 2 ?p2z ?v2z hHeld ?r2z
      refine Tk 3 ?p3z ?v3z ?y3z hHeld ?r3z
      case y3z => intro wq hq; obtain ⟨⟨b0, b1, b2, b3, b4⟩, ⟨d0, d1, d2, d3⟩⟩ := HS2.out wq hq; go_simp; try with_reducible rfl
      refine Tm 4 ?p4z ?v4z hHeld ?r4z
      refine Tk 5 ?p5z ?v5z ?y5z hHeld ?r5z
      case y5z => intro wq hq; obtain ⟨⟨b0, b1, b2, b3, b4⟩, ⟨d0, d1, d2, d3⟩⟩ := HS2.out wq hq; go_simp; try with_reducible rfl
      refine Tm 6 ?p6z ?v6z hHeld ?r6z
      refine Tk 7 ?p7z ?v7z ?y7z hHeld ?r7z
      case y7z => intro wq hq; obtain ⟨⟨b0, b1, b2, b3, b4⟩, ⟨d0, d1, d2, d3⟩⟩ := HS2.out wq hq; go_simp; try with_reducible rfl
      simp only [Act.put, Pa, Pb, Pc]
      refine Rd 8 ?p8z ?s8z
      intro K hK
      go_simp
      refine ((hr2.keep hBwd).ls.tell s v HWF.out (by show (Rm.q6L r.l (l.take j)).c ≤ 900000; have := HCC.out; omega)).mono ?_
      rintro e v8 ⟨Gl, rfl, hl8, hf8⟩
      obtain ⟨hrp, hfu⟩ := (hr2.keep hBwd).setL hl8 hf8
      have hz8 := (hfu.block g (Array.getElem?_eq_some_iff.1 (bel_row hbox hBwd)).1 hng).trans (bel_row hbox hBwd)
      have S8 := SK2.out v8 hrp.row hz8
      have HR8 := Hid_of hrp
      have HF8 := Hid_of ((HFj.out.trans ((Fr.ofBelow hb2).up hBwd)).trans hfu)
      clear hl8 hf8 hrp hfu hz8
      refine hK.out _ _ S8 (fun hHeld => ?_)
      clear hK K
      refine wpAnyH_done (by kernel_rfl) ?_ _
      go_wp2_with fail
      go_roundw
      case rel => exact ⟨j + 1, Gl, by omega, by go_num, by rw [HQL.out]; exact HR8.out, HF8.out⟩
      case measure => simp [intOf]; omega
    · obtain rfl : j = l.length := by omega
      have HQ : Hid (OutN w0 w (uni b Fa Fp Fl) b (Rm.q6S r l) [] (.returned (.slice none 0 0)) wr) := by
        rw [List.take_of_length_le (Nat.le_refl _)] at hr
        exact OutN.self hr.rs ((Fr.ofBelow HB1.out).trans hf)
      clear hr hf
      go_wp2
      go_ret
      exact HQ.out
theorem RP.do0 (h : RP w0 w b ba bp bl Fa Fp Fl r) : Calls Try.prog 55 #[ptr b, .nilIface] w (OutN w0 w (uni b Fa Fp Fl) b r []) := by
  have t97 := ta_nil Try.underlying114 zero114
  have t100 := ta_nil Try.underlying117 zero100
  have t103 := ta_nil Try.underlying120 zero103
  have t106 := ta_nil Try.underlying123 zero106
  have t109 := ta_nil Try.underlying126 zero109
  have t112 := ta_nil Try.underlying129 zero112
  have HQ : Hid (OutN w0 w (uni b Fa Fp Fl) b r [] (.returned (.slice none 0 0)) w) := OutN.self h.rs (Fr.refl _ _)
  clear h
  go_enter Try.func55, Try.ntmps55
  go_wp2
  go_ret
  exact HQ.out
end
end Go.Proofs.Ytgodnpngdbelhaa
