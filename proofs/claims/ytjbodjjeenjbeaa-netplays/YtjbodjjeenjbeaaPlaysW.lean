/-
  The law of anything done to a net, walked.
-/
import Derived.Test.YtjbodjjeenjbeaaRJ
namespace Go.Proofs.Ytjbodjjeenjbeaa
open Go.RowKit
set_option linter.unusedVariables false
open Nt (Pk)

theorem RO.stepX {w w' : World} {F G : Nat → Prop} {kb q : Nat} {a : Option Addr} {cap : Nat} {R : List Pk} {ka : Option Addr} {kc : Nat} {K : List (Int × Int)} (h : RO w (Fx F kb q) a cap R ka kc K) (hC : Ch w F w' G) : RO w' (Fx G kb q) a cap R ka kc K := by
  have h1 := h.keepBut (w' := w') (fun k hk hX => hC.block k hk (fun e => hX (.inl e))) hC.size
  refine ⟨h1.r, fun k e => ⟨fun hX => ?_, (h1.o k e).2⟩⟩
  obtain ⟨h2, h3⟩ := h.o k e
  rcases hX with hG | hX
  · exact hC.keepsOut (fun e => h2 (.inl e)) h3 hG
  · exact h2 (.inr hX)
section
variable {w0 w w' : World} {N : Int} {b : Nat} {F : Nat → Prop} {z : Nat} {L : List Pk} {C : Int → Int → Bool} {kb : Nat} {a : Option Addr} {cap : Nat} {R : List Pk} {ka : Option Addr} {kc : Nat} {K : List (Int × Int)}
theorem PY.keep (h : PY w0 w N b F z L C kb a cap R ka kc K) (hb : Below w.heap.size w w') : PY w0 w' N b F z L C kb a cap R ka kc K :=
  ⟨h.s.keep hb, h.x.keep hb, h.ro.keep hb, h.lk, h.ck, h.kn, h.lo⟩
theorem heap_alloc4 (w : World) (A B D E : Obj) : ((((w.alloc A).alloc B).alloc D).alloc E).heap[w.heap.size]? = some A ∧ ((((w.alloc A).alloc B).alloc D).alloc E).heap[w.heap.size + 1]? = some B ∧ ((((w.alloc A).alloc B).alloc D).alloc E).heap[w.heap.size + 2]? = some D ∧ ((((w.alloc A).alloc B).alloc D).alloc E).heap[w.heap.size + 3]? = some E := by
  obtain ⟨h1, h2, h3⟩ := heap_alloc3 w A B D
  have hB : Below (((w.alloc A).alloc B).alloc D).heap.size (((w.alloc A).alloc B).alloc D) ((((w.alloc A).alloc B).alloc D).alloc E) := bel1 _ E
  refine ⟨bel_row h1 hB, bel_row h2 hB, bel_row h3 hB, ?_⟩
  have := heap_alloc_last (((w.alloc A).alloc B).alloc D) E
  simpa using this
/-- A round begins: four boxes are laid. -/
theorem PY.begin (h : PY w0 w N b F z L C kb a cap R ka kc K) (ds : Array Value) (W : World) (hW : (((w.alloc (.cells ds 35)).alloc (.cells #[.int .i64 N, .slice a R.length cap, .slice ka K.length kc] 30)).alloc (.cells #[.int .i64 0, .int .i64 0, .int .i64 0, .int .i64 0, .string ⟨#[]⟩] 33)).alloc (.cells #[.int .i64 0, .int .i64 0, .int .i64 0, .int .i64 0, .string ⟨#[]⟩] 33) = W) :
    PX w0 W N b F z L C kb (.slice a R.length cap) (.slice ka K.length kc) w.heap.size ds (.slice a R.length cap) (.slice ka K.length kc) #[.int .i64 0, .int .i64 0, .int .i64 0, .int .i64 0, .string ⟨#[]⟩] #[.int .i64 0, .int .i64 0, .int .i64 0, .int .i64 0, .string ⟨#[]⟩] ∧ RO W (Fx F kb w.heap.size) a cap R ka kc K := by
  have hb : Below w.heap.size w W := by rw [← hW]; exact ((bel2 w _ _).alloc (by simp; omega) _).alloc (by simp; omega) _
  obtain ⟨h1, h2, h3, h4⟩ := heap_alloc4 w (.cells ds 35) (.cells #[.int .i64 N, .slice a R.length cap, .slice ka K.length kc] 30) (.cells #[.int .i64 0, .int .i64 0, .int .i64 0, .int .i64 0, .string ⟨#[]⟩] 33) (.cells #[.int .i64 0, .int .i64 0, .int .i64 0, .int .i64 0, .string ⟨#[]⟩] 33)
  rw [hW] at h1 h2 h3 h4
  have hF : ∀ k, w.heap.size ≤ k → ¬ F k := fun k hk e => by have := (h.s.own k e).2; omega
  refine ⟨⟨h.s.keep hb, h.x.keep hb, ⟨h1, hF _ (by omega)⟩, ⟨h2, hF _ (by omega)⟩, ⟨h3, hF _ (by omega)⟩, ⟨h4, hF _ (by omega)⟩, ⟨h.lo, h.x.lt⟩⟩, (h.ro.keep hb).r, fun k e => ⟨fun hX => ?_, Nat.lt_of_lt_of_le (h.ro.o k e).2 hb.size⟩⟩
  obtain ⟨k1, k2⟩ := h.ro.o k e
  rcases hX with hX | hX | hX
  · exact k1 (.inl hX)
  · exact k1 (.inr hX)
  · omega
end
/-- A round ends. -/
theorem PX.close {w0 w : World} {N : Int} {b : Nat} {F : Nat → Prop} {z : Nat} {L : List Pk} {C : Int → Int → Bool} {kb : Nat} {a : Option Addr} {cap : Nat} {R : List Pk} {ka : Option Addr} {kc : Nat} {K : List (Int × Int)} {q : Nat} {ds : Array Value} {y1 y2 : Value} {m g : Array Value} (h : PX w0 w N b F z L C kb (.slice a R.length cap) (.slice ka K.length kc) q ds y1 y2 m g) (hr : RO w (Fx F kb q) a cap R ka kc K) (hlk : L = R.map Nt.lk) (hck : ∀ x y, C x y = Nt.rcut K x y) (hk : K.length ≤ z) : PY w0 w N b F z L C kb a cap R ka kc K :=
  ⟨h.s, h.x, ⟨hr.r, fun k e => ⟨fun hX => (hr.o k e).1 (by rcases hX with hX | hX; exact .inl hX; exact .inr (.inl hX)), (hr.o k e).2⟩⟩, hlk, hck, hk, h.lo.1⟩
theorem send_go (ok : Bool) (R : List Pk) (f t : Int) (s : ByteArray) : Nt.add ok (R.map Nt.lk) ⟨min f t, max f t, s⟩ = (Nt.add ok R ⟨f, t, s⟩).map Nt.lk := Nt.add_lk ok R ⟨f, t, s⟩
theorem cutN_go (C : Int → Int → Bool) (K : List (Int × Int)) (h : ∀ x y, C x y = Nt.rcut K x y) (N x y : Int) (on : Bool) : ∀ u v, cutN C N x y on u v = Nt.rcut (bif Nt.node N x && Nt.node N y then Nt.cutK K (min x y) (max x y) on else K) u v := by
  unfold cutN
  cases Nt.node N x && Nt.node N y
  · exact h
  · exact Nt.cut_go C K h _ _ on
theorem cutK_len (K : List (Int × Int)) (r : Bool) (x y : Int) (on : Bool) : (bif r then Nt.cutK K x y on else K).length ≤ K.length + 1 := by
  cases r
  · exact Nat.le_succ _
  · show (Nt.cutK K x y on).length ≤ _
    unfold Nt.cutK
    rw [List.length_append]
    have h1 := List.length_filter_le (fun q => decide (q ≠ (x, y))) K
    have h2 : (bif on then [(x, y)] else [] : List (Int × Int)).length ≤ 1 := by cases on <;> simp
    omega
theorem out_go (R : List Pk) (C : Int → Int → Bool) (K : List (Int × Int)) (h : ∀ x y, C x y = Nt.rcut K x y) (i : Int) : Nt.out (R.map Nt.lk) C i = Nt.out R (fun x y => Nt.rcut K (min x y) (max x y)) i := by
  rw [Nt.out_lk]
  congr 1
  funext x y
  exact h _ _
theorem neq_self (r : Bool) : (r != r) = false := by cases r <;> rfl
set_option maxRecDepth 100000 in
set_option maxHeartbeats 8000000 in
theorem plays_walk (n : Int) (da0 : Option Addr) (dcap : Nat) (l : List Dd) (w : World) (hl : l.length ≤ maxLen) (hd : Dds w da0 l) (hok : ∀ d ∈ l, d.ok) :
    Calls Try.prog 3 #[.int .i64 n, .slice da0 l.length dcap] w fun e w' => e = .returned (.bool true) ∧ Below w.heap.size w w' := by
  have c1 := few_any da0 dcap l w hl
  cases hfw : few l with
  | false =>
    rw [hfw] at c1
    clear hd hok
    go_enter Try.func3, Try.ntmps3
    go_wp2_with fail
    refine c1.mono ?_
    rintro e w1 ⟨rfl, rfl⟩
    go_wp2_with fail
    refine (awake_any _).mono ?_
    rintro e w2 ⟨rfl, hb2⟩
    go_wp2
    go_ret
    exact ⟨rfl, hb2⟩
  | true =>
    rw [hfw] at c1
    have hln : l.length ≤ 120 := of_decide_eq_true hfw
    have HD := Hid_of hd
    have HOK := Hid_of hok
    have hN := Nt.lim_le n
    have cR := fun W => rnew_any n W
    have cN := fun W => newN n W
    generalize Nt.lim n = N at *
    clear hd hok hl hfw
    go_enter Try.func3, Try.ntmps3
    go_wp2_with fail
    refine c1.mono ?_
    rintro e w1 ⟨rfl, rfl⟩
    go_wp2_with fail
    refine (cN w1).mono ?_
    rintro e w2 ⟨b, F0, rfl, hS0⟩
    go_wp2_with fail
    refine (cR w2).mono ?_
    rintro e w3 ⟨rfl, hb3⟩
    have HP0 : Hid (PY w1 (w3.alloc (.cells #[.int .i64 N, .slice none 0 0, .slice none 0 0] 30)) N b F0 0 [] (fun _ _ => false) w3.heap.size none 0 [] none 0 []) := by
      have hS3 := hS0.keep hb3
      refine Hid_of ⟨hS3.keep (bel1 w3 _), Bx.new (fun k hk => (hS3.own k hk).2) _ (heap_alloc_last w3 _), ⟨⟨XP.emp _, fun j h => by simp at h, Nt.Ok.nil, by simp⟩, fun k e => ?_⟩, rfl, fun _ _ => rfl, by simp, hS3.bel.size⟩
      rcases e with ⟨_, _, e⟩ | ⟨_, _, e⟩ <;> cases e
    obtain ⟨W4, HW4⟩ : ∃ W4, Hid (w3.alloc (.cells #[.int .i64 N, .slice none 0 0, .slice none 0 0] 30) = W4) := ⟨_, rfl⟩
    rw [HW4.out] at HP0
    clear c1 cR cN hS0 hb3
    go_upto_region 4 with fail
    rw [HW4.out]
    clear HW4
    generalize w3.heap.size = kb at *
    go_wp2_with fail
    go_loopw [7] (fun iv wr => ∃ (j : Nat) (F : Nat → Prop) (L : List Pk) (C : Int → Int → Bool) (a : Option Addr) (cap : Nat) (R : List Pk) (ka : Option Addr) (kc : Nat) (K : List (Int × Int)), j ≤ l.length ∧ iv = .int .i64 j ∧ Hid (PY w1 wr N b F j L C kb a cap R ka kc K)) (fun iv _ => l.length - (intOf iv).toNat)
    case atStart => exact ⟨0, F0, [], _, none, 0, [], none, 0, [], by omega, rfl, HP0⟩
    case round =>
      obtain ⟨j, F, L, C, a, cap, R, ka, kc, K, hj, rfl, HP⟩ := hrel
      by_cases hlt : j < l.length
      · obtain ⟨ab, off, rfl, q0, q1, q2, q3, q4, q5, q6, q7, q8⟩ := (HD.out.keep HP.out.s.bel).get j hlt
        have hmb : l[j].mb.length ≤ maxLen := HOK.out l[j] (List.getElem_mem hlt)
        have hjl : (j : Int) < (l.length : Int) := by omega
        generalize l[j].k = dk at *
        generalize l[j].a = da at *
        generalize l[j].b = db at *
        generalize l[j].c = dc at *
        generalize l[j].me = mk at *
        generalize l[j].mf = mf at *
        generalize l[j].mt = mt at *
        generalize l[j].mi = mi at *
        generalize l[j].mb = mb at *
        obtain ⟨W1, HW1⟩ : ∃ W1, Hid ((((wr.alloc (.cells #[.int .i64 dk, .int .i64 da, .int .i64 db, .int .i64 dc, .int .i64 mk, .int .i64 mf, .int .i64 mt, .int .i64 mi, .string (ofL mb)] 35)).alloc (.cells #[.int .i64 N, .slice a R.length cap, .slice ka K.length kc] 30)).alloc (.cells #[.int .i64 0, .int .i64 0, .int .i64 0, .int .i64 0, .string ⟨#[]⟩] 33)).alloc (.cells #[.int .i64 0, .int .i64 0, .int .i64 0, .int .i64 0, .string ⟨#[]⟩] 33) = W1) := ⟨_, rfl⟩
        obtain ⟨hP1, hR1⟩ := HP.out.begin #[.int .i64 dk, .int .i64 da, .int .i64 db, .int .i64 dc, .int .i64 mk, .int .i64 mf, .int .i64 mt, .int .i64 mi, .string (ofL mb)] W1 HW1.out
        have HP1 := Hid_of hP1
        have HR1 := Hid_of hR1
        have HLK := Hid_of (And.intro HP.out.lk HP.out.ck)
        have hKn := HP.out.kn
        obtain ⟨⟨x0, x1, x2⟩, _⟩ := rw3 HP.out.x.r
        have x0' := cell_up x0 (.cells #[.int .i64 dk, .int .i64 da, .int .i64 db, .int .i64 dc, .int .i64 mk, .int .i64 mf, .int .i64 mt, .int .i64 mi, .string (ofL mb)] 35)
        have x1' := cell_up x1 (.cells #[.int .i64 dk, .int .i64 da, .int .i64 db, .int .i64 dc, .int .i64 mk, .int .i64 mf, .int .i64 mt, .int .i64 mi, .string (ofL mb)] 35)
        have x2' := cell_up x2 (.cells #[.int .i64 dk, .int .i64 da, .int .i64 db, .int .i64 dc, .int .i64 mk, .int .i64 mf, .int .i64 mt, .int .i64 mi, .string (ofL mb)] 35)
        clear hP1 hR1 HP
        go_upto_region 10 with fail
        rw [HW1.out]
        clear HW1 q0 q1 q2 q3 q4 q5 q6 q7 q8 x0 x1 x2 x0' x1' x2'
        generalize wr.heap.size = q at *
        obtain ⟨⟨d0, d1, d2, d3⟩, d4, d5, d6, d7, d8⟩ := row9p HP1.out.d.r
        obtain ⟨⟨x0, x1, x2⟩, _⟩ := rw3 HP1.out.x.r
        by_cases k0 : dk = 0
        · subst k0
          obtain ⟨rr, hr0⟩ : ∃ r, Nt.may N R mk mf mt mi mb = r := ⟨_, rfl⟩
          obtain ⟨R5, hR5e⟩ : ∃ R5, Nt.add rr R ⟨mf, mt, ofL (Msg.ecode mk mf mt mi mb)⟩ = R5 := ⟨_, rfl⟩
          obtain ⟨L7, hL7⟩ : ∃ L7, Nt.add rr L ⟨min mf mt, max mf mt, ofL (Msg.ecode mk mf mt mi mb)⟩ = L7 := ⟨_, rfl⟩
          have cr := rsend_any (N := N) HR1.out.r mk mf mt mi mb hmb
          rw [hr0, hR5e] at cr
          have hmm : Nt.may N L mk mf mt mi mb = rr := by rw [HLK.out.1, Nt.may_lk, hr0]
          have hok5 : Nt.Ok R5 := by rw [← hR5e, ← hr0]; exact HR1.out.r.ok.add hN.2 mk mf mt mi mb mf mt (.inl ⟨rfl, rfl⟩)
          have hlk7 : L7 = R5.map Nt.lk := by rw [← hL7, ← hR5e, HLK.out.1, send_go]
          have hck7 := HLK.out.2
          have hkn7 : K.length ≤ j + 1 := by omega
          have hkn5 : K.length ≤ 100000 := HR1.out.r.n
          have HCS : Hid (∀ w6, NS w1 w6 b F j N L C → Calls Try.prog 12 #[.pointer (some ⟨b, 0, none⟩), .agg #[.int .i64 mk, .int .i64 mf, .int .i64 mt, .int .i64 mi, .string (ofL mb)]] w6 (SOut w1 w6 b F j N L7 C (.bool rr))) := fun w6 h6 => by
            have := h6.send mk mf mt mi mb hmb
            rw [hmm, hL7] at this
            exact this
          clear hr0 hR5e hL7 hmm HLK
          go_wp2_with fail
          refine cr.mono ?_
          rintro e w5 ⟨v1, v2, rfl, hX, hK, hb5⟩
          obtain ⟨a1, c1, rfl⟩ := hX.slice
          obtain ⟨ka1, kc1, rfl⟩ := hK.slice
          have hR5 := HR1.out.call HP1.out.fx hX hK hb5 hok5 hkn5
          have HP5 := Hid_of (HP1.out.keep hb5)
          obtain ⟨⟨y0, y1, y2⟩, yf⟩ := rw3 HP5.out.y.r
          have yf0 := yf 0
          have yf1 := yf 1
          have yf2 := yf 2
          have HR6 : Hid (RO (put3 w5 (q + 1) (.int .i64 N) (.slice a1 R5.length c1) (.slice ka1 K.length kc1)) (Fx F kb q) a1 c1 R5 ka1 kc1 K) := hR5.keepBut (fun k _ hX' => put3_oth (fun e => hX' (.inr (.inr (by omega)))) _ _ _) (by rw [put3_size]; exact Nat.le_refl _)
          have HP6 := Hid_of (HP5.out.setY (.slice a1 R5.length c1) (.slice ka1 K.length kc1))
          obtain ⟨W6, HW6⟩ : ∃ W6, Hid (put3 w5 (q + 1) (.int .i64 N) (.slice a1 R5.length c1) (.slice ka1 K.length kc1) = W6) := ⟨_, rfl⟩
          rw [HW6.out] at HP6 HR6
          unfold put3 at HW6
          clear hX hK hR5 HR1 HP1 yf hb5 d0 d1 d2 d3 d4 d5 d6 d7 d8 x0 x1 x2 hok5 hkn5 cr
          go_upto_region 13 with fail
          rw [HW6.out]
          clear HW6 HP5 y0 y1 y2 yf0 yf1 yf2
          obtain ⟨⟨d0, d1, d2, d3⟩, d4, d5, d6, d7, d8⟩ := row9p HP6.out.d.r
          go_wp2_with fail
          refine (HCS.out W6 HP6.out.s).mono ?_
          rintro e w7 ⟨G, rfl, hS7, hC7⟩
          have HP7 := Hid_of (HP6.out.step (hS7.more (by omega) : NS w1 w7 b G (j + 1) N L7 C ) hC7)
          have HR7 := Hid_of (HR6.out.stepX hC7)
          clear HP6 HR6 d0 d1 d2 d3 d4 d5 d6 d7 d8 HCS hS7 hC7
          have hlen : L7.length = R5.length := by rw [hlk7, List.length_map]
          obtain ⟨⟨y0, y1, y2⟩, _⟩ := rw3 HP7.out.y.r
          obtain ⟨⟨x0, x1, x2⟩, xf⟩ := rw3 HP7.out.x.r
          have xf0 := xf 0
          have xf1 := xf 1
          have xf2 := xf 2
          obtain ⟨W8, HW8⟩ : ∃ W8, Hid (put3 w7 kb (.int .i64 N) (.slice a1 R5.length c1) (.slice ka1 K.length kc1) = W8) := ⟨_, rfl⟩
          have HP8 := Hid_of (HP7.out.setX (.slice a1 R5.length c1) (.slice ka1 K.length kc1))
          have HR8 : Hid (RO (put3 w7 kb (.int .i64 N) (.slice a1 R5.length c1) (.slice ka1 K.length kc1)) (Fx G kb q) a1 c1 R5 ka1 kc1 K) := HR7.out.keepBut (fun k _ hX' => put3_oth (fun e => hX' (.inr (.inl e))) _ _ _) (by rw [put3_size]; exact Nat.le_refl _)
          rw [HW8.out] at HP8 HR8
          unfold put3 at HW8
          clear HP7 HR7 xf
          go_upto_region 31 with fail
          rw [HW8.out]
          clear HW8 y0 y1 y2 x0 x1 x2 xf0 xf1 xf2
          obtain ⟨⟨x0, x1, x2⟩, _⟩ := rw3 HP8.out.x.r
          obtain ⟨⟨m0, m1, m2, m3, m4⟩, _⟩ := row5 HP8.out.m.r
          obtain ⟨⟨g0, g1, g2, g3, g4⟩, _⟩ := row5 HP8.out.g.r
          have HWT : Hid (∀ nq, Calls Try.prog 23 #[.pointer (some ⟨b, 0, none⟩)] (W8.drewN nq) fun e w' => e = .returned (.int .i64 (R5.length : Int)) ∧ w' = W8.drewN nq) := fun nq => by
            have := (HP8.out.s.keep (below_drewN (Below.refl _ _) nq)).waiting
            rw [hlen] at this
            exact this
          have HNX : Hid (∀ nq, PY w1 (W8.drewN nq) N b G (j + 1) L7 C kb a1 c1 R5 ka1 kc1 K) := fun nq => (HP8.out.close HR8.out hlk7 hck7 hkn7).keep (below_drewN (Below.refl _ _) nq)
          have hrr := neq_self rr
          have e1 := ne33 0 0 0 0 ⟨#[]⟩
          clear HP8 HR8 hlk7 hck7 hlen hkn7
          generalize R5.length = n5 at *
          generalize K.length = k5 at *
          go_wp2_with fail
          go_quiet ((go_at_call 23; refine Calls.quiet_of_same (HWT.out _)))
          clear HWT
          go_wp2
          go_roundw
          case rel => exact ⟨j + 1, G, L7, C, a1, c1, R5, ka1, kc1, K, by omega, by go_num, HNX.out _⟩
          case measure => simp [intOf]; omega
        by_cases k1 : dk = 1
        · subst k1
          obtain ⟨oo, hoo⟩ : ∃ o, Nt.out R (fun x y => Nt.rcut K (min x y) (max x y)) da = o := ⟨_, rfl⟩
          obtain ⟨rr, hr0⟩ : ∃ r, Nt.gok oo = r := ⟨_, rfl⟩
          obtain ⟨u0, u1, u2, u3, u4, hmc⟩ := mc_row oo
          obtain ⟨R5, hR5e⟩ : ∃ R5, Nt.drp R da = R5 := ⟨_, rfl⟩
          obtain ⟨L7, hL7⟩ : ∃ L7, Nt.drp L da = L7 := ⟨_, rfl⟩
          have cr := rdeliver_any (N := N) HR1.out.r da
          unfold DvOut at cr
          rw [hoo, hr0, hmc, hR5e] at cr
          have hol : Nt.out L C da = oo := by rw [HLK.out.1, out_go R C K HLK.out.2, hoo]
          have hok5 : Nt.Ok R5 := by rw [← hR5e]; exact HR1.out.r.ok.drp da
          have hlk7 : L7 = R5.map Nt.lk := by rw [← hL7, ← hR5e, HLK.out.1, Nt.drp_lk]
          have hck7 := HLK.out.2
          have hkn7 : K.length ≤ j + 1 := by omega
          have hkn5 : K.length ≤ 100000 := HR1.out.r.n
          have HCS : Hid (∀ w6, NS w1 w6 b F j N L C → Calls Try.prog 14 #[.pointer (some ⟨b, 0, none⟩), .int .i64 da] w6 (SOut w1 w6 b F j N L7 C (.tuple #[.agg #[.int .i64 u0, .int .i64 u1, .int .i64 u2, .int .i64 u3, .string u4], .bool rr]))) := fun w6 h6 => by
            have := h6.deliver da
            rw [hol, hmc, hr0, hL7] at this
            exact this
          have HKS : Hid (∀ w5, KRes W1 w5 ka kc K (.slice ka K.length kc) K) := fun w5 => KRes.same
          clear hr0 hR5e hL7 hol hoo hmc HLK
          go_wp2_with fail
          refine cr.mono ?_
          rintro e w5 ⟨v1, rfl, hX, hb5⟩
          have hK := HKS.out w5
          clear HKS
          obtain ⟨a1, c1, rfl⟩ := hX.slice
          have hR5 := HR1.out.call HP1.out.fx hX hK hb5 hok5 hkn5
          have HP5 := Hid_of (HP1.out.keep hb5)
          obtain ⟨⟨y0, y1, y2⟩, yf⟩ := rw3 HP5.out.y.r
          have yf0 := yf 0
          have yf1 := yf 1
          have yf2 := yf 2
          obtain ⟨⟨m0, m1, m2, m3, m4⟩, mf'⟩ := row5 HP5.out.m.r
          have mf0 := mf' 0
          have mf1 := mf' 1
          have mf2 := mf' 2
          have mf3 := mf' 3
          have mf4 := mf' 4
          have hR5b := hR5.keepBut (w' := put3 w5 (q + 1) (.int .i64 N) (.slice a1 R5.length c1) (.slice ka K.length kc)) (fun k _ hX' => put3_oth (fun e => hX' (.inr (.inr (by omega)))) _ _ _) (by rw [put3_size]; exact Nat.le_refl _)
          have HR6 : Hid (RO (put5 (put3 w5 (q + 1) (.int .i64 N) (.slice a1 R5.length c1) (.slice ka K.length kc)) (q + 2) (.int .i64 u0) (.int .i64 u1) (.int .i64 u2) (.int .i64 u3) (.string u4)) (Fx F kb q) a1 c1 R5 ka kc K) := hR5b.keepBut (fun k _ hX' => put5_oth (fun e => hX' (.inr (.inr (by omega)))) _ _ _ _ _) (by simp [put5])
          have HP6 := Hid_of ((HP5.out.setY (.slice a1 R5.length c1) (.slice ka K.length kc)).setM (.int .i64 u0) (.int .i64 u1) (.int .i64 u2) (.int .i64 u3) (.string u4))
          obtain ⟨W6, HW6⟩ : ∃ W6, Hid (put5 (put3 w5 (q + 1) (.int .i64 N) (.slice a1 R5.length c1) (.slice ka K.length kc)) (q + 2) (.int .i64 u0) (.int .i64 u1) (.int .i64 u2) (.int .i64 u3) (.string u4) = W6) := ⟨_, rfl⟩
          rw [HW6.out] at HP6 HR6
          unfold put3 put5 at HW6
          clear hR5b mf'
          clear hX hK hR5 HR1 HP1 yf hb5 d0 d1 d2 d3 d4 d5 d6 d7 d8 x0 x1 x2 hok5 hkn5 cr
          go_upto_region 16 with fail
          rw [HW6.out]
          clear HW6 HP5 y0 y1 y2 yf0 yf1 yf2 m0 m1 m2 m3 m4 mf0 mf1 mf2 mf3 mf4
          obtain ⟨⟨d0, d1, d2, d3⟩, d4, d5, d6, d7, d8⟩ := row9p HP6.out.d.r
          go_wp2_with fail
          refine (HCS.out W6 HP6.out.s).mono ?_
          rintro e w7 ⟨G, rfl, hS7, hC7⟩
          have HP7 := Hid_of (HP6.out.step (hS7.more (by omega) : NS w1 w7 b G (j + 1) N L7 C ) hC7)
          have HR7 := Hid_of (HR6.out.stepX hC7)
          clear HP6 HR6 d0 d1 d2 d3 d4 d5 d6 d7 d8 HCS hS7 hC7
          obtain ⟨⟨g0, g1, g2, g3, g4⟩, gf⟩ := row5 HP7.out.g.r
          have gf0 := gf 0
          have gf1 := gf 1
          have gf2 := gf 2
          have gf3 := gf 3
          have gf4 := gf 4
          obtain ⟨W7, HW7⟩ : ∃ W7, Hid (put5 w7 (q + 3) (.int .i64 u0) (.int .i64 u1) (.int .i64 u2) (.int .i64 u3) (.string u4) = W7) := ⟨_, rfl⟩
          have HP7b := Hid_of (HP7.out.setG (.int .i64 u0) (.int .i64 u1) (.int .i64 u2) (.int .i64 u3) (.string u4))
          have HR7b : Hid (RO (put5 w7 (q + 3) (.int .i64 u0) (.int .i64 u1) (.int .i64 u2) (.int .i64 u3) (.string u4)) (Fx G kb q) a1 c1 R5 ka kc K) := HR7.out.keepBut (fun k _ hX' => put5_oth (fun e => hX' (.inr (.inr (by omega)))) _ _ _ _ _) (by simp [put5])
          rw [HW7.out] at HP7b HR7b
          unfold put5 at HW7
          clear HP7 HR7 gf
          have HP7 := HP7b
          have HR7 := HR7b
          clear HP7b HR7b
          go_upto_region 30 with fail
          rw [HW7.out]
          clear HW7 g0 g1 g2 g3 g4 gf0 gf1 gf2 gf3 gf4
          have hlen : L7.length = R5.length := by rw [hlk7, List.length_map]
          obtain ⟨⟨y0, y1, y2⟩, _⟩ := rw3 HP7.out.y.r
          obtain ⟨⟨x0, x1, x2⟩, xf⟩ := rw3 HP7.out.x.r
          have xf0 := xf 0
          have xf1 := xf 1
          have xf2 := xf 2
          obtain ⟨W8, HW8⟩ : ∃ W8, Hid (put3 W7 kb (.int .i64 N) (.slice a1 R5.length c1) (.slice ka K.length kc) = W8) := ⟨_, rfl⟩
          have HP8 := Hid_of (HP7.out.setX (.slice a1 R5.length c1) (.slice ka K.length kc))
          have HR8 : Hid (RO (put3 W7 kb (.int .i64 N) (.slice a1 R5.length c1) (.slice ka K.length kc)) (Fx G kb q) a1 c1 R5 ka kc K) := HR7.out.keepBut (fun k _ hX' => put3_oth (fun e => hX' (.inr (.inl e))) _ _ _) (by rw [put3_size]; exact Nat.le_refl _)
          rw [HW8.out] at HP8 HR8
          unfold put3 at HW8
          clear HP7 HR7 xf
          go_upto_region 31 with fail
          rw [HW8.out]
          clear HW8 y0 y1 y2 x0 x1 x2 xf0 xf1 xf2
          obtain ⟨⟨x0, x1, x2⟩, _⟩ := rw3 HP8.out.x.r
          obtain ⟨⟨m0, m1, m2, m3, m4⟩, _⟩ := row5 HP8.out.m.r
          obtain ⟨⟨g0, g1, g2, g3, g4⟩, _⟩ := row5 HP8.out.g.r
          have HWT : Hid (∀ nq, Calls Try.prog 23 #[.pointer (some ⟨b, 0, none⟩)] (W8.drewN nq) fun e w' => e = .returned (.int .i64 (R5.length : Int)) ∧ w' = W8.drewN nq) := fun nq => by
            have := (HP8.out.s.keep (below_drewN (Below.refl _ _) nq)).waiting
            rw [hlen] at this
            exact this
          have HNX : Hid (∀ nq, PY w1 (W8.drewN nq) N b G (j + 1) L7 C kb a1 c1 R5 ka kc K) := fun nq => (HP8.out.close HR8.out hlk7 hck7 hkn7).keep (below_drewN (Below.refl _ _) nq)
          have hrr := neq_self rr
          have e1 := ne33 u0 u1 u2 u3 u4
          clear HP8 HR8 hlk7 hck7 hlen hkn7
          generalize R5.length = n5 at *
          generalize K.length = k5 at *
          go_wp2_with fail
          go_quiet ((go_at_call 23; refine Calls.quiet_of_same (HWT.out _)))
          clear HWT
          go_wp2
          go_roundw
          case rel => exact ⟨j + 1, G, L7, C, a1, c1, R5, ka, kc, K, by omega, by go_num, HNX.out _⟩
          case measure => simp [intOf]; omega
        by_cases k2 : dk = 2
        · subst k2
          obtain ⟨rr, hr0⟩ : ∃ r, Nt.is R = r := ⟨_, rfl⟩
          obtain ⟨pk, hpk⟩ : ∃ p, pkt R da = p := ⟨_, rfl⟩
          obtain ⟨R5, hR5e⟩ : ∃ R5, Nt.drp R da = R5 := ⟨_, rfl⟩
          obtain ⟨L7, hL7⟩ : ∃ L7, Nt.drp L da = L7 := ⟨_, rfl⟩
          have cr := rdrop_any (N := N) HR1.out.r da
          unfold DrOut at cr
          rw [hr0, hpk, hR5e] at cr
          have hmm : Nt.is L = rr := by rw [HLK.out.1, Nt.is_lk, hr0]
          have hok5 : Nt.Ok R5 := by rw [← hR5e]; exact HR1.out.r.ok.drp da
          have hlk7 : L7 = R5.map Nt.lk := by rw [← hL7, ← hR5e, HLK.out.1, Nt.drp_lk]
          have hck7 := HLK.out.2
          have hkn7 : K.length ≤ j + 1 := by omega
          have hkn5 : K.length ≤ 100000 := HR1.out.r.n
          have HCS : Hid (∀ w6, NS w1 w6 b F j N L C → Calls Try.prog 16 #[.pointer (some ⟨b, 0, none⟩), .int .i64 da] w6 (SOut w1 w6 b F j N L7 C (.bool rr))) := fun w6 h6 => by
            have := h6.drop da
            rw [hmm, hL7] at this
            exact this
          have HKS : Hid (∀ w5, KRes W1 w5 ka kc K (.slice ka K.length kc) K) := fun w5 => KRes.same
          clear hr0 hR5e hL7 hmm hpk HLK
          go_wp2_with fail
          refine cr.mono ?_
          rintro e w5 ⟨v1, rfl, hX, hb5⟩
          have hK := HKS.out w5
          clear HKS
          obtain ⟨a1, c1, rfl⟩ := hX.slice
          have hR5 := HR1.out.call HP1.out.fx hX hK hb5 hok5 hkn5
          have HP5 := Hid_of (HP1.out.keep hb5)
          obtain ⟨⟨y0, y1, y2⟩, yf⟩ := rw3 HP5.out.y.r
          have yf0 := yf 0
          have yf1 := yf 1
          have yf2 := yf 2
          have HR6 : Hid (RO (put3 w5 (q + 1) (.int .i64 N) (.slice a1 R5.length c1) (.slice ka K.length kc)) (Fx F kb q) a1 c1 R5 ka kc K) := hR5.keepBut (fun k _ hX' => put3_oth (fun e => hX' (.inr (.inr (by omega)))) _ _ _) (by rw [put3_size]; exact Nat.le_refl _)
          have HP6 := Hid_of (HP5.out.setY (.slice a1 R5.length c1) (.slice ka K.length kc))
          obtain ⟨W6, HW6⟩ : ∃ W6, Hid (put3 w5 (q + 1) (.int .i64 N) (.slice a1 R5.length c1) (.slice ka K.length kc) = W6) := ⟨_, rfl⟩
          rw [HW6.out] at HP6 HR6
          unfold put3 at HW6
          clear hX hK hR5 HR1 HP1 yf hb5 d0 d1 d2 d3 d4 d5 d6 d7 d8 x0 x1 x2 hok5 hkn5 cr
          go_upto_region 19 with fail
          rw [HW6.out]
          clear HW6 HP5 y0 y1 y2 yf0 yf1 yf2
          obtain ⟨⟨d0, d1, d2, d3⟩, d4, d5, d6, d7, d8⟩ := row9p HP6.out.d.r
          go_wp2_with fail
          refine (HCS.out W6 HP6.out.s).mono ?_
          rintro e w7 ⟨G, rfl, hS7, hC7⟩
          have HP7 := Hid_of (HP6.out.step (hS7.more (by omega) : NS w1 w7 b G (j + 1) N L7 C ) hC7)
          have HR7 := Hid_of (HR6.out.stepX hC7)
          clear HP6 HR6 d0 d1 d2 d3 d4 d5 d6 d7 d8 HCS hS7 hC7
          have hlen : L7.length = R5.length := by rw [hlk7, List.length_map]
          obtain ⟨⟨y0, y1, y2⟩, _⟩ := rw3 HP7.out.y.r
          obtain ⟨⟨x0, x1, x2⟩, xf⟩ := rw3 HP7.out.x.r
          have xf0 := xf 0
          have xf1 := xf 1
          have xf2 := xf 2
          obtain ⟨W8, HW8⟩ : ∃ W8, Hid (put3 w7 kb (.int .i64 N) (.slice a1 R5.length c1) (.slice ka K.length kc) = W8) := ⟨_, rfl⟩
          have HP8 := Hid_of (HP7.out.setX (.slice a1 R5.length c1) (.slice ka K.length kc))
          have HR8 : Hid (RO (put3 w7 kb (.int .i64 N) (.slice a1 R5.length c1) (.slice ka K.length kc)) (Fx G kb q) a1 c1 R5 ka kc K) := HR7.out.keepBut (fun k _ hX' => put3_oth (fun e => hX' (.inr (.inl e))) _ _ _) (by rw [put3_size]; exact Nat.le_refl _)
          rw [HW8.out] at HP8 HR8
          unfold put3 at HW8
          clear HP7 HR7 xf
          go_upto_region 31 with fail
          rw [HW8.out]
          clear HW8 y0 y1 y2 x0 x1 x2 xf0 xf1 xf2
          obtain ⟨⟨x0, x1, x2⟩, _⟩ := rw3 HP8.out.x.r
          obtain ⟨⟨m0, m1, m2, m3, m4⟩, _⟩ := row5 HP8.out.m.r
          obtain ⟨⟨g0, g1, g2, g3, g4⟩, _⟩ := row5 HP8.out.g.r
          have HWT : Hid (∀ nq, Calls Try.prog 23 #[.pointer (some ⟨b, 0, none⟩)] (W8.drewN nq) fun e w' => e = .returned (.int .i64 (R5.length : Int)) ∧ w' = W8.drewN nq) := fun nq => by
            have := (HP8.out.s.keep (below_drewN (Below.refl _ _) nq)).waiting
            rw [hlen] at this
            exact this
          have HNX : Hid (∀ nq, PY w1 (W8.drewN nq) N b G (j + 1) L7 C kb a1 c1 R5 ka kc K) := fun nq => (HP8.out.close HR8.out hlk7 hck7 hkn7).keep (below_drewN (Below.refl _ _) nq)
          have hrr := neq_self rr
          have e1 := ne33 0 0 0 0 ⟨#[]⟩
          clear HP8 HR8 hlk7 hck7 hlen hkn7
          generalize R5.length = n5 at *
          generalize K.length = k5 at *
          go_wp2_with fail
          go_quiet ((go_at_call 23; refine Calls.quiet_of_same (HWT.out _)))
          clear HWT
          go_wp2
          go_roundw
          case rel => exact ⟨j + 1, G, L7, C, a1, c1, R5, ka, kc, K, by omega, by go_num, HNX.out _⟩
          case measure => simp [intOf]; omega
        by_cases k3 : dk = 3
        · subst k3
          obtain ⟨rr, hr0⟩ : ∃ r, (Nt.is R && Nt.room R) = r := ⟨_, rfl⟩
          obtain ⟨R5, hR5e⟩ : ∃ R5, Nt.dbl R da = R5 := ⟨_, rfl⟩
          obtain ⟨L7, hL7⟩ : ∃ L7, Nt.dbl L da = L7 := ⟨_, rfl⟩
          have cr := rdouble_any (N := N) HR1.out.r da
          rw [hr0, hR5e] at cr
          have hmm : (Nt.is L && Nt.room L) = rr := by rw [HLK.out.1, Nt.is_lk, Nt.room_lk, hr0]
          have hok5 : Nt.Ok R5 := by rw [← hR5e]; exact HR1.out.r.ok.dbl da
          have hlk7 : L7 = R5.map Nt.lk := by rw [← hL7, ← hR5e, HLK.out.1, Nt.dbl_lk]
          have hck7 := HLK.out.2
          have hkn7 : K.length ≤ j + 1 := by omega
          have hkn5 : K.length ≤ 100000 := HR1.out.r.n
          have HCS : Hid (∀ w6, NS w1 w6 b F j N L C → Calls Try.prog 18 #[.pointer (some ⟨b, 0, none⟩), .int .i64 da] w6 (SOut w1 w6 b F j N L7 C (.bool rr))) := fun w6 h6 => by
            have := h6.double da
            rw [hmm, hL7] at this
            exact this
          clear hr0 hR5e hL7 hmm HLK
          go_wp2_with fail
          refine cr.mono ?_
          rintro e w5 ⟨v1, v2, rfl, hX, hK, hb5⟩
          obtain ⟨a1, c1, rfl⟩ := hX.slice
          obtain ⟨ka1, kc1, rfl⟩ := hK.slice
          have hR5 := HR1.out.call HP1.out.fx hX hK hb5 hok5 hkn5
          have HP5 := Hid_of (HP1.out.keep hb5)
          obtain ⟨⟨y0, y1, y2⟩, yf⟩ := rw3 HP5.out.y.r
          have yf0 := yf 0
          have yf1 := yf 1
          have yf2 := yf 2
          have HR6 : Hid (RO (put3 w5 (q + 1) (.int .i64 N) (.slice a1 R5.length c1) (.slice ka1 K.length kc1)) (Fx F kb q) a1 c1 R5 ka1 kc1 K) := hR5.keepBut (fun k _ hX' => put3_oth (fun e => hX' (.inr (.inr (by omega)))) _ _ _) (by rw [put3_size]; exact Nat.le_refl _)
          have HP6 := Hid_of (HP5.out.setY (.slice a1 R5.length c1) (.slice ka1 K.length kc1))
          obtain ⟨W6, HW6⟩ : ∃ W6, Hid (put3 w5 (q + 1) (.int .i64 N) (.slice a1 R5.length c1) (.slice ka1 K.length kc1) = W6) := ⟨_, rfl⟩
          rw [HW6.out] at HP6 HR6
          unfold put3 at HW6
          clear hX hK hR5 HR1 HP1 yf hb5 d0 d1 d2 d3 d4 d5 d6 d7 d8 x0 x1 x2 hok5 hkn5 cr
          go_upto_region 22 with fail
          rw [HW6.out]
          clear HW6 HP5 y0 y1 y2 yf0 yf1 yf2
          obtain ⟨⟨d0, d1, d2, d3⟩, d4, d5, d6, d7, d8⟩ := row9p HP6.out.d.r
          go_wp2_with fail
          refine (HCS.out W6 HP6.out.s).mono ?_
          rintro e w7 ⟨G, rfl, hS7, hC7⟩
          have HP7 := Hid_of (HP6.out.step (hS7.more (by omega) : NS w1 w7 b G (j + 1) N L7 C ) hC7)
          have HR7 := Hid_of (HR6.out.stepX hC7)
          clear HP6 HR6 d0 d1 d2 d3 d4 d5 d6 d7 d8 HCS hS7 hC7
          have hlen : L7.length = R5.length := by rw [hlk7, List.length_map]
          obtain ⟨⟨y0, y1, y2⟩, _⟩ := rw3 HP7.out.y.r
          obtain ⟨⟨x0, x1, x2⟩, xf⟩ := rw3 HP7.out.x.r
          have xf0 := xf 0
          have xf1 := xf 1
          have xf2 := xf 2
          obtain ⟨W8, HW8⟩ : ∃ W8, Hid (put3 w7 kb (.int .i64 N) (.slice a1 R5.length c1) (.slice ka1 K.length kc1) = W8) := ⟨_, rfl⟩
          have HP8 := Hid_of (HP7.out.setX (.slice a1 R5.length c1) (.slice ka1 K.length kc1))
          have HR8 : Hid (RO (put3 w7 kb (.int .i64 N) (.slice a1 R5.length c1) (.slice ka1 K.length kc1)) (Fx G kb q) a1 c1 R5 ka1 kc1 K) := HR7.out.keepBut (fun k _ hX' => put3_oth (fun e => hX' (.inr (.inl e))) _ _ _) (by rw [put3_size]; exact Nat.le_refl _)
          rw [HW8.out] at HP8 HR8
          unfold put3 at HW8
          clear HP7 HR7 xf
          go_upto_region 31 with fail
          rw [HW8.out]
          clear HW8 y0 y1 y2 x0 x1 x2 xf0 xf1 xf2
          obtain ⟨⟨x0, x1, x2⟩, _⟩ := rw3 HP8.out.x.r
          obtain ⟨⟨m0, m1, m2, m3, m4⟩, _⟩ := row5 HP8.out.m.r
          obtain ⟨⟨g0, g1, g2, g3, g4⟩, _⟩ := row5 HP8.out.g.r
          have HWT : Hid (∀ nq, Calls Try.prog 23 #[.pointer (some ⟨b, 0, none⟩)] (W8.drewN nq) fun e w' => e = .returned (.int .i64 (R5.length : Int)) ∧ w' = W8.drewN nq) := fun nq => by
            have := (HP8.out.s.keep (below_drewN (Below.refl _ _) nq)).waiting
            rw [hlen] at this
            exact this
          have HNX : Hid (∀ nq, PY w1 (W8.drewN nq) N b G (j + 1) L7 C kb a1 c1 R5 ka1 kc1 K) := fun nq => (HP8.out.close HR8.out hlk7 hck7 hkn7).keep (below_drewN (Below.refl _ _) nq)
          have hrr := neq_self rr
          have e1 := ne33 0 0 0 0 ⟨#[]⟩
          clear HP8 HR8 hlk7 hck7 hlen hkn7
          generalize R5.length = n5 at *
          generalize K.length = k5 at *
          go_wp2_with fail
          go_quiet ((go_at_call 23; refine Calls.quiet_of_same (HWT.out _)))
          clear HWT
          go_wp2
          go_roundw
          case rel => exact ⟨j + 1, G, L7, C, a1, c1, R5, ka1, kc1, K, by omega, by go_num, HNX.out _⟩
          case measure => simp [intOf]; omega
        by_cases k4 : dk = 4
        · subst k4
          obtain ⟨rr, hr0⟩ : ∃ r, Nt.is R = r := ⟨_, rfl⟩
          obtain ⟨R5, hR5e⟩ : ∃ R5, Nt.spo R da db dc = R5 := ⟨_, rfl⟩
          obtain ⟨L7, hL7⟩ : ∃ L7, Nt.spo L da db dc = L7 := ⟨_, rfl⟩
          have cr := rspoil_any (N := N) HR1.out.r da db dc
          rw [hr0, hR5e] at cr
          have hmm : Nt.is L = rr := by rw [HLK.out.1, Nt.is_lk, hr0]
          have hok5 : Nt.Ok R5 := by rw [← hR5e]; exact HR1.out.r.ok.spo da db dc
          have hlk7 : L7 = R5.map Nt.lk := by rw [← hL7, ← hR5e, HLK.out.1, Nt.spo_lk]
          have hck7 := HLK.out.2
          have hkn7 : K.length ≤ j + 1 := by omega
          have hkn5 : K.length ≤ 100000 := HR1.out.r.n
          have HCS : Hid (∀ w6, NS w1 w6 b F j N L C → Calls Try.prog 20 #[.pointer (some ⟨b, 0, none⟩), .int .i64 da, .int .i64 db, .int .i64 dc] w6 (SOut w1 w6 b F j N L7 C (.bool rr))) := fun w6 h6 => by
            have := h6.spoil da db dc
            rw [hmm, hL7] at this
            exact this
          clear hr0 hR5e hL7 hmm HLK
          go_wp2_with fail
          refine cr.mono ?_
          rintro e w5 ⟨v1, v2, rfl, hX, hK, hb5⟩
          obtain ⟨a1, c1, rfl⟩ := hX.slice
          obtain ⟨ka1, kc1, rfl⟩ := hK.slice
          have hR5 := HR1.out.call HP1.out.fx hX hK hb5 hok5 hkn5
          have HP5 := Hid_of (HP1.out.keep hb5)
          obtain ⟨⟨y0, y1, y2⟩, yf⟩ := rw3 HP5.out.y.r
          have yf0 := yf 0
          have yf1 := yf 1
          have yf2 := yf 2
          have HR6 : Hid (RO (put3 w5 (q + 1) (.int .i64 N) (.slice a1 R5.length c1) (.slice ka1 K.length kc1)) (Fx F kb q) a1 c1 R5 ka1 kc1 K) := hR5.keepBut (fun k _ hX' => put3_oth (fun e => hX' (.inr (.inr (by omega)))) _ _ _) (by rw [put3_size]; exact Nat.le_refl _)
          have HP6 := Hid_of (HP5.out.setY (.slice a1 R5.length c1) (.slice ka1 K.length kc1))
          obtain ⟨W6, HW6⟩ : ∃ W6, Hid (put3 w5 (q + 1) (.int .i64 N) (.slice a1 R5.length c1) (.slice ka1 K.length kc1) = W6) := ⟨_, rfl⟩
          rw [HW6.out] at HP6 HR6
          unfold put3 at HW6
          clear hX hK hR5 HR1 HP1 yf hb5 d0 d1 d2 d3 d4 d5 d6 d7 d8 x0 x1 x2 hok5 hkn5 cr
          go_upto_region 25 with fail
          rw [HW6.out]
          clear HW6 HP5 y0 y1 y2 yf0 yf1 yf2
          obtain ⟨⟨d0, d1, d2, d3⟩, d4, d5, d6, d7, d8⟩ := row9p HP6.out.d.r
          go_wp2_with fail
          refine (HCS.out W6 HP6.out.s).mono ?_
          rintro e w7 ⟨G, rfl, hS7, hC7⟩
          have HP7 := Hid_of (HP6.out.step (hS7.more (by omega) : NS w1 w7 b G (j + 1) N L7 C ) hC7)
          have HR7 := Hid_of (HR6.out.stepX hC7)
          clear HP6 HR6 d0 d1 d2 d3 d4 d5 d6 d7 d8 HCS hS7 hC7
          have hlen : L7.length = R5.length := by rw [hlk7, List.length_map]
          obtain ⟨⟨y0, y1, y2⟩, _⟩ := rw3 HP7.out.y.r
          obtain ⟨⟨x0, x1, x2⟩, xf⟩ := rw3 HP7.out.x.r
          have xf0 := xf 0
          have xf1 := xf 1
          have xf2 := xf 2
          obtain ⟨W8, HW8⟩ : ∃ W8, Hid (put3 w7 kb (.int .i64 N) (.slice a1 R5.length c1) (.slice ka1 K.length kc1) = W8) := ⟨_, rfl⟩
          have HP8 := Hid_of (HP7.out.setX (.slice a1 R5.length c1) (.slice ka1 K.length kc1))
          have HR8 : Hid (RO (put3 w7 kb (.int .i64 N) (.slice a1 R5.length c1) (.slice ka1 K.length kc1)) (Fx G kb q) a1 c1 R5 ka1 kc1 K) := HR7.out.keepBut (fun k _ hX' => put3_oth (fun e => hX' (.inr (.inl e))) _ _ _) (by rw [put3_size]; exact Nat.le_refl _)
          rw [HW8.out] at HP8 HR8
          unfold put3 at HW8
          clear HP7 HR7 xf
          go_upto_region 31 with fail
          rw [HW8.out]
          clear HW8 y0 y1 y2 x0 x1 x2 xf0 xf1 xf2
          obtain ⟨⟨x0, x1, x2⟩, _⟩ := rw3 HP8.out.x.r
          obtain ⟨⟨m0, m1, m2, m3, m4⟩, _⟩ := row5 HP8.out.m.r
          obtain ⟨⟨g0, g1, g2, g3, g4⟩, _⟩ := row5 HP8.out.g.r
          have HWT : Hid (∀ nq, Calls Try.prog 23 #[.pointer (some ⟨b, 0, none⟩)] (W8.drewN nq) fun e w' => e = .returned (.int .i64 (R5.length : Int)) ∧ w' = W8.drewN nq) := fun nq => by
            have := (HP8.out.s.keep (below_drewN (Below.refl _ _) nq)).waiting
            rw [hlen] at this
            exact this
          have HNX : Hid (∀ nq, PY w1 (W8.drewN nq) N b G (j + 1) L7 C kb a1 c1 R5 ka1 kc1 K) := fun nq => (HP8.out.close HR8.out hlk7 hck7 hkn7).keep (below_drewN (Below.refl _ _) nq)
          have hrr := neq_self rr
          have e1 := ne33 0 0 0 0 ⟨#[]⟩
          clear HP8 HR8 hlk7 hck7 hlen hkn7
          generalize R5.length = n5 at *
          generalize K.length = k5 at *
          go_wp2_with fail
          go_quiet ((go_at_call 23; refine Calls.quiet_of_same (HWT.out _)))
          clear HWT
          go_wp2
          go_roundw
          case rel => exact ⟨j + 1, G, L7, C, a1, c1, R5, ka1, kc1, K, by omega, by go_num, HNX.out _⟩
          case measure => simp [intOf]; omega
        by_cases k5 : dk = 5
        · subst k5
          obtain ⟨rr, hr0⟩ : ∃ r, (Nt.node N da && Nt.node N db) = r := ⟨_, rfl⟩
          obtain ⟨K5, hK5e⟩ : ∃ K5, (bif rr then Nt.cutK K (min da db) (max da db) true else K) = K5 := ⟨_, rfl⟩
          obtain ⟨C7, hC7e⟩ : ∃ C7, cutN C N da db true = C7 := ⟨_, rfl⟩
          obtain ⟨R5, hR5e⟩ : ∃ R5, R = R5 := ⟨_, rfl⟩
          obtain ⟨L7, hL7⟩ : ∃ L7, L = L7 := ⟨_, rfl⟩
          have cr := rcutn_any (N := N) HR1.out.r da db true
          have hck7 : ∀ x y, C7 x y = Nt.rcut K5 x y := by
            rw [← hC7e, ← hK5e, ← hr0]
            exact cutN_go C K HLK.out.2 N da db true
          rw [hr0, hK5e] at cr
          have hcr : Calls Try.prog 21 #[.agg #[.int .i64 N, .slice a R.length cap, .slice ka K.length kc], .int .i64 da, .int .i64 db, .bool true] W1 (ROut W1 N a cap R ka kc K R5 K5 rr) := by rw [← hR5e]; exact cr
          clear cr
          have cr := hcr
          have hok5 : Nt.Ok R5 := by rw [← hR5e]; exact HR1.out.r.ok
          have hlk7 : L7 = R5.map Nt.lk := by rw [← hL7, ← hR5e]; exact HLK.out.1
          have hkl : K5.length ≤ K.length + 1 := by rw [← hK5e]; exact cutK_len K rr _ _ true
          have hkn7 : K5.length ≤ j + 1 := by omega
          have hkn5 : K5.length ≤ 100000 := by omega
          have HCS : Hid (∀ w6, NS w1 w6 b F j N L C → Calls Try.prog 22 #[.pointer (some ⟨b, 0, none⟩), .int .i64 da, .int .i64 db, .bool true] w6 (SOut w1 w6 b F (j + 1) N L7 C7 (.bool rr))) := fun w6 h6 => by
            have := h6.cut (by omega) da db true
            rw [hr0, hC7e, hL7] at this
            exact this
          clear hr0 hR5e hL7 hC7e hK5e hkl hcr HLK
          go_wp2_with fail
          refine cr.mono ?_
          rintro e w5 ⟨v1, v2, rfl, hX, hK, hb5⟩
          obtain ⟨a1, c1, rfl⟩ := hX.slice
          obtain ⟨ka1, kc1, rfl⟩ := hK.slice
          have hR5 := HR1.out.call HP1.out.fx hX hK hb5 hok5 hkn5
          have HP5 := Hid_of (HP1.out.keep hb5)
          obtain ⟨⟨y0, y1, y2⟩, yf⟩ := rw3 HP5.out.y.r
          have yf0 := yf 0
          have yf1 := yf 1
          have yf2 := yf 2
          have HR6 : Hid (RO (put3 w5 (q + 1) (.int .i64 N) (.slice a1 R5.length c1) (.slice ka1 K5.length kc1)) (Fx F kb q) a1 c1 R5 ka1 kc1 K5) := hR5.keepBut (fun k _ hX' => put3_oth (fun e => hX' (.inr (.inr (by omega)))) _ _ _) (by rw [put3_size]; exact Nat.le_refl _)
          have HP6 := Hid_of (HP5.out.setY (.slice a1 R5.length c1) (.slice ka1 K5.length kc1))
          obtain ⟨W6, HW6⟩ : ∃ W6, Hid (put3 w5 (q + 1) (.int .i64 N) (.slice a1 R5.length c1) (.slice ka1 K5.length kc1) = W6) := ⟨_, rfl⟩
          rw [HW6.out] at HP6 HR6
          unfold put3 at HW6
          clear hX hK hR5 HR1 HP1 yf hb5 d0 d1 d2 d3 d4 d5 d6 d7 d8 x0 x1 x2 hok5 hkn5 cr
          go_upto_region 29 with fail
          rw [HW6.out]
          clear HW6 HP5 y0 y1 y2 yf0 yf1 yf2
          obtain ⟨⟨d0, d1, d2, d3⟩, d4, d5, d6, d7, d8⟩ := row9p HP6.out.d.r
          go_wp2_with fail
          refine (HCS.out W6 HP6.out.s).mono ?_
          rintro e w7 ⟨G, rfl, hS7, hC7⟩
          have HP7 := Hid_of (HP6.out.step (hS7.more (by omega) : NS w1 w7 b G (j + 1) N L7 C7 ) hC7)
          have HR7 := Hid_of (HR6.out.stepX hC7)
          clear HP6 HR6 d0 d1 d2 d3 d4 d5 d6 d7 d8 HCS hS7 hC7
          have hlen : L7.length = R5.length := by rw [hlk7, List.length_map]
          obtain ⟨⟨y0, y1, y2⟩, _⟩ := rw3 HP7.out.y.r
          obtain ⟨⟨x0, x1, x2⟩, xf⟩ := rw3 HP7.out.x.r
          have xf0 := xf 0
          have xf1 := xf 1
          have xf2 := xf 2
          obtain ⟨W8, HW8⟩ : ∃ W8, Hid (put3 w7 kb (.int .i64 N) (.slice a1 R5.length c1) (.slice ka1 K5.length kc1) = W8) := ⟨_, rfl⟩
          have HP8 := Hid_of (HP7.out.setX (.slice a1 R5.length c1) (.slice ka1 K5.length kc1))
          have HR8 : Hid (RO (put3 w7 kb (.int .i64 N) (.slice a1 R5.length c1) (.slice ka1 K5.length kc1)) (Fx G kb q) a1 c1 R5 ka1 kc1 K5) := HR7.out.keepBut (fun k _ hX' => put3_oth (fun e => hX' (.inr (.inl e))) _ _ _) (by rw [put3_size]; exact Nat.le_refl _)
          rw [HW8.out] at HP8 HR8
          unfold put3 at HW8
          clear HP7 HR7 xf
          go_upto_region 31 with fail
          rw [HW8.out]
          clear HW8 y0 y1 y2 x0 x1 x2 xf0 xf1 xf2
          obtain ⟨⟨x0, x1, x2⟩, _⟩ := rw3 HP8.out.x.r
          obtain ⟨⟨m0, m1, m2, m3, m4⟩, _⟩ := row5 HP8.out.m.r
          obtain ⟨⟨g0, g1, g2, g3, g4⟩, _⟩ := row5 HP8.out.g.r
          have HWT : Hid (∀ nq, Calls Try.prog 23 #[.pointer (some ⟨b, 0, none⟩)] (W8.drewN nq) fun e w' => e = .returned (.int .i64 (R5.length : Int)) ∧ w' = W8.drewN nq) := fun nq => by
            have := (HP8.out.s.keep (below_drewN (Below.refl _ _) nq)).waiting
            rw [hlen] at this
            exact this
          have HNX : Hid (∀ nq, PY w1 (W8.drewN nq) N b G (j + 1) L7 C7 kb a1 c1 R5 ka1 kc1 K5) := fun nq => (HP8.out.close HR8.out hlk7 hck7 hkn7).keep (below_drewN (Below.refl _ _) nq)
          have hrr := neq_self rr
          have e1 := ne33 0 0 0 0 ⟨#[]⟩
          clear HP8 HR8 hlk7 hck7 hlen hkn7
          generalize R5.length = n5 at *
          generalize K5.length = k5 at *
          go_wp2_with fail
          go_quiet ((go_at_call 23; refine Calls.quiet_of_same (HWT.out _)))
          clear HWT
          go_wp2
          go_roundw
          case rel => exact ⟨j + 1, G, L7, C7, a1, c1, R5, ka1, kc1, K5, by omega, by go_num, HNX.out _⟩
          case measure => simp [intOf]; omega
        by_cases k6 : dk = 6
        · subst k6
          obtain ⟨rr, hr0⟩ : ∃ r, (Nt.node N da && Nt.node N db) = r := ⟨_, rfl⟩
          obtain ⟨K5, hK5e⟩ : ∃ K5, (bif rr then Nt.cutK K (min da db) (max da db) false else K) = K5 := ⟨_, rfl⟩
          obtain ⟨C7, hC7e⟩ : ∃ C7, cutN C N da db false = C7 := ⟨_, rfl⟩
          obtain ⟨R5, hR5e⟩ : ∃ R5, R = R5 := ⟨_, rfl⟩
          obtain ⟨L7, hL7⟩ : ∃ L7, L = L7 := ⟨_, rfl⟩
          have cr := rcutn_any (N := N) HR1.out.r da db false
          have hck7 : ∀ x y, C7 x y = Nt.rcut K5 x y := by
            rw [← hC7e, ← hK5e, ← hr0]
            exact cutN_go C K HLK.out.2 N da db false
          rw [hr0, hK5e] at cr
          have hcr : Calls Try.prog 21 #[.agg #[.int .i64 N, .slice a R.length cap, .slice ka K.length kc], .int .i64 da, .int .i64 db, .bool false] W1 (ROut W1 N a cap R ka kc K R5 K5 rr) := by rw [← hR5e]; exact cr
          clear cr
          have cr := hcr
          have hok5 : Nt.Ok R5 := by rw [← hR5e]; exact HR1.out.r.ok
          have hlk7 : L7 = R5.map Nt.lk := by rw [← hL7, ← hR5e]; exact HLK.out.1
          have hkl : K5.length ≤ K.length + 1 := by rw [← hK5e]; exact cutK_len K rr _ _ false
          have hkn7 : K5.length ≤ j + 1 := by omega
          have hkn5 : K5.length ≤ 100000 := by omega
          have HCS : Hid (∀ w6, NS w1 w6 b F j N L C → Calls Try.prog 22 #[.pointer (some ⟨b, 0, none⟩), .int .i64 da, .int .i64 db, .bool false] w6 (SOut w1 w6 b F (j + 1) N L7 C7 (.bool rr))) := fun w6 h6 => by
            have := h6.cut (by omega) da db false
            rw [hr0, hC7e, hL7] at this
            exact this
          clear hr0 hR5e hL7 hC7e hK5e hkl hcr HLK
          go_wp2_with fail
          refine cr.mono ?_
          rintro e w5 ⟨v1, v2, rfl, hX, hK, hb5⟩
          obtain ⟨a1, c1, rfl⟩ := hX.slice
          obtain ⟨ka1, kc1, rfl⟩ := hK.slice
          have hR5 := HR1.out.call HP1.out.fx hX hK hb5 hok5 hkn5
          have HP5 := Hid_of (HP1.out.keep hb5)
          obtain ⟨⟨y0, y1, y2⟩, yf⟩ := rw3 HP5.out.y.r
          have yf0 := yf 0
          have yf1 := yf 1
          have yf2 := yf 2
          have HR6 : Hid (RO (put3 w5 (q + 1) (.int .i64 N) (.slice a1 R5.length c1) (.slice ka1 K5.length kc1)) (Fx F kb q) a1 c1 R5 ka1 kc1 K5) := hR5.keepBut (fun k _ hX' => put3_oth (fun e => hX' (.inr (.inr (by omega)))) _ _ _) (by rw [put3_size]; exact Nat.le_refl _)
          have HP6 := Hid_of (HP5.out.setY (.slice a1 R5.length c1) (.slice ka1 K5.length kc1))
          obtain ⟨W6, HW6⟩ : ∃ W6, Hid (put3 w5 (q + 1) (.int .i64 N) (.slice a1 R5.length c1) (.slice ka1 K5.length kc1) = W6) := ⟨_, rfl⟩
          rw [HW6.out] at HP6 HR6
          unfold put3 at HW6
          clear hX hK hR5 HR1 HP1 yf hb5 d0 d1 d2 d3 d4 d5 d6 d7 d8 x0 x1 x2 hok5 hkn5 cr
          go_upto_region 29 with fail
          rw [HW6.out]
          clear HW6 HP5 y0 y1 y2 yf0 yf1 yf2
          obtain ⟨⟨d0, d1, d2, d3⟩, d4, d5, d6, d7, d8⟩ := row9p HP6.out.d.r
          go_wp2_with fail
          refine (HCS.out W6 HP6.out.s).mono ?_
          rintro e w7 ⟨G, rfl, hS7, hC7⟩
          have HP7 := Hid_of (HP6.out.step (hS7.more (by omega) : NS w1 w7 b G (j + 1) N L7 C7 ) hC7)
          have HR7 := Hid_of (HR6.out.stepX hC7)
          clear HP6 HR6 d0 d1 d2 d3 d4 d5 d6 d7 d8 HCS hS7 hC7
          have hlen : L7.length = R5.length := by rw [hlk7, List.length_map]
          obtain ⟨⟨y0, y1, y2⟩, _⟩ := rw3 HP7.out.y.r
          obtain ⟨⟨x0, x1, x2⟩, xf⟩ := rw3 HP7.out.x.r
          have xf0 := xf 0
          have xf1 := xf 1
          have xf2 := xf 2
          obtain ⟨W8, HW8⟩ : ∃ W8, Hid (put3 w7 kb (.int .i64 N) (.slice a1 R5.length c1) (.slice ka1 K5.length kc1) = W8) := ⟨_, rfl⟩
          have HP8 := Hid_of (HP7.out.setX (.slice a1 R5.length c1) (.slice ka1 K5.length kc1))
          have HR8 : Hid (RO (put3 w7 kb (.int .i64 N) (.slice a1 R5.length c1) (.slice ka1 K5.length kc1)) (Fx G kb q) a1 c1 R5 ka1 kc1 K5) := HR7.out.keepBut (fun k _ hX' => put3_oth (fun e => hX' (.inr (.inl e))) _ _ _) (by rw [put3_size]; exact Nat.le_refl _)
          rw [HW8.out] at HP8 HR8
          unfold put3 at HW8
          clear HP7 HR7 xf
          go_upto_region 31 with fail
          rw [HW8.out]
          clear HW8 y0 y1 y2 x0 x1 x2 xf0 xf1 xf2
          obtain ⟨⟨x0, x1, x2⟩, _⟩ := rw3 HP8.out.x.r
          obtain ⟨⟨m0, m1, m2, m3, m4⟩, _⟩ := row5 HP8.out.m.r
          obtain ⟨⟨g0, g1, g2, g3, g4⟩, _⟩ := row5 HP8.out.g.r
          have HWT : Hid (∀ nq, Calls Try.prog 23 #[.pointer (some ⟨b, 0, none⟩)] (W8.drewN nq) fun e w' => e = .returned (.int .i64 (R5.length : Int)) ∧ w' = W8.drewN nq) := fun nq => by
            have := (HP8.out.s.keep (below_drewN (Below.refl _ _) nq)).waiting
            rw [hlen] at this
            exact this
          have HNX : Hid (∀ nq, PY w1 (W8.drewN nq) N b G (j + 1) L7 C7 kb a1 c1 R5 ka1 kc1 K5) := fun nq => (HP8.out.close HR8.out hlk7 hck7 hkn7).keep (below_drewN (Below.refl _ _) nq)
          have hrr := neq_self rr
          have e1 := ne33 0 0 0 0 ⟨#[]⟩
          clear HP8 HR8 hlk7 hck7 hlen hkn7
          generalize R5.length = n5 at *
          generalize K5.length = k5 at *
          go_wp2_with fail
          go_quiet ((go_at_call 23; refine Calls.quiet_of_same (HWT.out _)))
          clear HWT
          go_wp2
          go_roundw
          case rel => exact ⟨j + 1, G, L7, C7, a1, c1, R5, ka1, kc1, K5, by omega, by go_num, HNX.out _⟩
          case measure => simp [intOf]; omega
        have f0 : (dk == 0) = false := by simpa using k0
        have f1 : (dk == 1) = false := by simpa using k1
        have f2 : (dk == 2) = false := by simpa using k2
        have f3 : (dk == 3) = false := by simpa using k3
        have f4 : (dk == 4) = false := by simpa using k4
        have f5 : (dk == 5) = false := by simpa using k5
        have f6 : (dk == 6) = false := by simpa using k6
        obtain ⟨rr, hrr0⟩ : ∃ r, false = r := ⟨_, rfl⟩
        clear hrr0
        clear k0 k1 k2 k3 k4 k5 k6 d1 d2 d3 d4 d5 d6 d7 d8
        obtain ⟨R5, hR5e⟩ : ∃ R5, R = R5 := ⟨_, rfl⟩
        obtain ⟨L7, hL7⟩ : ∃ L7, L = L7 := ⟨_, rfl⟩
        have hlk7 : L7 = R5.map Nt.lk := by rw [← hL7, ← hR5e]; exact HLK.out.1
        have hck7 := HLK.out.2
        have hkn7 : K.length ≤ j + 1 := by omega
        rw [hR5e] at HP1 HR1
        clear x0 x1 x2
        obtain ⟨G, hG⟩ : ∃ G, F = G := ⟨_, rfl⟩
        obtain ⟨a1, ha1⟩ : ∃ a1, a = a1 := ⟨_, rfl⟩
        obtain ⟨c1, hc1⟩ : ∃ c1, cap = c1 := ⟨_, rfl⟩
        obtain ⟨ka1, hka1⟩ : ∃ x, ka = x := ⟨_, rfl⟩
        obtain ⟨kc1, hkc1⟩ : ∃ x, kc = x := ⟨_, rfl⟩
        subst hG ha1 hc1 hka1 hkc1
        have HP7 : Hid (PX w1 W1 N b F (j + 1) L7 C kb (.slice a R5.length cap) (.slice ka K.length kc) q #[.int .i64 dk, .int .i64 da, .int .i64 db, .int .i64 dc, .int .i64 mk, .int .i64 mf, .int .i64 mt, .int .i64 mi, .string (ofL mb)] (.slice a R5.length cap) (.slice ka K.length kc) #[.int .i64 0, .int .i64 0, .int .i64 0, .int .i64 0, .string ⟨#[]⟩] #[.int .i64 0, .int .i64 0, .int .i64 0, .int .i64 0, .string ⟨#[]⟩]) := by
          rw [← hL7]
          exact HP1.out.step (HP1.out.s.more (by omega)) (Ch.refl _ _)
        have HR7 := HR1
        clear HP1 HR1 HLK hL7 hR5e
        have hlen : L7.length = R5.length := by rw [hlk7, List.length_map]
        obtain ⟨⟨y0, y1, y2⟩, _⟩ := rw3 HP7.out.y.r
        obtain ⟨⟨x0, x1, x2⟩, xf⟩ := rw3 HP7.out.x.r
        have xf0 := xf 0
        have xf1 := xf 1
        have xf2 := xf 2
        obtain ⟨W8, HW8⟩ : ∃ W8, Hid (put3 W1 kb (.int .i64 N) (.slice a R5.length cap) (.slice ka K.length kc) = W8) := ⟨_, rfl⟩
        have HP8 := Hid_of (HP7.out.setX (.slice a R5.length cap) (.slice ka K.length kc))
        have HR8 : Hid (RO (put3 W1 kb (.int .i64 N) (.slice a R5.length cap) (.slice ka K.length kc)) (Fx F kb q) a cap R5 ka kc K) := HR7.out.keepBut (fun k _ hX' => put3_oth (fun e => hX' (.inr (.inl e))) _ _ _) (by rw [put3_size]; exact Nat.le_refl _)
        rw [HW8.out] at HP8 HR8
        unfold put3 at HW8
        clear HP7 HR7 xf
        go_upto_region 31 with fail
        rw [HW8.out]
        clear HW8 y0 y1 y2 x0 x1 x2 xf0 xf1 xf2
        obtain ⟨⟨x0, x1, x2⟩, _⟩ := rw3 HP8.out.x.r
        obtain ⟨⟨m0, m1, m2, m3, m4⟩, _⟩ := row5 HP8.out.m.r
        obtain ⟨⟨g0, g1, g2, g3, g4⟩, _⟩ := row5 HP8.out.g.r
        have HWT : Hid (∀ nq, Calls Try.prog 23 #[.pointer (some ⟨b, 0, none⟩)] (W8.drewN nq) fun e w' => e = .returned (.int .i64 (R5.length : Int)) ∧ w' = W8.drewN nq) := fun nq => by
          have := (HP8.out.s.keep (below_drewN (Below.refl _ _) nq)).waiting
          rw [hlen] at this
          exact this
        have HNX : Hid (∀ nq, PY w1 (W8.drewN nq) N b F (j + 1) L7 C kb a cap R5 ka kc K) := fun nq => (HP8.out.close HR8.out hlk7 hck7 hkn7).keep (below_drewN (Below.refl _ _) nq)
        have hrr := neq_self rr
        have e1 := ne33 0 0 0 0 ⟨#[]⟩
        clear HP8 HR8 hlk7 hck7 hlen hkn7
        generalize R5.length = n5 at *
        generalize K.length = k5 at *
        go_wp2_with fail
        go_quiet ((go_at_call 23; refine Calls.quiet_of_same (HWT.out _)))
        clear HWT
        go_wp2
        go_roundw
        case rel => exact ⟨j + 1, F, L7, C, a, cap, R5, ka, kc, K, by omega, by go_num, HNX.out _⟩
        case measure => simp [intOf]; omega
      · have hje : j = l.length := by omega
        subst hje
        have HB := Hid_of HP.out.s.bel
        clear HP HD HOK
        go_wp2_with fail
        refine (awake_any _).mono ?_
        rintro e w9 ⟨rfl, hb9⟩
        have HB9 := Hid_of (bel_up HB.out hb9 (Nat.le_refl _))
        clear hb9 HB
        go_wp2
        go_ret
        exact ⟨rfl, HB9.out⟩
end Go.Proofs.Ytjbodjjeenjbeaa
