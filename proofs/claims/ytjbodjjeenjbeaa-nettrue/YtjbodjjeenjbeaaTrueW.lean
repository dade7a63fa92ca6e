/-
  The law of what arrives, walked.
-/
import Derived.Test.YtjbodjjeenjbeaaNR
import Derived.Test.YtjbodjjeenjbeaaByteW
import Derived.Test.YtjbodjjeenjbeaaNoneW
namespace Go.Proofs.Ytjbodjjeenjbeaa
open Go.RowKit
set_option linter.unusedVariables false
open Nt (Pk)

/-- What holds at each round: the net, what was sent, how many were doubled and arrived. -/
structure TL (w0 w : World) (N : Int) (b : Nat) (F : Nat → Prop) (z : Nat) (L : List Pk) (C : Int → Int → Bool) (v : Value) (S : List Ms) (dn an : Nat) : Prop where
  s : NS w0 w b F z N L C
  o : OwnM w w0.heap.size v S
  d : ∀ k, v.ownBlock = some k → ¬ F k
  p : ∀ p ∈ L, ∃ m ∈ S, m.ck = 0 ∧ p.s = m.ec
  c : an + L.length ≤ S.length + dn
  bd : S.length ≤ z ∧ dn ≤ z ∧ an ≤ z
section
variable {w0 w w' : World} {N : Int} {b : Nat} {F G : Nat → Prop} {z : Nat} {L L' : List Pk} {C C' : Int → Int → Bool} {v : Value} {S : List Ms} {dn an : Nat}
theorem TL.keep (h : TL w0 w N b F z L C v S dn an) (hb : Below w.heap.size w w') : TL w0 w' N b F z L C v S dn an := ⟨h.s.keep hb, h.o.keep hb, h.d, h.p, h.c, h.bd⟩
/-- The net changes. -/
theorem TL.net (h : TL w0 w N b F z L C v S dn an) {z' : Nat} (hS : NS w0 w' b G z' N L' C') (hC : Ch w F w' G) (hz : z ≤ z') (hp : ∀ p ∈ L', p ∈ L) {dn' an' : Nat} (hc : an' + L'.length ≤ S.length + dn') (hd : dn' ≤ z') (ha : an' ≤ z') : TL w0 w' N b G z' L' C' v S dn' an' :=
  ⟨hS, h.o.keepBut (fun k hk e => hC.block k hk (h.d k e)), fun k e hG => hC.keepsOut (h.d k e) (h.o.lt e).2 hG, fun p hp' => h.p p (hp p hp'), hc, ⟨by have := h.bd; omega, hd, ha⟩⟩
/-- A message has gone, and is noted. -/
theorem TL.sent (h : TL w0 w N b F z L C v S dn an) {m : Ms} {x y : Int} (hS : NS w0 w' b G z N (L ++ [⟨x, y, m.ec⟩]) C) (hC : Ch w F w' G) (hck : m.ck = 0) (g : Nat) (hg : w'.heap[g]? = some (.cells #[.int .i64 m.k, .int .i64 m.f, .int .i64 m.t, .int .i64 m.i, .string (ofL m.b)] 33 (0, 0))) (hgF : ¬ G g) (hl : S.length ≤ 1000) :
    ∃ a' c' w2, (∀ ty, (Builtin.append_ #[55, 55] ty #[v, .slice (some ⟨g, 0, none⟩) 1 1]).run Try.prog w' = .ok (.slice a' (S.length + 1) c') w2) ∧ TL w0 w2 N b G (z + 1) (L ++ [⟨x, y, m.ec⟩]) C (.slice a' (S.length + 1) c') (S ++ [m]) dn an := by
  have ho := h.o.keepBut (fun k hk e => hC.block k hk (h.d k e))
  have hd : ∀ k, v.ownBlock = some k → ¬ G k := fun k e hG => hC.keepsOut (h.d k e) (h.o.lt e).2 hG
  obtain ⟨a', c', w2, hr, h2, h3⟩ := run_appM w' 0 w0.heap.size v S m g ho hg hS.bel.size (by omega)
  refine ⟨a', c', w2, fun ty => hr, ⟨?_, h2, ?_, ?_, ?_, ?_⟩⟩
  · refine (hS.keepBut (fun k hk hG => h3.g.block k hk (fun e => hd k e.symm hG)) ?_).more (by omega)
    exact hS.bel.trans (h3.below (fun k hk => (ho.lt hk).1) hS.bel.size)
  · intro k e hG
    rcases h3.n k e with h' | h'
    · exact hd k h' hG
    · have := (hS.own k hG).2; omega
  · intro p hp
    rcases List.mem_append.1 hp with h' | h'
    · obtain ⟨m', hm, h1, h2⟩ := h.p p h'
      exact ⟨m', List.mem_append.2 (.inl hm), h1, h2⟩
    · rw [List.mem_singleton.1 h']
      exact ⟨m, by simp, hck, rfl⟩
  · have := h.c
    simp only [List.length_append, List.length_singleton]
    omega
  · have := h.bd
    simp only [List.length_append, List.length_singleton]
    omega
end
theorem drp_mem {L : List Pk} {i : Int} : ∀ p ∈ Nt.drp L i, p ∈ L := fun p hp => List.mem_of_mem_eraseIdx hp
theorem drp_len {L : List Pk} {i : Int} : (Nt.drp L i).length ≤ L.length := List.length_eraseIdx_le ..
theorem drp_less {L : List Pk} {i : Int} (h : 0 < L.length) : (Nt.drp L i).length + 1 = L.length := by
  unfold Nt.drp
  rw [List.length_eraseIdx_of_lt (Nt.wr_lt i h)]
  omega
theorem dbl_mem {L : List Pk} {i : Int} : ∀ p ∈ Nt.dbl L i, p ∈ L := by
  intro p hp
  unfold Nt.dbl at hp
  cases h : Nt.is L && Nt.room L
  · rw [h] at hp; exact hp
  · rw [h] at hp
    rcases List.mem_append.1 hp with h' | h'
    · exact h'
    · rw [Option.mem_toList] at h'
      exact List.mem_of_getElem? h'
theorem dbl_no {L : List Pk} {i : Int} (h : (Nt.is L && Nt.room L) = false) : Nt.dbl L i = L := by unfold Nt.dbl; rw [h]; rfl
theorem dbl_len {L : List Pk} {i : Int} : (Nt.dbl L i).length ≤ L.length + 1 := by
  unfold Nt.dbl
  cases Nt.is L && Nt.room L
  · exact Nat.le_succ _
  · show (L ++ _).length ≤ _
    cases L[Nt.wr i L.length]? <;> simp
/-- What arrives was under way. -/
theorem out_some {L : List Pk} {C : Int → Int → Bool} {i : Int} (h : Nt.gok (Nt.out L C i) = true) : ∃ p ∈ L, Nt.out L C i = some p.s := by
  unfold Nt.out at h ⊢
  cases hp : L[Nt.wr i L.length]? with
  | none => rw [hp] at h; cases h
  | some p =>
    rw [hp] at h
    have h' : Nt.gok (bif C p.a p.b then none else some p.s) = true := h
    refine ⟨p, List.mem_of_getElem? hp, ?_⟩
    show (bif C p.a p.b then none else some p.s) = some p.s
    cases hc : C p.a p.b with
    | true => rw [hc] at h'; cases h'
    | false => rfl
/-- .. so it is one that was sent. -/
theorem TL.arrives {w0 w : World} {N : Int} {b : Nat} {F : Nat → Prop} {z : Nat} {L : List Pk} {C : Int → Int → Bool} {v : Value} {S : List Ms} {dn an : Nat} (h : TL w0 w N b F z L C v S dn an) {i : Int} (hok : Nt.gok (Nt.out L C i) = true) : 0 < L.length ∧ ∃ m ∈ S, mc (Nt.out L C i) = #[.int .i64 m.k, .int .i64 m.f, .int .i64 m.t, .int .i64 m.i, .string (ofL m.b)] := by
  obtain ⟨p, hp, ho⟩ := out_some hok
  obtain ⟨m, hm, h1, h2⟩ := h.p p hp
  refine ⟨by cases L with | nil => simp at hp | cons a r => simp, m, hm, ?_⟩
  rw [ho, h2]
  exact (mc_back m.k m.f m.t m.i m.b h1).1
theorem AtM.keep {w w' : World} {a : Option Addr} {l : List Ms} (h : AtM w a l) (hb : Below w.heap.size w w') : AtM w' a l := by
  intro j hj
  obtain ⟨b, off, rfl, h0, h1, h2, h3, h4⟩ := h j hj
  have hk := hb.block b (World.block_lt_of_cell? w _ h0)
  exact ⟨b, off, rfl, (World.cell?_of_block (w := w) (a := ⟨b, off + j * 5, none⟩) hk).trans h0, (World.cell?_of_block (w := w) (a := ⟨b, off + j * 5 + 1, none⟩) hk).trans h1, (World.cell?_of_block (w := w) (a := ⟨b, off + j * 5 + 2, none⟩) hk).trans h2, (World.cell?_of_block (w := w) (a := ⟨b, off + j * 5 + 3, none⟩) hk).trans h3, (World.cell?_of_block (w := w) (a := ⟨b, off + j * 5 + 4, none⟩) hk).trans h4⟩
/-- Whether one of the first was alike. -/
def anyM (S : List Ms) (q : Nat) (m : Ms) : Bool := (S.take q).any fun x => meq x.k x.f x.t x.i (ofL x.b) m.k m.f m.t m.i (ofL m.b)
theorem anyM_zero (S : List Ms) (m : Ms) : anyM S 0 m = false := rfl
theorem anyM_next (S : List Ms) (q : Nat) (h : q < S.length) (m : Ms) : anyM S (q + 1) m = (anyM S q m || meq S[q].k S[q].f S[q].t S[q].i (ofL S[q].b) m.k m.f m.t m.i (ofL m.b)) := by
  unfold anyM
  rw [List.take_succ_eq_append_getElem h, List.any_append]
  simp
theorem anyM_all (S : List Ms) (m : Ms) (h : m ∈ S) : anyM S S.length m = true := by
  unfold anyM
  rw [List.take_length, List.any_eq_true]
  exact ⟨m, h, (meq_iff _ _ _ _ _ _ _ _ _ _).2 ⟨rfl, rfl, rfl, rfl, rfl⟩⟩
set_option maxRecDepth 100000 in
set_option maxHeartbeats 4000000 in
theorem true_walk (n : Int) (a : Option Addr) (cap : Nat) (l : List Dd) (w : World) (hl : l.length ≤ maxLen) (hd : Dds w a l) (hok : ∀ d ∈ l, d.ok) :
    Calls Try.prog 4 #[.int .i64 n, .slice a l.length cap] w fun e w' => e = .returned (.bool true) ∧ Below w.heap.size w w' := by
  have c1 := few_any a cap l w hl
  cases hfw : few l with
  | false =>
    rw [hfw] at c1
    clear hd hok
    go_enter Try.func4, Try.ntmps4
    go_wp2_with fail
    refine c1.mono ?_
    rintro e w1 ⟨rfl, rfl⟩
    go_wp2_with fail
    refine (awake_any _).mono ?_
    rintro e w2 ⟨rfl, hb2⟩
    go_wp2
    go_ret
    exact ⟨rfl, hb2⟩
  | true =>
    rw [hfw] at c1
    have hln : l.length ≤ 120 := of_decide_eq_true hfw
    have HD := Hid_of hd
    have HOK := Hid_of hok
    have hN := Nt.lim_le n
    clear hd hok hl hfw
    go_enter Try.func4, Try.ntmps4
    go_wp2_with fail
    refine c1.mono ?_
    rintro e w1 ⟨rfl, rfl⟩
    go_wp2_with fail
    refine (newN n w1).mono ?_
    rintro e w2 ⟨b, F0, rfl, hS0⟩
    have HT0 : Hid (TL w1 w2 (Nt.lim n) b F0 0 [] (fun _ _ => false) (.slice none 0 0) [] 0 0) := ⟨hS0, OwnM.nil _ _, fun k hk => by simp [Value.ownBlock] at hk, fun p hp => by simp at hp, by simp, by simp⟩
    generalize Nt.lim n = N at *
    clear hS0 c1
    go_wp2_with fail
    go_loopw [6, 7, 8, 9] (fun sv dv av iv wr => ∃ (j : Nat) (F : Nat → Prop) (L : List Pk) (C : Int → Int → Bool) (S : List Ms) (dn an : Nat), j ≤ l.length ∧ iv = .int .i64 j ∧ dv = .int .i64 dn ∧ av = .int .i64 an ∧ Hid (TL w1 wr N b F j L C sv S dn an)) (fun _ _ _ iv _ => l.length - (intOf iv).toNat)
    case atStart => exact ⟨0, F0, [], _, [], 0, 0, by omega, rfl, rfl, rfl, HT0⟩
    case round =>
      obtain ⟨j, F, L, C, S, dn, an, hj, rfl, rfl, rfl, HT⟩ := hrel
      obtain ⟨hb1, hb2, hb3⟩ := HT.out.bd
      have hLn := HT.out.s.ok.n
      by_cases hlt : j < l.length
      · obtain ⟨ab, off, rfl, q0, q1, q2, q3, q4, q5, q6, q7, q8⟩ := (HD.out.keep HT.out.s.bel).get j hlt
        have hmb : l[j].mb.length ≤ maxLen := HOK.out l[j] (List.getElem_mem hlt)
        have hjl : (j : Int) < (l.length : Int) := by omega
        generalize l[j].k = dk at *
        generalize l[j].a = da at *
        generalize l[j].b = db at *
        generalize l[j].c = dc at *
        generalize l[j].me = mk at *
        generalize l[j].mf = mf at *
        generalize l[j].mt = mt at *
        generalize l[j].mi = mi at *
        generalize l[j].mb = mb at *
        obtain ⟨W1, HW1⟩ : ∃ W1, Hid (wr.alloc (.cells #[.int .i64 dk, .int .i64 da, .int .i64 db, .int .i64 dc, .int .i64 mk, .int .i64 mf, .int .i64 mt, .int .i64 mi, .string (ofL mb)] 35) = W1) := ⟨_, rfl⟩
        have hbW : Below wr.heap.size wr W1 := by rw [← HW1.out]; exact bel1 wr _
        have HT1 := Hid_of (HT.out.keep hbW)
        have HQ1 : Hid (Bx W1 F wr.heap.size (.cells #[.int .i64 dk, .int .i64 da, .int .i64 db, .int .i64 dc, .int .i64 mk, .int .i64 mf, .int .i64 mt, .int .i64 mi, .string (ofL mb)] 35)) := by rw [← HW1.out]; exact Bx.new (fun k hk => (HT.out.s.own k hk).2) _ (heap_alloc_last wr _)
        clear hbW HT
        obtain ⟨sa, cs, rfl, _⟩ := HT1.out.o.at
        go_upto_region 10 with fail
        rw [HW1.out]
        clear HW1 q0 q1 q2 q3 q4 q5 q6 q7 q8
        generalize wr.heap.size = q at *
        obtain ⟨⟨d0, d1, d2, d3⟩, d4, d5, d6, d7, d8⟩ := row9 HQ1.out.r
        by_cases k0 : dk = 0
        · subst k0
          have cs1 := HT1.out.s.send mk mf mt mi mb hmb
          cases hmay : Nt.may N L mk mf mt mi mb with
          | false =>
            rw [hmay] at cs1
            go_wp2_with fail
            refine cs1.mono ?_
            rintro e w3 ⟨G, rfl, hS3, hC3⟩
            have HT3 : Hid (TL w1 w3 N b G (j + 1) L C (.slice sa S.length cs) S dn an) := HT1.out.net (hS3.more (by omega)) hC3 (by omega) (fun p hp => hp) HT1.out.c (by omega) (by omega)
            clear cs1 hS3 hC3 HT1 HQ1 d0 d1 d2 d3 d4 d5 d6 d7 d8
            have hw := HT3.out.s.waiting
            have hcn := HT3.out.c
            have hLm := HT3.out.s.ok.n
            go_wp2_with fail
            refine hw.mono ?_
            rintro e w9 ⟨rfl, rfl⟩
            clear hw
            go_wp2
            go_roundw
            case rel => exact ⟨j + 1, G, L, C, S, dn, an, by omega, by go_num, rfl, rfl, HT3⟩
            case measure => simp [intOf]; omega
          | true =>
            rw [hmay] at cs1
            have hck := ((Nt.may_iff _ _ _ _ _ _ _).1 hmay).2.2.1
            go_wp2_with fail
            refine cs1.mono ?_
            rintro e w3 ⟨G, rfl, hS3, hC3⟩
            have HQ3 := Hid_of (HQ1.out.step hC3)
            obtain ⟨W4, HW4⟩ : ∃ W4, Hid (w3.alloc (.cells #[.int .i64 mk, .int .i64 mf, .int .i64 mt, .int .i64 mi, .string (ofL mb)] 33) = W4) := ⟨_, rfl⟩
            have hb4 : Below w3.heap.size w3 W4 := by rw [← HW4.out]; exact bel1 w3 _
            have hg4 : W4.heap[w3.heap.size]? = some (.cells #[.int .i64 mk, .int .i64 mf, .int .i64 mt, .int .i64 mi, .string (ofL mb)] 33 (0, 0)) := by rw [← HW4.out]; exact heap_alloc_last w3 _
            obtain ⟨a', c', w5, hrun, hT5⟩ := HT1.out.sent (m := ⟨mk, mf, mt, mi, mb⟩) (hS3.keep hb4) (hC3.trans (Ch.ofBelow hb4)) hck w3.heap.size hg4 (fun e => by have := (hS3.own _ e).2; omega) (by omega)
            rw [← HW4.out] at hrun
            have HT5 := Hid_of hT5
            obtain ⟨L5, hL5⟩ : ∃ L5, L ++ [⟨min mf mt, max mf mt, Ms.ec ⟨mk, mf, mt, mi, mb⟩⟩] = L5 := ⟨_, rfl⟩
            rw [hL5] at HT5
            obtain ⟨⟨x0, x1, x2, x3⟩, x4, x5, x6, x7, x8⟩ := row9 HQ3.out.r
            clear cs1 hS3 hC3 HT1 HQ1 d0 d1 d2 d3 d4 d5 d6 d7 d8 hb4 hg4 hT5 HQ3 HW4 hck hL5
            go_wp2_with (at_builtin; refine wpList_append_known rfl _ _ 55 rfl _ _ rfl rfl _ _ (hrun _) ?_)
            have hw := HT5.out.s.waiting
            have hcn := HT5.out.c
            have hLm := HT5.out.s.ok.n
            rw [List.length_append, List.length_singleton] at hcn
            refine hw.mono ?_
            rintro e w9 ⟨rfl, rfl⟩
            clear hw
            go_wp2
            go_roundw
            case rel => exact ⟨j + 1, G, L5, C, S ++ [⟨mk, mf, mt, mi, mb⟩], dn, an, by omega, by go_num, rfl, rfl, HT5⟩
            case measure => simp [intOf]; omega
        by_cases k1 : dk = 1
        · subst k1
          have cs1 := HT1.out.s.deliver da
          obtain ⟨o, ho⟩ : ∃ o, Nt.out L C da = o := ⟨_, rfl⟩
          have hao := fun h => HT1.out.arrives (i := da) h
          rw [ho] at cs1 hao
          clear ho
          have hdm : ∀ p ∈ Nt.drp L da, p ∈ L := drp_mem
          have hdl : (Nt.drp L da).length ≤ L.length := drp_len
          have hdl2 : 0 < L.length → (Nt.drp L da).length + 1 = L.length := drp_less
          generalize Nt.drp L da = L2 at *
          cases hgo : Nt.gok o with
          | false =>
            rw [hgo] at cs1
            obtain ⟨u0, u1, u2, u3, u4, hmc⟩ := mc_row o
            rw [hmc] at cs1
            go_wp2_with fail
            refine cs1.mono ?_
            rintro e w3 ⟨G, rfl, hS3, hC3⟩
            have HT3 : Hid (TL w1 w3 N b G (j + 1) L2 C (.slice sa S.length cs) S dn an) := HT1.out.net (hS3.more (by omega)) hC3 (by omega) hdm (by have := HT1.out.c; omega) (by omega) (by omega)
            obtain ⟨W4, HW4⟩ : ∃ W4, Hid (w3.alloc (.cells #[.int .i64 u0, .int .i64 u1, .int .i64 u2, .int .i64 u3, .string u4] 33) = W4) := ⟨_, rfl⟩
            have HT4 : Hid (TL w1 W4 N b G (j + 1) L2 C (.slice sa S.length cs) S dn an) := by rw [← HW4.out]; exact HT3.out.keep (bel1 w3 _)
            clear cs1 hS3 hC3 HT1 HQ1 d0 d1 d2 d3 d4 d5 d6 d7 d8 hdm hdl hdl2 hao HT3
            go_upto_region 16 with fail
            rw [HW4.out]
            clear HW4
            have hw := HT4.out.s.waiting
            have hcn := HT4.out.c
            have hLm := HT4.out.s.ok.n
            go_wp2_with fail
            refine hw.mono ?_
            rintro e w9 ⟨rfl, rfl⟩
            clear hw
            go_wp2
            go_roundw
            case rel => exact ⟨j + 1, G, L2, C, S, dn, an, by omega, by go_num, rfl, rfl, HT4⟩
            case measure => simp [intOf]; omega
          | true =>
            obtain ⟨hLp, m, hmS, hmc⟩ := hao hgo
            have hdl3 := hdl2 hLp
            rw [hgo, hmc] at cs1
            go_wp2_with fail
            refine cs1.mono ?_
            rintro e w3 ⟨G, rfl, hS3, hC3⟩
            have HT3 : Hid (TL w1 w3 N b G (j + 1) L2 C (.slice sa S.length cs) S dn (an + 1)) := HT1.out.net (hS3.more (by omega)) hC3 (by omega) hdm (by have := HT1.out.c; omega) (by omega) (by omega)
            obtain ⟨W4, HW4⟩ : ∃ W4, Hid (w3.alloc (.cells #[.int .i64 m.k, .int .i64 m.f, .int .i64 m.t, .int .i64 m.i, .string (ofL m.b)] 33) = W4) := ⟨_, rfl⟩
            have HT4 : Hid (TL w1 W4 N b G (j + 1) L2 C (.slice sa S.length cs) S dn (an + 1)) := by rw [← HW4.out]; exact HT3.out.keep (bel1 w3 _)
            have hg4 : W4.heap[w3.heap.size]? = some (.cells #[.int .i64 m.k, .int .i64 m.f, .int .i64 m.t, .int .i64 m.i, .string (ofL m.b)] 33 (0, 0)) := by rw [← HW4.out]; exact heap_alloc_last w3 _
            have HALL : Hid (anyM S S.length m = true) := anyM_all S m hmS
            clear cs1 hS3 hC3 HT1 HQ1 d0 d1 d2 d3 d4 d5 d6 d7 d8 hdm hdl hdl2 hao HT3 hmS hmc hdl3 hLp
            go_upto_region 16 with fail
            rw [HW4.out]
            clear HW4
            generalize w3.heap.size = q3 at *
            have HG4 := Hid_of hg4
            clear hg4
            have hwa : IntKind.i64.wrap ((an : Int) + 1) = (an : Int) + 1 := by rw [IntKind.wrap_i64]; omega
            have HS4 : Hid (AtM W4 sa S) := by
              obtain ⟨a2, c2, hv, hat⟩ := HT4.out.o.at
              simp only [Value.slice.injEq, true_and] at hv
              obtain ⟨rfl, rfl⟩ := hv
              exact hat
            go_wp2_with fail
            go_loopw [13, 14] (fun tv kv wr2 => ∃ q : Nat, q ≤ S.length ∧ kv = .int .i64 q ∧ tv = .bool (anyM S q m) ∧ Hid (Below W4.heap.size W4 wr2)) (fun _ kv _ => S.length - (intOf kv).toNat)
            case atStart => exact ⟨0, by omega, rfl, rfl, Below.refl _ _⟩
            case round =>
              obtain ⟨qq, hqq, rfl, rfl, HBL⟩ := hrel
              obtain ⟨⟨m0, m1, m2, m3, m4⟩, _⟩ := row5 (bel_row HG4.out HBL.out)
              have HNB : Hid (∀ nq, Below W4.heap.size W4 (World.drewN wr nq)) := fun nq => below_drewN HBL.out nq
              by_cases hq2 : qq < S.length
              · obtain ⟨sb, so, rfl, s0, s1, s2, s3, s4⟩ := (HS4.out.keep HBL.out) qq hq2
                have hnx := anyM_next S qq hq2 m
                have e1 := eqs33 S[qq].k S[qq].f S[qq].t S[qq].i (ofL S[qq].b) m.k m.f m.t m.i (ofL m.b)
                generalize meq S[qq].k S[qq].f S[qq].t S[qq].i (ofL S[qq].b) m.k m.f m.t m.i (ofL m.b) = rr at *
                have HNX := Hid_of hnx
                clear hnx
                have hqi : (qq : Int) < (S.length : Int) := by omega
                cases hav : anyM S qq m with
                | true =>
                  rw [hav] at HNX
                  go_wp2_with fail
                  go_quiet (fail)
                  go_wp2
                  go_roundw
                  case rel => exact ⟨qq + 1, by omega, by go_num, by rw [HNX.out]; rfl, HNB.out _⟩
                  case measure => simp [intOf]; omega
                | false =>
                  rw [hav] at HNX
                  go_wp2_with fail
                  go_quiet (fail)
                  go_wp2
                  go_roundw
                  case rel => exact ⟨qq + 1, by omega, by go_num, by rw [HNX.out]; rfl, HNB.out _⟩
                  case measure => simp [intOf]; omega
              · have hqe : qq = S.length := by omega
                subst hqe
                rw [HALL.out]
                have HT5 := Hid_of (HT4.out.keep HBL.out)
                clear HT4 HBL HNB HG4 HS4 m0 m1 m2 m3 m4
                have hw := HT5.out.s.waiting
                have hcn := HT5.out.c
                have hLm := HT5.out.s.ok.n
                go_wp2_with fail
                refine hw.mono ?_
                rintro e w9 ⟨rfl, rfl⟩
                clear hw
                go_wp2
                go_roundw
                case rel => exact ⟨j + 1, G, L2, C, S, dn, an + 1, by omega, by go_num, rfl, by go_num, HT5⟩
                case measure => simp [intOf]; omega
        by_cases k2 : dk = 2
        · subst k2
          have cs1 := HT1.out.s.drop da
          have hdm : ∀ p ∈ Nt.drp L da, p ∈ L := drp_mem
          have hdl : (Nt.drp L da).length ≤ L.length := drp_len
          generalize Nt.drp L da = L2 at *
          generalize Nt.is L = ri at *
          go_wp2_with fail
          refine cs1.mono ?_
          rintro e w3 ⟨G, rfl, hS3, hC3⟩
          have HT3 : Hid (TL w1 w3 N b G (j + 1) L2 C (.slice sa S.length cs) S dn an) := HT1.out.net (hS3.more (by omega)) hC3 (by omega) hdm (by have := HT1.out.c; omega) (by omega) (by omega)
          clear cs1 hS3 hC3 HT1 HQ1 d0 d1 d2 d3 d4 d5 d6 d7 d8 hdm hdl
          have hw := HT3.out.s.waiting
          have hcn := HT3.out.c
          have hLm := HT3.out.s.ok.n
          go_wp2_with fail
          refine hw.mono ?_
          rintro e w9 ⟨rfl, rfl⟩
          clear hw
          go_wp2
          go_roundw
          case rel => exact ⟨j + 1, G, L2, C, S, dn, an, by omega, by go_num, rfl, rfl, HT3⟩
          case measure => simp [intOf]; omega
        by_cases k3 : dk = 3
        · subst k3
          have cs1 := HT1.out.s.double da
          have hdm : ∀ p ∈ Nt.dbl L da, p ∈ L := dbl_mem
          have hdl : (Nt.dbl L da).length ≤ L.length + 1 := dbl_len
          have hdn : (Nt.is L && Nt.room L) = false → Nt.dbl L da = L := dbl_no
          generalize Nt.dbl L da = L2 at *
          cases hri : Nt.is L && Nt.room L with
          | false =>
            rw [hri] at cs1
            have hd2 := hdn hri
            subst hd2
            go_wp2_with fail
            refine cs1.mono ?_
            rintro e w3 ⟨G, rfl, hS3, hC3⟩
            have HT3 : Hid (TL w1 w3 N b G (j + 1) L2 C (.slice sa S.length cs) S dn an) := HT1.out.net (hS3.more (by omega)) hC3 (by omega) hdm (by have := HT1.out.c; omega) (by omega) (by omega)
            clear cs1 hS3 hC3 HT1 HQ1 d0 d1 d2 d3 d4 d5 d6 d7 d8 hdm hdl
            have hw := HT3.out.s.waiting
            have hcn := HT3.out.c
            have hLm := HT3.out.s.ok.n
            go_wp2_with fail
            refine hw.mono ?_
            rintro e w9 ⟨rfl, rfl⟩
            clear hw
            go_wp2
            go_roundw
            case rel => exact ⟨j + 1, G, L2, C, S, dn, an, by omega, by go_num, rfl, rfl, HT3⟩
            case measure => simp [intOf]; omega
          | true =>
            rw [hri] at cs1
            go_wp2_with fail
            refine cs1.mono ?_
            rintro e w3 ⟨G, rfl, hS3, hC3⟩
            have HT3 : Hid (TL w1 w3 N b G (j + 1) L2 C (.slice sa S.length cs) S (dn + 1) an) := HT1.out.net (hS3.more (by omega)) hC3 (by omega) hdm (by have := HT1.out.c; omega) (by omega) (by omega)
            clear cs1 hS3 hC3 HT1 HQ1 d0 d1 d2 d3 d4 d5 d6 d7 d8 hdm hdl hdn
            have hw := HT3.out.s.waiting
            have hcn := HT3.out.c
            have hLm := HT3.out.s.ok.n
            go_wp2_with fail
            refine hw.mono ?_
            rintro e w9 ⟨rfl, rfl⟩
            clear hw
            go_wp2
            go_roundw
            case rel => exact ⟨j + 1, G, L2, C, S, dn + 1, an, by omega, by go_num, by go_num, rfl, HT3⟩
            case measure => simp [intOf]; omega
        by_cases k5 : dk = 5
        · subst k5
          have cs1 := HT1.out.s.cut (by omega) da db true
          generalize cutN C N da db true = C2 at *
          generalize (Nt.node N da && Nt.node N db) = ri at *
          go_wp2_with fail
          refine cs1.mono ?_
          rintro e w3 ⟨G, rfl, hS3, hC3⟩
          have HT3 : Hid (TL w1 w3 N b G (j + 1) L C2 (.slice sa S.length cs) S dn an) := HT1.out.net hS3 hC3 (by omega) (fun p hp => hp) HT1.out.c (by omega) (by omega)
          clear cs1 hS3 hC3 HT1 HQ1 d0 d1 d2 d3 d4 d5 d6 d7 d8
          have hw := HT3.out.s.waiting
          have hcn := HT3.out.c
          have hLm := HT3.out.s.ok.n
          go_wp2_with fail
          refine hw.mono ?_
          rintro e w9 ⟨rfl, rfl⟩
          clear hw
          go_wp2
          go_roundw
          case rel => exact ⟨j + 1, G, L, C2, S, dn, an, by omega, by go_num, rfl, rfl, HT3⟩
          case measure => simp [intOf]; omega
        by_cases k6 : dk = 6
        · subst k6
          have cs1 := HT1.out.s.cut (by omega) da db false
          generalize cutN C N da db false = C2 at *
          generalize (Nt.node N da && Nt.node N db) = ri at *
          go_wp2_with fail
          refine cs1.mono ?_
          rintro e w3 ⟨G, rfl, hS3, hC3⟩
          have HT3 : Hid (TL w1 w3 N b G (j + 1) L C2 (.slice sa S.length cs) S dn an) := HT1.out.net hS3 hC3 (by omega) (fun p hp => hp) HT1.out.c (by omega) (by omega)
          clear cs1 hS3 hC3 HT1 HQ1 d0 d1 d2 d3 d4 d5 d6 d7 d8
          have hw := HT3.out.s.waiting
          have hcn := HT3.out.c
          have hLm := HT3.out.s.ok.n
          go_wp2_with fail
          refine hw.mono ?_
          rintro e w9 ⟨rfl, rfl⟩
          clear hw
          go_wp2
          go_roundw
          case rel => exact ⟨j + 1, G, L, C2, S, dn, an, by omega, by go_num, rfl, rfl, HT3⟩
          case measure => simp [intOf]; omega
        have f0 : (dk == 0) = false := by simpa using k0
        have f1 : (dk == 1) = false := by simpa using k1
        have f2 : (dk == 2) = false := by simpa using k2
        have f3 : (dk == 3) = false := by simpa using k3
        have f5 : (dk == 5) = false := by simpa using k5
        have f6 : (dk == 6) = false := by simpa using k6
        have HT3 : Hid (TL w1 W1 N b F (j + 1) L C (.slice sa S.length cs) S dn an) := HT1.out.net (HT1.out.s.more (by omega)) (Ch.refl _ _) (by omega) (fun p hp => hp) HT1.out.c (by omega) (by omega)
        clear k0 k1 k2 k3 k5 k6 HT1 HQ1 d1 d2 d3 d4 d5 d6 d7 d8
        have hw := HT3.out.s.waiting
        have hcn := HT3.out.c
        have hLm := HT3.out.s.ok.n
        go_wp2_with fail
        refine hw.mono ?_
        rintro e w9 ⟨rfl, rfl⟩
        clear hw
        go_wp2
        go_roundw
        case rel => exact ⟨j + 1, F, L, C, S, dn, an, by omega, by go_num, rfl, rfl, HT3⟩
        case measure => simp [intOf]; omega
      · have hje : j = l.length := by omega
        subst hje
        have HB := Hid_of HT.out.s.bel
        clear HT HD HOK
        go_wp2_with fail
        refine (awake_any _).mono ?_
        rintro e w9 ⟨rfl, hb9⟩
        have HB9 := Hid_of (bel_up HB.out hb9 (Nat.le_refl _))
        clear hb9 HB
        go_wp2
        go_ret
        exact ⟨rfl, HB9.out⟩
end Go.Proofs.Ytjbodjjeenjbeaa
