/-
  Calls that are due: what is sent, what is given up.
-/
import Derived.Test.YtbgbdiiinggjnaaCG
namespace Go.Proofs.Ytbgbdiiinggjnaa
open Go.RowKit
set_option linter.unusedVariables false
open M (E)
open Cl (K W Ms fup Rel)

theorem due_nil (now : Int) (w : World) : Calls Try.prog 15 #[.pointer none, .int .i64 now] w fun e w' => e = .returned (.slice none 0 0) ∧ w' = w := by
  go_enter Try.func15, Try.ntmps15
  go_wp2
  go_ret
  exact ⟨rfl, rfl⟩
theorem due_no (b : Nat) (now : Int) (hn : Cl.moment now = false) (w : World) : Calls Try.prog 15 #[.pointer (some ⟨b, 0, none⟩), .int .i64 now] w fun e w' => e = .returned (.slice none 0 0) ∧ w' = w := by
  have hm := isMoment_any now
  rw [hn] at hm
  go_enter Try.func15, Try.ntmps15
  go_wp2_with fail
  refine (hm _).mono ?_
  rintro e w1 ⟨rfl, rfl⟩
  go_wp2
  go_ret
  exact ⟨rfl, rfl⟩
theorem OwnI.lt2 {w : World} {base : Nat} {v : Value} {l : List Int} (h : OwnI w base v l) {b : Nat} (hb : v.ownBlock = some b) : base ≤ b ∧ b < w.heap.size := World.ownsRow.lt h b hb
set_option maxRecDepth 100000 in
set_option maxHeartbeats 2000000 in
theorem due_yes {w : World} {base b bt m : Nat} {vtS voS : Value} {nS : Nat} {me next : Int} {OS : List W} {PS : List E} {fS : Int → Option (Int × ByteArray)} {L : List K} (h : CI w base b bt m vtS voS nS me next OS PS fS) (hb : base ≤ w.heap.size) (hR : Rel me next OS PS fS nS L []) (now : Int) (hn : Cl.moment now = true) :
    Calls Try.prog 15 #[.pointer (some ⟨b, 0, none⟩), .int .i64 now] w (DuOut w base b bt m vtS voS nS me next now L (Cl.run me now (M.dueI PS now) L []).1 (Cl.run me now (M.dueI PS now) L []).2) := by
  have hm := isMoment_any now
  rw [hn] at hm
  have hn' := Cl.moment_iff.1 hn
  obtain ⟨⟨c0, c1, c2, c3, c4⟩, _⟩ := h.cells
  have hdu := due_any base bt vtS PS now w hb h.tm
  have HH := Hid_of h
  have HR := Hid_of hR
  obtain ⟨ids, hids⟩ : ∃ ids, M.dueI PS now = ids := ⟨_, rfl⟩
  have HND : Hid ids.Nodup := by rw [← hids]; exact Cl.dueI_nodup h.tm.g now
  have hil : ids.length ≤ 64 := by rw [← hids]; have := M.dueI_len PS now; have := h.tm.len; omega
  rw [hids]
  have HIDS := Hid_of hids
  obtain ⟨F0, HF0⟩ : ∃ F0, Hid (fpc b bt m vtS voS = F0) := ⟨_, rfl⟩
  clear h hR hn hids
  go_enter Try.func15, Try.ntmps15
  go_wp2_with fail
  refine (hm _).mono ?_
  rintro e w0 ⟨rfl, rfl⟩
  go_wp2_with fail
  refine hdu.mono ?_
  rintro e w1 ⟨u, vt1, rfl, ho1, hx1, hc1, ha1⟩
  obtain ⟨hX1, hF1⟩ := HH.out.timed hx1 hc1
  rw [HIDS.out] at ho1
  obtain ⟨a, cap0, rfl, hat, hbl, _⟩ := ho1.at
  have hsep : ∀ k, blk a k → ¬ fpc b bt m vt1 voS k := fun k hk hf => by
    obtain ⟨k1, k2, k3⟩ := hbl k hk
    have hlow := fun q (hq : fpc b bt m vtS voS q) => (HH.out.mine q hq).2
    rcases hf with e | e | e | e | e
    · have := hlow k (.inl e); omega
    · have := hlow k (.inr (.inl e)); omega
    · have := hlow k (.inr (.inr (.inl e))); omega
    · exact ha1 k k2 e
    · have := hlow k (.inr (.inr (.inr (.inr e)))); omega
  have H0 : Hid (DL w0 F0 base b bt m me next now ids a L 0 w1 (.slice none 0 0) vt1 voS nS OS (M.dueL PS now) fS L []) := by
    refine ⟨hX1, ?_, by rw [← HF0.out]; exact hF1, OwnL.nil _ _ _, hat, fun k e => by simp [Value.ownBlock] at e, fun k hk => ⟨hsep k hk, by simp [Value.ownBlock], (hbl k hk).2.2⟩, rfl, HND.out, by simp⟩
    have := HR.out.due now
    rw [HIDS.out] at this
    exact this
  clear hX1 hF1 ho1 hx1 hc1 ha1 hat hbl hsep hdu hm c0 c1 c2 c3 c4
  go_wp2_with fail
  go_loopw [5, 24] (fun u i wr => ∃ j : Nat, j ≤ ids.length ∧ i = .int .i64 j ∧ ∃ vtS voS nS OS PS fS Lr out, Hid (DL w0 F0 base b bt m me next now ids a L j wr u vtS voS nS OS PS fS Lr out)) (fun _ i _ => ids.length - (intOf i).toNat)
  case atStart => exact ⟨0, by omega, rfl, vt1, voS, nS, OS, _, fS, L, [], H0⟩
  case round =>
    clear H0 HH HR HND HIDS
    obtain ⟨j, hj, rfl, vt, vo, n, O, P, f, Lr, out, HD⟩ := hrel
    by_cases hlt : j < ids.length
    · have hD := HD.out
      obtain ⟨ba, oa, rfl, hca⟩ := hD.at' j hlt
      have hp := placeC_any hD.ci hD.rel.len64 hD.rel.up ids[j]
      obtain ⟨id, hid0⟩ : ∃ id, ids[j] = id := ⟨_, rfl⟩
      rw [hid0] at hca hp
      have HIDJ := Hid_of hid0
      have hji : (j : Int) < (ids.length : Int) := by omega
      clear hD hid0
      go_wp2_with fail
      refine hp.mono ?_
      rintro e w2 ⟨r, bb, rfl, hsr, hb2⟩
      have hD2 := HD.out.keep hb2
      rw [← HIDJ.out] at hsr
      obtain ⟨rfl, hr, k, hid, hk, hw, hok, hst⟩ := hD2.whose hlt hsr
      rw [HIDJ.out] at hid hk
      obtain ⟨⟨c0, c1, c2, c3, c4⟩, _⟩ := hD2.ci.cells
      obtain ⟨ar, cap, hv, hxl, _⟩ := hD2.ci.own.at
      obtain ⟨g, off, rfl, d0, d1, d2, d3, d4⟩ := hxl.at'.getW r hr
      have hri : (r : Int) < (O.length : Int) := by omega
      have hol := hD2.rel.len64
      have hnl : n < maxLen := by
        have h1 := hD2.rel.n
        have h2 := hD2.rel.nx
        unfold maxLen
        omega
      have hid01 := Cl.ids_in hD2.rel _ (List.getElem_mem hr)
      have hbs : base ≤ w2.heap.size := by
        have := hD2.fr.size
        have := hD2.ci.low.1
        have := hD2.ci.lt
        omega
      have HD2 := Hid_of hD2
      rw [hw] at d0 d1 d2 d3 d4 hid01
      have hs0 := hok.s0
      have hbd := hok.b
      obtain ⟨s, hs⟩ : ∃ s, k.sent = s := ⟨_, rfl⟩
      have HK := Hid_of (And.intro hid (And.intro hk (And.intro hst (And.intro hok (And.intro hw hs)))))
      simp only [Cl.wt] at d0 d1 d2 d3 d4 hid01
      rw [hs] at d3 hs0
      have hki : k.id = id := by have := hid; rw [hw] at this; exact this
      rw [hki] at d2 hid01
      subst hv
      clear hD2 hxl hb2 HD hsr hp hst hok hw hs hid hk hki
      by_cases h8 : 8 ≤ s
      · have hen := endC_any HD2.out.ci hbs hol r hr id HK.out.1 hid01.1 (by omega) 3 ⟨#[]⟩ hnl
        go_wp2_with fail
        refine hen.mono ?_
        rintro e w3 ⟨vt3, vo3, rfl, hX3, hF3⟩
        rw [← HIDJ.out] at hX3
        have HD3 := Hid_of (HD2.out.gone hlt hr (by rw [HIDJ.out]; exact HK.out.1) (by rw [HIDJ.out]; exact HK.out.2.1) HK.out.2.2.1 HK.out.2.2.2.1 (by rw [HK.out.2.2.2.2.2]; exact h8) hX3 hF3)
        clear hX3 hF3 hen HD2 HK c0 c1 c2 c3 c4 d0 d1 d2 d3 d4 h8
        go_wp2
        go_roundw
        case rel => exact ⟨j + 1, by omega, by go_num, _, _, _, _, _, _, _, _, HD3⟩
        case measure => simp [intOf]; omega
      · have hs8 : s < 8 := by omega
        have hmsg := message_any ⟨me, k.whom, id, s, k.body⟩ (by show k.body.size ≤ _; omega)
        simp only at hmsg
        go_wp2_with fail
        refine (hmsg _).mono ?_
        rintro e w3 ⟨rfl, hb3⟩
        have hD3 := HD2.out.keep hb3
        obtain ⟨au, capu, hu, _⟩ := hD3.own.at
        have hlen := hD3.len
        have hat : AtL ml (w3.alloc (.cells #[.int .i64 1, .int .i64 me, .int .i64 k.whom, .int .i64 id, .string k.body] 32)) (some ⟨w3.heap.size, 0, none⟩) [(⟨1, me, k.whom, id, k.body⟩ : Ms)] := atL_one (t := 32) (heap_alloc_last w3 _)
        have hD4 := hD3.keep (bel1 w3 (.cells #[.int .i64 1, .int .i64 me, .int .i64 k.whom, .int .i64 id, .string k.body] 32))
        obtain ⟨a5, cap5, w5, hrun, ho5, hr5⟩ := run_appL_ty tiM (w3.alloc (.cells #[.int .i64 1, .int .i64 me, .int .i64 k.whom, .int .i64 id, .string k.body] 32)) w0.heap.size u5 out [⟨1, me, k.whom, id, k.body⟩] w3.heap.size 0 1 1 hD4.own hat rfl hD4.fr.size (by simp; omega)
        subst hu
        have hk5 : ∀ q, q < (w3.alloc (.cells #[.int .i64 1, .int .i64 me, .int .i64 k.whom, .int .i64 id, .string k.body] 32)).heap.size → (Value.slice au out.length capu).ownBlock ≠ some q → w5.heap[q]? = (w3.alloc (.cells #[.int .i64 1, .int .i64 me, .int .i64 k.whom, .int .i64 id, .string k.body] 32)).heap[q]? := fun q h1 h2 => hr5.g.block q h1 (fun e => h2 e.symm)
        have hX5 := hD4.ci.keepBut fun q h1 h2 => hk5 q h1 (fun e => hD4.su q e h2)
        have hF5 : Fr w0 F0 w5 (fpc b bt m vt (.slice (some ⟨g, off, none⟩) O.length cap)) := ⟨hr5.g.os.trans hD4.fr.os, hr5.g.tape.trans hD4.fr.tape, hr5.g.output.trans hD4.fr.output, Nat.le_trans hD4.fr.size hr5.g.size, fun q h1 h2 => (hk5 q (Nat.lt_of_lt_of_le h1 hD4.fr.size) (fun e => by have := (hD4.own.lt e).1; omega)).trans (hD4.fr.block q h1 h2), hD4.fr.n⟩
        have hat5 : AtI w5 (some ⟨ba, oa, none⟩) ids := hD4.at'.keepBut fun q h1 h2 => hk5 q h1 (hD4.sa q h2).2.1
        have hsu5 : ∀ q, (Value.slice a5 (out.length + 1) cap5).ownBlock = some q → ¬ fpc b bt m vt (.slice (some ⟨g, off, none⟩) O.length cap) q := fun q e hf => by
          rcases hr5.n q e with h' | h'
          · exact hD4.su q h' hf
          · have := (hD4.ci.mine q hf).2; omega
        have hsa5 : ∀ q, blk (some ⟨ba, oa, none⟩) q → ¬ fpc b bt m vt (.slice (some ⟨g, off, none⟩) O.length cap) q ∧ (Value.slice a5 (out.length + 1) cap5).ownBlock ≠ some q ∧ q < w5.heap.size := fun q hq => by
          obtain ⟨q1, q2, q3⟩ := hD4.sa q hq
          refine ⟨q1, fun e => ?_, Nat.lt_of_lt_of_le q3 hr5.g.size⟩
          rcases hr5.n q e with h' | h'
          · exact q2 h'
          · omega
        obtain ⟨⟨e0, e1, e2, e3, e4⟩, _⟩ := hX5.cells
        obtain ⟨ar', cap', hv, hxl5, _⟩ := hX5.own.at
        cases hv
        obtain ⟨g', off', ea, y0, y1, y2, y3, y4⟩ := hxl5.at'.getW r hr
        cases ea
        have hw5 : O[r].sent = s := by rw [HK.out.2.2.2.2.1]; exact HK.out.2.2.2.2.2
        rw [hw5] at y3
        have S5 : w5.cell? ⟨b, 2, none⟩ = some (.pointer (some ⟨bt, 0, none⟩)) ∧ w5.cell? ⟨b, 3, none⟩ = some (.slice (some ⟨g, off, none⟩) O.length cap) ∧ w5.cell? ⟨g, off + r * 5 + 3, none⟩ = some (.int .i64 s) := ⟨e2, e3, y3⟩
        have hwt := Cl.wait_rng s
        have hbs5 : base ≤ w5.drew.heap.size := by
          have h1 := hX5.low.1
          have h2 := hX5.lt
          show base ≤ w5.heap.size
          omega
        have hset := set_any base bt vt P id (now + Cl.wait s) w5.drew hbs5 (hX5.tm.keep (Below.drew (Below.refl _ _)))
        have HX5 := Hid_of (hX5.keep (Below.drew (Below.refl w5.heap.size w5)))
        have HF5 := Hid_of hF5.drew
        have HS7 : Hid (∀ vt7 w7, XI w7 base bt vt7 (M.setL P id (now + Cl.wait s)) → Ch w5.drew bt vt w7 vt7 → w7.cell? ⟨b, 2, none⟩ = some (.pointer (some ⟨bt, 0, none⟩)) ∧ w7.cell? ⟨b, 3, none⟩ = some (.slice (some ⟨g, off, none⟩) O.length cap) ∧ w7.cell? ⟨g, off + r * 5 + 3, none⟩ = some (.int .i64 s)) := by
          intro vt7 w7 hx7 hc7
          obtain ⟨hX7, _⟩ := HX5.out.timed hx7 hc7
          obtain ⟨⟨z0, z1, z2, z3, z4⟩, _⟩ := hX7.cells
          obtain ⟨ar', cap', hv, hxl7, _⟩ := hX7.own.at
          cases hv
          obtain ⟨g', off', ea, z0, z1, z2', z3', z4⟩ := hxl7.at'.getW r hr
          cases ea
          rw [hw5] at z3'
          exact ⟨z2, z3, z3'⟩
        have HA5 := Hid_of (And.intro ho5 (And.intro hat5 (And.intro hsu5 hsa5)))
        have hadd : IntKind.i64.wrap (now + Cl.wait s) = now + Cl.wait s := by rw [IntKind.wrap_i64]; omega
        replace hrun : ∀ ty, (Builtin.append_ #[40, 40] ty #[.slice au out.length capu, .slice (some ⟨w3.heap.size, 0, none⟩) 1 1]).run Try.prog (w3.alloc (.cells #[.int .i64 1, .int .i64 me, .int .i64 k.whom, .int .i64 id, .string k.body] 32)) = .ok (.slice a5 (out.length + 1) cap5) w5 := hrun
        clear hD3 hD4 hX5 hF5 ho5 hr5 hat hat5 hsu5 hsa5 hk5 hxl5 hb3 hmsg hw5 hlen e0 e1 e4 y0 y1 y2 y4 c0 c1 c2 c3 c4 d0 d1 d2 d3 d4
        go_wp2_with (at_builtin; refine wpList_append_known rfl _ _ 40 rfl _ _ rfl rfl _ _ (hrun _) ?_)
        · clear hrun e2 e3 y3
          refine wp_region_held_drew (S := fun wq => wq.cell? ⟨b, 2, none⟩ = some (.pointer (some ⟨bt, 0, none⟩)) ∧ wq.cell? ⟨b, 3, none⟩ = some (.slice (some ⟨g, off, none⟩) O.length cap) ∧ wq.cell? ⟨g, off + r * 5 + 3, none⟩ = some (.int .i64 s)) (by kernel_rfl) S5 (fun hHeld => ?_)
          refine wpAnyH_take (i := 0) (oi := ?p0d) (v := ?v0d) ?o0d (by kernel_rfl) (by kernel_rfl) (by kernel_rfl) ?q0d ?y0d hHeld ?r0d
          case o0d => simp only [List.getElem?_toArray, List.getElem?_cons_zero]; rfl
          case q0d => exact fun _ _ _ h => h
          case y0d => (refine Or.inl ⟨rfl, ?_⟩; intro wq hq; obtain ⟨q0, q1, q2⟩ := hq; go_simp; try with_reducible rfl)
          simp only [Act.put, List.setIfInBounds_toArray, List.set_cons_zero, List.set_cons_succ]
          refine wpAnyH_take (i := 1) (oi := ?p1d) (v := ?v1d) ?o1d (by kernel_rfl) (by kernel_rfl) (by kernel_rfl) ?q1d ?y1d hHeld ?r1d
          case o1d => simp only [List.getElem?_toArray, List.getElem?_cons_succ, List.getElem?_cons_zero]; rfl
          case q1d => exact fun _ _ _ h => h
          case y1d => (refine Or.inl ⟨rfl, ?_⟩; intro wq hq; obtain ⟨q0, q1, q2⟩ := hq; go_simp; try with_reducible rfl)
          simp only [Act.put, List.setIfInBounds_toArray, List.set_cons_zero, List.set_cons_succ]
          refine wpAnyH_take (i := 2) (oi := ?p2d) (v := ?v2d) ?o2d (by kernel_rfl) (by kernel_rfl) (by kernel_rfl) ?q2d ?y2d hHeld ?r2d
          case o2d => simp only [List.getElem?_toArray, List.getElem?_cons_succ, List.getElem?_cons_zero]; rfl
          case q2d => exact fun _ _ _ h => h
          case y2d => (refine Or.inl ⟨rfl, ?_⟩; intro wq hq; obtain ⟨q0, q1, q2⟩ := hq; go_simp; try with_reducible rfl)
          simp only [Act.put, List.setIfInBounds_toArray, List.set_cons_zero, List.set_cons_succ]
          refine wpAnyH_take (i := 3) (oi := ?p3d) (v := ?v3d) ?o3d (by kernel_rfl) (by kernel_rfl) (by kernel_rfl) ?q3d ?y3d hHeld ?r3d
          case o3d => simp only [List.getElem?_toArray, List.getElem?_cons_succ, List.getElem?_cons_zero]; rfl
          case q3d => exact fun _ _ _ h => h
          case y3d => (refine Or.inl ⟨rfl, ?_⟩; intro wq hq; obtain ⟨q0, q1, q2⟩ := hq; go_simp; try with_reducible rfl)
          simp only [Act.put, List.setIfInBounds_toArray, List.set_cons_zero, List.set_cons_succ]
          refine wpAnyH_take (i := 4) (oi := ?p4d) (v := ?v4d) ?o4d (by kernel_rfl) (by kernel_rfl) (by kernel_rfl) ?q4d ?y4d hHeld ?r4d
          case o4d => simp only [List.getElem?_toArray, List.getElem?_cons_succ, List.getElem?_cons_zero]; rfl
          case q4d => exact fun _ _ _ h => h
          case y4d => (refine Or.inl ⟨rfl, ?_⟩; intro wq hq; obtain ⟨q0, q1, q2⟩ := hq; go_simp; try with_reducible rfl)
          simp only [Act.put, List.setIfInBounds_toArray, List.set_cons_zero, List.set_cons_succ]
          refine wpAnyH_take (i := 5) (oi := ?p5d) (v := ?v5d) ?o5d (by kernel_rfl) (by kernel_rfl) (by kernel_rfl) ?q5d ?y5d hHeld ?r5d
          case o5d => simp only [List.getElem?_toArray, List.getElem?_cons_succ, List.getElem?_cons_zero]; rfl
          case q5d => exact fun _ _ _ h => h
          case y5d => (refine Or.inl ⟨rfl, ?_⟩; intro wq hq; obtain ⟨q0, q1, q2⟩ := hq; go_simp; try with_reducible rfl)
          simp only [Act.put, List.setIfInBounds_toArray, List.set_cons_zero, List.set_cons_succ]
          refine wpAnyH_take (i := 6) (oi := ?p6d) (v := ?v6d) ?o6d (by kernel_rfl) (by kernel_rfl) (by kernel_rfl) ?q6d ?y6d hHeld ?r6d
          case o6d => simp only [List.getElem?_toArray, List.getElem?_cons_succ, List.getElem?_cons_zero]; rfl
          case q6d => exact fun _ _ _ h => h
          case y6d => (refine Or.inl ⟨rfl, ?_⟩; intro wq hq; obtain ⟨q0, q1, q2⟩ := hq; go_simp; try with_reducible rfl)
          simp only [Act.put, List.setIfInBounds_toArray, List.set_cons_zero, List.set_cons_succ]
          refine wpAnyH_take (i := 7) (oi := ?p7d) (v := ?v7d) ?o7d (by kernel_rfl) (by kernel_rfl) (by kernel_rfl) ?q7d ?y7d hHeld ?r7d
          case o7d => simp only [List.getElem?_toArray, List.getElem?_cons_succ, List.getElem?_cons_zero]; rfl
          case q7d => exact fun _ _ _ h => h
          case y7d => (refine Or.inl ⟨rfl, ?_⟩; intro wq hq; obtain ⟨q0, q1, q2⟩ := hq; go_simp; try with_reducible rfl)
          simp only [Act.put, List.setIfInBounds_toArray, List.set_cons_zero, List.set_cons_succ]
          refine wpAnyH_take (i := 8) (oi := ?p8d) (v := ?v8d) ?o8d (by kernel_rfl) (by kernel_rfl) (by kernel_rfl) ?q8d ?y8d hHeld ?r8d
          case o8d => simp only [List.getElem?_toArray, List.getElem?_cons_succ, List.getElem?_cons_zero]; rfl
          case q8d => exact fun _ _ _ h => h
          case y8d => (refine Or.inl ⟨rfl, ?_⟩; intro wq hq; obtain ⟨q0, q1, q2⟩ := hq; go_simp; try with_reducible rfl)
          simp only [Act.put, List.setIfInBounds_toArray, List.set_cons_zero, List.set_cons_succ]
          refine wpAnyH_take (i := 9) (oi := ?p9d) (v := ?v9d) ?o9d (by kernel_rfl) (by kernel_rfl) (by kernel_rfl) ?q9d ?y9d hHeld ?r9d
          case o9d => simp only [List.getElem?_toArray, List.getElem?_cons_succ, List.getElem?_cons_zero]; rfl
          case q9d => exact fun _ _ _ h => h
          case y9d => (refine Or.inl ⟨rfl, ?_⟩; intro wq hq; obtain ⟨q0, q1, q2⟩ := hq; go_simp; try with_reducible rfl)
          simp only [Act.put, List.setIfInBounds_toArray, List.set_cons_zero, List.set_cons_succ]
          refine wpAnyH_take (i := 10) (oi := ?p10d) (v := ?v10d) ?o10d (by kernel_rfl) (by kernel_rfl) (by kernel_rfl) ?q10d ?y10d hHeld ?r10d
          case o10d => simp only [List.getElem?_toArray, List.getElem?_cons_succ, List.getElem?_cons_zero]; rfl
          case q10d => exact fun _ _ _ h => h
          case y10d => (refine Or.inl ⟨rfl, ?_⟩; intro wq hq; obtain ⟨q0, q1, q2⟩ := hq; go_simp; try with_reducible rfl)
          simp only [Act.put, List.setIfInBounds_toArray, List.set_cons_zero, List.set_cons_succ]
          refine wpAnyH_take (i := 11) (oi := ?p11d) (v := ?v11d) ?o11d (by kernel_rfl) (by kernel_rfl) (by kernel_rfl) ?q11d ?y11d hHeld ?r11d
          case o11d => simp only [List.getElem?_toArray, List.getElem?_cons_succ, List.getElem?_cons_zero]; rfl
          case q11d => exact fun _ _ _ h => h
          case y11d => (refine Or.inl ⟨rfl, ?_⟩; intro wq hq; obtain ⟨q0, q1, q2⟩ := hq; go_simp; try with_reducible rfl)
          simp only [Act.put, List.setIfInBounds_toArray, List.set_cons_zero, List.set_cons_succ]
          refine wpAnyH_take (i := 12) (oi := ?p12d) (v := ?v12d) ?o12d (by kernel_rfl) (by kernel_rfl) (by kernel_rfl) ?q12d ?y12d hHeld ?r12d
          case o12d => simp only [List.getElem?_toArray, List.getElem?_cons_succ, List.getElem?_cons_zero]; rfl
          case q12d => exact fun _ _ _ h => h
          case y12d => (refine Or.inl ⟨rfl, ?_⟩; intro wq hq; obtain ⟨q0, q1, q2⟩ := hq; go_simp; try with_reducible rfl)
          simp only [Act.put, List.setIfInBounds_toArray, List.set_cons_zero, List.set_cons_succ]
          refine wpAnyH_take (i := 13) (oi := ?p13d) (v := ?v13d) ?o13d (by kernel_rfl) (by kernel_rfl) (by kernel_rfl) ?q13d ?y13d hHeld ?r13d
          case o13d => simp only [List.getElem?_toArray, List.getElem?_cons_succ, List.getElem?_cons_zero]; rfl
          case q13d => exact fun _ _ _ h => h
          case y13d => (refine Or.inl ⟨rfl, ?_⟩; intro wq hq; obtain ⟨q0, q1, q2⟩ := hq; go_simp; try with_reducible rfl)
          simp only [Act.put, List.setIfInBounds_toArray, List.set_cons_zero, List.set_cons_succ]
          refine wpAnyH_ready (rs := [14]) (by kernel_rfl) (by simp) ?_
          refine AllReadyH.cons (o := ?p14d) ?o14d ?s14d AllReadyH.nil
          case o14d => simp only [List.getElem?_toArray, List.getElem?_cons_succ, List.getElem?_cons_zero]; rfl
          intro K hK
          go_simp
          refine (wait_any s hs0 hs8 _).mono ?_
          rintro e w6 ⟨rfl, rfl⟩
          refine hK.out _ _ hHeld (fun hHeld => ?_)
          clear hK K
          refine wpAnyH_take (i := 15) (oi := ?p15d) (v := ?v15d) ?o15d (by kernel_rfl) (by kernel_rfl) (by kernel_rfl) ?q15d ?y15d hHeld ?r15d
          case o15d => simp only [List.getElem?_toArray, List.getElem?_cons_succ, List.getElem?_cons_zero]; rfl
          case q15d => exact fun _ _ _ h => h
          case y15d => (refine Or.inl ⟨rfl, ?_⟩; intro wq hq; obtain ⟨q0, q1, q2⟩ := hq; go_simp; try with_reducible rfl)
          simp only [Act.put, List.setIfInBounds_toArray, List.set_cons_zero, List.set_cons_succ]
          refine wpAnyH_ready (rs := [16]) (by kernel_rfl) (by simp) ?_
          refine AllReadyH.cons (o := ?p16d) ?o16d ?s16d AllReadyH.nil
          case o16d => simp only [List.getElem?_toArray, List.getElem?_cons_succ, List.getElem?_cons_zero]; rfl
          intro K hK
          go_simp
          refine hset.mono ?_
          rintro e w7 ⟨vt7, rfl, hx7, hc7⟩
          have HX7 := Hid_of (And.intro hx7 hc7)
          have S7 := HS7.out vt7 w7 hx7 hc7
          clear hx7 hc7
          refine hK.out _ _ S7 (fun hHeld => ?_)
          clear hK K
          refine wpAnyH_done (by kernel_rfl) ?_ _
          clear hset S5 HS7
          obtain ⟨hX7, hF7⟩ := HX5.out.timed HX7.out.1 HX7.out.2
          obtain ⟨g7, cap7, hv7, ⟨hc7, hf7⟩, hfin⟩ := hX7.sentAt r hr
          cases hv7
          have hs7 : O[r].sent = s := by rw [HK.out.2.2.2.2.1]; exact HK.out.2.2.2.2.2
          rw [hs7] at hc7
          obtain ⟨⟨z0, z1, z2, z3, z4⟩, _⟩ := hX7.cells
          obtain ⟨hX8, hF8⟩ := hfin (s + 1)
          obtain ⟨w8, HW8⟩ : ∃ w8, Hid (w7.setCell ⟨g, r * 5 + 3, none⟩ (.int .i64 (s + 1)) = w8) := ⟨_, rfl⟩
          rw [HW8.out] at hX8 hF8
          have hF78 := hF7.trans hF8
          obtain ⟨ho5, hat5, hsu5, hsa5⟩ := HA5.out
          have hw := HK.out.2.2.2.2.1
          have hsk := HK.out.2.2.2.2.2
          have hki : k.id = id := by have := HK.out.1; rw [hw] at this; exact this
          have ho5' : OwnL ml 32 w5.drew w0.heap.size (.slice a5 (out.length + 1) cap5) (out ++ [Cl.msg me k]) := by
            have e : Cl.msg me k = ⟨1, me, k.whom, id, k.body⟩ := by unfold Cl.msg; rw [hki]
            rw [e]
            exact ho5.keep (Below.drew (Below.refl _ _))
          have hX9 : CI w8 base b bt m vt7 (.slice (some ⟨g, 0, none⟩) O.length cap) n me next (O.set r (Cl.wt me (Cl.sendK now k))) (M.setL P ids[j] (now + Cl.wait k.sent)) f := by
            have e : Cl.wt me (Cl.sendK now k) = ⟨O[r].fr, O[r].whom, O[r].id, s + 1, O[r].body⟩ := by rw [hw, ← hsk]; rfl
            rw [e, HIDJ.out, hsk]
            exact hX8
          have HD8 : Hid (DL w0 F0 base b bt m me next now ids (some ⟨ba, oa, none⟩) L (j + 1) w8 (.slice a5 (out.length + 1) cap5) vt7 (.slice (some ⟨g, 0, none⟩) O.length cap) n (O.set r (Cl.wt me (Cl.sendK now k))) (M.setL P ids[j] (now + Cl.wait k.sent)) f (Cl.upd Lr ids[j] (Cl.stepK now)) (out ++ [Cl.msg me k])) := by
            refine HD2.out.sent hlt hn' hr (by rw [HIDJ.out]; exact HK.out.1) (by rw [HIDJ.out]; exact HK.out.2.1) (by rw [hsk]; exact hs8) (ho5'.keepBut fun q hq hu => hF78.block q hq (hsu5 q hu)) (fun q e hf => ?_) (fun q hq => ?_) (hat5.keepBut fun q hq hu => hF78.block q hq (hsa5 q hu).1) hX9 (HF5.out.trans hF78)
            · rcases hF78.n q hf with h' | h'
              · exact hsu5 q e h'
              · have := (ho5'.lt e).2; omega
            · obtain ⟨q1, q2, q3⟩ := hsa5 q hq
              refine ⟨fun hf => ?_, q2, Nat.lt_of_lt_of_le q3 hF78.size⟩
              rcases hF78.n q hf with h' | h'
              · exact q1 h'
              · have h'' : w5.heap.size ≤ q := h'
                omega
          have hadd2 : IntKind.i64.wrap (s + 1) = s + 1 := by rw [IntKind.wrap_i64]; omega
          clear hX7 hF7 hfin hX8 hF8 hF78 ho5 hat5 hsu5 hsa5 hw hsk hki ho5' hX9 HA5 HX5 HF5 HX7 HD2 HK hs7
          go_upto_region 13 with fail
          rw [HW8.out]
          go_wp2
          go_roundw
          case rel => exact ⟨j + 1, by omega, by go_num, _, _, _, _, _, _, _, _, HD8⟩
          case measure => simp [intOf]; omega
    · have hjn : j = ids.length := by omega
      subst hjn
      have hD := HD.out
      have hrun : Cl.run me now ids L [] = (Lr, out) := by
        have := hD.run
        rw [List.drop_length] at this
        exact this
      have hrel := hD.rel
      rw [List.drop_length] at hrel
      have HQ : Hid (DuOut w0 base b bt m vtS voS nS me next now L (Cl.run me now ids L []).1 (Cl.run me now ids L []).2 (.returned u5) wr) := by
        rw [hrun]
        exact ⟨u5, vt, vo, n, O, P, f, rfl, hD.own, hD.ci, hrel, by rw [HF0.out]; exact hD.fr, hD.su⟩
      clear hD hrun hrel HD
      go_wp2
      go_ret
      exact HQ.out
end Go.Proofs.Ytbgbdiiinggjnaa
