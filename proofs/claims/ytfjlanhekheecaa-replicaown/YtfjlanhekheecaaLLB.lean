/-
  A slot is told; the row of votes of a slot.
-/
import Derived.Test.YtfjlanhekheecaaLLA
namespace Go.Proofs.Ytfjlanhekheecaa.Nl
open Go.RowKit Go.Maps
set_option linter.unusedVariables false
open Go.Proofs.Ytfjlanhekheecaa.M (E V)
open Go.Proofs.Ytfjlanhekheecaa.Nl.M (W fup)

section
variable {w : World} {base b m : Nat} {s : M.S} {f : Int → Option K}
/-- What Tell leaves. -/
def TlOut (w : World) (base b m : Nat) (s : M.S) (f : Int → Option K) (k : Int) (v : ByteArray) (e : Ending) (w' : World) : Prop := ∃ f', e = .returned (.bool (M.may s k v)) ∧ LI w' base b m (M.ts s k v) f' ∧ Fr w (fpl b m f) w' (fpl b m f')
set_option maxRecDepth 100000 in
set_option maxHeartbeats 1000000 in
theorem tell_any (h : LI w base b m s f) (ok : M.Ok s) (k : Int) (hk : (Lit.int .i64 k).wf = true) (v : ByteArray) (hc : s.c ≤ 900000) : Calls Try.prog 58 #[.pointer (some ⟨b, 0, none⟩), .int .i64 k, .string v] w (TlOut w base b m s f k v) := by
  have cm := mayTell_any h k hk v
  cases hm : M.may s k v with
  | false =>
    rw [hm] at cm
    have HQ : Hid (TlOut w base b m s f k v (.returned (.bool false)) w) := ⟨f, by rw [hm], by unfold M.ts; rw [hm]; exact h, Fr.refl _ _⟩
    clear h hm
    go_enter Try.func58, Try.ntmps58
    go_wp2_with fail
    refine cm.mono ?_
    rintro e w1 ⟨rfl, rfl⟩
    go_wp2
    go_ret
    exact HQ.out
  | true =>
    rw [hm] at cm
    obtain ⟨m1, m2, m3, m4⟩ := M.may_yes hm
    have cc := fun w1 => sclone_any v w1 (by omega)
    have HP : Hid (∀ w1, Below w.drew.heap.size w.drew w1 → ∃ w2, (Instr.mapUpdate 82 (.map (some m)) (.int .i64 k) (.agg #[.bool true, .string v, .slice none 0 0])).run Try.prog w1 = .ok () w2 ∧ w2.heap[b]? = some (.cells #[.int .i64 s.n, .int .i64 s.base, .map (some m)] 84 (0, 0)) ∧ TlOut w base b m s f k v (.returned (.bool true)) w2) := by
      intro w1 hb1
      have hB : Below w.heap.size w w1 := Below.trans ((Below.refl _ _).drew) hb1
      have h1 := h.keep hB
      obtain ⟨w2, hrun, hmi, hmt⟩ := h1.mi.put k hk ⟨true, v, none⟩ (by unfold maxLen; omega)
      obtain ⟨h2, h3⟩ := h1.tell hmi hmt
      exact ⟨w2, hrun, h2.row, ⟨_, by rw [hm], by unfold M.ts; rw [hm]; exact h2, (Fr.ofBelow hB).trans h3⟩⟩
    have HI : Hid (w.drew.heap[b]? = some (.cells #[.int .i64 s.n, .int .i64 s.base, .map (some m)] 84 (0, 0))) := h.row
    have HS : Hid (∀ wq : World, wq.heap[b]? = some (.cells #[.int .i64 s.n, .int .i64 s.base, .map (some m)] 84 (0, 0)) → (wq.cell? ⟨b, 0, none⟩ = some (.int .i64 s.n) ∧ wq.cell? ⟨b, 2, none⟩ = some (.map (some m)))) := fun wq hq => ⟨(row3 hq).1.1, (row3 hq).1.2.2⟩
    clear h hm ok hc hk m1 m2 m3 m4
    go_enter Try.func58, Try.ntmps58
    go_wp2_with fail
    refine cm.mono ?_
    rintro e w1 ⟨rfl, rfl⟩
    clear cm
    go_wp2_with fail
    refine wp_region_held_drew (S := fun wq => wq.heap[b]? = some (.cells #[.int .i64 s.n, .int .i64 s.base, .map (some m)] 84 (0, 0))) (by kernel_rfl) HI.out (fun hHeld => ?_)
    refine Tm 0 ?p0a ?v0a hHeld ?r0a
    refine Tm 1 ?p1a ?v1a hHeld ?r1a
    refine Tm 2 ?p2a ?v2a hHeld ?r2a
    refine Tk 3 ?p3a ?v3a ?y3a hHeld ?r3a
    case y3a => intro wq hq; obtain ⟨a0, a2⟩ := HS.out wq hq; go_simp; try with_reducible rfl
    refine Tm 4 ?p4a ?v4a hHeld ?r4a
    refine Tm 5 ?p5a ?v5a hHeld ?r5a
    simp only [Act.put, Pa, Pb, Pc]
    refine Rd 6 ?p6a ?s6a
    intro K hK
    go_simp
    refine (cc _).mono ?_
    rintro e w1 ⟨rfl, hb1⟩
    have hs1 := bel_row hHeld hb1
    obtain ⟨w2, hput, hrow2, hq2⟩ := HP.out w1 hb1
    have HQ := Hid_of hq2
    clear hq2 hb1
    refine hK.out _ _ hs1 (fun hHeld => ?_)
    clear hK K
    refine Tm 7 ?p7a_6 ?v7a_6 hHeld ?r7a_6
    simp only [Act.put, Pa, Pb, Pc]
    refine Rd 8 ?p8a_6 ?s8a_6
    intro K hK
    go_simp
    refine hK.out _ _ hrow2 (fun hHeld => ?_)
    clear hK K
    refine wpAnyH_done (by kernel_rfl) ?_ _
    go_wp2
    go_ret
    exact HQ.out
theorem hi123 : Try.prog.info? 123 = some Try.t123 := by kernel_rfl
theorem rep_cells : ∀ n, wl.cells (List.replicate n M.w0) = (List.range (n * 4)).map (fun i => (#[Value.bool false, Value.int .i64 0, Value.int .i64 0, Value.string ⟨#[]⟩])[i % 4]!)
  | 0 => rfl
  | n + 1 => by
    rw [List.replicate_succ', Ly.app, rep_cells n, show (n + 1) * 4 = n * 4 + 1 + 1 + 1 + 1 by omega, List.range_succ, List.range_succ, List.range_succ, List.range_succ, List.map_append, List.map_append, List.map_append, List.map_append, List.append_assoc, List.append_assoc, List.append_assoc]
    have e1 : n * 4 % 4 = 0 := by omega
    have e2 : (n * 4 + 1) % 4 = 1 := by omega
    have e3 : (n * 4 + 1 + 1) % 4 = 2 := by omega
    have e4 : (n * 4 + 1 + 1 + 1) % 4 = 3 := by omega
    simp only [List.map_cons, List.map_nil, e1, e2, e3, e4]
    rfl
theorem made (n : Nat) : madeCells (Value.agg #[.bool false, .int .i64 0, .int .i64 0, .string ⟨#[]⟩]).cells (n * 4) = (wl.cells (List.replicate n M.w0)).toArray := by
  rw [rep_cells]
  apply Array.ext'
  unfold madeCells
  rw [Array.toList_map, Array.toList_range]
  rfl
theorem run_mk (n : Nat) (hn : n ≤ 7) (w : World) : (Instr.makeSlice 85 (.int .i64 (n : Int)) (.int .i64 (n : Int))).run Try.prog w = .ok (.slice (some ⟨w.heap.size, 0, none⟩) n n) (w.alloc (.cells (wl.cells (List.replicate n M.w0)).toArray 123)) := by
  have h := run_make (P := Try.prog) w 85 123 Try.t123 (.agg #[.bool false, .int .i64 0, .int .i64 0, .string ⟨#[]⟩]) Try.underlying85 hi123 rfl .i64 .i64 (n : Int) (n : Int) (by omega) (by omega) (by show (40 : Int) * _ ≤ _; omega) (by omega)
  rw [show Try.t123.size = 4 from rfl, Int.toNat_natCast, made] at h
  exact h
/-- What votes leaves. -/
def VtOut (w : World) (base b m : Nat) (s : M.S) (f : Int → Option K) (k : Int) (e : Ending) (w' : World) : Prop := ∃ f' g, e = .returned (.slice (some ⟨g, 0, none⟩) s.n.toNat s.n.toNat) ∧ bk f' k = some g ∧ LI w' base b m (M.rws s k) f' ∧ Fr w (fpl b m f) w' (fpl b m f')
set_option maxRecDepth 100000 in
set_option maxHeartbeats 1000000 in
theorem votes_any (h : LI w base b m s f) (ok : M.Ok s) (k : Int) (hk : (Lit.int .i64 k).wf = true) (ht : s.td k = none) (hc : s.c ≤ 900000) : Calls Try.prog 69 #[.pointer (some ⟨b, 0, none⟩), .int .i64 k] w (VtOut w base b m s f k) := by
  obtain ⟨⟨c0, c1, c2⟩, _⟩ := row3 h.row
  have hlk := h.look k hk
  have hN := ok.n
  have hnn : ((s.n.toNat : Nat) : Int) = s.n := by omega
  by_cases hv : s.vs k = []
  · rw [h.un k ht hv] at hlk
    replace hlk : (Instr.lookup 82 (.map (some m)) (.int .i64 k) false).run Try.prog w = .ok (.agg #[.bool false, .string ⟨#[]⟩, .slice none 0 0]) w := hlk
    have fc := field87c false ⟨#[]⟩ (.slice none 0 0)
    have HP : Hid (∀ w1, Below w.heap.size w w1 → ∀ g, w.heap.size ≤ g → w1.heap[g]? = some (.cells (wl.cells (List.replicate s.n.toNat M.w0)).toArray 123 (0, 0)) → ∃ w2, (Instr.mapUpdate 82 (.map (some m)) (.int .i64 k) (.agg #[.bool false, .string ⟨#[]⟩, .slice (some ⟨g, 0, none⟩) s.n.toNat s.n.toNat])).run Try.prog w1 = .ok () w2 ∧ w2.heap[b]? = some (.cells #[.int .i64 s.n, .int .i64 s.base, .map (some m)] 84 (0, 0)) ∧ (Instr.lookup 82 (.map (some m)) (.int .i64 k) false).run Try.prog w2 = .ok (.agg #[.bool false, .string ⟨#[]⟩, .slice (some ⟨g, 0, none⟩) s.n.toNat s.n.toNat]) w2 ∧ VtOut w base b m s f k (.returned (.slice (some ⟨g, 0, none⟩) s.n.toNat s.n.toNat)) w2) := by
      intro w1 hb1 g hg hr1
      have h1 := h.keep hb1
      obtain ⟨w2, hrun, hmi, hmt⟩ := h1.mi.put k hk ⟨false, ⟨#[]⟩, some (g, s.n.toNat, s.n.toNat)⟩ (by unfold maxLen; omega)
      obtain ⟨h2, h3⟩ := h.make ht hv hb1 hr1 hg (Nat.le_trans h.lo.1 (Nat.le_of_lt h.lt)) hmi hmt hN.1
      have hl2 := h2.look k hk
      rw [M.fup_same] at hl2
      have hr2 := h2.row
      obtain ⟨r1, r2, r3, r4, r5⟩ := M.rws_td s k
      rw [r2, r3] at hr2
      exact ⟨w2, hrun, hr2, hl2, ⟨_, g, rfl, by rw [bk_fup_same]; rfl, h2, h3⟩⟩
    have HI : Hid (w.drew.heap[b]? = some (.cells #[.int .i64 s.n, .int .i64 s.base, .map (some m)] 84 (0, 0))) := h.row
    have HG := Hid_of hnn
    have hmk := fun w => run_mk s.n.toNat (by omega) w
    rw [hnn] at hmk
    have HS : Hid (∀ wq : World, wq.heap[b]? = some (.cells #[.int .i64 s.n, .int .i64 s.base, .map (some m)] 84 (0, 0)) → (wq.cell? ⟨b, 0, none⟩ = some (.int .i64 s.n) ∧ wq.cell? ⟨b, 2, none⟩ = some (.map (some m)))) := fun wq hq => ⟨(row3 hq).1.1, (row3 hq).1.2.2⟩
    obtain ⟨nn, HNN⟩ : ∃ nn, Hid (s.n.toNat = nn) := ⟨_, Hid_of rfl⟩
    rw [HNN.out] at HP hmk
    have fc2 := fun g => field87c false ⟨#[]⟩ (.slice (some ⟨g, 0, none⟩) nn nn)
    clear h ok hc hk ht hv hN hnn HG HNN
    go_enter Try.func69, Try.ntmps69
    go_wp2_with fail
    refine wp_region_held_drew (S := fun wq => wq.heap[b]? = some (.cells #[.int .i64 s.n, .int .i64 s.base, .map (some m)] 84 (0, 0))) (by kernel_rfl) HI.out (fun hHeld => ?_)
    obtain ⟨wdb, hwdb⟩ : ∃ wd, w.drew = wd := ⟨_, rfl⟩
    have hBwd : Below w.heap.size w wdb := by rw [← hwdb]; exact Below.drew (Below.refl _ _)
    rw [hwdb] at hHeld ⊢
    clear hwdb
    refine Tm 0 ?p0b ?v0b hHeld ?r0b
    refine Tm 1 ?p1b ?v1b hHeld ?r1b
    refine Tm 2 ?p2b ?v2b hHeld ?r2b
    refine Tk 3 ?p3b ?v3b ?y3b hHeld ?r3b
    case y3b => intro wq hq; obtain ⟨a0, a2⟩ := HS.out wq hq; go_simp; try with_reducible rfl
    refine Tm 4 ?p4b ?v4b hHeld ?r4b
    refine Tm 5 ?p5b ?v5b hHeld ?r5b
    refine Tm 6 ?p6b ?v6b hHeld ?r6b
    refine Tm 7 ?p7b ?v7b hHeld ?r7b
    refine Tk 8 ?p8b ?v8b ?y8b hHeld ?r8b
    case y8b => intro wq hq; obtain ⟨a0, a2⟩ := HS.out wq hq; go_simp; try with_reducible rfl
    simp only [Act.put, Pa, Pb, Pc]
    refine Rd 9 ?p9b ?s9b
    intro K hK
    go_simp
    obtain ⟨W1, HW1⟩ : ∃ W1, Hid (wdb.alloc (.cells (wl.cells (List.replicate nn M.w0)).toArray 123) = W1) := ⟨_, Hid_of rfl⟩
    have hb1 : Below wdb.heap.size wdb W1 := by rw [← HW1.out]; exact bel1 wdb _
    have hr1 : W1.heap[wdb.heap.size]? = some (.cells (wl.cells (List.replicate nn M.w0)).toArray 123 (0, 0)) := by rw [← HW1.out]; exact heap_alloc_last wdb _
    have hs1 := bel_row hHeld hb1
    obtain ⟨w2, hput, hrow2, hlk2, hq2⟩ := HP.out W1 (bel_up hBwd hb1 (Nat.le_refl _)) wdb.heap.size hBwd.size hr1
    have HQ := Hid_of hq2
    rw [HW1.out]
    clear hq2 hb1 HW1 hr1
    refine hK.out _ _ hs1 (fun hHeld => ?_)
    clear hK K
    refine Tm 10 ?p10b_9 ?v10b_9 hHeld ?r10b_9
    simp only [Act.put, Pa, Pb, Pc]
    refine Rd 11 ?p11b_9 ?s11b_9
    intro K hK
    go_simp
    refine hK.out _ _ hrow2 (fun hHeld => ?_)
    clear hK K
    refine wpAnyH_done (by kernel_rfl) ?_ _
    obtain ⟨a0, a2⟩ := HS.out _ hHeld
    go_wp2
    go_ret
    exact HQ.out
  · obtain ⟨g, g1, g2, g3⟩ := h.vo k ht hv
    have hln : (s.vs k).length = s.n.toNat := by
      rcases ok.len k with e | e
      · exact absurd e hv
      · exact e
    have hr : M.rws s k = s := by unfold M.rws; rw [if_neg (by omega)]
    rw [g1, hln] at hlk
    replace hlk : (Instr.lookup 82 (.map (some m)) (.int .i64 k) false).run Try.prog w = .ok (.agg #[.bool false, .string ⟨#[]⟩, .slice (some ⟨g, 0, none⟩) s.n.toNat s.n.toNat]) w := hlk
    have HQ : Hid (VtOut w base b m s f k (.returned (.slice (some ⟨g, 0, none⟩) s.n.toNat s.n.toNat)) w) := ⟨f, g, rfl, bk_some g1, by rw [hr]; exact h, Fr.refl _ _⟩
    have hne : ¬ ((s.n.toNat : Nat) : Int) = 0 := by omega
    clear h ok hc hk ht hv hN hnn g1 g2 g3 hln hr
    generalize s.n.toNat = nn at *
    have fc := field87c false ⟨#[]⟩ (.slice (some ⟨g, 0, none⟩) nn nn)
    go_enter Try.func69, Try.ntmps69
    go_wp2
    go_ret
    exact HQ.out
end

end Go.Proofs.Ytfjlanhekheecaa.Nl
