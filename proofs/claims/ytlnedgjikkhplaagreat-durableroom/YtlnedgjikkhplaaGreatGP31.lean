import Derived.Test.YtlnedgjikkhplaaGreatGP30
set_option maxRecDepth 100000
set_option maxHeartbeats 8000000
set_option linter.unusedVariables false
set_option linter.unusedSimpArgs false
namespace Go.Proofs.YtlnedgjikkhplaaGreat.Du
open Go.RowKit
open Na (Fr AS XL vl bV vV Hf bel1 bel2 Bu Br row2 row4 blk OwnL AtL)
open Na.M (E V S S0)
open Ns (Hd XD)
open Ns.M (DD RR)
def V13 (v0 v1 v2 v3 v4 v5 v6 v7 v8 v9 v10 v11 v12 : Value) : Array Value := #[v0, v1, v2, v3, v4, v5, v6, v7, v8, v9, v10, v11, v12]
section
variable {v0 v1 v2 v3 v4 v5 v6 v7 v8 v9 v10 v11 v12 : Value} {w : World} {b : Nat}
@[simp] theorem V13_size : (V13 v0 v1 v2 v3 v4 v5 v6 v7 v8 v9 v10 v11 v12).size = 13 := rfl
theorem row13 (h : w.heap[b]? = some (.cells (V13 v0 v1 v2 v3 v4 v5 v6 v7 v8 v9 v10 v11 v12) 41 (0, 0))) : (w.cell? ⟨b, 0, none⟩ = some v0 ∧ w.cell? ⟨b, 1, none⟩ = some v1 ∧ w.cell? ⟨b, 2, none⟩ = some v2 ∧ w.cell? ⟨b, 3, none⟩ = some v3 ∧ w.cell? ⟨b, 4, none⟩ = some v4 ∧ w.cell? ⟨b, 5, none⟩ = some v5 ∧ w.cell? ⟨b, 6, none⟩ = some v6 ∧ w.cell? ⟨b, 7, none⟩ = some v7 ∧ w.cell? ⟨b, 8, none⟩ = some v8 ∧ w.cell? ⟨b, 9, none⟩ = some v9 ∧ w.cell? ⟨b, 10, none⟩ = some v10 ∧ w.cell? ⟨b, 11, none⟩ = some v11 ∧ w.cell? ⟨b, 12, none⟩ = some v12) ∧ ∀ j, w.frozen? ⟨b, j, none⟩ = false :=
 ⟨⟨by rw [cell_of_row w b 0 _ _ _ h]; rfl, by rw [cell_of_row w b 1 _ _ _ h]; rfl, by rw [cell_of_row w b 2 _ _ _ h]; rfl, by rw [cell_of_row w b 3 _ _ _ h]; rfl, by rw [cell_of_row w b 4 _ _ _ h]; rfl, by rw [cell_of_row w b 5 _ _ _ h]; rfl, by rw [cell_of_row w b 6 _ _ _ h]; rfl, by rw [cell_of_row w b 7 _ _ _ h]; rfl, by rw [cell_of_row w b 8 _ _ _ h]; rfl, by rw [cell_of_row w b 9 _ _ _ h]; rfl, by rw [cell_of_row w b 10 _ _ _ h]; rfl, by rw [cell_of_row w b 11 _ _ _ h]; rfl, by rw [cell_of_row w b 12 _ _ _ h]; rfl⟩, fun j => frozen_of_row w b j _ _ h⟩
end
abbrev Z13 : Array Value := V13 (.slice none 0 0) (.slice none 0 0) (.slice none 0 0) (.bool false) (.int .i64 0) (.int .i64 0) (.int .i64 0) (.int .i64 0) (.int .i64 0) (.int .i64 0) (.int .i64 0) (.slice none 0 0) (.bool false)
theorem zero41 (w : World) : (zeroValue 41).run Tryz.prog w = .ok (.agg Z13) w := Tryz.zeroValue41 w
def ld41 (a : Addr) : Sem (Array Value) := loadCellsFrom a 0 13 #[]
def st41 (a : Addr) (c : Array Value) : Sem Unit := storeCells a c.toList 0
def sz41 (w : World) : Result Nat := .ok 13 w
def ti41 (P : Program) (t : TypeId) (w : World) := (typeInfo t).run P w
theorem sz41_eq (w : World) : sz41 w = .ok 13 w := rfl
@[simp] theorem sz41_of (t : TypeId) (w : World) (h : t = 41) : (sizeOf t).run Tryz.prog w = sz41 w := by subst h; exact Tryz.sizeOf41 w
@[simp] theorem ti41_of (t : TypeId) (w : World) (h : t = 41) : (typeInfo t).run Tryz.prog w = ti41 Tryz.prog 41 w := by subst h; rfl
@[simp] theorem zero41_of (t : TypeId) (w : World) (h : t = 41) : (zeroValue t).run Tryz.prog w = .ok (.agg Z13) w := by subst h; exact zero41 w
@[simp] theorem sz_ld41 {β : Type} (w : World) (A : Addr) (F : Array Value → World → Result β) :
  ((sz41 w).andThen fun a w' => ((loadCellsFrom A 0 a #[]).run Tryz.prog w').andThen F) = ((ld41 A).run Tryz.prog w).andThen F := by
 rw [sz41_eq]
 rfl
@[simp] theorem sz_st41 {β : Type} (w : World) (A : Addr) (c : Array Value) (F : Unit → World → Result β) (X : World → Result β) :
  ((sz41 w).andThen fun a w' => if 13 = a then ((storeCells A c.toList).run Tryz.prog w').andThen F else X w') = ((st41 A c).run Tryz.prog w).andThen F := by
 rw [sz41_eq]
 rfl
@[simp] theorem sz_fld41 {β : Type} (w : World) (X Y : World → Result β) : ((sz41 w).andThen fun a w' => if a = 0 then X w' else Y w') = Y w := by
 rw [sz41_eq]
 rfl
@[simp] theorem sz_any41 {β : Type} (w : World) (G : World → Result β) : ((sz41 w).andThen fun _ w' => G w') = G w := by
 rw [sz41_eq]
 rfl
structure Hx where
 h : Hd
 ad : Option Addr
 c : Nat
def Hx.blk (H : Hx) (k : Nat) : Prop := H.h.blk k ∨ Na.blk H.ad k
def dvv (H : Hx) (D : DD) (x : X) : Array Value := V13 (.slice H.h.aN D.now.length H.h.cN) (.slice H.h.aS D.sure.length H.h.cS) (.slice H.h.aL D.loo.length H.h.cL) (.bool D.lost) (.int .i64 x.ar) (.int .i64 x.ep) (.int .i64 x.us) (.int .i64 x.n) (.int .i64 x.a.p.i) (.int .i64 x.a.p.t) (.int .i64 x.a.base) (.slice H.ad x.a.l.length H.c) (.bool x.cut)
@[simp] theorem dvv_size (H : Hx) (D : DD) (x : X) : (dvv H D x).size = 13 := rfl
theorem dvv_one (H : Hx) (D : DD) (x : X) : ∀ v ∈ (dvv H D x).toList, v.oneCell' = true := by
 intro v hv
 simp [dvv, V13] at hv
 rcases hv with rfl | rfl | rfl | rfl | rfl | rfl | rfl | rfl | rfl | rfl | rfl | rfl | rfl <;> rfl
theorem load41_row {w : World} {b : Nat} {H : Hx} {D : DD} {x : X} (hb : w.heap[b]? = some (.cells (dvv H D x) 41 (0, 0))) : (ld41 ⟨b, 0, none⟩).run Tryz.prog w = .ok (dvv H D x) w := by
 have := run_loadCells_list (P := Tryz.prog) w ⟨b, 0, none⟩ (dvv H D x).toList (fun j v hv => by
  have hadd : (⟨b, 0, none⟩ : Addr).add j = ⟨b, j, none⟩ := by unfold Addr.add; split <;> simp_all
  rw [hadd, cell_of_row w b j _ _ _ hb]
  simpa using hv)
 simpa [loadCells, dvv_size, ld41] using this
theorem store41_row {w : World} {b : Nat} {cs : Array Value} (hz : cs.size = 13) (H : Hx) (D : DD) (x : X) (hb : w.heap[b]? = some (.cells cs 41 (0, 0))) : (st41 ⟨b, 0, none⟩ (dvv H D x)).run Tryz.prog w = .ok () (w.setRow b (dvv H D x)) := by
 have := run_storeCells_from (P := Tryz.prog) b 41 (dvv H D x).toList 0 _ w hb (by simp [hz]) (dvv_one H D x)
 simpa [st41, hz] using this
theorem size41 (H : Hx) (D : DD) (x : X) : (Tryz.prog.info? 41).map (·.size) = some (dvv H D x).size := by rw [dvv_size]; kernel_rfl
structure XX (w : World) (H : Hx) (D : DD) (n : Nat) (P : List Ns.M.Pl) (x : X) : Prop where
 xd : XD w H.h D
 rr : RR n P false D
 xl : XL vl w H.ad H.c x.a.l
 lt : ∀ k, Na.blk H.ad k → k < w.heap.size
section
variable {w w' : World} {H : Hx} {D : DD} {n : Nat} {P : List Ns.M.Pl} {x : X}
theorem XX.blt (h : XX w H D n P x) : ∀ k, H.blk k → k < w.heap.size := by
 rintro k (hk | hk)
 ·exact h.xd.lt k hk
 ·exact h.lt k hk
theorem XX.keepBut (h : XX w H D n P x) (hb : ∀ k, k < w.heap.size → H.blk k → w'.heap[k]? = w.heap[k]?) (hs : w.heap.size ≤ w'.heap.size) : XX w' H D n P x :=
 ⟨h.xd.keepBut (fun k hk hB => hb k hk (.inl hB)) hs, h.rr, h.xl.keepBut fun k hk hB => hb k hk (.inr hB), fun k hk => Nat.lt_of_lt_of_le (h.lt k hk) hs⟩
theorem XX.keep (h : XX w H D n P x) (hb : Below w.heap.size w w') : XX w' H D n P x := h.keepBut (fun k hk _ => hb.block k hk) hb.size
theorem XX.step {F G : Nat → Prop} (h : XX w H D n P x) (hF : Fr w F w' G) (ha : ∀ k, H.blk k → ¬ F k) : XX w' H D n P x := h.keepBut (fun k hk hB => hF.block k hk (ha k hB)) hF.size
theorem XX.len (h : XX w H D n P x) : D.now.length = n ∧ 1 ≤ n ∧ n ≤ 4096 := ⟨h.rr.ok.l1, h.rr.ok.n1⟩
end
def New (w : World) (H H' : Hx) : Prop := ∀ k, H'.blk k → H.blk k ∨ w.heap.size ≤ k
theorem New.refl (w : World) (H : Hx) : New w H H := fun k hk => .inl hk
abbrev hV (H : Hx) (D : DD) : Array Value := #[.slice H.h.aN D.now.length H.h.cN, .slice H.h.aS D.sure.length H.h.cS, .slice H.h.aL D.loo.length H.h.cL, .bool D.lost]
theorem half_any (h : Hd) (D : DD) (n : Nat) (w : World) (hn : D.now.length = n) (h8 : 8 ≤ n) (hm : n ≤ 4096) : Calls Tryz.prog 42 #[.agg (h.vals D)] w fun e w' => e = .returned (.int .i64 (hf n : Nat)) ∧ Below w.heap.size w w' := by
 subst hn
 have HB := Hf (bel1 w (.cells (h.vals D) 34))
 have hr1 := heap_alloc_last w (.cells (h.vals D) 34)
 obtain ⟨W1, HW1⟩ := Nh (w.alloc (.cells (h.vals D) 34))
 rw [HW1.out] at hr1 HB; unfold Hd.vals at hr1 HW1 ⊢
 obtain ⟨⟨c0, _⟩, _⟩ := row4 hr1
 generalize D.now.length = n at *
 have e : ((hf n : Nat) : Int) = ((n : Int) - 8) / 2 := by unfold hf; omega
 have HE : Hid (∀ v : Value, v = .int .i64 (((n : Int) - 8) / 2) → v = .int .i64 (hf n : Nat)) := fun v hv => by rw [hv, e]
 clear hr1 e
 go_enter Tryz.func42, Tryz.ntmps42
 go_upto_region 1 with fail
 rw [HW1.out]; go_wp2
 go_ret
 refine ⟨congrArg Ending.returned (HE.out _ ?_), HB.out⟩
 rfl
end Go.Proofs.YtlnedgjikkhplaaGreat.Du
namespace Go.Proofs.YtlnedgjikkhplaaGreat.Du
open Go.RowKit
open Na (Fr AS XL vl bV vV Hf bel1 bel2 Bu Br row2 row4 blk OwnL AtL)
open Na.M (E V S S0)
open Ns (Hd XD)
open Ns.M (DD RR ofL)
theorem rowD {w : World} {b : Nat} {H : Hx} {D : DD} {x : X} (h : w.heap[b]? = some (.cells (dvv H D x) 41 (0, 0))) : (w.cell? ⟨b, 0, none⟩ = some (.slice H.h.aN D.now.length H.h.cN) ∧ w.cell? ⟨b, 1, none⟩ = some (.slice H.h.aS D.sure.length H.h.cS) ∧ w.cell? ⟨b, 2, none⟩ = some (.slice H.h.aL D.loo.length H.h.cL) ∧ w.cell? ⟨b, 3, none⟩ = some (.bool D.lost) ∧ w.cell? ⟨b, 4, none⟩ = some (.int .i64 x.ar) ∧ w.cell? ⟨b, 5, none⟩ = some (.int .i64 x.ep) ∧ w.cell? ⟨b, 6, none⟩ = some (.int .i64 x.us) ∧ w.cell? ⟨b, 7, none⟩ = some (.int .i64 x.n) ∧ w.cell? ⟨b, 8, none⟩ = some (.int .i64 x.a.p.i) ∧ w.cell? ⟨b, 9, none⟩ = some (.int .i64 x.a.p.t) ∧ w.cell? ⟨b, 10, none⟩ = some (.int .i64 x.a.base) ∧ w.cell? ⟨b, 11, none⟩ = some (.slice H.ad x.a.l.length H.c) ∧ w.cell? ⟨b, 12, none⟩ = some (.bool x.cut)) ∧ ∀ j, w.frozen? ⟨b, j, none⟩ = false := row13 h
section
variable {w w' : World} {H : Hx} {D : DD} {n : Nat} {P : List Ns.M.Pl} {x : X}
theorem droom_any (hn : D.now.length = n) (h8 : 8 ≤ n) (h4 : n ≤ 4096) (hu : x.us ≤ hf n) : Calls Tryz.prog 19 #[.agg (dvv H D x)] w fun e w' => e = .returned (.int .i64 ((hf n - x.us : Nat) : Int)) ∧ Below w.heap.size w w' := by
 obtain ⟨W1, HW1⟩ := Nh (w.alloc (.cells (dvv H D x) 41))
 have hb1 : Below w.heap.size w W1 := by rw [← HW1.out]; exact bel1 w _
 have hr1 : W1.heap[w.heap.size]? = some (.cells (dvv H D x) 41 (0, 0)) := by rw [← HW1.out]; exact heap_alloc_last w _
 have HB1 := Hf hb1
 have HS : Hid (∀ w', Below W1.heap.size W1 w' → w'.cell? ⟨w.heap.size, 0, none⟩ = some (.slice H.h.aN D.now.length H.h.cN) ∧ w'.cell? ⟨w.heap.size, 1, none⟩ = some (.slice H.h.aS D.sure.length H.h.cS) ∧ w'.cell? ⟨w.heap.size, 2, none⟩ = some (.slice H.h.aL D.loo.length H.h.cL) ∧ w'.cell? ⟨w.heap.size, 3, none⟩ = some (.bool D.lost) ∧ w'.cell? ⟨w.heap.size, 4, none⟩ = some (.int .i64 x.ar) ∧ w'.cell? ⟨w.heap.size, 5, none⟩ = some (.int .i64 x.ep) ∧ w'.cell? ⟨w.heap.size, 6, none⟩ = some (.int .i64 x.us) ∧ w'.cell? ⟨w.heap.size, 7, none⟩ = some (.int .i64 x.n) ∧ w'.cell? ⟨w.heap.size, 8, none⟩ = some (.int .i64 x.a.p.i) ∧ w'.cell? ⟨w.heap.size, 9, none⟩ = some (.int .i64 x.a.p.t) ∧ w'.cell? ⟨w.heap.size, 10, none⟩ = some (.int .i64 x.a.base) ∧ w'.cell? ⟨w.heap.size, 11, none⟩ = some (.slice H.ad x.a.l.length H.c) ∧ w'.cell? ⟨w.heap.size, 12, none⟩ = some (.bool x.cut)) := fun w' hb => (rowD (Br hr1 hb)).1
 have HN := Hf hn
 have HN8 := Hf h8
 have HN4 := Hf h4
 have hh : hf n ≤ 4096 := by unfold hf; omega
 have HE : Hid (∀ v : Value, v = .int .i64 (((hf n : Nat) : Int) - (x.us : Int)) → v = .int .i64 ((hf n - x.us : Nat) : Int)) := fun v hv => by rw [hv]; congr 1; omega
 have hwr : IntKind.i64.wrap (((hf n : Nat) : Int) - (x.us : Int)) = ((hf n : Nat) : Int) - (x.us : Int) := by rw [IntKind.wrap_i64]; omega
 clear hb1 hr1 hn h8 h4
 go_enter Tryz.func19, Tryz.ntmps19
 go_upto_region 1 with fail
 rw [HW1.out]; clear HW1
 go_wp2_with fail
 refine wp_region_held_drew (S := fun wq => Below (W1).heap.size (W1) wq) (by kernel_rfl) (Below.drew (Below.refl _ _)) fun Hl => ?_
 refine Tm 0 ?pA ?vA Hl ?rA
 refine Tk 1 ?pB ?vB ?yB Hl ?rB
 case yB => intro q h; obtain ⟨z0, z1, z2, z3, z4, z5, z6, z7, z8, z9, z10, z11, z12⟩ := HS.out q h; go_simp; try with_reducible rfl
 refine Tm 3 ?pC ?vC Hl ?rC
 refine Tk 4 ?pD ?vD ?yD Hl ?rD
 case yD => intro q h; obtain ⟨z0, z1, z2, z3, z4, z5, z6, z7, z8, z9, z10, z11, z12⟩ := HS.out q h; go_simp; try with_reducible rfl
 simp only [Act.put, Pa, Pb, Pc]
 refine Rd 2 ?pE ?sE
 intro K hK; go_simp
 refine (half_any H.h D n _ HN.out HN8.out HN4.out).mono ?_; rintro e v2 ⟨rfl, hb2⟩
 have B2 : Below W1.heap.size W1 v2 := Hl.trans (hb2.mono Hl.size)
 refine hK.out _ _ B2 fun Hl => ?_; clear hK K
 refine Tm 5 ?pF ?vF Hl ?rF
 refine Tm 6 ?pG ?vG Hl ?rG
 simp only [Act.put, Pa, Pb, Pc]
 refine wpAnyH_done (by kernel_rfl) ?_ _
 have HBF := Hf (Bu HB1.out Hl Lr)
 clear Hl HS; go_wp2
 go_ret
 refine ⟨congrArg Ending.returned (HE.out _ ?_), HBF.out⟩
 rfl
end
theorem ne36 (a b c d : Int) (w : World) : (binOp .neq 36 (.agg #[.int .i64 a, .int .i64 b]) (.agg #[.int .i64 c, .int .i64 d])).run Tryz.prog w = .ok (.bool (!(decide (a = c) && decide (b = d)))) w := by
 have u3 := Tryz.underlying3
 have a3 := Tryz.isAgg3
 have z3 := Tryz.sizeOf3
 have hS2 : Tryz.prog.underlying 36 = some (.struct (Tryz.prog.fieldsOf 36)) := by kernel_rfl
 have hp2 : Tryz.prog.stoodInHeld 36 = false := by kernel_rfl
 rw [run_neq_struct, show (10000 : Nat) = 9999 + 1 from rfl, run_equalIn_agg w 9999 36 _ _ hS2 hp2]
 simp only [Program.fieldsOf, Tryz.underlying36]
 by_cases h1 : a = c
 ·by_cases h2 : b = d
  ·subst h1 h2; go_simp
  ·have e2 : (b == d) = false := by simpa using h2
   subst h1; go_simp
 ·have e1 : (a == c) = false := by simpa using h1
  go_simp
theorem ne48 (s i t : Int) (v : ByteArray) (s' i' t' : Int) (v' : ByteArray) (w : World) : (binOp .neq 48 (.agg #[.int .i64 s, .int .i64 i, .int .i64 t, .string v]) (.agg #[.int .i64 s', .int .i64 i', .int .i64 t', .string v'])).run Tryz.prog w = .ok (.bool (!Na.veq s i t v s' i' t' v')) w := by
 rw [run_neq_struct, Na.equal33]
 rfl
theorem S_ext {a d : S} (h1 : a.p.i = d.p.i) (h2 : a.p.t = d.p.t) (h3 : a.base = d.base) (h4 : a.l = d.l) : a = d := by
 cases a with | mk p b l => cases d with | mk p' b' l' => cases p; cases p'; simp_all
theorem dsame_any (a d : S) (aa : Option Addr) (ca : Nat) (da : Option Addr) (cd : Nat) (w : World) (hl : a.l.length ≤ 1000000) (hl' : d.l.length ≤ 1000000) (ha : AtL vl w aa a.l) (hd : AtL vl w da d.l) :
  Calls Tryz.prog 97 #[Na.aV a aa ca, Na.aV d da cd] w fun e w' => ∃ q : Bool, e = .returned (.bool q) ∧ (q = true ↔ a = d) ∧ Below w.heap.size w w' := by
 obtain ⟨W1, HW1⟩ := Nh ((w.alloc (.cells #[.int .i64 a.p.i, .int .i64 a.p.t, .int .i64 a.base, .slice aa a.l.length ca] 39)).alloc (.cells #[.int .i64 d.p.i, .int .i64 d.p.t, .int .i64 d.base, .slice da d.l.length cd] 39))
 have hs1 : W1.heap.size = w.heap.size + 2 := by rw [← HW1.out]; simp
 have hb1 : Below w.heap.size w W1 := by rw [← HW1.out]; exact bel2 w _ _
 have hr1 : W1.heap[w.heap.size]? = some (.cells #[.int .i64 a.p.i, .int .i64 a.p.t, .int .i64 a.base, .slice aa a.l.length ca] 39 (0, 0)) := by rw [← HW1.out]; exact heap_alloc2_old w _ _
 have hr2 : W1.heap[w.heap.size + 1]? = some (.cells #[.int .i64 d.p.i, .int .i64 d.p.t, .int .i64 d.base, .slice da d.l.length cd] 39 (0, 0)) := by rw [← HW1.out]; exact heap_alloc2_new w _ _
 obtain ⟨⟨c0, c1, c2, c3⟩, _⟩ := row4 hr1
 obtain ⟨⟨d0, d1, d2, d3⟩, _⟩ := row4 hr2
 have HA := Hf (ha.keep hb1)
 have HD := Hf (hd.keep hb1)
 have HB1 := Hf hb1
 have HR1 := Hf hr1
 have HR2 := Hf hr2
 have hn := ne36 a.p.i a.p.t d.p.i d.p.t
 clear hb1 hr1 hr2 ha hd
 by_cases hp : a.p.i = d.p.i ∧ a.p.t = d.p.t
 ·obtain ⟨hp1, hp2⟩ := hp
  have hq : (!(decide (a.p.i = d.p.i) && decide (a.p.t = d.p.t))) = false := by simp [hp1, hp2]
  have HP := Hf (And.intro hp1 hp2)
  by_cases hb : a.base = d.base
  ·have hbq : (a.base != d.base) = false := by simp [hb]
   have HBS := Hf hb
   by_cases hle : a.l.length = d.l.length
   ·have hlq : (((a.l.length : Nat) : Int) != ((d.l.length : Nat) : Int)) = false := by simp [hle]
    have HLE := Hf hle
    clear hp1 hp2 hb hle; rw [hq] at hn; clear hq
    go_enter Tryz.func97, Tryz.ntmps97
    go_upto_region 1 with fail
    rw [HW1.out]; clear HW1; go_wp2
    go_loopw [5] (fun i wr => ∃ j : Nat, j ≤ a.l.length ∧ i = .int .i64 j ∧ a.l.take j = d.l.take j ∧ Below W1.heap.size W1 wr) (fun i _ => a.l.length - (intOf i).toNat)
    case atStart => exact ⟨0, Nat.zero_le _, rfl, rfl, Below.refl _ _⟩
    case round =>
     obtain ⟨j, hj, rfl, htk, hbr⟩ := hrel
     have HBR := Hf hbr
     have HTK := Hf htk
     obtain ⟨⟨e0, e1, e2, e3⟩, _⟩ := row4 (Br HR1.out hbr)
     clear htk
     by_cases hlt : j < a.l.length
     ·have hlt' : j < d.l.length := by have := HLE.out; omega
      obtain ⟨g0, o0, rfl, q0, q1, q2, q3⟩ := Na.AtL.getV HA.out j hlt
      obtain ⟨g1, o1, rfl, p0, p1, p2, p3⟩ := Na.AtL.getV HD.out j hlt'
      have k1 : ∀ g o v, W1.cell? ⟨g, o, none⟩ = some v → ∀ w', Below wr.heap.size wr w' → w'.cell? ⟨g, o, none⟩ = some v := fun g o v h w' hb => by
       have hb7 : Below W1.heap.size W1 w' := Bu HBR.out hb Lr
       exact (World.cell?_of_block (w := W1) (a := ⟨g, o, none⟩) (hb7.block g (World.block_lt_of_cell? W1 _ h))).trans h
      have HS : Hid (∀ w', Below wr.heap.size wr w' → w'.cell? ⟨w.heap.size, 3, none⟩ = some (.slice (some ⟨g0, o0, none⟩) a.l.length ca) ∧ w'.cell? ⟨w.heap.size + 1, 3, none⟩ = some (.slice (some ⟨g1, o1, none⟩) d.l.length cd) ∧ (w'.cell? ⟨g0, o0 + j * 4, none⟩ = some (.int .i64 a.l[j].s) ∧ w'.cell? ⟨g0, o0 + j * 4 + 1, none⟩ = some (.int .i64 a.l[j].b.i) ∧ w'.cell? ⟨g0, o0 + j * 4 + 2, none⟩ = some (.int .i64 a.l[j].b.t) ∧ w'.cell? ⟨g0, o0 + j * 4 + 3, none⟩ = some (.string a.l[j].v)) ∧ (w'.cell? ⟨g1, o1 + j * 4, none⟩ = some (.int .i64 d.l[j].s) ∧ w'.cell? ⟨g1, o1 + j * 4 + 1, none⟩ = some (.int .i64 d.l[j].b.i) ∧ w'.cell? ⟨g1, o1 + j * 4 + 2, none⟩ = some (.int .i64 d.l[j].b.t) ∧ w'.cell? ⟨g1, o1 + j * 4 + 3, none⟩ = some (.string d.l[j].v))) := fun w' hb => ⟨(row4 (Br HR1.out (Bu HBR.out hb Lr))).1.2.2.2, (row4 (Br HR2.out (Bu HBR.out hb Lr))).1.2.2.2, ⟨k1 _ _ _ q0 w' hb, k1 _ _ _ q1 w' hb, k1 _ _ _ q2 w' hb, k1 _ _ _ q3 w' hb⟩, ⟨k1 _ _ _ p0 w' hb, k1 _ _ _ p1 w' hb, k1 _ _ _ p2 w' hb, k1 _ _ _ p3 w' hb⟩⟩
      have hnv := ne48 a.l[j].s a.l[j].b.i a.l[j].b.t a.l[j].v d.l[j].s d.l[j].b.i d.l[j].b.t d.l[j].v
      have HTS : Hid (a.l[j] = d.l[j] → a.l.take (j + 1) = d.l.take (j + 1)) := fun e => by rw [List.take_succ_eq_append_getElem hlt, List.take_succ_eq_append_getElem hlt', HTK.out, e]
      have HNE : Hid (a.l[j] ≠ d.l[j] → a ≠ d) := fun e1 e2 => e1 (by subst e2; rfl)
      obtain ⟨y, hy⟩ := Nq (a.l[j])
      obtain ⟨z, hz⟩ := Nq (d.l[j])
      rw [hy, hz] at hnv HTS HNE; rw [hy, hz] at HS
      have hji : (j : Int) < (a.l.length : Int) := by omega
      have hji' : (j : Int) < (d.l.length : Int) := by omega
      clear q0 q1 q2 q3 p0 p1 p2 p3 k1 hbr hy hz
      cases hvq : Na.veq y.s y.b.i y.b.t y.v z.s z.b.i z.b.t z.v with
      | true =>
       have HYZ := Hf (veq_yes hvq)
       rw [hvq] at hnv; clear hvq
       go_wp2_with fail
       refine wp_region_held_drew (S := fun wq => Below (wr).heap.size (wr) wq) (by kernel_rfl) (Below.drew (Below.refl _ _)) fun Hl => ?_
       refine Tm 0 ?pH ?vH Hl ?rH
       refine Tk 1 ?pI ?vI ?yI Hl ?rI
       case yI => intro q h; obtain ⟨z0, z1, ⟨y0, y1, y2, y3⟩, ⟨u0, u1, u2, u3⟩⟩ := HS.out q h; go_simp; try with_reducible rfl
       refine Tm 2 ?pJ ?vJ Hl ?rJ
       refine Tm 3 ?pK ?vK Hl ?rK
       refine Tk 4 ?pL ?vL ?yL Hl ?rL
       case yL => intro q h; obtain ⟨z0, z1, ⟨y0, y1, y2, y3⟩, ⟨u0, u1, u2, u3⟩⟩ := HS.out q h; go_simp; try with_reducible rfl
       refine Tm 5 ?pM ?vM Hl ?rM
       refine Tk 6 ?pN ?vN ?yN Hl ?rN
       case yN => intro q h; obtain ⟨z0, z1, ⟨y0, y1, y2, y3⟩, ⟨u0, u1, u2, u3⟩⟩ := HS.out q h; go_simp; try with_reducible rfl
       refine Tm 7 ?pO ?vO Hl ?rO
       refine Tm 8 ?pP ?vP Hl ?rP
       refine Tk 9 ?pQ ?vQ ?yQ Hl ?rQ
       case yQ => intro q h; obtain ⟨z0, z1, ⟨y0, y1, y2, y3⟩, ⟨u0, u1, u2, u3⟩⟩ := HS.out q h; go_simp; try with_reducible rfl
       refine Tm 10 ?pR ?vR Hl ?rR
       simp only [Act.put, Pa, Pb, Pc]
       refine wpAnyH_done (by kernel_rfl) ?_ _
       have HBF := Hf (Bu HBR.out Hl Lr)
       clear Hl HS; go_wp2
       go_roundw
       case rel => exact ⟨j + 1, by omega, by go_num, HTS.out HYZ.out, HBF.out⟩
       case measure => simp [intOf]; omega
      | false =>
       have HYZ : Hid (a ≠ d) := HNE.out fun e => by rw [e, Na.veq_refl] at hvq; cases hvq
       rw [hvq] at hnv; clear hvq
       go_wp2_with fail
       refine wp_region_held_drew (S := fun wq => Below (wr).heap.size (wr) wq) (by kernel_rfl) (Below.drew (Below.refl _ _)) fun Hl => ?_
       refine Tm 0 ?pS ?vS Hl ?rS
       refine Tk 1 ?pT ?vT ?yT Hl ?rT
       case yT => intro q h; obtain ⟨z0, z1, ⟨y0, y1, y2, y3⟩, ⟨u0, u1, u2, u3⟩⟩ := HS.out q h; go_simp; try with_reducible rfl
       refine Tm 2 ?pU ?vU Hl ?rU
       refine Tm 3 ?pV ?vV Hl ?rV
       refine Tk 4 ?pW ?vW ?yW Hl ?rW
       case yW => intro q h; obtain ⟨z0, z1, ⟨y0, y1, y2, y3⟩, ⟨u0, u1, u2, u3⟩⟩ := HS.out q h; go_simp; try with_reducible rfl
       refine Tm 5 ?pX ?vX Hl ?rX
       refine Tk 6 ?pY ?vY ?yY Hl ?rY
       case yY => intro q h; obtain ⟨z0, z1, ⟨y0, y1, y2, y3⟩, ⟨u0, u1, u2, u3⟩⟩ := HS.out q h; go_simp; try with_reducible rfl
       refine Tm 7 ?pZ ?vZ Hl ?rZ
       refine Tm 8 ?pa ?va Hl ?ra
       refine Tk 9 ?pb ?vb ?yb Hl ?rb
       case yb => intro q h; obtain ⟨z0, z1, ⟨y0, y1, y2, y3⟩, ⟨u0, u1, u2, u3⟩⟩ := HS.out q h; go_simp; try with_reducible rfl
       refine Tm 10 ?pc ?vc Hl ?rc
       simp only [Act.put, Pa, Pb, Pc]
       refine wpAnyH_done (by kernel_rfl) ?_ _
       have HBF := Hf (Bu HBR.out Hl Lr)
       clear Hl HS; go_wp2
       go_ret
       exact ⟨false, rfl, ⟨fun h => (by cases h), fun h => absurd h HYZ.out⟩, Bu HB1.out HBF.out Lr⟩
     ·obtain rfl : j = a.l.length := by omega
      have HEQ : Hid (a = d) := S_ext HP.out.1 HP.out.2 HBS.out (by
       have := HTK.out
       rw [List.take_of_length_le Lr, List.take_of_length_le (by rw [HLE.out]; exact Nat.le_refl _)] at this
       exact this)
      clear hbr; go_wp2
      go_ret
      exact ⟨true, rfl, ⟨fun _ => HEQ.out, fun _ => rfl⟩, Bu HB1.out HBR.out Lr⟩
   ·have hlq : (((a.l.length : Nat) : Int) != ((d.l.length : Nat) : Int)) = true := by simp; omega
    have HNE : Hid (a ≠ d) := fun e => hle (by rw [e])
    clear hp1 hp2 hb hle; rw [hq] at hn; clear hq
    go_enter Tryz.func97, Tryz.ntmps97
    go_upto_region 1 with fail
    rw [HW1.out]; clear HW1; go_wp2
    go_ret
    exact ⟨false, rfl, ⟨fun h => (by cases h), fun h => absurd h HNE.out⟩, HB1.out⟩
  ·have hbq : (a.base != d.base) = true := by simp [hb]
   have HNE : Hid (a ≠ d) := fun e => hb (by rw [e])
   clear hp1 hp2 hb; rw [hq] at hn; clear hq
   go_enter Tryz.func97, Tryz.ntmps97
   go_upto_region 1 with fail
   rw [HW1.out]; clear HW1; go_wp2
   go_ret
   exact ⟨false, rfl, ⟨fun h => (by cases h), fun h => absurd h HNE.out⟩, HB1.out⟩
 ·have hq : (!(decide (a.p.i = d.p.i) && decide (a.p.t = d.p.t))) = true := by
   by_cases h1 : a.p.i = d.p.i
   ·by_cases h2 : a.p.t = d.p.t
    ·exact absurd ⟨h1, h2⟩ hp
    ·simp [h2]
   ·simp [h1]
  have HNE : Hid (a ≠ d) := fun e => hp (by rw [e]; exact ⟨rfl, rfl⟩)
  clear hp; rw [hq] at hn; clear hq
  go_enter Tryz.func97, Tryz.ntmps97
  go_upto_region 1 with fail
  rw [HW1.out]; clear HW1; go_wp2
  go_ret
  exact ⟨false, rfl, ⟨fun h => (by cases h), fun h => absurd h HNE.out⟩, HB1.out⟩
end Go.Proofs.YtlnedgjikkhplaaGreat.Du
