import Derived.Test.YtlnedgjikkhplaaGreatGP32
import Derived.Shelf.SlSortCmp.NoneTotal
set_option maxRecDepth 100000
set_option maxHeartbeats 8000000
set_option linter.unusedVariables false
set_option linter.unusedSimpArgs false
namespace Go.Proofs.YtlnedgjikkhplaaGreat.Du
open Go.RowKit
open Na (Fr AS XL vl bV vV Hf bel1 bel2 Bu Br row2 row4 blk OwnL AtL)
open Na.M (E V S S0)
theorem grow_bel (w : World) (q : Nat) (os : Array Obj) : Below w.heap.size w (Go.Sort.grow (w.drewN q) os) := by
 refine ⟨rfl, rfl, rfl, by simp [Go.Sort.grow], fun k hk => ?_⟩
 rw [Go.Sort.heap_grow_old _ _ (by simpa using hk)]
 rfl
theorem drewN_grow (w : World) (q : Nat) (os : Array Obj) : (Go.Sort.grow w os).drewN q = Go.Sort.grow (w.drewN q) os := rfl
theorem drew_grow (w : World) (os : Array Obj) : (Go.Sort.grow w os).drew = Go.Sort.grow w.drew os := rfl
theorem drew_drewN (w : World) (q : Nat) : w.drew.drewN q = w.drewN (q + 1) := by
 unfold World.drew World.drewN
 simp only [World.mk.injEq, true_and, and_true]
 omega
theorem cmpX_any (x y : E) (w : World) :
  Calls Tryz.prog 117 #[bV x, bV y] w fun e w' => e = .returned (.int .i64 (Na.M.cmpE x y)) ∧ ∃ q os', w' = Go.Sort.grow (w.drewN q) os' := by
 have HC : Hid (Na.M.cmpE x y = Na.orI (Na.M.cmp x.i y.i) (Na.M.cmp x.t y.t)) := rfl
 rw [HC.out]; clear HC
 obtain ⟨xi, xt⟩ := x
 obtain ⟨yi, yt⟩ := y
 simp only
 obtain ⟨W1, HW1⟩ := Nh ((w.alloc (.cells #[.int .i64 xi, .int .i64 xt] 36)).alloc (.cells #[.int .i64 yi, .int .i64 yt] 36))
 have hs1 : W1.heap.size = w.heap.size + 2 := by rw [← HW1.out]; simp
 have HS : Hid (∀ w', Below W1.heap.size W1 w' → (w'.cell? ⟨w.heap.size, 0, none⟩ = some (.int .i64 xi) ∧ w'.cell? ⟨w.heap.size, 1, none⟩ = some (.int .i64 xt)) ∧ (w'.cell? ⟨w.heap.size + 1, 0, none⟩ = some (.int .i64 yi) ∧ w'.cell? ⟨w.heap.size + 1, 1, none⟩ = some (.int .i64 yt))) := by
  intro w' hb
  have h1 : W1.heap[w.heap.size]? = some (.cells #[.int .i64 xi, .int .i64 xt] 36 (0, 0)) := by rw [← HW1.out]; exact heap_alloc2_old w _ _
  have h2 : W1.heap[w.heap.size + 1]? = some (.cells #[.int .i64 yi, .int .i64 yt] 36 (0, 0)) := by rw [← HW1.out]; exact heap_alloc2_new w _ _
  exact ⟨(row2 ((hb.block _ (by omega)).trans h1)).1, (row2 ((hb.block _ (by omega)).trans h2)).1⟩
 have HFIN : Hid (∀ a b : Value, ∃ q os', (W1.alloc (.cells #[a, b] 3)).drew = Go.Sort.grow (w.drewN q) os') := fun a b => ⟨1, _, by rw [← HW1.out, Go.Sort.alloc_eq_grow, Go.Sort.alloc_eq_grow, Go.Sort.alloc_eq_grow, Go.Sort.grow_grow, Go.Sort.grow_grow]; rfl⟩
 go_enter Tryz.func117, Tryz.ntmps117
 go_wp2_with fail
 rw [HW1.out]; clear HW1
 have HL : Hid (∀ a b : Value, (W1.alloc (.cells #[a, b] 3)).drew.heap[w.heap.size + 2]? = some (.cells #[a, b] 3 (0, 0))) := fun a b => by rw [← hs1]; exact heap_alloc_last W1 _
 refine wp_region_held_drew (S := fun wq => Below (W1).heap.size (W1) wq) (by kernel_rfl) (Below.drew (Below.refl _ _)) fun Hl => ?_
 refine Tm 0 ?pA ?vA Hl ?rA
 refine Tk 1 ?pB ?vB ?yB Hl ?rB
 case yB => intro q h; obtain ⟨⟨a0, a1⟩, ⟨b0, b1⟩⟩ := HS.out q h; go_simp; try with_reducible rfl
 refine Tm 2 ?pC ?vC Hl ?rC
 refine Tk 3 ?pD ?vD ?yD Hl ?rD
 case yD => intro q h; obtain ⟨⟨a0, a1⟩, ⟨b0, b1⟩⟩ := HS.out q h; go_simp; try with_reducible rfl
 refine Tm 5 ?pE ?vE Hl ?rE
 refine Tk 6 ?pF ?vF ?yF Hl ?rF
 case yF => intro q h; obtain ⟨⟨a0, a1⟩, ⟨b0, b1⟩⟩ := HS.out q h; go_simp; try with_reducible rfl
 refine Tm 7 ?pG ?vG Hl ?rG
 refine Tk 8 ?pH ?vH ?yH Hl ?rH
 case yH => intro q h; obtain ⟨⟨a0, a1⟩, ⟨b0, b1⟩⟩ := HS.out q h; go_simp; try with_reducible rfl
 simp only [Act.put, Pa, Pb, Pc]
 refine Rd 4 ?pI ?sI
 intro K hK; go_simp
 refine (Na.compare_any _ _ _).mono ?_; rintro x w2 ⟨rfl, rfl⟩
 refine hK.out _ _ Hl fun Hl => ?_; clear hK K
 refine Rd 9 ?pJ ?sJ
 intro K hK; go_simp
 refine (Na.compare_any _ _ _).mono ?_; rintro x w3 ⟨rfl, rfl⟩
 refine hK.out _ _ Hl fun Hl => ?_; clear hK K
 refine Rd 10 ?pK ?sK
 intro K hK; go_simp
 refine hK.out _ _ ((bel1 W1 _).drew) fun Hl => ?_; clear hK K
 refine Rd 11 ?pL ?sL
 intro K hK; go_simp
 refine (Na.or_any (w.heap.size + 2) _ _ _ (HL.out _ _)).mono ?_; rintro x w4 ⟨rfl, rfl⟩
 refine hK.out _ _ Hl fun Hl => ?_; clear hK K
 refine Tm 12 ?pM ?vM Hl ?rM
 simp only [Act.put, Pa, Pb, Pc]
 refine wpAnyH_done (by kernel_rfl) ?_ _
 go_wp2
 go_ret
 exact ⟨rfl, HFIN.out _ _⟩
def cf (x y : V) : Int := Na.orI (Na.M.cmpE x.b y.b) (Na.M.cmp x.s y.s)
theorem clo_any (x y : V) (w : World) :
  Calls Tryz.prog 115 #[vV x, vV y] w fun e w' => e = .returned (.int .i64 (cf x y)) ∧ ∃ q os', w' = Go.Sort.grow (w.drewN q) os' := by
 have HC : Hid (cf x y = Na.orI (Na.M.cmpE x.b y.b) (Na.M.cmp x.s y.s)) := rfl
 rw [HC.out]; clear HC
 obtain ⟨xs, ⟨xi, xt⟩, xv⟩ := x
 obtain ⟨ys, ⟨yi, yt⟩, yv⟩ := y
 simp only
 obtain ⟨W1, HW1⟩ := Nh ((w.alloc (.cells #[.int .i64 xs, .int .i64 xi, .int .i64 xt, .string xv] 48)).alloc (.cells #[.int .i64 ys, .int .i64 yi, .int .i64 yt, .string yv] 48))
 have hs1 : W1.heap.size = w.heap.size + 2 := by rw [← HW1.out]; simp
 have HS : Hid (∀ w', Below W1.heap.size W1 w' → (w'.cell? ⟨w.heap.size, 0, none⟩ = some (.int .i64 xs) ∧ w'.cell? ⟨w.heap.size, 1, none⟩ = some (.int .i64 xi) ∧ w'.cell? ⟨w.heap.size, 2, none⟩ = some (.int .i64 xt) ∧ w'.cell? ⟨w.heap.size, 3, none⟩ = some (.string xv)) ∧ (w'.cell? ⟨w.heap.size + 1, 0, none⟩ = some (.int .i64 ys) ∧ w'.cell? ⟨w.heap.size + 1, 1, none⟩ = some (.int .i64 yi) ∧ w'.cell? ⟨w.heap.size + 1, 2, none⟩ = some (.int .i64 yt) ∧ w'.cell? ⟨w.heap.size + 1, 3, none⟩ = some (.string yv))) := by
  intro w' hb
  have h1 : W1.heap[w.heap.size]? = some (.cells #[.int .i64 xs, .int .i64 xi, .int .i64 xt, .string xv] 48 (0, 0)) := by rw [← HW1.out]; exact heap_alloc2_old w _ _
  have h2 : W1.heap[w.heap.size + 1]? = some (.cells #[.int .i64 ys, .int .i64 yi, .int .i64 yt, .string yv] 48 (0, 0)) := by rw [← HW1.out]; exact heap_alloc2_new w _ _
  exact ⟨(row4 ((hb.block _ (by omega)).trans h1)).1, (row4 ((hb.block _ (by omega)).trans h2)).1⟩
 have HFIN : Hid (∀ q os' (a b : Value), ∃ q' os'', (Go.Sort.grow (W1.drew.drewN q) os').alloc (.cells #[a, b] 3) = Go.Sort.grow (w.drewN q') os'') := fun q os' a b => ⟨q + 1, _, by
  rw [← HW1.out, Go.Sort.alloc_eq_grow, Go.Sort.alloc_eq_grow, Go.Sort.alloc_eq_grow, Go.Sort.grow_grow, drew_grow, drew_grow, drewN_grow, drewN_grow, drew_drewN, Go.Sort.grow_grow, Go.Sort.grow_grow]⟩
 go_enter Tryz.func115, Tryz.ntmps115
 go_wp2_with fail
 rw [HW1.out]; clear HW1
 refine wp_region_held_drew (S := fun wq => Below (W1).heap.size (W1) wq) (by kernel_rfl) (Below.drew (Below.refl _ _)) fun Hl => ?_
 refine Tm 0 ?pN ?vN Hl ?rN
 refine Tk 1 ?pO ?vO ?yO Hl ?rO
 case yO => intro q h; obtain ⟨⟨a0, a1, a2, a3⟩, ⟨b0, b1, b2, b3⟩⟩ := HS.out q h; go_simp; try with_reducible rfl
 refine Tm 2 ?pP ?vP Hl ?rP
 refine Tk 3 ?pQ ?vQ ?yQ Hl ?rQ
 case yQ => intro q h; obtain ⟨⟨a0, a1, a2, a3⟩, ⟨b0, b1, b2, b3⟩⟩ := HS.out q h; go_simp; try with_reducible rfl
 refine Tm 5 ?pR ?vR Hl ?rR
 refine Tk 6 ?pS ?vS ?yS Hl ?rS
 case yS => intro q h; obtain ⟨⟨a0, a1, a2, a3⟩, ⟨b0, b1, b2, b3⟩⟩ := HS.out q h; go_simp; try with_reducible rfl
 refine Tm 7 ?pT ?vT Hl ?rT
 refine Tk 8 ?pU ?vU ?yU Hl ?rU
 case yU => intro q h; obtain ⟨⟨a0, a1, a2, a3⟩, ⟨b0, b1, b2, b3⟩⟩ := HS.out q h; go_simp; try with_reducible rfl
 simp only [Act.put, Pa, Pb, Pc]
 refine Rd 4 ?pV ?sV
 intro K hK; go_simp
 refine (cmpX_any ⟨xi, xt⟩ ⟨yi, yt⟩ _).mono ?_; rintro x w2 ⟨rfl, q2, os2, hw2⟩
 have B2 : Below W1.heap.size W1 w2 := by rw [hw2]; exact Hl.trans ((grow_bel _ _ _).mono Hl.size)
 have HW2 := Hf hw2
 clear hw2
 refine hK.out _ _ B2 fun Hl => ?_; clear hK K
 refine Rd 9 ?pW ?sW
 intro K hK; go_simp
 refine (Na.compare_any _ _ _).mono ?_; rintro x w3 ⟨rfl, hw3⟩
 obtain rfl := hw3.symm
 clear hw3
 refine hK.out _ _ Hl fun Hl => ?_; clear hK K
 refine Rd 10 ?pX ?sX
 intro K hK; go_simp
 refine hK.out _ _ (Hl.trans ((bel1 w2 _).mono Hl.size)) fun Hl => ?_; clear hK K
 refine Rd 11 ?pY ?sY
 intro K hK; go_simp
 have HL := heap_alloc_last w2 (.cells #[.int .i64 (Na.M.cmpE ⟨xi, xt⟩ ⟨yi, yt⟩), .int .i64 (Na.M.cmp xs ys)] 3)
 refine (Na.or_any w2.heap.size _ _ _ HL).mono ?_; rintro x w4 ⟨rfl, hw4⟩
 obtain rfl := hw4.symm
 clear hw4
 refine hK.out _ _ Hl fun Hl => ?_; clear hK K
 refine Tm 12 ?pZ ?vZ Hl ?rZ
 simp only [Act.put, Pa, Pb, Pc]
 refine wpAnyH_done (by kernel_rfl) ?_ _
 go_wp2
 go_ret
 refine ⟨rfl, ?_⟩
 rw [HW2.out]
 exact HFIN.out _ _ _ _
def encV (x : V) : List Value := [.int .i64 x.s, .int .i64 x.b.i, .int .i64 x.b.t, .string x.v]
theorem cf_lt (x y : V) : cf x y < 0 ↔ lt x y := by
 unfold cf lt Na.orI
 rcases Na.M.cmp_three x.s y.s with ⟨h, e⟩ | ⟨h, e⟩ | ⟨h, e⟩ <;> by_cases hz : Na.M.cmpE x.b y.b = 0
 all_goals (first | rw [if_pos hz] | rw [if_neg hz])
 all_goals omega
theorem ltV (x y : V) : Go.Proofs.ltOf cf x y = (decide (x.b.i < y.b.i) || (decide (x.b.i = y.b.i) && (decide (x.b.t < y.b.t) || (decide (x.b.t = y.b.t) && decide (x.s < y.s))))) := by
 have h : Go.Proofs.ltOf cf x y = decide (cf x y < 0) := rfl
 rw [h, Bool.eq_iff_iff]
 simp only [decide_eq_true_eq, Bool.or_eq_true, Bool.and_eq_true]
 rw [cf_lt]; unfold lt
 rcases Na.M.cmpE_three x.b y.b with ⟨h, e⟩ | ⟨h, e⟩ | ⟨h, e⟩ <;> rw [e] <;> omega
theorem swoV : Go.Sort.SWO (Go.Proofs.ltOf cf) := by
 refine ⟨fun x => ?_, fun x y z h1 h2 => ?_, fun x y z h1 h2 => ?_⟩
 ·rw [ltV]; simp
 ·rw [ltV] at *
  simp only [Bool.or_eq_true, Bool.and_eq_true, decide_eq_true_eq] at *
  omega
 ·rw [ltV] at *
  simp only [Bool.or_eq_false_iff, Bool.and_eq_false_iff, decide_eq_false_iff_not] at *
  omega
set_option linter.unusedSectionVars false
variable [Inhabited V]
theorem cmpLaysV (blk off size : Nat) (w : World) : Go.Proofs.CmpLays Tryz.prog 115 #[] encV 4 cf blk off size w := fun _ _ _ _ x y => clo_any x y _
theorem grown_sortedV {w : World} {g off n : Nat} {os : Array Obj} (d : Array V) : w.grownBy (Go.Proofs.sortWorldK encV 4 w g off n d os) (some g) := by
 refine ⟨rfl, rfl, rfl, by simp [Go.Proofs.sortWorldK, Go.Sort.putRowK, Go.Sort.grow, Go.Sort.putRow, Go.Sort.mapBlock, Go.Sort.ahead], fun k hk hne => ?_⟩
 unfold Go.Proofs.sortWorldK; rw [Go.Sort.heap_grow_old _ _ (by simpa [Go.Sort.putRowK, Go.Sort.putRow, Go.Sort.mapBlock, Go.Sort.ahead] using hk)]
 have : g ≠ k := fun e => hne (by rw [e])
 simp [Go.Sort.putRowK, Go.Sort.putRow, Go.Sort.mapBlock, Go.Sort.ahead, Array.getElem?_modify, this]
theorem sortV_any (g cap : Nat) (d : Array V) (w : World) (hH : Go.Sort.HoldsK encV 4 w g 0 d) (hg : g < w.heap.size) (hsz : d.size ≤ 100000) :
  Calls Tryz.prog 114 #[.slice (some ⟨g, 0, none⟩) d.size cap, .func (.func 115) #[] #[]] w fun e w' => ∃ d' : Array V, e = .returned (.tuple #[]) ∧ d'.size = d.size ∧ d'.toList.Perm d.toList ∧ (∀ i j, i < j → j < d.size → Go.Proofs.ltOf cf d'[j]! d'[i]! = false) ∧ Go.Sort.HoldsK encV 4 w' g 0 d' ∧ w.grownBy w' (some g) := by
 have eg : ∀ args w, (callFunc 115 args).run Tryz.prog w = .ok (.enter 115 args) w := enters_of Tryz.func115 (by kernel_rfl) rfl
 have hc := Go.Proofs.AnyQ.slices_SortFunc Ns.Tryz.sortFn 4 Tryz.isAgg48 Tryz.sizeOf48 encV (fun _ => rfl) (fun x v hv => by simp [encV] at hv; rcases hv with rfl | rfl | rfl | rfl <;> rfl) cf swoV 115 #[] g 0 cap d w eg (cmpLaysV g 0 d.size w) hH hg (by omega)
 change Calls Tryz.prog 114 _ _ _ at hc
 refine hc.mono ?_; rintro e w' ⟨he, d', n, os, ⟨h1, _, h3⟩, hs, rfl⟩
 refine ⟨d', he, h1, ?_, fun i j h1 h2 => hs i j (Nat.zero_le _) h1 h2, Go.Proofs.holdsK_sortWorldK encV 4 w g 0 n d d' os hg hH h1, grown_sortedV d'⟩
 rw [← h1] at h3
 have e1 : (d'.extract 0 d'.size) = d' := by simp
 have e2 : (d.extract 0 d'.size) = d := by rw [h1]; simp
 rw [e1, e2] at h3
 exact h3
theorem sortV_none (p : Option Addr) (cap : Nat) (fv : Value) (w : World) : Calls Tryz.prog 114 #[.slice p 0 cap, fv] w fun e w' => e = .returned (.tuple #[]) ∧ w' = w := by
 have hc := Go.Proofs.AnyF.slices_SortFunc_none Ns.Tryz.sortFn p cap fv w
 change Calls Tryz.prog 114 _ _ _ at hc
 exact hc
theorem own_holdsV {w : World} {base g n cap : Nat} {l : List V} (hl : l.length = n) (h : OwnL vl 48 w base (.slice (some ⟨g, 0, none⟩) n cap) l) : Go.Sort.HoldsK encV 4 w g 0 l.toArray ∧ g < w.heap.size ∧ base ≤ g := by
 have hlt := World.ownsRow.lt h g rfl
 refine ⟨fun j hj => ?_, hlt.2, hlt.1⟩
 rw [Go.Sort.size_flatK] at hj
 have hj' : j < l.length * 4 := by simpa using hj
 have hq : j / 4 < l.length := by omega
 have hget := vl.get l (j / 4) hq (j % 4) (Nat.mod_lt _ (by decide))
 rw [show j / 4 * vl.n + j % 4 = j from Nat.div_add_mod' j 4] at hget
 have := World.ownsRow.cells h (g := g) rfl j _ hget
 rw [show ((⟨g, 0, none⟩ : Addr).add j) = ⟨g, 0 + j, none⟩ by unfold Addr.add; split <;> simp_all] at this
 refine ⟨?_, ?_⟩
 ·rw [this, Go.Sort.get_flatK _ _ _ _ hj]
  have hm : j % 4 < 4 := Nat.mod_lt _ (by decide)
  have e1 : l.toArray[j / 4]! = l[j / 4] := by simp [hq]
  rw [e1]
  show some ((encV l[j / 4])[j % 4]'(by show j % 4 < 4; exact hm)) = some ((encV l[j / 4])[j % 4]!)
  rw [List.getElem!_eq_getElem?_getD, List.getElem?_eq_getElem (by show j % 4 < 4; exact hm)]
  rfl
 ·rcases h.2 with ⟨e, _⟩ | ⟨g', cap', cur, e, _, hh, _⟩
  ·cases e
  ·cases e
   exact frozen_of_row w g _ _ _ hh
theorem holds_atV {w : World} {g : Nat} {d : Array V} (h : Go.Sort.HoldsK encV 4 w g 0 d) : AtL vl w (some ⟨g, 0, none⟩) d.toList := by
 intro j hj
 refine ⟨g, 0, rfl, fun o ho => ?_⟩
 have hj' : j < d.size := by simpa using hj
 have h0 := (h.cell (i := j) (c := o) hj' ho).1
 have ho' : o < 4 := ho
 rw [show (0 + j * vl.n + o) = 0 + j * 4 + o from rfl, h0]
 have e1 : d[j]! = d.toList[j] := by simp [hj']
 rw [e1]
 show some ((encV d.toList[j])[o]!) = some ((encV d.toList[j])[o]'(by show o < 4; exact ho'))
 rw [List.getElem!_eq_getElem?_getD, List.getElem?_eq_getElem (by show o < 4; exact ho')]
 rfl
theorem sorted_is {l : List V} (hu : Na.M.Up l) {d : Array V} (hp : d.toList.Perm l) (hs : ∀ i j, i < j → j < d.size → Go.Proofs.ltOf cf d[j]! d[i]! = false) : d.toList = byB l := by
 have hne : d.toList.Pairwise fun x y => x.s ≠ y.s := by
  have : (l.Pairwise fun x y => x.s ≠ y.s) := hu.imp fun h => by omega
  exact this.perm hp.symm fun h e => h e.symm
 refine sorted_uniq _ _ (hp.trans (byB_perm l).symm) ?_ (byB_sorted hu)
 rw [List.pairwise_iff_getElem] at hne ⊢
 intro i j hi hj hij
 have h1 := hs i j hij (by simpa using hj)
 have e1 : d[j]! = d.toList[j] := by
  have : j < d.size := by simpa using hj
  simp [this]
 have e2 : d[i]! = d.toList[i] := by
  have : i < d.size := by simpa using hi
  simp [this]
 rw [e1, e2] at h1
 have h2 : ¬ lt d.toList[j] d.toList[i] := by
  rw [← cf_lt]
  exact of_decide_eq_false h1
 rcases lt_tri d.toList[i] d.toList[j] with h | ⟨_, h⟩ | h
 ·exact h
 ·exact absurd h (hne i j hi hj hij)
 ·exact absurd h h2
end Go.Proofs.YtlnedgjikkhplaaGreat.Du
namespace Go.Proofs.YtlnedgjikkhplaaGreat.Du
open Go.RowKit
open Na (Fr AS XL vl bV vV Hf bel1 bel2 Bu Br row2 row4 blk OwnL AtL)
open Na.M (E V S S0)
open Na (Rw)
theorem sort_own {w : World} {base : Nat} {v : Value} {l : List V} (h : OwnL vl 48 w base v l) (hu : Na.M.Up l) (hl : l.length ≤ 100000) : ∃ ad c, v = .slice ad l.length c ∧ (∀ k, blk ad k → v.ownBlock = some k) ∧
  Calls Tryz.prog 114 #[.slice ad l.length c, .func (.func 115) #[] #[]] w fun e w' => e = .returned (.tuple #[]) ∧ AtL vl w' ad (byB l) ∧ w.grownBy w' v.ownBlock := by
 haveI : Inhabited V := ⟨⟨0, ⟨0, 0⟩, ⟨#[]⟩⟩⟩
 obtain ⟨ad, c, ev, hx, hbk⟩ := h.at
 refine ⟨ad, c, ev, fun k hk => (hbk k hk).2.1, ?_⟩
 cases l with
 | nil =>
  refine (sortV_none ad c _ w).mono ?_; rintro e w' ⟨rfl, rfl⟩
  exact ⟨rfl, fun j hj => by simp [byB] at hj, ⟨rfl, rfl, rfl, Nat.le_refl _, fun _ _ _ => rfl⟩⟩
 | cons y r =>
  rcases h.2 with ⟨e, h0⟩ | ⟨g, cap, cur, e, _⟩
  ·simp at h0
  ·rw [e] at ev h
   cases ev
   obtain ⟨hH, hg, _⟩ := own_holdsV rfl h
   have hs := sortV_any g c (y :: r).toArray w hH hg (by simpa using hl)
   rw [show (y :: r).toArray.size = (y :: r).length by simp] at hs
   refine hs.mono ?_; rintro e' w' ⟨d', rfl, h1, h2, h3, h4, h5⟩
   have hd : d'.toList = byB (y :: r) := sorted_is hu h2 (fun i j hij hj => h3 i j hij (by rw [h1] at hj; simpa using hj))
   refine ⟨rfl, ?_, ?_⟩
   ·rw [← hd]; exact holds_atV h4
   ·rw [e]; exact h5
section
variable {w0 w w' : World} {FA FD FA' FD' : Nat → Prop} {b ab db n : Nat} {P P' : List Ns.M.Pl} {x x' : X} {rs : List R}
theorem DU.votesO (h : DU w0 w FA FD b ab db n P x) (k : Int) : Calls Tryz.prog 21 #[ptr b, .int .i64 k] w fun e w' => ∃ v, e = .returned v ∧ OwnL vl 48 w' w.heap.size v (Na.M.vts x.a.l k) ∧ Below w.heap.size w w' := by
 obtain ⟨⟨c0, _⟩, _⟩ := row7 h.row
 obtain ⟨va, _, hX⟩ := h.a.ai
 have hb := Na.votes_any hX h.a.ok k
 clear h hX
 go_enter Tryz.func21, Tryz.ntmps21
 go_wp2_with fail
 refine hb.mono ?_; rintro e w1 ⟨v, rfl, h1⟩
 have H1 := Hf h1
 clear hb h1; go_wp2
 go_ret
 exact ⟨v, rfl, H1.out⟩
structure RO (w wr : World) (u : Value) (l : List R) (ad : Option Addr) : Prop where
 o : OwnL rl 97 wr w.heap.size u l
 bel : Below w.heap.size w wr
 ap : ∀ k, blk ad k → u.ownBlock ≠ some k ∧ k < wr.heap.size
theorem RO.keep {wr wr' : World} {u : Value} {l : List R} {ad : Option Addr} (h : RO w wr u l ad) (hb : Below wr.heap.size wr wr') : RO w wr' u l ad :=
 ⟨h.o.keep hb, Bu h.bel hb Lr, fun k hk => ⟨(h.ap k hk).1, Nat.lt_of_lt_of_le (h.ap k hk).2 hb.size⟩⟩
theorem RO.app {wr : World} {u : Value} {l : List R} {ad : Option Addr} (h : RO w wr u l ad) (r : R) (hl : l.length + 1 ≤ 100000) : ∃ ua uc a' c' w', u = .slice ua l.length uc ∧ (∀ ty, (Builtin.append_ #[93, 93] ty #[.slice ua l.length uc, .slice (some ⟨wr.heap.size, 0, none⟩) 1 1]).run Tryz.prog (wr.alloc (.cells #[.int .i64 (rk r), .int .i64 (rsl r), .int .i64 (ri r), .int .i64 (rt r), .string (rvv r), .int .i64 (ru r)] 97)) = .ok (.slice a' (l.length + 1) c') w') ∧ RO w w' (.slice a' (l.length + 1) c') (l ++ [r]) ad ∧ ∀ k, blk ad k → w'.heap[k]? = wr.heap[k]? := by
 obtain ⟨a', c', w', hrun, ho, hrw⟩ := appR r h.o h.bel.size (by omega)
 obtain ⟨ua, uc, eu, _, _⟩ := h.o.at
 refine ⟨ua, uc, a', c', w', eu, fun ty => by rw [← eu]; exact hrun ty, ⟨ho, h.bel.trans (hrw.below (fun k hk => (h.o.lt hk).1) h.bel.size), fun k hk => ⟨fun e => ?_, ?_⟩⟩, fun k hk => ?_⟩
 ·rcases hrw.n k e with h' | h'
  ·exact (h.ap k hk).1 h'
  ·have := (h.ap k hk).2; omega
 ·exact Nat.lt_of_lt_of_le (h.ap k hk).2 hrw.g.size
 ·exact hrw.g.block k (h.ap k hk).2 (fun e => (h.ap k hk).1 e.symm)
def RcO (w : World) (a : S) (e : Ending) (w' : World) : Prop := ∃ ad c, e = .returned (.slice ad (few a).length c) ∧ AtL rl w' ad (few a) ∧ (∀ k, blk ad k → w.heap.size ≤ k ∧ k < w'.heap.size) ∧ Below w.heap.size w w'
theorem RcO_of {wr : World} {ua : Option Addr} {uc m : Nat} {l : List R} {ad : Option Addr} (h : RO w wr (.slice ua m uc) l ad) (hm : l.length = m) : ∃ ad c, Ending.returned (.slice ua m uc) = .returned (.slice ad l.length c) ∧ AtL rl wr ad l ∧ (∀ k, blk ad k → w.heap.size ≤ k ∧ k < wr.heap.size) ∧ Below w.heap.size w wr := by
 obtain ⟨a, c, e, hx, hbk⟩ := h.o.at
 refine ⟨a, c, by rw [e], hx.at', fun k hk => ⟨(hbk k hk).1, (hbk k hk).2.2⟩, h.bel⟩
theorem nz36 (i t : Int) (h : ¬ (i = 0 ∧ t = 0)) (W : World) : (binOp .neq 36 (.agg #[.int .i64 i, .int .i64 t]) (.agg #[.int .i64 0, .int .i64 0])).run Tryz.prog W = .ok (.bool true) W := by
 have u3 := Tryz.underlying3
 have a3 := Tryz.isAgg3
 have z3 := Tryz.sizeOf3
 have hS2 : Tryz.prog.underlying 36 = some (.struct (Tryz.prog.fieldsOf 36)) := by kernel_rfl
 have hp2 : Tryz.prog.stoodInHeld 36 = false := by kernel_rfl
 rw [run_neq_struct, show (10000 : Nat) = 9999 + 1 from rfl, run_equalIn_agg W 9999 36 _ _ hS2 hp2]
 simp only [Program.fieldsOf, Tryz.underlying36]
 by_cases h1 : i = 0
 ·by_cases h2 : t = 0
  ·exact absurd ⟨h1, h2⟩ h
  ·go_simp
 ·go_simp
theorem DU.records (h : DU w0 w FA FD b ab db n P x) : Calls Tryz.prog 67 #[ptr b] w (RcO w x.a) := by
 have HAL : Hid (Na.M.vts x.a.l x.a.base = x.a.l) := h.a.ok.alb
 have HUP := Hf h.a.ok.up
 have hll := h.a.ok.len
 have hba := h.base
 have HH := Hf h
 clear h
 by_cases hb0 : x.a.base = 0
 ·have HR : Hid (RO w w (.slice none 0 0) [] none) := ⟨OwnL.nil _ _ _, Below.refl _ _, fun k hk => (no_blk hk).elim⟩
  have HB0 := Hf hb0
  rw [hb0] at hba; clear hb0
  go_enter Tryz.func67, Tryz.ntmps67
  go_wp2_with fail
  refine hba.mono ?_; rintro e w1 ⟨rfl, hw1⟩
  obtain rfl := hw1.symm
  clear hba hw1
  have hvo := (HH.out.keep HR.out.bel).votesO x.a.base
  rw [HAL.out] at hvo
  have hba := (HH.out.keep HR.out.bel).base
  go_wp2_with fail
  refine hba.mono ?_; rintro e w3 ⟨rfl, hw3⟩
  obtain rfl := hw3.symm
  clear hba hw3
  go_wp2_with fail
  refine hvo.mono ?_; rintro e w4 ⟨v4, rfl, ho4, hb4⟩
  obtain ⟨ad, c, hv4, hbk4, hso⟩ := sort_own ho4 HUP.out (by omega)
  subst hv4
  have hge : ∀ k, (Value.slice ad x.a.l.length c).ownBlock = some k → w.heap.size ≤ k ∧ k < w4.heap.size := fun k hk => ho4.lt hk
  have HR4 := Hf (HR.out.keep hb4)
  have HGE := Hf hge
  have HBK := Hf hbk4
  clear hvo ho4 hbk4 hge hb4
  go_wp2_with fail
  refine hso.mono ?_; rintro e w5 ⟨rfl, hat5, hg5⟩
  have hRO5 : RO w w5 (.slice none 0 0) [] ad := by
   refine ⟨HR4.out.o.keepBut (w1 := w5) (fun k hk hk2 => hg5.block k hk (fun e => ?_)), HR4.out.bel.trans ?_, fun k hk => ⟨fun e => ?_, ?_⟩⟩
   ·have h1 := (HGE.out k e.symm).1
    have h2 := (HR.out.o.lt hk2).2
    omega
   ·exact ⟨hg5.os, hg5.tape, hg5.output, hg5.size, fun k hk => hg5.block k (by have := HR4.out.bel.size; omega) (fun e => by have h1 := (HGE.out k e.symm).1; have := HR.out.bel.size; omega)⟩
   ·have h1 := (HGE.out k (HBK.out k hk)).1
    have h2 := (HR.out.o.lt e).2
    omega
   ·have h1 := (HGE.out k (HBK.out k hk)).2
    have := hg5.size
    omega
  have HST : Hid (RO w w5 (.slice none 0 0) (((byB x.a.l).take 0).map R.vo) ad ∧ AtL vl w5 ad (byB x.a.l)) := by
   rw [List.take_zero, List.map_nil]
   exact ⟨hRO5, hat5⟩
  have hbl : (byB x.a.l).length = x.a.l.length := (byB_perm x.a.l).length_eq
  clear hso hat5 hg5 hRO5 HR HR4 HGE HBK
  obtain ⟨B, hB⟩ := Nq (byB x.a.l)
  rw [hB] at HST hbl
  have HB := Hf hB
  clear hB; go_wp2
  go_loopw [26, 3] (fun i u wr => ∃ j : Nat, j ≤ B.length ∧ i = .int .i64 j ∧ RO w wr u ((B.take j).map R.vo) ad ∧ AtL vl wr ad B) (fun i _ _ => B.length - (intOf i).toNat)
  case atStart => exact ⟨0, Nat.zero_le _, rfl, HST.out⟩
  case round =>
   obtain ⟨j, hj, rfl, hro, hat⟩ := hrel
   clear HST
   have hpl : ((B.take j).map R.vo).length = j := by simp; omega
   by_cases hlt : j < B.length
   ·obtain ⟨g, off, hga, c0, c1, c2, c3⟩ := hat.getV j hlt
    obtain ⟨W3, HW3⟩ := Nh (wr.alloc (.cells #[.int .i64 B[j].s, .int .i64 B[j].b.i, .int .i64 B[j].b.t, .string B[j].v] 48))
    have hb3 : Below wr.heap.size wr W3 := by rw [← HW3.out]; exact bel1 wr _
    have hr3 : W3.heap[wr.heap.size]? = some (.cells #[.int .i64 B[j].s, .int .i64 B[j].b.i, .int .i64 B[j].b.t, .string B[j].v] 48 (0, 0)) := by rw [← HW3.out]; exact heap_alloc_last wr _
    obtain ⟨⟨d0, d1, d2, d3⟩, _⟩ := row4 hr3
    have hvr := voteRecord_any B[j] W3
    have HNX : Hid ((B.take (j + 1)).map R.vo = ((B.take j).map R.vo) ++ [.vo B[j]]) := by
     show _ = _
     rw [List.take_succ_eq_append_getElem hlt, List.map_append]
     simp
    have HRO := Hf (hro.keep hb3)
    have HAT := Hf (hat.keep hb3)
    obtain ⟨ua, uc, hu, _, _⟩ := hro.o.at
    rw [hpl] at hu; subst hu; subst hga
    generalize B[j] = y at *
    clear hro hat hb3 hr3
    go_upto_region 10 with fail
    rw [HW3.out]; clear HW3 c0 c1 c2 c3
    go_wp2_with fail
    refine hvr.mono ?_; rintro e w6 ⟨rfl, hb6⟩
    obtain ⟨ua', uc', a', c', w7, eu, hrun, hro7, hsame⟩ := (HRO.out.keep hb6).app (.vo y) (by rw [hpl]; omega)
    rw [hpl] at eu hrun hro7
    cases eu
    have HF : Hid (RO w w7 (.slice a' (j + 1) c') ((B.take (j + 1)).map R.vo) (some ⟨g, off, none⟩) ∧ AtL vl w7 (some ⟨g, off, none⟩) B) := by
     rw [HNX.out]
     exact ⟨hro7, (HAT.out.keep hb6).keepBut fun k hk hk2 => hsame k hk2⟩
    clear hvr hb6 HRO HAT hro7 hsame d0 d1 d2 d3 HNX
    go_wp2_with (at_builtin; refine Na.wpList_append_known rfl _ _ 93 rfl _ _ rfl rfl _ _ (hrun _) ?_)
    clear hrun; go_wp2
    go_roundw
    case rel => exact ⟨j + 1, by omega, by go_num, HF.out⟩
    case measure => simp [intOf]; omega
   ·obtain rfl : j = B.length := by omega
    rw [List.take_length] at hro hpl; rw [hbl] at hpl
    have hpm := (HH.out.keep hro.bel).promised
    have HRO := Hf hro
    obtain ⟨ua, uc, hu, _, _⟩ := hro.o.at
    rw [hpl] at hu; subst hu; clear hro hat
    go_wp2_with fail
    refine hpm.mono ?_; rintro e w6 ⟨rfl, hb6⟩
    obtain ⟨W7, HW7⟩ := Nh (w6.alloc (.cells #[.int .i64 x.a.p.i, .int .i64 x.a.p.t] 36))
    have hb7 : Below w6.heap.size w6 W7 := by rw [← HW7.out]; exact bel1 w6 _
    have hr7 : W7.heap[w6.heap.size]? = some (.cells #[.int .i64 x.a.p.i, .int .i64 x.a.p.t] 36 (0, 0)) := by rw [← HW7.out]; exact heap_alloc_last w6 _
    obtain ⟨⟨d0, d1⟩, _⟩ := row2 hr7
    have HRO7 := Hf ((HRO.out.keep hb6).keep hb7)
    have hpr := fun W => promiseRecord_any x.a.p W
    clear hpm hb6 hb7 hr7 HRO
    go_upto_region 13 with fail
    rw [HW7.out]; clear HW7
    by_cases hz : x.a.p.i = 0 ∧ x.a.p.t = 0
    ·obtain ⟨hz1, hz2⟩ := hz
     have HFW : Hid (few x.a = (B).map R.vo) := by
      show few x.a = _
      unfold few; rw [HB.out, if_pos HB0.out, List.nil_append, if_pos ⟨hz1, hz2⟩, List.append_nil]
      try simp
     have HQ : Hid (RcO w x.a (.returned (.slice ua (x.a.l.length) uc)) W7) := by
      unfold RcO; rw [HFW.out]
      exact RcO_of HRO7.out hpl
     clear HRO7 HFW hpr HB; go_wp2
     go_ret
     exact HQ.out
    ·have hnz : ¬ (x.a.p.i = 0 ∧ x.a.p.t = 0) := hz
     have HNZ := Hf hnz
     have hrunp : ∀ W, (binOp .neq 36 (.agg #[.int .i64 x.a.p.i, .int .i64 x.a.p.t]) (.agg #[.int .i64 0, .int .i64 0])).run Tryz.prog W = .ok (.bool true) W := fun W => nz36 _ _ hnz W
     have HFW : Hid (few x.a = ((B).map R.vo) ++ [.pr x.a.p]) := by
      show few x.a = _
      unfold few; rw [HB.out, if_pos HB0.out, List.nil_append, if_neg hnz]
      try simp
     clear hz hnz
     go_wp2_with fail
     refine (hpr _).mono ?_; rintro e w8 ⟨rfl, hb8⟩
     obtain ⟨ua', uc', a', c', w9, eu, hrun, hro9, _⟩ := (HRO7.out.keep hb8).app (.pr x.a.p) (by rw [hpl]; omega)
     have hpl9 : (((B).map R.vo) ++ [R.pr x.a.p]).length = x.a.l.length + 1 := by rw [List.length_append, hpl]; rfl
     rw [hpl] at eu hrun hro9
     cases eu
     have HQ : Hid (RcO w x.a (.returned (.slice a' (x.a.l.length + 1) c')) w9) := by
      unfold RcO; rw [HFW.out]
      exact RcO_of hro9 hpl9
     clear HRO7 HFW hpr hb8 hro9 hpl9 HB
     go_wp2_with (at_builtin; refine Na.wpList_append_known rfl _ _ 93 rfl _ _ rfl rfl _ _ (hrun _) ?_)
     clear hrun; go_wp2
     go_ret
     exact HQ.out
 ·have HB0 := Hf hb0
  have hne : (x.a.base == 0) = false := by rw [beq_eq_false_iff_ne]; exact hb0
  have htr := fun W => trimRecord_any x.a.base W
  go_enter Tryz.func67, Tryz.ntmps67
  go_wp2_with fail
  refine hba.mono ?_; rintro e w1 ⟨rfl, hw1⟩
  obtain rfl := hw1.symm
  clear hba hw1
  go_wp2_with fail
  refine (htr _).mono ?_; rintro e w1 ⟨rfl, hb1⟩
  have hR1 : RO w w1 (.slice none 0 0) [] none := ⟨OwnL.nil _ _ _, hb1, fun k hk => (no_blk hk).elim⟩
  obtain ⟨ua, uc, a', c', w2, eu, hrun, hR2, _⟩ := hR1.app (.tr x.a.base) (by simp)
  cases eu
  have HR : Hid (RO w w2 (.slice a' 1 c') [R.tr x.a.base] none) := hR2
  clear htr hb1 hR1 hR2
  go_wp2_with (at_builtin; refine Na.wpList_append_known rfl _ _ 93 rfl _ _ rfl rfl _ _ (hrun _) ?_)
  clear hrun hne hb0
  have hvo := (HH.out.keep HR.out.bel).votesO x.a.base
  rw [HAL.out] at hvo
  have hba := (HH.out.keep HR.out.bel).base
  go_wp2_with fail
  refine hba.mono ?_; rintro e w3 ⟨rfl, hw3⟩
  obtain rfl := hw3.symm
  clear hba hw3
  go_wp2_with fail
  refine hvo.mono ?_; rintro e w4 ⟨v4, rfl, ho4, hb4⟩
  obtain ⟨ad, c, hv4, hbk4, hso⟩ := sort_own ho4 HUP.out (by omega)
  subst hv4
  have hge : ∀ k, (Value.slice ad x.a.l.length c).ownBlock = some k → w2.heap.size ≤ k ∧ k < w4.heap.size := fun k hk => ho4.lt hk
  have HR4 := Hf (HR.out.keep hb4)
  have HGE := Hf hge
  have HBK := Hf hbk4
  clear hvo ho4 hbk4 hge hb4
  go_wp2_with fail
  refine hso.mono ?_; rintro e w5 ⟨rfl, hat5, hg5⟩
  have hRO5 : RO w w5 (.slice a' 1 c') [R.tr x.a.base] ad := by
   refine ⟨HR4.out.o.keepBut (w1 := w5) (fun k hk hk2 => hg5.block k hk (fun e => ?_)), HR4.out.bel.trans ?_, fun k hk => ⟨fun e => ?_, ?_⟩⟩
   ·have h1 := (HGE.out k e.symm).1
    have h2 := (HR.out.o.lt hk2).2
    omega
   ·exact ⟨hg5.os, hg5.tape, hg5.output, hg5.size, fun k hk => hg5.block k (by have := HR4.out.bel.size; omega) (fun e => by have h1 := (HGE.out k e.symm).1; have := HR.out.bel.size; omega)⟩
   ·have h1 := (HGE.out k (HBK.out k hk)).1
    have h2 := (HR.out.o.lt e).2
    omega
   ·have h1 := (HGE.out k (HBK.out k hk)).2
    have := hg5.size
    omega
  have HST : Hid (RO w w5 (.slice a' 1 c') (R.tr x.a.base :: ((byB x.a.l).take 0).map R.vo) ad ∧ AtL vl w5 ad (byB x.a.l)) := by
   rw [List.take_zero, List.map_nil]
   exact ⟨hRO5, hat5⟩
  have hbl : (byB x.a.l).length = x.a.l.length := (byB_perm x.a.l).length_eq
  clear hso hat5 hg5 hRO5 HR HR4 HGE HBK
  obtain ⟨B, hB⟩ := Nq (byB x.a.l)
  rw [hB] at HST hbl
  have HB := Hf hB
  clear hB; go_wp2
  go_loopw [26, 3] (fun i u wr => ∃ j : Nat, j ≤ B.length ∧ i = .int .i64 j ∧ RO w wr u (R.tr x.a.base :: (B.take j).map R.vo) ad ∧ AtL vl wr ad B) (fun i _ _ => B.length - (intOf i).toNat)
  case atStart => exact ⟨0, Nat.zero_le _, rfl, HST.out⟩
  case round =>
   obtain ⟨j, hj, rfl, hro, hat⟩ := hrel
   clear HST
   have hpl : (R.tr x.a.base :: (B.take j).map R.vo).length = j + 1 := by simp; omega
   by_cases hlt : j < B.length
   ·obtain ⟨g, off, hga, c0, c1, c2, c3⟩ := hat.getV j hlt
    obtain ⟨W3, HW3⟩ := Nh (wr.alloc (.cells #[.int .i64 B[j].s, .int .i64 B[j].b.i, .int .i64 B[j].b.t, .string B[j].v] 48))
    have hb3 : Below wr.heap.size wr W3 := by rw [← HW3.out]; exact bel1 wr _
    have hr3 : W3.heap[wr.heap.size]? = some (.cells #[.int .i64 B[j].s, .int .i64 B[j].b.i, .int .i64 B[j].b.t, .string B[j].v] 48 (0, 0)) := by rw [← HW3.out]; exact heap_alloc_last wr _
    obtain ⟨⟨d0, d1, d2, d3⟩, _⟩ := row4 hr3
    have hvr := voteRecord_any B[j] W3
    have HNX : Hid (R.tr x.a.base :: (B.take (j + 1)).map R.vo = (R.tr x.a.base :: (B.take j).map R.vo) ++ [.vo B[j]]) := by
     show _ = _
     rw [List.take_succ_eq_append_getElem hlt, List.map_append]
     simp
    have HRO := Hf (hro.keep hb3)
    have HAT := Hf (hat.keep hb3)
    obtain ⟨ua, uc, hu, _, _⟩ := hro.o.at
    rw [hpl] at hu; subst hu; subst hga
    generalize B[j] = y at *
    clear hro hat hb3 hr3
    go_upto_region 10 with fail
    rw [HW3.out]; clear HW3 c0 c1 c2 c3
    go_wp2_with fail
    refine hvr.mono ?_; rintro e w6 ⟨rfl, hb6⟩
    obtain ⟨ua', uc', a', c', w7, eu, hrun, hro7, hsame⟩ := (HRO.out.keep hb6).app (.vo y) (by rw [hpl]; omega)
    rw [hpl] at eu hrun hro7
    cases eu
    have HF : Hid (RO w w7 (.slice a' (j + 1 + 1) c') (R.tr x.a.base :: (B.take (j + 1)).map R.vo) (some ⟨g, off, none⟩) ∧ AtL vl w7 (some ⟨g, off, none⟩) B) := by
     rw [HNX.out]
     exact ⟨hro7, (HAT.out.keep hb6).keepBut fun k hk hk2 => hsame k hk2⟩
    clear hvr hb6 HRO HAT hro7 hsame d0 d1 d2 d3 HNX
    go_wp2_with (at_builtin; refine Na.wpList_append_known rfl _ _ 93 rfl _ _ rfl rfl _ _ (hrun _) ?_)
    clear hrun; go_wp2
    go_roundw
    case rel => exact ⟨j + 1, by omega, by go_num, HF.out⟩
    case measure => simp [intOf]; omega
   ·obtain rfl : j = B.length := by omega
    rw [List.take_length] at hro hpl; rw [hbl] at hpl
    have hpm := (HH.out.keep hro.bel).promised
    have HRO := Hf hro
    obtain ⟨ua, uc, hu, _, _⟩ := hro.o.at
    rw [hpl] at hu; subst hu; clear hro hat
    go_wp2_with fail
    refine hpm.mono ?_; rintro e w6 ⟨rfl, hb6⟩
    obtain ⟨W7, HW7⟩ := Nh (w6.alloc (.cells #[.int .i64 x.a.p.i, .int .i64 x.a.p.t] 36))
    have hb7 : Below w6.heap.size w6 W7 := by rw [← HW7.out]; exact bel1 w6 _
    have hr7 : W7.heap[w6.heap.size]? = some (.cells #[.int .i64 x.a.p.i, .int .i64 x.a.p.t] 36 (0, 0)) := by rw [← HW7.out]; exact heap_alloc_last w6 _
    obtain ⟨⟨d0, d1⟩, _⟩ := row2 hr7
    have HRO7 := Hf ((HRO.out.keep hb6).keep hb7)
    have hpr := fun W => promiseRecord_any x.a.p W
    clear hpm hb6 hb7 hr7 HRO
    go_upto_region 13 with fail
    rw [HW7.out]; clear HW7
    by_cases hz : x.a.p.i = 0 ∧ x.a.p.t = 0
    ·obtain ⟨hz1, hz2⟩ := hz
     have HFW : Hid (few x.a = R.tr x.a.base :: (B).map R.vo) := by
      show few x.a = _
      unfold few; rw [HB.out, if_neg HB0.out, if_pos ⟨hz1, hz2⟩, List.append_nil]
      try simp
     have HQ : Hid (RcO w x.a (.returned (.slice ua (x.a.l.length + 1) uc)) W7) := by
      unfold RcO; rw [HFW.out]
      exact RcO_of HRO7.out hpl
     clear HRO7 HFW hpr HB; go_wp2
     go_ret
     exact HQ.out
    ·have hnz : ¬ (x.a.p.i = 0 ∧ x.a.p.t = 0) := hz
     have HNZ := Hf hnz
     have hrunp : ∀ W, (binOp .neq 36 (.agg #[.int .i64 x.a.p.i, .int .i64 x.a.p.t]) (.agg #[.int .i64 0, .int .i64 0])).run Tryz.prog W = .ok (.bool true) W := fun W => nz36 _ _ hnz W
     have HFW : Hid (few x.a = (R.tr x.a.base :: (B).map R.vo) ++ [.pr x.a.p]) := by
      show few x.a = _
      unfold few; rw [HB.out, if_neg HB0.out, if_neg hnz]
      try simp
     clear hz hnz
     go_wp2_with fail
     refine (hpr _).mono ?_; rintro e w8 ⟨rfl, hb8⟩
     obtain ⟨ua', uc', a', c', w9, eu, hrun, hro9, _⟩ := (HRO7.out.keep hb8).app (.pr x.a.p) (by rw [hpl]; omega)
     have hpl9 : ((R.tr x.a.base :: (B).map R.vo) ++ [R.pr x.a.p]).length = x.a.l.length + 1 + 1 := by rw [List.length_append, hpl]; rfl
     rw [hpl] at eu hrun hro9
     cases eu
     have HQ : Hid (RcO w x.a (.returned (.slice a' (x.a.l.length + 1 + 1) c')) w9) := by
      unfold RcO; rw [HFW.out]
      exact RcO_of hro9 hpl9
     clear HRO7 HFW hpr hb8 hro9 hpl9 HB
     go_wp2_with (at_builtin; refine Na.wpList_append_known rfl _ _ 93 rfl _ _ rfl rfl _ _ (hrun _) ?_)
     clear hrun; go_wp2
     go_ret
     exact HQ.out
end
end Go.Proofs.YtlnedgjikkhplaaGreat.Du
