/-
  The sort of structs by a function, at this program.
  Votes by their ballots, then slots: the sort.
-/
import Derived.Shelf.SlSortCmp.WholeK
import Derived.Test.YtlnedgjikkhplaaGreatProg
import Derived.Test.YtlnedgjikkhplaaGreatGN37
import Derived.Shelf.SlSortCmp.NoneTotal
section
namespace Go.Proofs.YtlnedgjikkhplaaGreat.Ns
open Go.Shelf
def Tryz.sortFn_ren : Go.Shelf.Ren := ⟨fun | 6 => 114 | 15 => 157 | 14 => 156 | 28 => 191 | 29 => 192 | 20 => 183 | 21 => 184 | 22 => 185 | 23 => 186 | 24 => 187 | 25 => 188 | 26 => 189 | 27 => 190 | 46 => 211 | 47 => 212 | 48 => 213 | 49 => 214 | 50 => 215 | 57 => 221 | n => n, fun | 22 => 37 | 24 => 48 | 25 => 189 | 3 => 3 | 39 => 115 | 0 => 0 | 53 => 196 | 55 => 51 | 4 => 4 | 46 => 238 | 45 => 237 | 50 => 178 | 5 => 5 | 9 => 9 | 66 => 254 | 70 => 258 | 76 => 264 | 77 => 265 | n => n, fun | n => n⟩
theorem Tryz.sortFn : Go.Proofs.SlLaysF0.n6 Tryz.prog Tryz.sortFn_ren := {
  mixed := by kernel_rfl
  f6 := ⟨Tryz.f114.name, by decide, Tryz.func114.trans (congrArg some (by kernel_rfl))⟩
  f14 := ⟨Tryz.f156.name, by decide, Tryz.func156.trans (congrArg some (by kernel_rfl))⟩
  f15 := Tryz.func157.trans (congrArg some (by kernel_rfl))
  f20 := ⟨Tryz.f183.name, by decide, Tryz.func183.trans (congrArg some (by kernel_rfl))⟩
  f21 := ⟨Tryz.f184.name, by decide, Tryz.func184.trans (congrArg some (by kernel_rfl))⟩
  f22 := ⟨Tryz.f185.name, by decide, Tryz.func185.trans (congrArg some (by kernel_rfl))⟩
  f23 := ⟨Tryz.f186.name, by decide, Tryz.func186.trans (congrArg some (by kernel_rfl))⟩
  f24 := ⟨Tryz.f187.name, by decide, Tryz.func187.trans (congrArg some (by kernel_rfl))⟩
  f25 := ⟨Tryz.f188.name, by decide, Tryz.func188.trans (congrArg some (by kernel_rfl))⟩
  f26 := ⟨Tryz.f189.name, by decide, Tryz.func189.trans (congrArg some (by kernel_rfl))⟩
  f27 := ⟨Tryz.f190.name, by decide, Tryz.func190.trans (congrArg some (by kernel_rfl))⟩
  f28 := Tryz.func191.trans (congrArg some (by kernel_rfl))
  f29 := Tryz.func192.trans (congrArg some (by kernel_rfl))
  f46 := ⟨Tryz.f211.name, by decide, Tryz.func211.trans (congrArg some (by kernel_rfl))⟩
  f47 := Tryz.func212.trans (congrArg some (by kernel_rfl))
  f48 := Tryz.func213.trans (congrArg some (by kernel_rfl))
  f49 := ⟨Tryz.f214.name, by decide, Tryz.func214.trans (congrArg some (by kernel_rfl))⟩
  f50 := ⟨Tryz.f215.name, by decide, Tryz.func215.trans (congrArg some (by kernel_rfl))⟩
  f57 := ⟨Tryz.f221.name, by decide, Tryz.func221.trans (congrArg some (by kernel_rfl))⟩
  t0 := Tryz.underlying0
  a0 := Tryz.isAgg0
  z0 := Tryz.sizeOf0
  v0 := Tryz.zeroValue0
  t3 := Tryz.underlying3
  a3 := Tryz.isAgg3
  z3 := Tryz.sizeOf3
  v3 := Tryz.zeroValue3
  t4 := Tryz.underlying4
  a4 := Tryz.isAgg4
  z4 := Tryz.sizeOf4
  v4 := Tryz.zeroValue4
  t5 := Tryz.underlying5
  a5 := Tryz.isAgg5
  z5 := Tryz.sizeOf5
  v5 := Tryz.zeroValue5
  t9 := Tryz.underlying9
  a9 := Tryz.isAgg9
  z9 := Tryz.sizeOf9
  v9 := Tryz.zeroValue9
  t22 := Tryz.underlying37
  a22 := Tryz.isAgg37
  z22 := Tryz.sizeOf37
  v22 := Tryz.zeroValue37
  t25 := Tryz.underlying189
  a25 := Tryz.isAgg189
  z25 := Tryz.sizeOf189
  v25 := Tryz.zeroValue189
  t39 := Tryz.underlying115
  a39 := Tryz.isAgg115
  z39 := Tryz.sizeOf115
  v39 := Tryz.zeroValue115
  t45 := Tryz.underlying237
  a45 := Tryz.isAgg237
  z45 := Tryz.sizeOf237
  v45 := Tryz.zeroValue237
  t46 := Tryz.underlying238
  a46 := Tryz.isAgg238
  z46 := Tryz.sizeOf238
  v46 := Tryz.zeroValue238
  t50 := Tryz.underlying178
  a50 := Tryz.isAgg178
  z50 := Tryz.sizeOf178
  v50 := Tryz.zeroValue178
  t53 := Tryz.underlying196
  a53 := Tryz.isAgg196
  z53 := Tryz.sizeOf196
  v53 := Tryz.zeroValue196
  t55 := Tryz.underlying51
  a55 := Tryz.isAgg51
  z55 := Tryz.sizeOf51
  v55 := Tryz.zeroValue51
  t66 := Tryz.underlying254
  a66 := Tryz.isAgg254
  z66 := Tryz.sizeOf254
  v66 := Tryz.zeroValue254
  t70 := Tryz.underlying258
  a70 := Tryz.isAgg258
  z70 := Tryz.sizeOf258
  v70 := Tryz.zeroValue258
  t76 := Tryz.underlying264
  a76 := Tryz.isAgg264
  z76 := Tryz.sizeOf264
  v76 := Tryz.zeroValue264
  t77 := Tryz.underlying265
  a77 := Tryz.isAgg265
  z77 := Tryz.sizeOf265
  v77 := Tryz.zeroValue265 }
end Go.Proofs.YtlnedgjikkhplaaGreat.Ns
end
section
namespace Go.Proofs.YtlnedgjikkhplaaGreat.Du
open Go.RowKit
set_option linter.unusedVariables false
set_option linter.unusedSimpArgs false
open Na (Fr AS XL vl bV vV Hid_of bel1 bel2 bel_up bel_row row2 row4 blk OwnL AtL)
open Na.M (E V S S0)

theorem grow_bel (w : World) (q : Nat) (os : Array Obj) : Below w.heap.size w (Go.Sort.grow (w.drewN q) os) := by
  refine ⟨rfl, rfl, rfl, by simp [Go.Sort.grow], fun k hk => ?_⟩
  rw [Go.Sort.heap_grow_old _ _ (by simpa using hk)]
  rfl
theorem drewN_grow (w : World) (q : Nat) (os : Array Obj) : (Go.Sort.grow w os).drewN q = Go.Sort.grow (w.drewN q) os := rfl
theorem drew_grow (w : World) (os : Array Obj) : (Go.Sort.grow w os).drew = Go.Sort.grow w.drew os := rfl
theorem drew_drewN (w : World) (q : Nat) : w.drew.drewN q = w.drewN (q + 1) := by
  unfold World.drew World.drewN
  simp only [World.mk.injEq, true_and, and_true]
  omega
set_option maxRecDepth 100000 in
set_option maxHeartbeats 2000000 in
theorem cmpX_any (x y : E) (w : World) :
    Calls Tryz.prog 117 #[bV x, bV y] w fun e w' => e = .returned (.int .i64 (Na.M.cmpE x y)) ∧ ∃ q os', w' = Go.Sort.grow (w.drewN q) os' := by
  have HC : Hid (Na.M.cmpE x y = Na.orI (Na.M.cmp x.i y.i) (Na.M.cmp x.t y.t)) := rfl
  rw [HC.out]
  clear HC
  obtain ⟨xi, xt⟩ := x
  obtain ⟨yi, yt⟩ := y
  simp only
  obtain ⟨W1, HW1⟩ : ∃ W1, Hid ((w.alloc (.cells #[.int .i64 xi, .int .i64 xt] 36)).alloc (.cells #[.int .i64 yi, .int .i64 yt] 36) = W1) := ⟨_, rfl⟩
  have hs1 : W1.heap.size = w.heap.size + 2 := by rw [← HW1.out]; simp
  have HS : Hid (∀ w', Below W1.heap.size W1 w' → (w'.cell? ⟨w.heap.size, 0, none⟩ = some (.int .i64 xi) ∧ w'.cell? ⟨w.heap.size, 1, none⟩ = some (.int .i64 xt)) ∧ (w'.cell? ⟨w.heap.size + 1, 0, none⟩ = some (.int .i64 yi) ∧ w'.cell? ⟨w.heap.size + 1, 1, none⟩ = some (.int .i64 yt))) := by
    intro w' hb
    have h1 : W1.heap[w.heap.size]? = some (.cells #[.int .i64 xi, .int .i64 xt] 36 (0, 0)) := by rw [← HW1.out]; exact heap_alloc2_old w _ _
    have h2 : W1.heap[w.heap.size + 1]? = some (.cells #[.int .i64 yi, .int .i64 yt] 36 (0, 0)) := by rw [← HW1.out]; exact heap_alloc2_new w _ _
    exact ⟨(row2 ((hb.block _ (by omega)).trans h1)).1, (row2 ((hb.block _ (by omega)).trans h2)).1⟩
  have HFIN : Hid (∀ a b : Value, ∃ q os', (W1.alloc (.cells #[a, b] 3)).drew = Go.Sort.grow (w.drewN q) os') := fun a b => ⟨1, _, by rw [← HW1.out, Go.Sort.alloc_eq_grow, Go.Sort.alloc_eq_grow, Go.Sort.alloc_eq_grow, Go.Sort.grow_grow, Go.Sort.grow_grow]; rfl⟩
  go_enter Tryz.func117, Tryz.ntmps117
  go_wp2_with fail
  rw [HW1.out]
  clear HW1
  have HL : Hid (∀ a b : Value, (W1.alloc (.cells #[a, b] 3)).drew.heap[w.heap.size + 2]? = some (.cells #[a, b] 3 (0, 0))) := fun a b => by rw [← hs1]; exact heap_alloc_last W1 _
  refine wp_region_held_drew (S := fun wq => Below (W1).heap.size (W1) wq) (by kernel_rfl) (Below.drew (Below.refl _ _)) (fun hHeld => ?_)
  refine wpAnyH_take (i := 0) (oi := ?p0a) (v := ?v0a) ?o0a (by kernel_rfl) (by kernel_rfl) (by kernel_rfl) ?q0a ?y0a hHeld ?r0a
  case o0a => simp only [List.getElem?_toArray, List.getElem?_cons_zero]; rfl
  case q0a => exact fun _ _ _ h => h
  case y0a => (refine Or.inl ⟨rfl, ?_⟩; intro wq hq; obtain ⟨⟨a0, a1⟩, ⟨b0, b1⟩⟩ := HS.out wq hq; go_simp; try with_reducible rfl)
  simp only [Act.put, List.setIfInBounds_toArray, List.set_cons_zero, List.set_cons_succ]
  refine wpAnyH_take (i := 1) (oi := ?p1a) (v := ?v1a) ?o1a (by kernel_rfl) (by kernel_rfl) (by kernel_rfl) ?q1a ?y1a hHeld ?r1a
  case o1a => simp only [List.getElem?_toArray, List.getElem?_cons_succ, List.getElem?_cons_zero]; rfl
  case q1a => exact fun _ _ _ h => h
  case y1a => (refine Or.inl ⟨rfl, ?_⟩; intro wq hq; obtain ⟨⟨a0, a1⟩, ⟨b0, b1⟩⟩ := HS.out wq hq; go_simp; try with_reducible rfl)
  simp only [Act.put, List.setIfInBounds_toArray, List.set_cons_zero, List.set_cons_succ]
  refine wpAnyH_take (i := 2) (oi := ?p2a) (v := ?v2a) ?o2a (by kernel_rfl) (by kernel_rfl) (by kernel_rfl) ?q2a ?y2a hHeld ?r2a
  case o2a => simp only [List.getElem?_toArray, List.getElem?_cons_succ, List.getElem?_cons_zero]; rfl
  case q2a => exact fun _ _ _ h => h
  case y2a => (refine Or.inl ⟨rfl, ?_⟩; intro wq hq; obtain ⟨⟨a0, a1⟩, ⟨b0, b1⟩⟩ := HS.out wq hq; go_simp; try with_reducible rfl)
  simp only [Act.put, List.setIfInBounds_toArray, List.set_cons_zero, List.set_cons_succ]
  refine wpAnyH_take (i := 3) (oi := ?p3a) (v := ?v3a) ?o3a (by kernel_rfl) (by kernel_rfl) (by kernel_rfl) ?q3a ?y3a hHeld ?r3a
  case o3a => simp only [List.getElem?_toArray, List.getElem?_cons_succ, List.getElem?_cons_zero]; rfl
  case q3a => exact fun _ _ _ h => h
  case y3a => (refine Or.inl ⟨rfl, ?_⟩; intro wq hq; obtain ⟨⟨a0, a1⟩, ⟨b0, b1⟩⟩ := HS.out wq hq; go_simp; try with_reducible rfl)
  simp only [Act.put, List.setIfInBounds_toArray, List.set_cons_zero, List.set_cons_succ]
  refine wpAnyH_take (i := 5) (oi := ?p5a) (v := ?v5a) ?o5a (by kernel_rfl) (by kernel_rfl) (by kernel_rfl) ?q5a ?y5a hHeld ?r5a
  case o5a => simp only [List.getElem?_toArray, List.getElem?_cons_succ, List.getElem?_cons_zero]; rfl
  case q5a => exact fun _ _ _ h => h
  case y5a => (refine Or.inl ⟨rfl, ?_⟩; intro wq hq; obtain ⟨⟨a0, a1⟩, ⟨b0, b1⟩⟩ := HS.out wq hq; go_simp; try with_reducible rfl)
  simp only [Act.put, List.setIfInBounds_toArray, List.set_cons_zero, List.set_cons_succ]
  refine wpAnyH_take (i := 6) (oi := ?p6a) (v := ?v6a) ?o6a (by kernel_rfl) (by kernel_rfl) (by kernel_rfl) ?q6a ?y6a hHeld ?r6a
  case o6a => simp only [List.getElem?_toArray, List.getElem?_cons_succ, List.getElem?_cons_zero]; rfl
  case q6a => exact fun _ _ _ h => h
  case y6a => (refine Or.inl ⟨rfl, ?_⟩; intro wq hq; obtain ⟨⟨a0, a1⟩, ⟨b0, b1⟩⟩ := HS.out wq hq; go_simp; try with_reducible rfl)
  simp only [Act.put, List.setIfInBounds_toArray, List.set_cons_zero, List.set_cons_succ]
  refine wpAnyH_take (i := 7) (oi := ?p7a) (v := ?v7a) ?o7a (by kernel_rfl) (by kernel_rfl) (by kernel_rfl) ?q7a ?y7a hHeld ?r7a
  case o7a => simp only [List.getElem?_toArray, List.getElem?_cons_succ, List.getElem?_cons_zero]; rfl
  case q7a => exact fun _ _ _ h => h
  case y7a => (refine Or.inl ⟨rfl, ?_⟩; intro wq hq; obtain ⟨⟨a0, a1⟩, ⟨b0, b1⟩⟩ := HS.out wq hq; go_simp; try with_reducible rfl)
  simp only [Act.put, List.setIfInBounds_toArray, List.set_cons_zero, List.set_cons_succ]
  refine wpAnyH_take (i := 8) (oi := ?p8a) (v := ?v8a) ?o8a (by kernel_rfl) (by kernel_rfl) (by kernel_rfl) ?q8a ?y8a hHeld ?r8a
  case o8a => simp only [List.getElem?_toArray, List.getElem?_cons_succ, List.getElem?_cons_zero]; rfl
  case q8a => exact fun _ _ _ h => h
  case y8a => (refine Or.inl ⟨rfl, ?_⟩; intro wq hq; obtain ⟨⟨a0, a1⟩, ⟨b0, b1⟩⟩ := HS.out wq hq; go_simp; try with_reducible rfl)
  simp only [Act.put, List.setIfInBounds_toArray, List.set_cons_zero, List.set_cons_succ]
  refine wpAnyH_ready (rs := [4]) (by kernel_rfl) (by simp) ?_
  refine AllReadyH.cons (o := ?p4a) ?o4a ?s4a AllReadyH.nil
  case o4a => simp only [List.getElem?_toArray, List.getElem?_cons_succ, List.getElem?_cons_zero]; rfl
  intro K hK
  go_simp
  refine (Na.compare_any _ _ _).mono ?_
  rintro x w2 ⟨rfl, rfl⟩
  refine hK.out _ _ hHeld (fun hHeld => ?_)
  clear hK K
  refine wpAnyH_ready (rs := [9]) (by kernel_rfl) (by simp) ?_
  refine AllReadyH.cons (o := ?p9a) ?o9a ?s9a AllReadyH.nil
  case o9a => simp only [List.getElem?_toArray, List.getElem?_cons_succ, List.getElem?_cons_zero]; rfl
  intro K hK
  go_simp
  refine (Na.compare_any _ _ _).mono ?_
  rintro x w3 ⟨rfl, rfl⟩
  refine hK.out _ _ hHeld (fun hHeld => ?_)
  clear hK K
  refine wpAnyH_ready (rs := [10]) (by kernel_rfl) (by simp) ?_
  refine AllReadyH.cons (o := ?p10a) ?o10a ?s10a AllReadyH.nil
  case o10a => simp only [List.getElem?_toArray, List.getElem?_cons_succ, List.getElem?_cons_zero]; rfl
  intro K hK
  go_simp
  
  refine hK.out _ _ ((bel1 W1 _).drew) (fun hHeld => ?_)
  clear hK K
  refine wpAnyH_ready (rs := [11]) (by kernel_rfl) (by simp) ?_
  refine AllReadyH.cons (o := ?p11a) ?o11a ?s11a AllReadyH.nil
  case o11a => simp only [List.getElem?_toArray, List.getElem?_cons_succ, List.getElem?_cons_zero]; rfl
  intro K hK
  go_simp
  refine (Na.or_any (w.heap.size + 2) _ _ _ (HL.out _ _)).mono ?_
  rintro x w4 ⟨rfl, rfl⟩
  refine hK.out _ _ hHeld (fun hHeld => ?_)
  clear hK K
  refine wpAnyH_take (i := 12) (oi := ?p12a) (v := ?v12a) ?o12a (by kernel_rfl) (by kernel_rfl) (by kernel_rfl) ?q12a ?y12a hHeld ?r12a
  case o12a => simp only [List.getElem?_toArray, List.getElem?_cons_succ, List.getElem?_cons_zero]; rfl
  case q12a => exact fun _ _ _ h => h
  case y12a => (refine Or.inl ⟨rfl, ?_⟩; intro wq hq; obtain ⟨⟨a0, a1⟩, ⟨b0, b1⟩⟩ := HS.out wq hq; go_simp; try with_reducible rfl)
  simp only [Act.put, List.setIfInBounds_toArray, List.set_cons_zero, List.set_cons_succ]
  refine wpAnyH_done (by kernel_rfl) ?_ _
  go_wp2
  go_ret
  exact ⟨rfl, HFIN.out _ _⟩
/-- The order of the records. -/
def cf (x y : V) : Int := Na.orI (Na.M.cmpE x.b y.b) (Na.M.cmp x.s y.s)
set_option maxRecDepth 100000 in
set_option maxHeartbeats 2000000 in
theorem clo_any (x y : V) (w : World) :
    Calls Tryz.prog 115 #[vV x, vV y] w fun e w' => e = .returned (.int .i64 (cf x y)) ∧ ∃ q os', w' = Go.Sort.grow (w.drewN q) os' := by
  have HC : Hid (cf x y = Na.orI (Na.M.cmpE x.b y.b) (Na.M.cmp x.s y.s)) := rfl
  rw [HC.out]
  clear HC
  obtain ⟨xs, ⟨xi, xt⟩, xv⟩ := x
  obtain ⟨ys, ⟨yi, yt⟩, yv⟩ := y
  simp only
  obtain ⟨W1, HW1⟩ : ∃ W1, Hid ((w.alloc (.cells #[.int .i64 xs, .int .i64 xi, .int .i64 xt, .string xv] 48)).alloc (.cells #[.int .i64 ys, .int .i64 yi, .int .i64 yt, .string yv] 48) = W1) := ⟨_, rfl⟩
  have hs1 : W1.heap.size = w.heap.size + 2 := by rw [← HW1.out]; simp
  have HS : Hid (∀ w', Below W1.heap.size W1 w' → (w'.cell? ⟨w.heap.size, 0, none⟩ = some (.int .i64 xs) ∧ w'.cell? ⟨w.heap.size, 1, none⟩ = some (.int .i64 xi) ∧ w'.cell? ⟨w.heap.size, 2, none⟩ = some (.int .i64 xt) ∧ w'.cell? ⟨w.heap.size, 3, none⟩ = some (.string xv)) ∧ (w'.cell? ⟨w.heap.size + 1, 0, none⟩ = some (.int .i64 ys) ∧ w'.cell? ⟨w.heap.size + 1, 1, none⟩ = some (.int .i64 yi) ∧ w'.cell? ⟨w.heap.size + 1, 2, none⟩ = some (.int .i64 yt) ∧ w'.cell? ⟨w.heap.size + 1, 3, none⟩ = some (.string yv))) := by
    intro w' hb
    have h1 : W1.heap[w.heap.size]? = some (.cells #[.int .i64 xs, .int .i64 xi, .int .i64 xt, .string xv] 48 (0, 0)) := by rw [← HW1.out]; exact heap_alloc2_old w _ _
    have h2 : W1.heap[w.heap.size + 1]? = some (.cells #[.int .i64 ys, .int .i64 yi, .int .i64 yt, .string yv] 48 (0, 0)) := by rw [← HW1.out]; exact heap_alloc2_new w _ _
    exact ⟨(row4 ((hb.block _ (by omega)).trans h1)).1, (row4 ((hb.block _ (by omega)).trans h2)).1⟩
  have HFIN : Hid (∀ q os' (a b : Value), ∃ q' os'', (Go.Sort.grow (W1.drew.drewN q) os').alloc (.cells #[a, b] 3) = Go.Sort.grow (w.drewN q') os'') := fun q os' a b => ⟨q + 1, _, by
    rw [← HW1.out, Go.Sort.alloc_eq_grow, Go.Sort.alloc_eq_grow, Go.Sort.alloc_eq_grow, Go.Sort.grow_grow, drew_grow, drew_grow, drewN_grow, drewN_grow, drew_drewN, Go.Sort.grow_grow, Go.Sort.grow_grow]⟩
  go_enter Tryz.func115, Tryz.ntmps115
  go_wp2_with fail
  rw [HW1.out]
  clear HW1
  refine wp_region_held_drew (S := fun wq => Below (W1).heap.size (W1) wq) (by kernel_rfl) (Below.drew (Below.refl _ _)) (fun hHeld => ?_)
  refine wpAnyH_take (i := 0) (oi := ?p0b) (v := ?v0b) ?o0b (by kernel_rfl) (by kernel_rfl) (by kernel_rfl) ?q0b ?y0b hHeld ?r0b
  case o0b => simp only [List.getElem?_toArray, List.getElem?_cons_zero]; rfl
  case q0b => exact fun _ _ _ h => h
  case y0b => (refine Or.inl ⟨rfl, ?_⟩; intro wq hq; obtain ⟨⟨a0, a1, a2, a3⟩, ⟨b0, b1, b2, b3⟩⟩ := HS.out wq hq; go_simp; try with_reducible rfl)
  simp only [Act.put, List.setIfInBounds_toArray, List.set_cons_zero, List.set_cons_succ]
  refine wpAnyH_take (i := 1) (oi := ?p1b) (v := ?v1b) ?o1b (by kernel_rfl) (by kernel_rfl) (by kernel_rfl) ?q1b ?y1b hHeld ?r1b
  case o1b => simp only [List.getElem?_toArray, List.getElem?_cons_succ, List.getElem?_cons_zero]; rfl
  case q1b => exact fun _ _ _ h => h
  case y1b => (refine Or.inl ⟨rfl, ?_⟩; intro wq hq; obtain ⟨⟨a0, a1, a2, a3⟩, ⟨b0, b1, b2, b3⟩⟩ := HS.out wq hq; go_simp; try with_reducible rfl)
  simp only [Act.put, List.setIfInBounds_toArray, List.set_cons_zero, List.set_cons_succ]
  refine wpAnyH_take (i := 2) (oi := ?p2b) (v := ?v2b) ?o2b (by kernel_rfl) (by kernel_rfl) (by kernel_rfl) ?q2b ?y2b hHeld ?r2b
  case o2b => simp only [List.getElem?_toArray, List.getElem?_cons_succ, List.getElem?_cons_zero]; rfl
  case q2b => exact fun _ _ _ h => h
  case y2b => (refine Or.inl ⟨rfl, ?_⟩; intro wq hq; obtain ⟨⟨a0, a1, a2, a3⟩, ⟨b0, b1, b2, b3⟩⟩ := HS.out wq hq; go_simp; try with_reducible rfl)
  simp only [Act.put, List.setIfInBounds_toArray, List.set_cons_zero, List.set_cons_succ]
  refine wpAnyH_take (i := 3) (oi := ?p3b) (v := ?v3b) ?o3b (by kernel_rfl) (by kernel_rfl) (by kernel_rfl) ?q3b ?y3b hHeld ?r3b
  case o3b => simp only [List.getElem?_toArray, List.getElem?_cons_succ, List.getElem?_cons_zero]; rfl
  case q3b => exact fun _ _ _ h => h
  case y3b => (refine Or.inl ⟨rfl, ?_⟩; intro wq hq; obtain ⟨⟨a0, a1, a2, a3⟩, ⟨b0, b1, b2, b3⟩⟩ := HS.out wq hq; go_simp; try with_reducible rfl)
  simp only [Act.put, List.setIfInBounds_toArray, List.set_cons_zero, List.set_cons_succ]
  refine wpAnyH_take (i := 5) (oi := ?p5b) (v := ?v5b) ?o5b (by kernel_rfl) (by kernel_rfl) (by kernel_rfl) ?q5b ?y5b hHeld ?r5b
  case o5b => simp only [List.getElem?_toArray, List.getElem?_cons_succ, List.getElem?_cons_zero]; rfl
  case q5b => exact fun _ _ _ h => h
  case y5b => (refine Or.inl ⟨rfl, ?_⟩; intro wq hq; obtain ⟨⟨a0, a1, a2, a3⟩, ⟨b0, b1, b2, b3⟩⟩ := HS.out wq hq; go_simp; try with_reducible rfl)
  simp only [Act.put, List.setIfInBounds_toArray, List.set_cons_zero, List.set_cons_succ]
  refine wpAnyH_take (i := 6) (oi := ?p6b) (v := ?v6b) ?o6b (by kernel_rfl) (by kernel_rfl) (by kernel_rfl) ?q6b ?y6b hHeld ?r6b
  case o6b => simp only [List.getElem?_toArray, List.getElem?_cons_succ, List.getElem?_cons_zero]; rfl
  case q6b => exact fun _ _ _ h => h
  case y6b => (refine Or.inl ⟨rfl, ?_⟩; intro wq hq; obtain ⟨⟨a0, a1, a2, a3⟩, ⟨b0, b1, b2, b3⟩⟩ := HS.out wq hq; go_simp; try with_reducible rfl)
  simp only [Act.put, List.setIfInBounds_toArray, List.set_cons_zero, List.set_cons_succ]
  refine wpAnyH_take (i := 7) (oi := ?p7b) (v := ?v7b) ?o7b (by kernel_rfl) (by kernel_rfl) (by kernel_rfl) ?q7b ?y7b hHeld ?r7b
  case o7b => simp only [List.getElem?_toArray, List.getElem?_cons_succ, List.getElem?_cons_zero]; rfl
  case q7b => exact fun _ _ _ h => h
  case y7b => (refine Or.inl ⟨rfl, ?_⟩; intro wq hq; obtain ⟨⟨a0, a1, a2, a3⟩, ⟨b0, b1, b2, b3⟩⟩ := HS.out wq hq; go_simp; try with_reducible rfl)
  simp only [Act.put, List.setIfInBounds_toArray, List.set_cons_zero, List.set_cons_succ]
  refine wpAnyH_take (i := 8) (oi := ?p8b) (v := ?v8b) ?o8b (by kernel_rfl) (by kernel_rfl) (by kernel_rfl) ?q8b ?y8b hHeld ?r8b
  case o8b => simp only [List.getElem?_toArray, List.getElem?_cons_succ, List.getElem?_cons_zero]; rfl
  case q8b => exact fun _ _ _ h => h
  case y8b => (refine Or.inl ⟨rfl, ?_⟩; intro wq hq; obtain ⟨⟨a0, a1, a2, a3⟩, ⟨b0, b1, b2, b3⟩⟩ := HS.out wq hq; go_simp; try with_reducible rfl)
  simp only [Act.put, List.setIfInBounds_toArray, List.set_cons_zero, List.set_cons_succ]
  refine wpAnyH_ready (rs := [4]) (by kernel_rfl) (by simp) ?_
  refine AllReadyH.cons (o := ?p4b) ?o4b ?s4b AllReadyH.nil
  case o4b => simp only [List.getElem?_toArray, List.getElem?_cons_succ, List.getElem?_cons_zero]; rfl
  intro K hK
  go_simp
  refine (cmpX_any ⟨xi, xt⟩ ⟨yi, yt⟩ _).mono ?_
  rintro x w2 ⟨rfl, q2, os2, hw2⟩
  have B2 : Below W1.heap.size W1 w2 := by rw [hw2]; exact hHeld.trans ((grow_bel _ _ _).mono hHeld.size)
  have HW2 := Hid_of hw2
  clear hw2
  refine hK.out _ _ B2 (fun hHeld => ?_)
  clear hK K
  refine wpAnyH_ready (rs := [9]) (by kernel_rfl) (by simp) ?_
  refine AllReadyH.cons (o := ?p9b) ?o9b ?s9b AllReadyH.nil
  case o9b => simp only [List.getElem?_toArray, List.getElem?_cons_succ, List.getElem?_cons_zero]; rfl
  intro K hK
  go_simp
  refine (Na.compare_any _ _ _).mono ?_
  rintro x w3 ⟨rfl, hw3⟩
  obtain rfl := hw3.symm
  clear hw3
  refine hK.out _ _ hHeld (fun hHeld => ?_)
  clear hK K
  refine wpAnyH_ready (rs := [10]) (by kernel_rfl) (by simp) ?_
  refine AllReadyH.cons (o := ?p10b) ?o10b ?s10b AllReadyH.nil
  case o10b => simp only [List.getElem?_toArray, List.getElem?_cons_succ, List.getElem?_cons_zero]; rfl
  intro K hK
  go_simp
  
  refine hK.out _ _ (hHeld.trans ((bel1 w2 _).mono hHeld.size)) (fun hHeld => ?_)
  clear hK K
  refine wpAnyH_ready (rs := [11]) (by kernel_rfl) (by simp) ?_
  refine AllReadyH.cons (o := ?p11b) ?o11b ?s11b AllReadyH.nil
  case o11b => simp only [List.getElem?_toArray, List.getElem?_cons_succ, List.getElem?_cons_zero]; rfl
  intro K hK
  go_simp
  have HL := heap_alloc_last w2 (.cells #[.int .i64 (Na.M.cmpE ⟨xi, xt⟩ ⟨yi, yt⟩), .int .i64 (Na.M.cmp xs ys)] 3)
  refine (Na.or_any w2.heap.size _ _ _ HL).mono ?_
  rintro x w4 ⟨rfl, hw4⟩
  obtain rfl := hw4.symm
  clear hw4
  refine hK.out _ _ hHeld (fun hHeld => ?_)
  clear hK K
  refine wpAnyH_take (i := 12) (oi := ?p12b) (v := ?v12b) ?o12b (by kernel_rfl) (by kernel_rfl) (by kernel_rfl) ?q12b ?y12b hHeld ?r12b
  case o12b => simp only [List.getElem?_toArray, List.getElem?_cons_succ, List.getElem?_cons_zero]; rfl
  case q12b => exact fun _ _ _ h => h
  case y12b => (refine Or.inl ⟨rfl, ?_⟩; intro wq hq; obtain ⟨⟨a0, a1, a2, a3⟩, ⟨b0, b1, b2, b3⟩⟩ := HS.out wq hq; go_simp; try with_reducible rfl)
  simp only [Act.put, List.setIfInBounds_toArray, List.set_cons_zero, List.set_cons_succ]
  refine wpAnyH_done (by kernel_rfl) ?_ _
  go_wp2
  go_ret
  refine ⟨rfl, ?_⟩
  rw [HW2.out]
  exact HFIN.out _ _ _ _
def encV (x : V) : List Value := [.int .i64 x.s, .int .i64 x.b.i, .int .i64 x.b.t, .string x.v]
theorem cf_lt (x y : V) : cf x y < 0 ↔ lt x y := by
  unfold cf lt Na.orI
  rcases Na.M.cmp_three x.s y.s with ⟨h, e⟩ | ⟨h, e⟩ | ⟨h, e⟩ <;> by_cases hz : Na.M.cmpE x.b y.b = 0
  all_goals (first | rw [if_pos hz] | rw [if_neg hz])
  all_goals omega
theorem ltV (x y : V) : Go.Proofs.ltOf cf x y = (decide (x.b.i < y.b.i) || (decide (x.b.i = y.b.i) && (decide (x.b.t < y.b.t) || (decide (x.b.t = y.b.t) && decide (x.s < y.s))))) := by
  have h : Go.Proofs.ltOf cf x y = decide (cf x y < 0) := rfl
  rw [h, Bool.eq_iff_iff]
  simp only [decide_eq_true_eq, Bool.or_eq_true, Bool.and_eq_true]
  rw [cf_lt]
  unfold lt
  rcases Na.M.cmpE_three x.b y.b with ⟨h, e⟩ | ⟨h, e⟩ | ⟨h, e⟩ <;> rw [e] <;> omega
theorem swoV : Go.Sort.SWO (Go.Proofs.ltOf cf) := by
  refine ⟨fun x => ?_, fun x y z h1 h2 => ?_, fun x y z h1 h2 => ?_⟩
  · rw [ltV]; simp
  · rw [ltV] at *
    simp only [Bool.or_eq_true, Bool.and_eq_true, decide_eq_true_eq] at *
    omega
  · rw [ltV] at *
    simp only [Bool.or_eq_false_iff, Bool.and_eq_false_iff, decide_eq_false_iff_not] at *
    omega
set_option linter.unusedSectionVars false
variable [Inhabited V]
theorem cmpLaysV (blk off size : Nat) (w : World) : Go.Proofs.CmpLays Tryz.prog 115 #[] encV 4 cf blk off size w := fun _ _ _ _ x y => clo_any x y _
theorem grown_sortedV {w : World} {g off n : Nat} {os : Array Obj} (d : Array V) : w.grownBy (Go.Proofs.sortWorldK encV 4 w g off n d os) (some g) := by
  refine ⟨rfl, rfl, rfl, by simp [Go.Proofs.sortWorldK, Go.Sort.putRowK, Go.Sort.grow, Go.Sort.putRow, Go.Sort.mapBlock, Go.Sort.ahead], fun k hk hne => ?_⟩
  unfold Go.Proofs.sortWorldK
  rw [Go.Sort.heap_grow_old _ _ (by simpa [Go.Sort.putRowK, Go.Sort.putRow, Go.Sort.mapBlock, Go.Sort.ahead] using hk)]
  have : g ≠ k := fun e => hne (by rw [e])
  simp [Go.Sort.putRowK, Go.Sort.putRow, Go.Sort.mapBlock, Go.Sort.ahead, Array.getElem?_modify, this]
theorem sortV_any (g cap : Nat) (d : Array V) (w : World) (hH : Go.Sort.HoldsK encV 4 w g 0 d) (hg : g < w.heap.size) (hsz : d.size ≤ 100000) :
    Calls Tryz.prog 114 #[.slice (some ⟨g, 0, none⟩) d.size cap, .func (.func 115) #[] #[]] w fun e w' => ∃ d' : Array V, e = .returned (.tuple #[]) ∧ d'.size = d.size ∧ d'.toList.Perm d.toList ∧ (∀ i j, i < j → j < d.size → Go.Proofs.ltOf cf d'[j]! d'[i]! = false) ∧ Go.Sort.HoldsK encV 4 w' g 0 d' ∧ w.grownBy w' (some g) := by
  have eg : ∀ args w, (callFunc 115 args).run Tryz.prog w = .ok (.enter 115 args) w := enters_of Tryz.func115 (by kernel_rfl) rfl
  have hc := Go.Proofs.AnyQ.slices_SortFunc Ns.Tryz.sortFn 4 Tryz.isAgg48 Tryz.sizeOf48 encV (fun _ => rfl) (fun x v hv => by simp [encV] at hv; rcases hv with rfl | rfl | rfl | rfl <;> rfl) cf swoV 115 #[] g 0 cap d w eg (cmpLaysV g 0 d.size w) hH hg (by omega)
  change Calls Tryz.prog 114 _ _ _ at hc
  refine hc.mono ?_
  rintro e w' ⟨he, d', n, os, ⟨h1, _, h3⟩, hs, rfl⟩
  refine ⟨d', he, h1, ?_, fun i j h1 h2 => hs i j (Nat.zero_le _) h1 h2, Go.Proofs.holdsK_sortWorldK encV 4 w g 0 n d d' os hg hH h1, grown_sortedV d'⟩
  rw [← h1] at h3
  have e1 : (d'.extract 0 d'.size) = d' := by simp
  have e2 : (d.extract 0 d'.size) = d := by rw [h1]; simp
  rw [e1, e2] at h3
  exact h3
theorem sortV_none (p : Option Addr) (cap : Nat) (fv : Value) (w : World) : Calls Tryz.prog 114 #[.slice p 0 cap, fv] w fun e w' => e = .returned (.tuple #[]) ∧ w' = w := by
  have hc := Go.Proofs.AnyF.slices_SortFunc_none Ns.Tryz.sortFn p cap fv w
  change Calls Tryz.prog 114 _ _ _ at hc
  exact hc
theorem own_holdsV {w : World} {base g n cap : Nat} {l : List V} (hl : l.length = n) (h : OwnL vl 48 w base (.slice (some ⟨g, 0, none⟩) n cap) l) : Go.Sort.HoldsK encV 4 w g 0 l.toArray ∧ g < w.heap.size ∧ base ≤ g := by
  have hlt := World.ownsRow.lt h g rfl
  refine ⟨fun j hj => ?_, hlt.2, hlt.1⟩
  rw [Go.Sort.size_flatK] at hj
  have hj' : j < l.length * 4 := by simpa using hj
  have hq : j / 4 < l.length := by omega
  have hget := vl.get l (j / 4) hq (j % 4) (Nat.mod_lt _ (by decide))
  rw [show j / 4 * vl.n + j % 4 = j from Nat.div_add_mod' j 4] at hget
  have := World.ownsRow.cells h (g := g) rfl j _ hget
  rw [show ((⟨g, 0, none⟩ : Addr).add j) = ⟨g, 0 + j, none⟩ by unfold Addr.add; split <;> simp_all] at this
  refine ⟨?_, ?_⟩
  · rw [this, Go.Sort.get_flatK _ _ _ _ hj]
    have hm : j % 4 < 4 := Nat.mod_lt _ (by decide)
    have e1 : l.toArray[j / 4]! = l[j / 4] := by simp [hq]
    rw [e1]
    show some ((encV l[j / 4])[j % 4]'(by show j % 4 < 4; exact hm)) = some ((encV l[j / 4])[j % 4]!)
    rw [List.getElem!_eq_getElem?_getD, List.getElem?_eq_getElem (by show j % 4 < 4; exact hm)]
    rfl
  · rcases h.2 with ⟨e, _⟩ | ⟨g', cap', cur, e, _, hh, _⟩
    · cases e
    · cases e
      exact frozen_of_row w g _ _ _ hh
theorem holds_atV {w : World} {g : Nat} {d : Array V} (h : Go.Sort.HoldsK encV 4 w g 0 d) : AtL vl w (some ⟨g, 0, none⟩) d.toList := by
  intro j hj
  refine ⟨g, 0, rfl, fun o ho => ?_⟩
  have hj' : j < d.size := by simpa using hj
  have h0 := (h.cell (i := j) (c := o) hj' ho).1
  have ho' : o < 4 := ho
  rw [show (0 + j * vl.n + o) = 0 + j * 4 + o from rfl, h0]
  have e1 : d[j]! = d.toList[j] := by simp [hj']
  rw [e1]
  show some ((encV d.toList[j])[o]!) = some ((encV d.toList[j])[o]'(by show o < 4; exact ho'))
  rw [List.getElem!_eq_getElem?_getD, List.getElem?_eq_getElem (by show o < 4; exact ho')]
  rfl
/-- Sorted so, there is one order. -/
theorem sorted_is {l : List V} (hu : Na.M.Up l) {d : Array V} (hp : d.toList.Perm l) (hs : ∀ i j, i < j → j < d.size → Go.Proofs.ltOf cf d[j]! d[i]! = false) : d.toList = byB l := by
  have hne : d.toList.Pairwise fun x y => x.s ≠ y.s := by
    have : (l.Pairwise fun x y => x.s ≠ y.s) := hu.imp fun h => by omega
    exact this.perm hp.symm fun h e => h e.symm
  refine sorted_uniq _ _ (hp.trans (byB_perm l).symm) ?_ (byB_sorted hu)
  rw [List.pairwise_iff_getElem] at hne ⊢
  intro i j hi hj hij
  have h1 := hs i j hij (by simpa using hj)
  have e1 : d[j]! = d.toList[j] := by
    have : j < d.size := by simpa using hj
    simp [this]
  have e2 : d[i]! = d.toList[i] := by
    have : i < d.size := by simpa using hi
    simp [this]
  rw [e1, e2] at h1
  have h2 : ¬ lt d.toList[j] d.toList[i] := by
    rw [← cf_lt]
    exact of_decide_eq_false h1
  rcases lt_tri d.toList[i] d.toList[j] with h | ⟨_, h⟩ | h
  · exact h
  · exact absurd h (hne i j hi hj hij)
  · exact absurd h h2
end Go.Proofs.YtlnedgjikkhplaaGreat.Du
end
