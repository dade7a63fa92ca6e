import Derived.Test.YtgodnpngdbelhaaGreatGP05
import Derived.Test.YtgodnpngdbelhaaGreatGP02
set_option maxRecDepth 100000
set_option maxHeartbeats 8000000
set_option linter.unusedVariables false
set_option linter.unusedSimpArgs false
open Go.Proofs.Tryz
namespace Go.Proofs.YtgodnpngdbelhaaGreat.Na
open Go.RowKit
open Go.Proofs.YtgodnpngdbelhaaGreat.M (E V)
abbrev CC (l : List V) : List Value := vl.cells l
theorem C_len (l : List V) : (CC l).length = l.length * 4 := vl.clen l
theorem C_take (l : List V) (k : Nat) : (CC l).take (k * 4) = CC (l.take k) := vl.take l k
theorem C_drop (l : List V) (k : Nat) : (CC l).drop (k * 4) = CC (l.drop k) := vl.drop l k
theorem C_one (l : List V) : ∀ v ∈ CC l, v.oneCell' = true := vl.ones l
theorem C_app (l q : List V) : CC (l ++ q) = CC l ++ CC q := vl.app l q
theorem C_tl (P : List V) (i : Nat) (hi : i ≤ P.length) : (CC (P.take i)).length = i * 4 := by rw [C_len, List.length_take, Nat.min_eq_left hi]
theorem splice_at {α : Type} (L A B : List α) (h : L.take A.length = A) : splice L A.length B = A ++ (B ++ L.drop (A.length + B.length)) := by unfold splice; rw [h]
theorem take_abc {α : Type} (A B C D : List α) (k : Nat) (hk : k = A.length + B.length + C.length) : (A ++ (B ++ (C ++ D))).take k = A ++ B ++ C := by
 have e : A ++ (B ++ (C ++ D)) = (A ++ B ++ C) ++ D := by simp
 rw [e, List.take_append_of_le_length (by simp; omega), List.take_of_length_le (by simp; omega)]
theorem splice_bc {α : Type} (L A B C : List α) (h : L.take A.length = A) : (splice (splice L A.length B) (A.length + B.length) C).take (A.length + B.length + C.length) = A ++ B ++ C := by
 rw [splice_at L A B h]; generalize L.drop (A.length + B.length) = D; have h1 : (A ++ (B ++ D)).take (A ++ B).length = A ++ B := by
  rw [← List.append_assoc, List.take_left]
 have := splice_at _ (A ++ B) C h1; rw [show A.length + B.length = (A ++ B).length by simp, this, List.append_assoc A B]; exact take_abc A B C _ _ (by simp)
theorem splice_cb {α : Type} (L A B C : List α) (h : L.take A.length = A) (hl : A.length + B.length + C.length ≤ L.length) : (splice (splice L (A.length + B.length) C) A.length B).take (A.length + B.length + C.length) = A ++ B ++ C := by
 have h1 : (splice L (A.length + B.length) C).take A.length = A := by
  unfold splice; rw [List.take_append_of_le_length (by simp; omega), List.take_take, Nat.min_eq_left (by omega), h]
 rw [splice_at _ A B h1]; have h2 : (splice L (A.length + B.length) C).drop (A.length + B.length) = C ++ L.drop (A.length + B.length + C.length) := by
  unfold splice; rw [List.drop_append_of_le_length (by simp; omega), List.drop_of_length_le (by simp; omega), List.nil_append]
 rw [h2]; exact take_abc A B C _ _ rfl
theorem splice_take {α : Type} (L B : List α) (o k : Nat) (h : k ≤ o) (hl : o ≤ L.length) : (splice L o B).take k = L.take k := by
 unfold splice; rw [List.take_append_of_le_length (by simp; omega), List.take_take, Nat.min_eq_left h]
structure Row (w : World) (g cap : Nat) (cur : List Value) (P : List V) : Prop where
 h : w.heap[g]? = some (.cells cur.toArray 126 (0, 0))
 le : P.length ≤ cap
 mx : cap ≤ maxLen
 sz : cur.length = cap * 4
 eq : cur.take (P.length * 4) = CC P
theorem Row.own {w : World} {g cap base : Nat} {cur : List Value} {P : List V} (h : Row w g cap cur P) (hb : base ≤ g) : OwnL vl 126 w base (.slice (some ⟨g, 0, none⟩) P.length cap) P :=
 ⟨C_len P, .inr ⟨g, cap, cur.toArray, rfl, hb, h.h, h.le, h.mx, by rw [List.size_toArray]; exact h.sz, by rw [List.toList_toArray]; exact h.eq⟩⟩
theorem _root_.Go.Proofs.YtgodnpngdbelhaaGreat.OwnL.row {w : World} {base : Nat} {v : Value} {P : List V} (h : OwnL vl 126 w base v P) : (v = .slice none 0 0 ∧ P = []) ∨ ∃ g cap cur, v = .slice (some ⟨g, 0, none⟩) P.length cap ∧ base ≤ g ∧ Row w g cap cur P := by
 rcases h.2 with ⟨hv, h0⟩ | ⟨g, cap, cur, hv, hb, hh, hc, hm, hs, ht⟩
 ·exact .inl ⟨hv, List.length_eq_zero_iff.1 h0⟩
 ·exact .inr ⟨g, cap, cur.toList, hv, hb, ⟨by simpa using hh, hc, hm, by rw [Array.length_toList]; exact hs, ht⟩⟩
theorem Row.at {w : World} {g cap : Nat} {cur : List Value} {P : List V} (h : Row w g cap cur P) (i : Nat) : ∀ j v, (CC (P.drop i))[j]? = some v → w.cell? ((⟨g, i * 4, none⟩ : Addr).add j) = some v := by
 intro j v hj; rw [← C_drop, List.getElem?_drop, ← h.eq, List.getElem?_take] at hj
 split at hj
 ·rw [show ((⟨g, i * 4, none⟩ : Addr).add j) = ⟨g, i * 4 + j, none⟩ by unfold Addr.add; split <;> simp_all, cell_of_row w g (i * 4 + j) _ _ _ h.h]
  simpa using hj
 ·cases hj
theorem Row.at0 {w : World} {g cap : Nat} {cur : List Value} {P : List V} (h : Row w g cap cur P) : ∀ j v, (CC P)[j]? = some v → w.cell? ((⟨g, 0, none⟩ : Addr).add j) = some v := by
 have := h.at 0; simpa using this
theorem Row.shape {w : World} {g cap : Nat} {cur : List Value} {P : List V} (h : Row w g cap cur P) : w.shape? g = some (126, cap * 4) := by
 unfold World.shape?; rw [h.h]; simp [h.sz]
theorem Row.free {w : World} {g cap : Nat} {cur : List Value} {P : List V} (h : Row w g cap cur P) (j : Nat) : w.frozen? ⟨g, j, none⟩ = false := frozen_of_row w g j _ _ h.h
theorem Row.of {w w' : World} {g cap : Nat} {cur : List Value} {P : List V} (h : Row w g cap cur P) (hb : w'.heap[g]? = w.heap[g]?) : Row w' g cap cur P := ⟨by rw [hb]; exact h.h, h.le, h.mx, h.sz, h.eq⟩
theorem grown_setRow (w : World) (g : Nat) (cs : Array Value) : w.grownBy (w.setRow g cs) (some g) := ⟨rfl, rfl, rfl, by simp [World.setRow], fun k hk hne => setRow_other w g k cs (fun e => hne (by rw [e]))⟩
theorem overlaps_no {w : World} {g g' cap cap' : Nat} {cur cur' : List Value} {P P' : List V} (h : Row w g cap cur P) (h' : Row w g' cap' cur' P') (hne : g ≠ g') (hc : 0 < cap') (o o' la ca lb cb : Nat) :
  (callFunc 144 #[.slice (some ⟨g, o, none⟩) la ca, .slice (some ⟨g', o', none⟩) lb cb]).run prog w = .ok (.value (.bool false)) w := by
 rw [run_callFunc_extern func144 (by kernel_rfl) (by kernel_rfl) (by kernel_rfl) (e := Extern.SlicesOverlaps.overlaps #[43, 43] #[4]) (by kernel_rfl),
  Lib.run_overlaps_apart w 43 4 126 underlying43 4 (fun w => by simp) ⟨g, o, none⟩ ⟨g', o', none⟩ la ca lb cb hne 126 126 (cap * 4) (cap' * 4) h.shape h'.shape (by omega) (h.free _) (h.free _)]
 rfl
theorem insert_room {w : World} {g cap gq capq : Nat} {cur curq : List Value} {P Q : List V} (i : Nat) (hr : Row w g cap cur P) (hq : Row w gq capq curq Q) (hne : gq ≠ g) (hi : i < P.length) (hm : 0 < Q.length) (hroom : P.length + Q.length ≤ cap) (hP : P.length ≤ 1000000) (hQ : Q.length ≤ 1000000) :
  Calls prog 141 #[.slice (some ⟨g, 0, none⟩) P.length cap, .int .i64 i, .slice (some ⟨gq, 0, none⟩) Q.length capq] w fun e w' =>
   e = .returned (.slice (some ⟨g, 0, none⟩) (P.length + Q.length) cap) ∧ w' = (w.drew.setRow g (splice cur ((i + Q.length) * 4) (CC (P.drop i))).toArray).setRow g (splice (splice cur ((i + Q.length) * 4) (CC (P.drop i))) (i * 4) (CC Q)).toArray := by
 have hmx : cap ≤ 9223372036854775807 := by have := hr.mx; unfold maxLen at this; omega
 have hsz := hr.sz; have hov := fun lb cb => overlaps_no hq hr hne (by omega) 0 ((i + Q.length) * 4) Q.length capq lb cb; have hdl : (CC (P.drop i)).length = (P.length - i) * 4 := by rw [C_len, List.length_drop]
 have hcp1 : ∀ ty dc sc, (Builtin.copy_ #[43, 43] ty #[.slice (some ⟨g, (i + Q.length) * 4, none⟩) (P.length + Q.length - (i + Q.length)) dc, .slice (some ⟨g, i * 4, none⟩) (P.length + Q.length - i) sc]).run prog w.drew = .ok (goInt (P.length - i : Nat)) (w.drew.setRow g (splice cur ((i + Q.length) * 4) (CC (P.drop i))).toArray) := fun ty dc sc =>
  run_copy4 w.drew 43 43 ty 126 g ((i + Q.length) * 4) _ dc _ _ sc cur 126 (CC (P.drop i)) (P.length - i) underlying43 Tryz.size126 hr.h (by simp only [Nat.min_def]; split <;> omega) hdl (fun _ => ⟨_, rfl, hr.at i⟩) (by rw [hdl, hsz]; omega) (C_one _)
 have hl1 : (splice cur ((i + Q.length) * 4) (CC (P.drop i))).length = cap * 4 := by rw [length_splice _ _ _ (by rw [hdl, hsz]; omega), hsz]
 obtain ⟨c1, hc1⟩ := Nq (splice cur ((i + Q.length) * 4) (CC (P.drop i))); rw [hc1] at hcp1 hl1 ⊢; obtain ⟨W1, hW1⟩ := Nq (w.drew.setRow g c1.toArray); have hh1 : W1.heap[g]? = some (.cells c1.toArray 126 (0, 0)) := by rw [← hW1]; exact setRow_heap w.drew g _ _ _ _ hr.h
 have hq1 : Row W1 gq capq curq Q := hq.of (by rw [← hW1]; exact setRow_other w.drew g gq _ hne); have hcp2 : ∀ ty dc, (Builtin.copy_ #[43, 43] ty #[.slice (some ⟨g, i * 4, none⟩) (P.length + Q.length - i) dc, .slice (some ⟨gq, 0, none⟩) Q.length capq]).run prog W1 = .ok (goInt Q.length) (W1.setRow g (splice c1 (i * 4) (CC Q)).toArray) := fun ty dc =>
  run_copy4 W1 43 43 ty 126 g (i * 4) _ dc _ _ capq c1 126 (CC Q) Q.length underlying43 Tryz.size126 hh1 (by simp only [Nat.min_def]; split <;> omega) (C_len Q) (fun _ => ⟨_, rfl, hq1.at0⟩) (by rw [C_len, hl1]; omega) (C_one _)
 rw [hW1] at hcp1 ⊢; generalize (splice c1 (i * 4) (CC Q)).toArray = c2 at *; generalize hn' : P.length = n at *; generalize hm' : Q.length = m at *; have hz1 : ¬ ((m : Int) = 0) := by omega
 have hz2 : ¬ ((i : Int) = (n : Int)) := by omega
 have hw1 : IntKind.i64.wrap ((i : Int) + (m : Int)) = (i : Int) + (m : Int) := by rw [IntKind.wrap_i64]; omega
 have hb1 : (0 : Int) ≤ (i : Int) + (m : Int) := by omega
 have hin : i ≤ n := by omega
 have htn : ((i : Int) + (m : Int)).toNat = i + m := by omega
 have hb2 : ¬ (cap = i + m) := by omega
 have hb3 : (i : Int) ≤ (n : Int) + (m : Int) := by omega
 have hb4 : ¬ (cap = i) := by omega
 clear hq hr hq1 hh1 hl1 hc1 hW1 hdl hsz hn' hm' hne; go_enter func141, ntmps141; go_wp2_with (simp only [hov]); go_region_law (refine step_copy_runI rfl _ _ 43 43 rfl _ _ (by simp [Act.eval, Act.put]) (by simp [Act.eval, Act.put]) (hcp1 _ _ _) ?_)
 all_goals
  go_wp2_with (at_builtin; refine wpList_copy_runI _ rfl _ _ 43 43 rfl _ _ rfl rfl (hcp2 _ _) ?_); go_ret; exact ⟨rfl, rfl⟩
theorem insert_none {w : World} (a a' : Option Addr) (n cap capq : Nat) (i : Nat) (hi : i ≤ n) (hn : n ≤ cap) (hmx : cap ≤ maxLen) :
  Calls prog 141 #[.slice a n cap, .int .i64 i, .slice a' 0 capq] w fun e w' => e = .returned (.slice a n cap) ∧ w' = w := by
 unfold maxLen at hmx; cases a with
 | none =>
  go_enter func141, ntmps141; go_wp2
  all_goals
   go_ret; exact ⟨rfl, rfl⟩
 | some a =>
  go_enter func141, ntmps141; go_wp2
  all_goals
   go_ret; exact ⟨rfl, rfl⟩
def InsOut (w : World) (base : Nat) (v : Value) (l : List V) (x : Ending) (w' : World) : Prop := ∃ v', x = .returned v' ∧ OwnL vl 126 w' base v' l ∧ Rw w v w' v'
theorem insert_end {w : World} {base gq capq : Nat} {curq : List Value} {P Q : List V} (v : Value) (hb : base ≤ w.heap.size) (ho : OwnL vl 126 w base v P) (hq : Row w gq capq curq Q) (hm : 0 < Q.length) (hP : P.length ≤ 1000000) (hQ : Q.length ≤ 1000000) :
  Calls prog 141 #[v, .int .i64 P.length, .slice (some ⟨gq, 0, none⟩) Q.length capq] w (InsOut w base v (P ++ Q)) := by
 have hz1 : ¬ ((Q.length : Int) = 0) := by omega
 have HO : Hid (OwnL vl 126 w base v P) := ho; have HL : Hid (vl.cells (P ++ Q) = CC P ++ CC Q ∧ (P ++ Q).length = P.length + Q.length) := ⟨C_app _ _, by simp⟩; have HN : Hid (∀ j u, (CC Q)[j]? = some u → w.cell? ((⟨gq, 0, none⟩ : Addr).add j) = some u) := hq.at0; have HQ : Hid ((CC Q).length = Q.length * 4) := C_len Q; have H1 : Hid (∀ u ∈ CC Q, u.oneCell' = true) := C_one Q; obtain ⟨a, cap, rfl, hxl, _⟩ := ho.at; have hcap := hxl.le; have HA : Hid (a = none → cap = 0) := by
  rcases ho.2 with ⟨h, _⟩ | ⟨g, c, _, h, _⟩
  ·intro _; simp at h; exact h.2.2
  ·intro e; subst e; simp at h
 have hmx : cap ≤ 9223372036854775807 := by
  rcases ho.2 with ⟨h, _⟩ | ⟨g, c, _, h, _, _, _, h2, _⟩
  ·simp at h; omega
  ·simp at h; unfold maxLen at h2; omega
 clear hq ho hxl; cases a with
 | none =>
  obtain rfl := HA.out rfl; have h0 : P.length = 0 := by omega
  have HO' : Hid (w.ownsRow base 126 4 (.slice none P.length 0) P.length (CC P)) := HO.out; generalize P.length = n at *; subst h0; go_enter func141, ntmps141; go_wp2_with (at_builtin; refine wpList_append_lies2 _ rfl _ _ 43 43 rfl base 126 126 Tryz.t126 _ 4 40 underlying43 underlying43 hi126 hz126 hs126 hb126 rfl (by decide) _ _ _ rfl HO'.out ⟨gq, 0, none⟩ Q.length capq (CC Q) rfl HQ.out HN.out H1.out hm (by unfold maxLen; omega) (by omega) hb _ rfl ?_; intro g3 cp w3 hown3 hgrow hat hlt); go_ret; refine ⟨_, rfl, ?_, rw_lies (v := .slice none 0 0) hgrow hat rfl⟩; unfold OwnL; rw [HL.out.1, HL.out.2, Nat.zero_add]; rw [Nat.zero_add] at hown3; exact hown3
 | some ad =>
  have HO' : Hid (w.ownsRow base 126 4 (.slice (some ad) P.length cap) P.length (CC P)) := HO.out; generalize hn' : P.length = n at *; clear hn'; go_enter func141, ntmps141; go_wp2_with (at_builtin; refine wpList_append_lies2 _ rfl _ _ 43 43 rfl base 126 126 Tryz.t126 _ 4 40 underlying43 underlying43 hi126 hz126 hs126 hb126 rfl (by decide) _ _ _ rfl HO'.out ⟨gq, 0, none⟩ Q.length capq (CC Q) rfl HQ.out HN.out H1.out hm (by unfold maxLen; omega) (by omega) hb _ rfl ?_; intro g3 cp w3 hown3 hgrow hat hlt)
  all_goals
   go_ret; refine ⟨_, rfl, ?_, rw_lies (v := .slice (some ad) n _) hgrow hat rfl⟩; unfold OwnL; rw [HL.out.1, HL.out.2]; exact hown3
theorem Row.pre {w : World} {g cap : Nat} {cur : List Value} {P : List V} (h : Row w g cap cur P) (i : Nat) (hi : i ≤ P.length) : cur.take (i * 4) = CC (P.take i) := by
 rw [← C_take, ← h.eq, List.take_take, Nat.min_eq_left (by omega)]
theorem insert_grow {w : World} {g cap base gq capq : Nat} {cur curq : List Value} {P Q : List V} (i : Nat) (hbw : base ≤ w.heap.size) (hr : Row w g cap cur P) (hq : Row w gq capq curq Q) (hi : i < P.length) (hm : 0 < Q.length) (hroom : cap < P.length + Q.length) (hP : P.length ≤ 1000000) (hQ : Q.length ≤ 1000000) :
  Calls prog 141 #[.slice (some ⟨g, 0, none⟩) P.length cap, .int .i64 i, .slice (some ⟨gq, 0, none⟩) Q.length capq] w (InsOut w base (.slice (some ⟨g, 0, none⟩) P.length cap) (P.take i ++ Q ++ P.drop i)) := by
 have hsz := hr.sz; have hgw : g < w.heap.size := (Array.getElem?_eq_some_iff.1 hr.h).1; have hqw : gq < w.heap.size := (Array.getElem?_eq_some_iff.1 hq.h).1; have hdl : (CC (P.drop i)).length = (P.length - i) * 4 := by rw [C_len, List.length_drop]
 have hpl := C_tl P i (by omega); have hle := hr.le; obtain ⟨G, hG⟩ : ∃ G, G = grownCap w (P.length + Q.length) cap 126 := ⟨_, rfl⟩; have hGn : P.length + Q.length ≤ G := by rw [hG]; exact grownCap_ge w _ _ _
 have hGm : G ≤ maxLen := by rw [hG]; exact grownCap_le_maxLen w _ _ _ (by unfold maxLen; omega)
 obtain ⟨Z, hZ⟩ : ∃ Z : List Value, ((CC (P.take i)).toArray ++ Builtin.zeroCells (Value.agg #[.int .i64 0, .int .i64 0, .int .i64 0, .string ⟨#[]⟩]).cells (P.length + Q.length - i) ++ Builtin.zeroCells (Value.agg #[.int .i64 0, .int .i64 0, .int .i64 0, .string ⟨#[]⟩]).cells (G - (P.length + Q.length))) = Z.toArray := ⟨_, (Array.toArray_toList).symm⟩; have hZl : Z.length = G * 4 := by
  have := congrArg Array.size hZ; simp [size_zeroCells, hpl, Value.cells] at this; omega
 have hZt : Z.take (i * 4) = CC (P.take i) := by
  have := congrArg Array.toList hZ; simp only [Array.toList_append, List.append_assoc] at this; rw [← this, List.take_append_of_le_length (by simp [hpl]), List.take_of_length_le (by simp [hpl])]
 have hold : (Builtin.firstCells Tryz.t126.size i (.slice (some ⟨g, 0, none⟩) i cap)).run prog w.drew = .ok (CC (P.take i)).toArray w.drew := by
  rw [hs126]; refine run_firstCells_some w.drew 4 i ⟨g, 0, none⟩ i cap _ hpl (fun j v hj => ?_); rw [← C_take, List.getElem?_take] at hj
  split at hj
  ·exact hr.at0 j v hj
  ·cases hj
 have hik : i + (P.length + Q.length - i) = P.length + Q.length := by omega
 have hrz : ∀ ty, (Builtin.append_ #[43, 3] ty #[.slice (some ⟨g, 0, none⟩) i cap, .int .i64 ((P.length : Int) + (Q.length : Int) - (i : Int))]).run prog w =
   .ok (.slice (some ⟨w.heap.size, 0, none⟩) (P.length + Q.length) G) (w.drew.alloc (.cells Z.toArray 126)) := fun ty => by
  have h := Lib.run_append_grow_zeros (P := prog) w 43 3 ty 126 Tryz.t126 _ .i64 .i64 underlying43 underlying3 hi126 hz126 (some ⟨g, 0, none⟩) i cap (CC (P.take i)) hold (P.length + Q.length - i) (by omega) (by decide) (by omega) (by omega) (by rw [hb126]; omega) (by rw [hb126, hik]; exact growslice_fits (by omega) (by omega)); rw [hik, ← hG, hZ] at h; rw [show (P.length : Int) + (Q.length : Int) - (i : Int) = ((P.length + Q.length - i : Nat) : Int) by omega]; exact h
 obtain ⟨W1, hW1⟩ := Nq (w.drew.alloc (.cells Z.toArray 126)); rw [hW1] at hrz; have hh1 : W1.heap[w.heap.size]? = some (.cells Z.toArray 126 (0, 0)) := by rw [← hW1]; exact heap_alloc_last w.drew _
 have hold1 : ∀ k, k < w.heap.size → W1.heap[k]? = w.heap[k]? := fun k hk => by rw [← hW1]; exact Below.heap_alloc w.drew _ _ hk
 have hq1 : Row W1 gq capq curq Q := hq.of (hold1 _ hqw); have hcpA : ∀ ty dc, (Builtin.copy_ #[43, 43] ty #[.slice (some ⟨w.heap.size, i * 4, none⟩) (P.length + Q.length - i) dc, .slice (some ⟨gq, 0, none⟩) Q.length capq]).run prog W1 = .ok (goInt Q.length) (W1.setRow w.heap.size (splice Z (i * 4) (CC Q)).toArray) := fun ty dc =>
  run_copy4 W1 43 43 ty 126 w.heap.size (i * 4) _ dc _ _ capq Z 126 (CC Q) Q.length underlying43 Tryz.size126 hh1 (by simp only [Nat.min_def]; split <;> omega) (C_len Q) (fun _ => ⟨_, rfl, hq1.at0⟩) (by rw [C_len, hZl]; omega) (C_one _)
 have hl2 : (splice Z (i * 4) (CC Q)).length = G * 4 := by rw [length_splice _ _ _ (by rw [C_len, hZl]; omega), hZl]
 obtain ⟨W2, hW2⟩ := Nq ((W1.setRow w.heap.size (splice Z (i * 4) (CC Q)).toArray)); rw [hW2] at hcpA; have hh2 : W2.heap[w.heap.size]? = some (.cells (splice Z (i * 4) (CC Q)).toArray 126 (0, 0)) := by rw [← hW2]; exact setRow_heap W1 _ _ _ _ _ hh1
 have hr2 : Row W2 g cap cur P := (hr.of (hold1 _ hgw)).of (by rw [← hW2]; exact setRow_other W1 _ g _ (by omega)); have hcpB : ∀ ty dc sc, (Builtin.copy_ #[43, 43] ty #[.slice (some ⟨w.heap.size, (i + Q.length) * 4, none⟩) (P.length + Q.length - (i + Q.length)) dc, .slice (some ⟨g, i * 4, none⟩) (P.length - i) sc]).run prog W2.drew = .ok (goInt (P.length - i : Nat)) (W2.drew.setRow w.heap.size (splice (splice Z (i * 4) (CC Q)) ((i + Q.length) * 4) (CC (P.drop i))).toArray) := fun ty dc sc =>
  run_copy4 W2.drew 43 43 ty 126 w.heap.size ((i + Q.length) * 4) _ dc _ _ sc _ 126 (CC (P.drop i)) (P.length - i) underlying43 Tryz.size126 hh2 (by simp only [Nat.min_def]; split <;> omega) hdl (fun _ => ⟨_, rfl, hr2.at i⟩) (by rw [hdl, hl2]; omega) (C_one _)
 have HK : Hid (InsOut w base (.slice (some ⟨g, 0, none⟩) P.length cap) (P.take i ++ Q ++ P.drop i) (.returned (.slice (some ⟨w.heap.size, 0, none⟩) (P.length + Q.length) G)) (W2.drew.setRow w.heap.size (splice (splice Z (i * 4) (CC Q)) ((i + Q.length) * 4) (CC (P.drop i))).toArray)) := by
  have hl3 : (P.take i ++ Q ++ P.drop i).length = P.length + Q.length := by simp; omega
  refine ⟨_, rfl, ?_, ⟨⟨?_, ?_, ?_, ?_, fun k hk _ => ?_⟩, fun k hk => ?_⟩⟩
  ·rw [← hl3]; refine Row.own (cur := splice (splice Z (i * 4) (CC Q)) ((i + Q.length) * 4) (CC (P.drop i))) ⟨setRow_heap W2.drew _ _ _ _ _ hh2, by rw [hl3]; exact hGn, hGm, by rw [length_splice _ _ _ (by rw [hdl, hl2]; omega), hl2], ?_⟩ hbw; have := splice_bc Z (CC (P.take i)) (CC Q) (CC (P.drop i)) (by rw [hpl]; exact hZt); rw [hpl, C_len Q, hdl, show i * 4 + Q.length * 4 = (i + Q.length) * 4 by omega, show (i + Q.length) * 4 + (P.length - i) * 4 = (P.length + Q.length) * 4 by omega] at this; rw [hl3, C_app, C_app]; exact this
  ·rw [← hW2, ← hW1]; rfl
  ·rw [← hW2, ← hW1]; rfl
  ·rw [← hW2, ← hW1]; rfl
  ·rw [← hW2, ← hW1]; simp [World.setRow]
  ·have e1 : (W2.drew.setRow w.heap.size (splice (splice Z (i * 4) (CC Q)) ((i + Q.length) * 4) (CC (P.drop i))).toArray).heap[k]? = W2.heap[k]? := setRow_other W2.drew _ k _ (by omega); have e2 : W2.heap[k]? = W1.heap[k]? := by rw [← hW2]; exact setRow_other W1 _ k _ (by omega)
   rw [e1, e2, hold1 k hk]
  ·simp only [Value.ownBlock, Option.some.injEq] at hk; exact .inr (by omega)
 generalize (splice (splice Z (i * 4) (CC Q)) ((i + Q.length) * 4) (CC (P.drop i))).toArray = c2 at *; generalize (P.take i ++ Q ++ P.drop i) = RR at *; generalize hn' : P.length = n at *; generalize hm' : Q.length = m at *; have hz1 : ¬ ((m : Int) = 0) := by omega
 have hz2 : ¬ ((i : Int) = (n : Int)) := by omega
 have hz3 : (cap : Int) < (n : Int) + (m : Int) := by omega
 have hw1 : IntKind.i64.wrap ((i : Int) + (m : Int)) = (i : Int) + (m : Int) := by rw [IntKind.wrap_i64]; omega
 have hb1 : (0 : Int) ≤ (i : Int) + (m : Int) := by omega
 have hin : i ≤ n := by omega
 have htn : ((i : Int) + (m : Int)).toNat = i + m := by omega
 have hG63 : G ≤ 9223372036854775807 := by unfold maxLen at hGm; omega
 have hGi : ¬ (G = i) := by omega
 have hGim : ¬ (G = i + m) := by omega
 have hci : ¬ (cap = i) := by omega
 have hb3 : (i : Int) ≤ (n : Int) := by omega
 clear hq hr hq1 hh1 hW1 hW2 hdl hsz hn' hm' hh2 hr2 hl2 hold1 hold hZ hZl hZt hpl hG hik hGm; go_enter func141, ntmps141; go_wp2_with (first
  | (at_builtin; refine Lib.wpList_append_run _ rfl _ _ _ _ rfl _ _ rfl rfl _ _ (hrz _) ?_)
  | (at_builtin; refine wpList_copy_runI _ rfl _ _ 43 43 rfl _ _ rfl rfl (hcpA _ _) ?_))
 go_region_law (refine step_copy_runI rfl _ _ 43 43 rfl _ _ (by simp [Act.eval, Act.put]) (by simp [Act.eval, Act.put]) (hcpB _ _ _) ?_)
 all_goals
  go_wp2; go_ret; exact HK.out
def Arg (w : World) (v u : Value) (Q : List V) : Prop := (u = .slice none 0 0 ∧ Q = []) ∨ ∃ gq capq curq, u = .slice (some ⟨gq, 0, none⟩) Q.length capq ∧ Row w gq capq curq Q ∧ v.ownBlock ≠ some gq ∧ 0 < Q.length
theorem insert_any {w : World} {base : Nat} {v u : Value} {P Q : List V} (i : Nat) (hb : base ≤ w.heap.size) (ho : OwnL vl 126 w base v P) (ha : Arg w v u Q) (hi : i ≤ P.length) (hP : P.length ≤ 1000000) (hQ : Q.length ≤ 1000000) :
  Calls prog 141 #[v, .int .i64 i, u] w (InsOut w base v (P.take i ++ Q ++ P.drop i)) := by
 rcases ha with ⟨rfl, rfl⟩ | ⟨gq, capq, curq, rfl, hq, hne, hm⟩
 ·rw [List.append_nil, List.take_append_drop]; rcases ho.row with ⟨rfl, rfl⟩ | ⟨g, cap, cur, rfl, hbg, hr⟩
  ·refine (insert_none none none 0 0 0 i hi Lr (by decide)).mono ?_; rintro e w1 ⟨rfl, rfl⟩
   exact ⟨_, rfl, ho, Rw.refl _ _⟩
  ·refine (insert_none _ none _ cap 0 i hi hr.le hr.mx).mono ?_; rintro e w1 ⟨rfl, rfl⟩
   exact ⟨_, rfl, ho, Rw.refl _ _⟩
 ·rcases Nat.eq_or_lt_of_le hi with rfl | hlt
  ·rw [List.take_length, List.drop_length, List.append_nil]; exact insert_end v hb ho hq hm hP hQ
  ·rcases ho.row with ⟨rfl, rfl⟩ | ⟨g, cap, cur, rfl, hbg, hr⟩
   ·simp at hlt
   ·have hne' : gq ≠ g := fun e => hne (by rw [e]; rfl); rcases Nat.lt_or_ge cap (P.length + Q.length) with hc | hc
    ·exact insert_grow i hb hr hq hlt hm hc hP hQ
    ·refine (insert_room i hr hq hne' hlt hm hc hP hQ).mono ?_; rintro e w1 ⟨rfl, rfl⟩; have hsz := hr.sz; have hdl : (CC (P.drop i)).length = (P.length - i) * 4 := by rw [C_len, List.length_drop]
     have hpl := C_tl P i (by omega); have hl1 : (splice cur ((i + Q.length) * 4) (CC (P.drop i))).length = cap * 4 := by rw [length_splice _ _ _ (by rw [hdl, hsz]; omega), hsz]
     have hl3 : (P.take i ++ Q ++ P.drop i).length = P.length + Q.length := by simp; omega
     refine ⟨_, rfl, ?_, ⟨?_, fun k hk => .inl hk⟩⟩
     ·rw [← hl3]; refine Row.own (cur := splice (splice cur ((i + Q.length) * 4) (CC (P.drop i))) (i * 4) (CC Q)) ⟨setRow_heap _ _ _ _ _ _ (setRow_heap w.drew g _ _ _ _ hr.h), by rw [hl3]; exact hc, hr.mx, by rw [length_splice _ _ _ (by rw [C_len, hl1]; omega), hl1], ?_⟩ hbg; have := splice_cb cur (CC (P.take i)) (CC Q) (CC (P.drop i)) (by rw [hpl]; exact hr.pre i (by omega)) (by rw [hpl, C_len Q, hdl, hsz]; omega); rw [hpl, C_len Q, hdl, show i * 4 + Q.length * 4 = (i + Q.length) * 4 by omega, show (i + Q.length) * 4 + (P.length - i) * 4 = (P.length + Q.length) * 4 by omega] at this; rw [hl3, C_app, C_app]; exact this
     ·have g1 := grown_setRow w.drew g (splice cur ((i + Q.length) * 4) (CC (P.drop i))).toArray; have g2 := grown_setRow (w.drew.setRow g (splice cur ((i + Q.length) * 4) (CC (P.drop i))).toArray) g (splice (splice cur ((i + Q.length) * 4) (CC (P.drop i))) (i * 4) (CC Q)).toArray; exact ⟨rfl, rfl, rfl, Nat.le_trans g1.size g2.size, fun k hk hn => (g2.block k (Nat.lt_of_lt_of_le hk g1.size) hn).trans (g1.block k hk hn)⟩
structure InG (w w' : World) (g : Nat) : Prop where
 g : w.grownBy w' (some g)
theorem InG.refl (w : World) (g : Nat) : InG w w g := ⟨⟨rfl, rfl, rfl, Nat.le_refl _, fun _ _ _ => rfl⟩⟩
theorem InG.set {w w1 : World} {g : Nat} (h : InG w w1 g) (cs : Array Value) : InG w (w1.setRow g cs) g := by
 have g2 := grown_setRow w1 g cs; exact ⟨⟨h.g.os, h.g.tape, h.g.output, Nat.le_trans h.g.size g2.size, fun k hk hn => (g2.block k (Nat.lt_of_lt_of_le hk h.g.size) hn).trans (h.g.block k hk hn)⟩⟩
theorem InG.drew {w w1 : World} {g : Nat} (h : InG w w1 g) : InG w w1.drew g := ⟨⟨h.g.os, h.g.tape, h.g.output, h.g.size, h.g.block⟩⟩
theorem InG.rw {w w1 : World} {g n c n' c' : Nat} (h : InG w w1 g) : Rw w (.slice (some ⟨g, 0, none⟩) n c) w1 (.slice (some ⟨g, 0, none⟩) n' c') := ⟨h.g, fun k hk => .inl hk⟩
theorem key_any (id b0 b1 : Int) (r : ByteArray) (k : Int) (w : World) :
  Calls prog 136 #[.agg #[.int .i64 id, .int .i64 b0, .int .i64 b1, .string r], .int .i64 k] w fun e w' => e = .returned (.int .i64 (M.cmp id k)) ∧ Bl w w' := by
 have HB : Hid (Below w.heap.size w (w.alloc (.cells #[.int .i64 id, .int .i64 b0, .int .i64 b1, .string r] 126))) := bel1 w _; go_enter func136, ntmps136; go_wp2_with fail; refine (compare_any _ _ _).mono ?_; rintro e w1 ⟨rfl, rfl⟩; go_wp2; go_ret; exact ⟨rfl, HB.out⟩
def SrOut (w : World) (l : List V) (k : Int) (e : Ending) (w' : World) : Prop := ∃ (r : Nat) (b : Bool), e = .returned (.tuple #[.int .i64 r, .bool b]) ∧ M.Sr l k r b ∧ Bl w w'
theorem search_any (a : Option Addr) (cap : Nat) (l : List V) (k : Int) (w : World) (hl : l.length ≤ 1000000) (ha : AtL vl w a l) (hu : M.Up l) :
  Calls prog 135 #[.slice a l.length cap, .int .i64 k, .func (.func 136) #[] #[]] w (SrOut w l k) := by
 have hm : ∀ i j (hi : i < l.length) (hj : j < l.length), i ≤ j → l[i].s ≤ l[j].s := fun i j hi hj hij => by
  rcases Nat.eq_or_lt_of_le hij with rfl | h
  ·exact Int.le_refl _
  ·have := List.pairwise_iff_getElem.1 hu i j hi hj h; omega
 go_enter func135, ntmps135; go_wp2; go_loopw [9, 10] (fun u v wr => ∃ p q : Nat, p ≤ q ∧ q ≤ l.length ∧ u = .int .i64 p ∧ v = .int .i64 q ∧ Bl w wr ∧ Hid ((∀ j (h : j < l.length), j < p → l[j].s < k) ∧ (∀ j (h : j < l.length), q ≤ j → k ≤ l[j].s))) (fun u v _ => (intOf v).toNat - (intOf u).toNat)
 case atStart => exact ⟨0, l.length, by omega, by omega, rfl, rfl, Below.refl _ _, fun j h h' => by omega, fun j h h' => by omega⟩
 case round =>
  obtain ⟨p, q, hpq, hq, rfl, rfl, hbel, HI⟩ := hrel; by_cases hlt : p < q
  ·obtain ⟨m, hmm⟩ : ∃ m : Nat, m = (p + q) / 2 := ⟨_, rfl⟩; have hml : m < l.length := by omega
   obtain ⟨b, off, rfl, c0, c1, c2, c3⟩ := (ha.keep hbel).getV m hml; have H1 : Hid (l[m].s < k → ∀ j (h : j < l.length), j < m + 1 → l[j].s < k) := fun h j hj hj' => by have := hm j m hj hml (by omega); omega
   have H2 : Hid (k ≤ l[m].s → ∀ j (h : j < l.length), m ≤ j → k ≤ l[j].s) := fun h j hj hj' => by have := hm m j hml hj hj'; omega
   have HX : Hid (Bl w wr) := hbel; have hc := fun W => key_any l[m].s l[m].b.i l[m].b.t l[m].v k W; generalize l[m].s = x2 at *; generalize l[m].b.i = x3 at *; generalize l[m].b.t = x5 at *; generalize l[m].v = x4 at *; have hsub : ((p : Int) + (q : Int)) / 2 = (m : Int) := by omega
   have hsub2 : IntKind.i64.wrap ((p : Int) + q) = (p : Int) + q := by rw [IntKind.wrap_i64]; omega
   have HM : Hid (p ≤ m ∧ m < q) := ⟨by omega, by omega⟩; clear hm hmm hbel ha hu; rcases M.cmp_three x2 k with ⟨hk, he⟩ | hk
   ·have H1' := Hf (H1.out hk); rw [he] at hc; clear hk H1 H2 he; go_wp2_with fail; refine (hc _).mono ?_; rintro e w2 ⟨rfl, hb2⟩; have HB2 : Hid (Bl w w2) := Bu HX.out hb2 Lr; clear hb2 c0 c1 c2 c3 HX hc; go_wp2; go_roundw
    case rel => exact ⟨m + 1, q, by have := HM.out; omega, hq, by go_num, rfl, HB2.out, H1'.out, HI.out.2⟩
    case measure => have := HM.out; simp [intOf]; omega
   ·have hx : k ≤ x2 ∧ ¬ M.cmp x2 k < 0 := by
     rcases hk with ⟨h1, h2⟩ | ⟨h1, h2⟩
     ·exact ⟨by omega, by omega⟩
     ·exact ⟨by omega, by omega⟩
    have H2' := Hf (H2.out hx.1); have hx2 := hx.2; clear hk H1 H2 hx; generalize M.cmp x2 k = cc at *; go_wp2_with fail; refine (hc _).mono ?_; rintro e w2 ⟨rfl, hb2⟩; have HB2 : Hid (Bl w w2) := Bu HX.out hb2 Lr; clear hb2 c0 c1 c2 c3 HX hc; go_wp2; go_roundw
    case rel => exact ⟨p, m, by have := HM.out; omega, by have := HM.out; omega, rfl, rfl, HB2.out, HI.out.1, H2'.out⟩
    case measure => have := HM.out; simp [intOf]; omega
  ·have hpq' : p = q := by omega
   subst hpq'; have HX : Hid (Bl w wr) := hbel; have HSr := Hf (fun b hb => M.sr_of hq HI.out.1 HI.out.2 hu b hb); by_cases hpl : p < l.length
   ·obtain ⟨b, off, rfl, c0, c1, c2, c3⟩ := (ha.keep hbel).getV p hpl; have hc := fun W => key_any l[p].s l[p].b.i l[p].b.t l[p].v k W; have HE : Hid ((M.cmp l[p].s k == 0) = true ↔ ∃ h : p < l.length, l[p].s = k) := by
     rcases M.cmp_three l[p].s k with ⟨h1, h2⟩ | ⟨h1, h2⟩ | ⟨h1, h2⟩
     ·exact ⟨fun h => by rw [h2] at h; simp at h, fun ⟨_, h⟩ => by omega⟩
     ·exact ⟨fun h => ⟨hpl, h1⟩, fun _ => by rw [h2]; rfl⟩
     ·exact ⟨fun h => by rw [h2] at h; simp at h, fun ⟨_, h⟩ => by omega⟩
    have HS2 := Hf (HSr.out _ HE.out); generalize M.cmp l[p].s k = cc at *; generalize l[p].s = x2 at *; generalize l[p].b.i = x3 at *; generalize l[p].b.t = x5 at *; generalize l[p].v = x4 at *; clear hm hbel hlt hpq HI ha hu HSr HE; go_wp2_with fail; refine (hc _).mono ?_; rintro e w2 ⟨rfl, hb2⟩; have HB2 : Hid (Bl w w2) := Bu HX.out hb2 Lr; clear hb2 c0 c1 c2 c3 HX hc; go_wp2; go_ret2; exact ⟨p, _, rfl, HS2.out, HB2.out⟩
   ·have hd : decide ((p : Int) < (l.length : Int)) = false := by simp; omega
    have HS2 := Hf (HSr.out false ⟨fun h => (by cases h), fun ⟨h, _⟩ => (by omega)⟩); clear hm hbel hlt hpq HI ha hu HSr; go_wp2; go_ret2; exact ⟨p, _, rfl, HS2.out, HX.out⟩
theorem place_any (a : Option Addr) (cap : Nat) (l : List V) (k : Int) (w : World) (hl : l.length ≤ 1000000) (ha : AtL vl w a l) (hu : M.Up l) :
  Calls prog 123 #[.slice a l.length cap, .int .i64 k] w (SrOut w l k) := by
 have hc := search_any a cap l k w hl ha hu; clear ha hu; go_enter func123, ntmps123; go_wp2_with fail; refine hc.mono ?_; rintro e w1 ⟨r, bb, rfl, hs, hb⟩; have HQ := Hf (show SrOut w l k (.returned (.tuple #[.int .i64 r, .bool bb])) w1 from ⟨r, bb, rfl, hs, hb⟩); clear hs hb hc; go_wp2; go_ret2; exact HQ.out
def put4 (w : World) (g : Nat) (a b c d : Value) : World := (((w.setCell ⟨g, 0, none⟩ a).setCell ⟨g, 1, none⟩ b).setCell ⟨g, 2, none⟩ c).setCell ⟨g, 3, none⟩ d
theorem put4_row {w : World} {g : Nat} {t : TypeId} {v0 v1 v2 v3 : Value} (h : w.heap[g]? = some (.cells #[v0, v1, v2, v3] t (0, 0))) (a b c d : Value) : (put4 w g a b c d).heap[g]? = some (.cells #[a, b, c, d] t (0, 0)) :=
 heap_setCell_same _ g 3 _ _ _ (heap_setCell_same _ g 2 _ _ _ (heap_setCell_same _ g 1 _ _ _ (heap_setCell_same w g 0 _ _ _ h)))
theorem put4_bel {w0 w : World} {B g : Nat} (h : Below B w0 w) (hg : B ≤ g) (a b c d : Value) : Below B w0 (put4 w g a b c d) := (((h.setCell hg _).setCell hg _).setCell hg _).setCell hg _
theorem put4_oth {w : World} {g k : Nat} (h : k ≠ g) (a b c d : Value) : (put4 w g a b c d).heap[k]? = w.heap[k]? := by
 unfold put4; rw [heap_setCell_other _ ⟨g, 3, none⟩ k _ h, heap_setCell_other _ ⟨g, 2, none⟩ k _ h, heap_setCell_other _ ⟨g, 1, none⟩ k _ h, heap_setCell_other _ ⟨g, 0, none⟩ k _ h]
abbrev bV (x : E) : Value := .agg #[.int .i64 x.i, .int .i64 x.t]
abbrev vV (x : V) : Value := .agg #[.int .i64 x.s, .int .i64 x.b.i, .int .i64 x.b.t, .string x.v]
theorem alloc4 (w : World) (v0 v1 v2 v3 : Value) (t : TypeId) : (w.alloc (.cells #[v0, v1, v2, v3] t)).heap[w.heap.size]? = some (.cells #[v0, v1, v2, v3] t (0, 0)) := heap_alloc_last w _
theorem bel2 (w : World) (o o' : Obj) : Below w.heap.size w ((w.alloc o).alloc o') := Bu (bel1 w o) (bel1 _ o') Lr
def fpa (b : Nat) (v : Value) (k : Nat) : Prop := k = b ∨ v.ownBlock = some k
structure AI (w : World) (base b : Nat) (v : Value) (a : M.S) : Prop where
 row : w.heap[b]? = some (.cells #[.int .i64 a.p.i, .int .i64 a.p.t, .int .i64 a.base, v] 134 (0, 0))
 own : OwnL vl 126 w base v a.l
 ap : v.ownBlock ≠ some b
 lo : base ≤ b
section
variable {w w' : World} {base b : Nat} {v : Value} {a : M.S}
theorem AI.keepBut (h : AI w base b v a) (hb : ∀ k, k < w.heap.size → fpa b v k → w'.heap[k]? = w.heap[k]?) : AI w' base b v a :=
 ⟨(hb b (Array.getElem?_eq_some_iff.1 h.row).1 (.inl rfl)).trans h.row, h.own.keepBut (fun k hk e => hb k hk (.inr e)), h.ap, h.lo⟩
theorem AI.keep (h : AI w base b v a) (hb : Bl w w') : AI w' base b v a := h.keepBut fun k hk _ => hb.block k hk
theorem AI.lt (h : AI w base b v a) : b < w.heap.size := (Array.getElem?_eq_some_iff.1 h.row).1
theorem AI.mine (h : AI w base b v a) : ∀ k, fpa b v k → base ≤ k ∧ k < w.heap.size := by
 rintro k (rfl | hk)
 ·exact ⟨h.lo, h.lt⟩
 ·exact h.own.lt hk
end
theorem new_any (w : World) : Calls prog 46 #[] w fun e w' => ∃ b, e = .returned (.pointer (some ⟨b, 0, none⟩)) ∧ AI w' w.heap.size b (.slice none 0 0) M.S0 ∧ Bl w w' ∧ w.heap.size ≤ b := by
 have HB := Hf (fun o => bel1 w o); have HR := Hf (fun v0 v1 v2 v3 => alloc4 w v0 v1 v2 v3 134); go_enter func46, ntmps46; go_wp2; go_ret; exact ⟨w.heap.size, rfl, ⟨HR.out _ _ _ _, OwnL.nil _ _ _, by simp [Value.ownBlock], Nat.le_refl _⟩, HB.out _, Nat.le_refl _⟩
theorem f71_res : Tryz.f71.results = #[.cell 2 42] := rfl
theorem promised_any {w : World} {base b : Nat} {v : Value} {a : M.S} (h : AI w base b v a) : Calls prog 71 #[.pointer (some ⟨b, 0, none⟩)] w fun e w' => e = .returned (bV a.p) ∧ Bl w w' := by
 obtain ⟨c0, _⟩ := row4 h.row; have HB := Hf (bel1 w (.cells #[.int .i64 0, .int .i64 0] 42)); obtain ⟨W1, HW1⟩ := Nh (w.alloc (.cells #[.int .i64 0, .int .i64 0] 42)); have hr := heap_alloc_last w (.cells #[.int .i64 0, .int .i64 0] 42); have hc := row4 (Br h.row HB.out); rw [HW1.out] at HB hr hc; obtain ⟨⟨d0, d1, d2, d3⟩, _⟩ := hc; obtain ⟨x0, xf⟩ := row2 hr; have f0 := xf 0; have f1 := xf 1; have HR := Hf hr; clear h hr xf c0; go_enter func71, ntmps71; go_upto_region 1 with fail
 rw [HW1.out]; clear HW1; go_wp2; refine bodyPost_ret (v := bV a.p) ?_ rfl ⟨rfl, (HB.out.setCell Lr _).setCell Lr _⟩; exact results_cell_row f71_res _ _ w.heap.size 42 _ (0, 0) _ rfl (heap_setCell_same _ w.heap.size 1 _ _ _ (heap_setCell_same W1 w.heap.size 0 _ _ _ HR.out)) underlying42 rfl Tryz.size42
theorem base_any {w : World} {base b : Nat} {v : Value} {a : M.S} (h : AI w base b v a) : Calls prog 92 #[.pointer (some ⟨b, 0, none⟩)] w fun e w' => e = .returned (.int .i64 a.base) ∧ w' = w := by
 obtain ⟨c0, _⟩ := row4 h.row; clear h; go_enter func92, ntmps92; go_wp2; go_ret; exact ⟨rfl, rfl⟩
theorem hasSlot_any {w : World} {base b : Nat} {v : Value} {a : M.S} (h : AI w base b v a) (s : Int) : Calls prog 140 #[.pointer (some ⟨b, 0, none⟩), .int .i64 s] w fun e w' => e = .returned (.bool (decide (a.base ≤ s) && decide (s < 1024))) ∧ w' = w := by
 obtain ⟨c0, _⟩ := row4 h.row; clear h; by_cases h0 : a.base ≤ s
 ·have d0 : decide (a.base ≤ s) = true := decide_eq_true h0; rw [d0]; go_enter func140, ntmps140; go_wp2; go_ret; exact ⟨rfl, rfl⟩
 ·have d0 : decide (a.base ≤ s) = false := decide_eq_false h0; rw [d0]; go_enter func140, ntmps140; go_wp2; go_ret; exact ⟨rfl, rfl⟩
theorem f124_res : Tryz.f124.results = #[.cell 2 126] := rfl
theorem own_any (x : V) (w : World) (hx : x.v.size ≤ 140737488351232) : Calls prog 124 #[vV x] w fun e w' => e = .returned (vV x) ∧ Bl w w' := by
 obtain ⟨s, ⟨i, t⟩, v⟩ := x; simp only [vV] at hx ⊢; obtain ⟨W1, HW1⟩ := Nh ((w.alloc (.cells #[.int .i64 s, .int .i64 i, .int .i64 t, .string v] 126)).alloc (.cells #[.int .i64 0, .int .i64 0, .int .i64 0, .string ⟨#[]⟩] 126)); have HB1 : Hid (Bl w W1) := by rw [← HW1.out]; exact bel2 w _ _
 have hs1 : W1.heap.size = w.heap.size + 2 := by rw [← HW1.out]; simp
 have hr1 : W1.heap[w.heap.size]? = some (.cells #[.int .i64 s, .int .i64 i, .int .i64 t, .string v] 126 (0, 0)) := by rw [← HW1.out]; exact heap_alloc2_old w _ _
 have hr2 : W1.heap[w.heap.size + 1]? = some (.cells #[.int .i64 0, .int .i64 0, .int .i64 0, .string ⟨#[]⟩] 126 (0, 0)) := by rw [← HW1.out]; exact heap_alloc2_new w _ _
 have HR1 := Hf hr1; have HR2 := Hf hr2; obtain ⟨c0, _⟩ := row4 hr1; clear hr1 hr2; go_enter func124, ntmps124; go_upto_region 1 with fail
 rw [HW1.out]; clear HW1; go_wp2_with fail; refine (sclone_any v W1 hx).mono ?_; rintro e w2 ⟨rfl, hb2⟩; have HB2 := Hf (Bu HB1.out hb2 Lr); have hr1 := Br HR1.out hb2; have hr2 := Br HR2.out hb2; obtain ⟨x0, xf⟩ := row4 hr1; obtain ⟨y0, yf⟩ := row4 hr2; have f3 := xf 3; have g0 := yf 0; have g1 := yf 1; have g2 := yf 2; have g3 := yf 3; have HY := Hf hr2; clear xf yf HR1 HR2 HB1 hr1 hr2 hb2 c0; go_wp2; refine bodyPost_ret (v := .agg #[.int .i64 s, .int .i64 i, .int .i64 t, .string v]) ?_ rfl ⟨rfl, put4_bel (HB2.out.setCell Lr _) (Nat.le_succ _) _ _ _ _⟩; exact results_cell_row f124_res _ _ (w.heap.size + 1) 126 _ (0, 0) _ rfl (put4_row (w := w2.setCell ⟨w.heap.size, 3, none⟩ (.string v)) ((heap_setCell_other w2 ⟨w.heap.size, 3, none⟩ _ _ (by simp)).trans HY.out) _ _ _ _) underlying126 rfl Tryz.size126
end Go.Proofs.YtgodnpngdbelhaaGreat.Na
