import Derived.Test.YtlnedgjikkhplaaGreatGP09
import Derived.Laws.OwnMore
set_option maxRecDepth 100000
set_option maxHeartbeats 8000000
set_option linter.unusedVariables false
set_option linter.unusedSimpArgs false
namespace Go.Proofs.YtlnedgjikkhplaaGreat.Ns.M
structure DD where
 now : List ByteArray
 sure : List ByteArray
 loo : List Bool
 lost : Bool
structure DD.Ok (D : DD) (n : Nat) : Prop where
 l1 : D.now.length = n
 l2 : D.sure.length = n
 l3 : D.loo.length = n
 s1 : ∀ s ∈ D.now, s.size = 64
 s2 : ∀ s ∈ D.sure, s.size = 64
 n1 : 1 ≤ n ∧ n ≤ 4096
def dl (loo : List Bool) : List Nat := (List.range loo.length).filter fun i => (loo[i]?).getD false
theorem dl_len (loo : List Bool) : (dl loo).length ≤ loo.length := by
 have := List.length_filter_le (fun i => (loo[i]?).getD false) (List.range loo.length)
 rw [List.length_range] at this
 exact this
theorem dl_lo (P : List Pl) : dl (P.map lse) = lo P := by
 unfold dl lo; rw [List.length_map]
 apply List.filter_congr
 intro i hi; rw [List.mem_range] at hi
 simp [hi]
theorem dl_none (n : Nat) : dl (List.replicate n false) = [] := by
 unfold dl; rw [List.filter_eq_nil_iff]
 intro i hi; rw [List.mem_range] at hi; rw [List.getElem?_eq_getElem hi]
 simp
theorem dl_lt {loo : List Bool} {i : Nat} (h : i ∈ dl loo) : i < loo.length := by
 unfold dl at h; rw [List.mem_filter, List.mem_range] at h
 exact h.1
def dwn (now : List ByteArray) (at' : Nat) (s : ByteArray) : Nat → List ByteArray
 | 0 => now
 | k + 1 => (dwn now at' s k).set (at' + k) (pc s k)
def dwl (loo : List Bool) (at' : Nat) : Nat → List Bool
 | 0 => loo
 | k + 1 => (dwl loo at' k).set (at' + k) true
theorem dwn_len (now : List ByteArray) (at' : Nat) (s : ByteArray) (k : Nat) : (dwn now at' s k).length = now.length := by
 induction k with
 | zero => rfl
 | succ k ih => rw [dwn, List.length_set, ih]
theorem dwl_len (loo : List Bool) (at' : Nat) (k : Nat) : (dwl loo at' k).length = loo.length := by
 induction k with
 | zero => rfl
 | succ k ih => rw [dwl, List.length_set, ih]
theorem dwn_size {now : List ByteArray} (h : ∀ s ∈ now, s.size = 64) (at' : Nat) (s : ByteArray) (k : Nat) (hk : k ≤ s.size / 64) : ∀ t ∈ dwn now at' s k, t.size = 64 := by
 induction k with
 | zero => exact h
 | succ k ih =>
  intro t ht
  rcases List.mem_or_eq_of_mem_set ht with h' | h'
  ·exact ih (by omega) t h'
  ·rw [h']; exact pc_size s k (by omega)
theorem wr_last (P : List Pl) (at' : Nat) (s : ByteArray) (k : Nat) (hk : k ≤ s.size / 64) : (wr P at' s k).map last = dwn (P.map last) at' s k ∧ (wr P at' s k).map lse = dwl (P.map lse) at' k := by
 induction k with
 | zero => exact ⟨rfl, rfl⟩
 | succ k ih =>
  obtain ⟨h1, h2⟩ := ih (by omega)
  have hs := pc_size s k (by omega)
  rw [wr, st_last _ _ _ hs, st_lse _ _ _ hs, h1, h2]
  exact ⟨rfl, rfl⟩
def dwrote (D : DD) (at' : Int) (s : ByteArray) : DD := bif decide (wcode D.now.length D.lost at' s = 0) then { D with now := dwn D.now at'.toNat s (s.size / 64), loo := dwl D.loo at'.toNat (s.size / 64) } else D
def dread (D : DD) (at' m : Int) : ByteArray := bif decide (refused D.now.length D.lost at' m = 0) then cat ((D.now.drop at'.toNat).take m.toNat) else E
def dflush (D : DD) : DD := { D with sure := D.now, loo := List.replicate D.now.length false }
def dcrs (keep tear : Nat) (sure : List ByteArray) (now : List ByteArray) : List Nat → Nat → Bool → List ByteArray
 | [], _, _ => now
 | i :: L, k, t => bif kept keep k then dcrs keep tear sure now L (k + 1) t else dcrs keep tear sure (now.set i (bif t then ((now[i]?).getD E).extract 0 tear ++ ((sure[i]?).getD E).extract tear 64 else (sure[i]?).getD E)) L (k + 1) false
def dcrash (D : DD) (keep : Nat) (tear : Int) : DD := dflush { D with now := dcrs keep tear.toNat D.sure D.now (dl D.loo) 0 (tears tear) }
theorem dcrs_eq (keep tear : Nat) (sure : List ByteArray) (L : List Nat) : ∀ (P : List Pl) (k : Nat) (t : Bool), L.Nodup → (∀ i ∈ L, ∃ h : i < P.length, lse P[i] = true ∧ sure[i]? = some P[i].1) → (crs keep tear P L k t).map last = dcrs keep tear sure (P.map last) L k t := by
 induction L with
 | nil => intro P k t _ _; rfl
 | cons i L ih =>
  intro P k t hn hl
  obtain ⟨hi, hls, hsu⟩ := hl i List.mem_cons_self
  rw [List.nodup_cons] at hn
  have hrest : ∀ v : ByteArray, ∀ j ∈ L, ∃ h : j < (P.set i (v, E)).length, lse (P.set i (v, E))[j] = true ∧ sure[j]? = some (P.set i (v, E))[j].1 := by
   intro v j hj
   obtain ⟨h1, h2, h3⟩ := hl j (List.mem_cons_of_mem _ hj)
   refine ⟨by rw [List.length_set]; exact h1, ?_⟩
   rw [List.getElem_set_ne (fun e => hn.1 (by rw [e]; exact hj))]
   exact ⟨h2, h3⟩
  rw [crs, dcrs, ih _ _ _ hn.2 (hrest _), List.map_set, last_E, List.getElem?_eq_getElem hi, Option.getD_some, hsu, Option.getD_some]
  have hnow : ((P.map last)[i]?).getD E = P[i].2 := by simp [hi, lse_yes hls]
  rw [hnow]; unfold nv
  cases hkp : kept keep k with
  | true =>
   simp only [cond_true, Bool.and_true]
   congr 1
   rw [← lse_yes hls]
   apply List.ext_getElem
   ·simp
   ·intro j h1 h2
    rw [List.getElem_set]
    split
    ·rename_i e
     subst e
     simp
    ·rfl
  | false =>
   simp only [cond_false, Bool.and_false]
   rfl
structure RR (n : Nat) (P : List Pl) (lost : Bool) (D : DD) : Prop where
 ls : D.lost = lost
 ok : D.Ok n
 live : lost = false → D.now = P.map last ∧ D.sure = P.map Prod.fst ∧ D.loo = P.map lse
 dead : lost = true → P = [] ∧ D.loo = List.replicate n false
section
variable {n : Nat} {P : List Pl} {lost : Bool} {D : DD}
theorem RR.loose (h : RR n P lost D) : dl D.loo = lo P := by
 cases lost with
 | false => rw [(h.live rfl).2.2, dl_lo]
 | true => rw [(h.dead rfl).2, (h.dead rfl).1, dl_none]; rfl
theorem RR.read (h : RR n P lost D) (at' m : Int) : dread D at' m = rtext n lost P at' m := by
 unfold dread rtext; rw [h.ok.l1, h.ls]
 cases hd : decide (refused n lost at' m = 0) with
 | false => rfl
 | true =>
  have := refused_ok (by simpa using hd)
  rw [(h.live this.1).1]
theorem RR.code (h : RR n P lost D) (at' : Int) (s : ByteArray) : wcode D.now.length D.lost at' s = wcode n lost at' s := by rw [h.ok.l1, h.ls]
theorem RR.write (h : RR n P lost D) (at' : Int) (s : ByteArray) : RR n (wrote n lost P at' s) lost (dwrote D at' s) := by
 unfold dwrote wrote; rw [h.code]
 cases hd : decide (wcode n lost at' s = 0) with
 | false => exact h
 | true =>
  obtain ⟨_, hr⟩ := wcode_ok (by simpa using hd)
  obtain ⟨hl, _⟩ := refused_ok hr
  obtain ⟨h1, h2, h3⟩ := h.live hl
  obtain ⟨w1, w2⟩ := wr_last P at'.toNat s (s.size / 64) Lr
  refine ⟨h.ls, ⟨?_, h.ok.l2, ?_, dwn_size h.ok.s1 _ _ _ Lr, h.ok.s2, h.ok.n1⟩, fun _ => ⟨?_, ?_, ?_⟩, fun e => by rw [hl] at e; cases e⟩
  ·simp only [cond_true, dwn_len]; exact h.ok.l1
  ·simp only [cond_true, dwl_len]; exact h.ok.l3
  ·simp only [cond_true]; rw [w1, h1]
  ·simp only [cond_true]; rw [wr_fst, h2]
  ·simp only [cond_true]; rw [w2, h3]
theorem dflush_ok (h : D.Ok n) : (dflush D).Ok n := ⟨h.l1, h.l1, by simp [dflush, h.l1], h.s1, h.s1, h.n1⟩
theorem rr_flush (h : RR n P lost D) : RR n (flush P) lost (dflush D) := by
 refine ⟨h.ls, dflush_ok h.ok, fun hl => ?_, fun hl => ?_⟩
 ·obtain ⟨h1, h2, h3⟩ := h.live hl
  refine ⟨by show D.now = _; rw [flush_last, h1], by show D.now = _; rw [flush_fst, h1], ?_⟩
  show List.replicate D.now.length false = _
  rw [h1, List.length_map]
  apply List.ext_getElem
  ·rw [List.length_replicate, List.length_map, flush_len]
  ·intro i q1 q2
   rw [List.getElem_replicate, List.getElem_map]
   exact (flush_lse P _ (List.getElem_mem (by simpa using q2))).symm
 ·rw [(h.dead hl).1]
  exact ⟨rfl, by show List.replicate D.now.length false = _; rw [h.ok.l1]⟩
theorem rr_crash (h : RR n P lost D) (hP : M.Ok P) (keep : Nat) (tear : Int) : RR n (crash P keep tear) lost (dcrash D keep tear) := by
 cases hl : lost with
 | true =>
  have hd := h.dead hl
  have e : dcrash D keep tear = dflush D := by
   unfold dcrash; rw [hd.2, dl_none]
   rfl
  rw [e, hd.1]
  have := rr_flush h
  rw [hd.1, hl] at this
  exact this
 | false =>
  obtain ⟨h1, h2, h3⟩ := h.live hl
  obtain ⟨c1, c2, c3⟩ := crash_spec hP keep tear
  have e : dcrs keep tear.toNat D.sure D.now (dl D.loo) 0 (tears tear) = (crash P keep tear).map last := by
   rw [h1, h3, dl_lo]
   refine (dcrs_eq keep tear.toNat D.sure (lo P) P 0 (tears tear) (lo_nodup P) fun i hi => ?_).symm
   obtain ⟨q1, q2⟩ := mem_lo.1 hi
   exact ⟨q1, q2, by rw [h2]; simp [q1]⟩
  have hn : (crash P keep tear).length = n := by rw [c1, ← h.ok.l1, h1, List.length_map]
  have hsz : ∀ s ∈ (crash P keep tear).map last, s.size = 64 := by
   intro s hs
   obtain ⟨p, hp, rfl⟩ := List.mem_map.1 hs
   exact c2.last p hp
  unfold dcrash; rw [e]
  refine ⟨h.ls.trans hl, ⟨?_, ?_, ?_, hsz, hsz, h.ok.n1⟩, fun _ => ⟨rfl, last_fst c3, ?_⟩, fun e => by cases e⟩
  ·simp [dflush, hn]
  ·simp [dflush, hn]
  ·simp [dflush, hn]
  ·show List.replicate ((crash P keep tear).map last).length false = _
   rw [List.length_map]
   apply List.ext_getElem
   ·simp
   ·intro i q1 q2
    rw [List.getElem_replicate, List.getElem_map]
    exact (c3 _ (List.getElem_mem (by simpa using q2))).symm
end
end Go.Proofs.YtlnedgjikkhplaaGreat.Ns.M
namespace Go.Proofs.YtlnedgjikkhplaaGreat.Ns
open Go.RowKit
open M (ofL ofL_size ofL_of DD)
structure Hd where
 aN : Option Addr
 cN : Nat
 aS : Option Addr
 cS : Nat
 aL : Option Addr
 cL : Nat
def Hd.vals (h : Hd) (D : DD) : Array Value := #[.slice h.aN D.now.length h.cN, .slice h.aS D.sure.length h.cS, .slice h.aL D.loo.length h.cL, .bool D.lost]
def Hd.blk (h : Hd) (k : Nat) : Prop := YtlnedgjikkhplaaGreat.Ns.blk h.aN k ∨ YtlnedgjikkhplaaGreat.Ns.blk h.aS k ∨ YtlnedgjikkhplaaGreat.Ns.blk h.aL k
structure XD (w : World) (h : Hd) (D : DD) : Prop where
 n : AtV w h.aN (SC D.now)
 s : AtV w h.aS (SC D.sure)
 l : AtV w h.aL (BC D.loo)
 lt : ∀ k, h.blk k → k < w.heap.size
theorem XD.keepBut {w w' : World} {h : Hd} {D : DD} (x : XD w h D) (hb : ∀ k, k < w.heap.size → h.blk k → w'.heap[k]? = w.heap[k]?) (hs : w.heap.size ≤ w'.heap.size) : XD w' h D :=
 ⟨x.n.keepBut (fun k hk e => hb k hk (.inl e)), x.s.keepBut (fun k hk e => hb k hk (.inr (.inl e))), x.l.keepBut (fun k hk e => hb k hk (.inr (.inr e))), fun k hk => Nat.lt_of_lt_of_le (x.lt k hk) hs⟩
theorem XD.keep {w w' : World} {h : Hd} {D : DD} (x : XD w h D) (hb : Below w.heap.size w w') : XD w' h D := x.keepBut (fun k hk _ => hb.block k hk) hb.size
def DOut (w : World) (h : Hd) (D' : DD) (v : Array Value → Value) (e : Ending) (w' : World) : Prop := ∃ h' : Hd, e = .returned (v (h'.vals D')) ∧ XD w' h' D' ∧ (∀ k, h'.blk k → h.blk k ∨ w.heap.size ≤ k) ∧ Below w.heap.size w w'
theorem Tryz.size34 : (Tryz.prog.info? 34).map (·.size) = some 4 := by kernel_rfl
section
variable {w w0 : World} {B : Nat} {u0 u1 u2 u3 v0 v1 v2 v3 : Value}
def st4 (w : World) (B : Nat) (v0 v1 v2 v3 : Value) : World := (((w.setCell ⟨B, 0, none⟩ v0).setCell ⟨B, 1, none⟩ v1).setCell ⟨B, 2, none⟩ v2).setCell ⟨B, 3, none⟩ v3
theorem put4 (h : w.heap[B]? = some (.cells #[u0, u1, u2, u3] 34 (0, 0))) :
  (st4 w B v0 v1 v2 v3).heap[B]? = some (.cells #[v0, v1, v2, v3] 34 (0, 0)) ∧ (∀ k, k ≠ B → (st4 w B v0 v1 v2 v3).heap[k]? = w.heap[k]?) ∧ (st4 w B v0 v1 v2 v3).heap.size = w.heap.size := by
 have h1 : (w.setCell ⟨B, 0, none⟩ v0).heap[B]? = some (.cells #[v0, u1, u2, u3] 34 (0, 0)) := heap_setCell_same w B 0 _ _ _ h
 have h2 : ((w.setCell ⟨B, 0, none⟩ v0).setCell ⟨B, 1, none⟩ v1).heap[B]? = some (.cells #[v0, v1, u2, u3] 34 (0, 0)) := heap_setCell_same _ B 1 _ _ _ h1
 have h3 : (((w.setCell ⟨B, 0, none⟩ v0).setCell ⟨B, 1, none⟩ v1).setCell ⟨B, 2, none⟩ v2).heap[B]? = some (.cells #[v0, v1, v2, u3] 34 (0, 0)) := heap_setCell_same _ B 2 _ _ _ h2
 refine ⟨heap_setCell_same _ B 3 _ _ _ h3, fun k hk => ?_, by simp [st4]⟩
 unfold st4; rw [heap_setCell_other _ ⟨B, 3, none⟩ k _ hk, heap_setCell_other _ ⟨B, 2, none⟩ k _ hk, heap_setCell_other _ ⟨B, 1, none⟩ k _ hk, heap_setCell_other _ ⟨B, 0, none⟩ k _ hk]
theorem below4 {B' : Nat} (h : Below B' w0 w) (hB : B' ≤ B) : Below B' w0 (st4 w B v0 v1 v2 v3) := (((h.setCell hB _).setCell hB _).setCell hB _).setCell hB _
end
theorem ret4 {w W : World} {h h' : Hd} {D' : DD} {u0 u1 u2 u3 : Value} (hB : Below w.heap.size w W) (hr : W.heap[w.heap.size + 1]? = some (.cells #[u0, u1, u2, u3] 34 (0, 0))) (hx : XD W h' D') (hb : ∀ k, h'.blk k → k ≠ w.heap.size + 1 ∧ (h.blk k ∨ w.heap.size ≤ k)) (v : Array Value → Value) :
  (st4 W (w.heap.size + 1) (.slice h'.aN D'.now.length h'.cN) (.slice h'.aS D'.sure.length h'.cS) (.slice h'.aL D'.loo.length h'.cL) (.bool D'.lost)).heap[w.heap.size + 1]? = some (.cells (h'.vals D') 34 (0, 0)) ∧
   DOut w h D' v (.returned (v (h'.vals D'))) (st4 W (w.heap.size + 1) (.slice h'.aN D'.now.length h'.cN) (.slice h'.aS D'.sure.length h'.cS) (.slice h'.aL D'.loo.length h'.cL) (.bool D'.lost)) := by
 obtain ⟨p1, p2, p3⟩ := put4 (v0 := .slice h'.aN D'.now.length h'.cN) (v1 := .slice h'.aS D'.sure.length h'.cS) (v2 := .slice h'.aL D'.loo.length h'.cL) (v3 := .bool D'.lost) hr
 exact ⟨p1, h', rfl, hx.keepBut (fun k _ hk => p2 k (hb k hk).1) (by rw [p3]; exact Nat.le_refl _), fun k hk => (hb k hk).2, below4 hB (by omega)⟩
theorem box2 (w : World) (v0 v1 v2 v3 : Value) : ∃ W1, (w.alloc (.cells #[v0, v1, v2, v3] 34)).alloc (.cells #[.slice none 0 0, .slice none 0 0, .slice none 0 0, .bool false] 34) = W1 ∧ W1.heap.size = w.heap.size + 2 ∧ Below w.heap.size w W1 ∧ W1.heap[w.heap.size]? = some (.cells #[v0, v1, v2, v3] 34 (0, 0)) ∧ W1.heap[w.heap.size + 1]? = some (.cells #[.slice none 0 0, .slice none 0 0, .slice none 0 0, .bool false] 34 (0, 0)) := by
 refine ⟨_, rfl, by simp, Bu (bel1 w _) (bel1 _ _) Lr, (Below.heap_alloc _ _ _ (by simp)).trans (heap_alloc_last w _), ?_⟩
 have := heap_alloc_last (w.alloc (.cells #[v0, v1, v2, v3] 34)) (.cells #[.slice none 0 0, .slice none 0 0, .slice none 0 0, .bool false] 34)
 rwa [World.size_alloc] at this
theorem fin3 {w W1 w2 : World} {h : Hd} {D D' : DD} {aS : Option Addr} {cS : Nat} {lost : Bool} {u2 : Value} (hx : XD w h D) (hB : Below w.heap.size w W1) (hs : W1.heap.size = w.heap.size + 2)
  (hr0 : W1.heap[w.heap.size]? = some (.cells #[.slice h.aN D.now.length h.cN, .slice aS D'.sure.length cS, u2, .bool lost] 34 (0, 0)))
  (hr1 : W1.heap[w.heap.size + 1]? = some (.cells #[.slice none 0 0, .slice none 0 0, .slice none 0 0, .bool false] 34 (0, 0)))
  (hS : (aS = h.aN ∧ D'.sure = D.now) ∨ (aS = h.aS ∧ D'.sure = D.sure)) (hD : D' = { D' with now := D.now, loo := List.replicate D.now.length false, lost := lost })
  (ho : w2.ownsRow W1.heap.size 4 1 (.slice (some ⟨W1.heap.size, 0, none⟩) D.now.length D.now.length) D.now.length (BC (List.replicate D.now.length false))) (hg : W1.grownBy w2 none) (v : Array Value → Value) :
  ∃ W3, w2.setCell ⟨w.heap.size, 2, none⟩ (.slice (some ⟨W1.heap.size, 0, none⟩) D.now.length D.now.length) = W3 ∧ W3.heap[w.heap.size]? = some (.cells #[.slice h.aN D.now.length h.cN, .slice aS D'.sure.length cS, .slice (some ⟨W1.heap.size, 0, none⟩) D.now.length D.now.length, .bool lost] 34 (0, 0)) ∧ W3.heap[w.heap.size + 1]? = some (.cells #[.slice none 0 0, .slice none 0 0, .slice none 0 0, .bool false] 34 (0, 0)) ∧
   (st4 W3 (w.heap.size + 1) (.slice h.aN D.now.length h.cN) (.slice aS D'.sure.length cS) (.slice (some ⟨W1.heap.size, 0, none⟩) D.now.length D.now.length) (.bool lost)).heap[w.heap.size + 1]? = some (.cells #[.slice h.aN D.now.length h.cN, .slice aS D'.sure.length cS, .slice (some ⟨W1.heap.size, 0, none⟩) D.now.length D.now.length, .bool lost] 34 (0, 0)) ∧
   DOut w h D' v (.returned (v #[.slice h.aN D.now.length h.cN, .slice aS D'.sure.length cS, .slice (some ⟨W1.heap.size, 0, none⟩) D.now.length D.now.length, .bool lost])) (st4 W3 (w.heap.size + 1) (.slice h.aN D.now.length h.cN) (.slice aS D'.sure.length cS) (.slice (some ⟨W1.heap.size, 0, none⟩) D.now.length D.now.length) (.bool lost)) := by
 have e1 : D'.now = D.now := by rw [hD]
 have e2 : D'.loo = List.replicate D.now.length false := by rw [hD]
 have e3 : D'.lost = lost := by rw [hD]
 have e2l : D'.loo.length = D.now.length := by rw [e2, List.length_replicate]
 have q0 := (hg.block _ (by omega) (by simp)).trans hr0
 have q1 := (hg.block _ (by omega) (by simp)).trans hr1
 have hgs := hg.size
 have hb2 : Below w.heap.size w w2 := hB.grown hg hB.size (by simp)
 obtain ⟨a, cap, ev, hat, hbl, _⟩ := owns_at ho
 simp only [Value.slice.injEq, true_and] at ev
 obtain ⟨rfl, rfl⟩ := ev
 refine ⟨_, rfl, heap_setCell_same w2 w.heap.size 2 _ _ _ q0, (heap_setCell_other w2 ⟨w.heap.size, 2, none⟩ _ _ (by simp)).trans q1, ?_⟩
 have hB3 : Below w.heap.size w (w2.setCell ⟨w.heap.size, 2, none⟩ (.slice (some ⟨W1.heap.size, 0, none⟩) D.now.length D.now.length)) := hb2.setCell Lr _
 have hx3 := hx.keep hB3
 have hsub : ∀ k, (blk aS k → h.blk k) := fun k hk => by
  rcases hS with ⟨e, _⟩ | ⟨e, _⟩
  ·rw [e] at hk; exact .inl hk
  ·rw [e] at hk; exact .inr (.inl hk)
 have hX : XD (w2.setCell ⟨w.heap.size, 2, none⟩ (.slice (some ⟨W1.heap.size, 0, none⟩) D.now.length D.now.length)) ⟨h.aN, h.cN, aS, cS, some ⟨W1.heap.size, 0, none⟩, D.now.length⟩ D' := by
  refine ⟨by rw [e1]; exact hx3.n, ?_, ?_, ?_⟩
  ·rcases hS with ⟨rfl, e⟩ | ⟨rfl, e⟩
   ·rw [e]; exact hx3.n
   ·rw [e]; exact hx3.s
  ·rw [e2]
   refine hat.keepBut fun k hk hb' => heap_setCell_other w2 ⟨w.heap.size, 2, none⟩ k _ ?_
   have := (hbl k hb').1
   show k ≠ w.heap.size
   omega
  ·rintro k (hk | hk | hk)
   ·exact hx3.lt k (.inl hk)
   ·exact hx3.lt k (hsub k hk)
   ·have := (hbl k hk).2.2
    simp
    exact this
 have hr := ret4 (h := h) (h' := ⟨h.aN, h.cN, aS, cS, some ⟨W1.heap.size, 0, none⟩, D.now.length⟩) (D' := D') hB3 ((heap_setCell_other w2 ⟨w.heap.size, 2, none⟩ _ _ (by simp)).trans q1) hX (by
  rintro k (hk | hk | hk)
  ·have := hx.lt k (.inl hk)
   exact ⟨by omega, .inl (.inl hk)⟩
  ·have := hx.lt k (hsub k hk)
   exact ⟨by omega, .inl (hsub k hk)⟩
  ·have := (hbl k hk).1
   exact ⟨by omega, .inr (by omega)⟩) v
 unfold Hd.vals at hr
 simp only [e1, e3, e2l] at hr
 exact hr
theorem made_bools (n : Nat) : (madeCells (Value.bool false).cells (n * 1)).toList = BC (List.replicate n false) := by
 rw [Nat.mul_one]
 show (madeCells #[Value.bool false] n).toList = _
 rw [toList_madeCells_one]
 simp [BC]
theorem f51_res : Tryz.f51.results = #[.cell 2 34] := rfl
theorem rflush_any (h : Hd) (D : DD) (w : World) (hn : D.now.length ≤ 4096) (hx : XD w h D) : Calls Tryz.prog 51 #[.agg (h.vals D)] w (DOut w h (M.dflush D) .agg) := by
 obtain ⟨i0, hi, hz0, hz1, hz2⟩ := info_parts Tryz.info4
 unfold Hd.vals
 obtain ⟨W1, hW1, hs1, hB1, hr0, hr1⟩ := box2 w (.slice h.aN D.now.length h.cN) (.slice h.aN D.now.length h.cN) (.slice h.aL D.loo.length h.cL) (.bool D.lost)
 have HW1 := Hf hW1
 have HF := Hf (fun w2 ho hg => fin3 (w2 := w2) (D' := M.dflush D) hx hB1 hs1 hr0 hr1 (.inl ⟨rfl, rfl⟩) rfl ho hg .agg)
 obtain ⟨⟨k0, k1, k2, k3⟩, _⟩ := row4 hr0
 have HR0 := Hf hr0
 have hlt0 : w.heap.size < W1.heap.size := by omega
 clear hx hW1 hB1 hs1 hr0 hr1
 go_enter Tryz.func51, Tryz.ntmps51
 go_upto_region 2 with fail
 rw [HW1.out]
 go_upto_region 3 with (at_make; refine wpList_make_full _ rfl (.tmp 8) (.tmp 8) 32 rfl W1.heap.size 4 i0 (.bool false) 1 Tryz.underlying32 hi hz0 hz1 .i64 .i64 _ _ D.now.length rfl rfl rfl rfl (by rw [hz2]; omega) (by unfold maxLen; omega) Lr ?_; intro w2 ho hg; obtain ⟨⟨q0, q1, q2, q3⟩, qf⟩ := row4 ((hg.block _ hlt0 (by simp)).trans HR0.out); have qf2 := qf 2; clear qf; rw [made_bools] at ho)
 obtain ⟨W3, hW3, m0, m1, m2, m3⟩ := HF.out w2 ho hg
 rw [hW3]
 obtain ⟨⟨t0, t1, t2, t3⟩, _⟩ := row4 m0
 obtain ⟨⟨s0, s1, s2, s3⟩, sf⟩ := row4 m1
 have sf0 := sf 0
 have sf1 := sf 1
 have sf2 := sf 2
 have sf3 := sf 3
 have HM2 := Hf m2
 have HM3 := Hf m3
 clear HF HW1 HR0 ho hg q0 q1 q2 q3 qf2 k0 k1 k2 k3 hW3 m0 m1 m2 m3 sf hi hz0 hz1 hz2
 generalize M.dflush D = D' at *
 go_wp2
 refine bodyPost_ret (v := .agg #[.slice h.aN D.now.length h.cN, .slice h.aN D'.sure.length h.cN, .slice (some ⟨W1.heap.size, 0, none⟩) D.now.length D.now.length, .bool D.lost]) ?_ rfl HM3.out
 exact results_cell_row f51_res _ _ (w.heap.size + 1) 34 _ (0, 0) _ rfl HM2.out Tryz.underlying34 rfl Tryz.size34
def dlk (loo : List Bool) (k : Nat) : List Nat := (List.range k).filter fun i => (loo[i]?).getD false
theorem dlk_step (loo : List Bool) (k : Nat) (h : k < loo.length) : dlk loo (k + 1) = dlk loo k ++ (bif loo[k] then [k] else []) := by
 unfold dlk; rw [List.range_succ, List.filter_append, List.filter_cons, List.getElem?_eq_getElem h, Option.getD_some]
 cases loo[k] <;> simp
theorem dlk_len (loo : List Bool) (k : Nat) : (dlk loo k).length ≤ k := by
 have := List.length_filter_le (fun i => (loo[i]?).getD false) (List.range k)
 rw [List.length_range] at this
 exact this
theorem rloose_any (h : Hd) (D : DD) (w : World) (hn : D.loo.length ≤ 4096) (hx : XD w h D) :
  Calls Tryz.prog 50 #[.agg (h.vals D)] w fun e w' => ∃ v : Value, e = .returned v ∧ w'.ownsRow w.heap.size 3 1 v (M.zs (M.dl D.loo)).length (IC (M.zs (M.dl D.loo))) ∧ Below w.heap.size w w' := by
 obtain ⟨aN, cN, aS, cS, aL, cL⟩ := h
 have HX : Hid (∀ W, Below w.heap.size w W → AtV W aL (BC D.loo)) := fun W hW => (hx.keep hW).l
 unfold Hd.vals
 dsimp only
 obtain ⟨W1, HW1⟩ := Nh (w.alloc (.cells #[.slice aN D.now.length cN, .slice aS D.sure.length cS, .slice aL D.loo.length cL, .bool D.lost] 34))
 have HB1 : Hid (Below w.heap.size w W1) := by rw [← HW1.out]; exact bel1 w _
 have HR1 : Hid (W1.heap[w.heap.size]? = some (.cells #[.slice aN D.now.length cN, .slice aS D.sure.length cS, .slice aL D.loo.length cL, .bool D.lost] 34 (0, 0))) := by rw [← HW1.out]; exact heap_alloc_last w _
 have hlt : w.heap.size < W1.heap.size := (Array.getElem?_eq_some_iff.1 HR1.out).1
 clear hx
 go_enter Tryz.func50, Tryz.ntmps50
 go_upto_region 1 with fail
 rw [HW1.out]; clear HW1; go_wp2
 go_loopw [3, 4] (fun v i wr => ∃ k : Nat, k ≤ D.loo.length ∧ i = .int .i64 k ∧ wr.ownsRow W1.heap.size 3 1 v (M.zs (dlk D.loo k)).length (IC (M.zs (dlk D.loo k))) ∧ Below W1.heap.size W1 wr) (fun _ i _ => D.loo.length - (intOf i).toNat)
 case atStart => exact ⟨0, Nat.zero_le _, rfl, World.ownsRow_nil _ _ _ _, Below.refl _ _⟩
 case round =>
  obtain ⟨k, hk, rfl, ho, hb⟩ := hrel
  obtain ⟨⟨_, _, c2, _⟩, _⟩ := row4 ((hb.block _ hlt).trans HR1.out)
  obtain ⟨a, cap, rfl, _, _⟩ := owns_at ho
  by_cases hlt2 : k < D.loo.length
  ·obtain ⟨b, off, rfl, d0⟩ := (HX.out _ (Bu HB1.out hb Lr)).bool k hlt2
   have hst := dlk_step D.loo k hlt2
   have hll := dlk_len D.loo k
   have HB := Hf hb
   cases hbk : D.loo[k] with
   | false =>
    rw [hbk, cond_false, List.append_nil] at hst; rw [hbk] at d0
    have HO : Hid (wr.ownsRow W1.heap.size 3 1 (.slice a (M.zs (dlk D.loo k)).length cap) (M.zs (dlk D.loo (k + 1))).length (IC (M.zs (dlk D.loo (k + 1))))) := by rw [hst]; exact ho
    clear ho hb hst hbk HX
    generalize (M.zs (dlk D.loo k)).length = ll at *
    go_wp2
    go_roundw
    case rel => exact ⟨k + 1, by omega, by go_num, HO.out, HB.out⟩
    case measure => simp [intOf]; omega
   | true =>
    rw [hbk, cond_true] at hst; rw [hbk] at d0
    obtain ⟨gg, cp, w3, hrun, ho3, hrw⟩ := run_app_int (wr.alloc (.cells #[.int .i64 (k : Int)] 3)) W1.heap.size _ (M.zs (dlk D.loo k)) k wr.heap.size 1 82 (owns_keep ho (bel1 wr _)) (heap_alloc_last wr _) (by rw [M.zs_len]; omega) (by have := hb.size; simp; omega)
    have ez : M.zs (dlk D.loo k) ++ [(k : Int)] = M.zs (dlk D.loo (k + 1)) := by rw [hst]; simp [M.zs]
    rw [ez] at ho3
    have HO := Hf (And.intro ho3 ((Bu hb (bel1 wr _) Lr).trans (hrw.below (fun j hj => (World.ownsRow.lt ho j hj).1) (by have := hb.size; simp; omega))))
    clear ho hb hst hbk HX ho3 hrw ez
    generalize (M.zs (dlk D.loo k)).length = ll at *
    go_wp2_with (at_builtin; refine wpList_append_known rfl (.tmp 17) (.tmp 19) 82 rfl _ _ (by simp [Act.eval]) (by simp [Act.eval]) _ _ hrun ?_)
    go_roundw
    case rel => exact ⟨k + 1, by omega, by go_num, HO.out⟩
    case measure => simp [intOf]; omega
  ·obtain rfl : k = D.loo.length := by omega
   have HO : Hid (wr.ownsRow w.heap.size 3 1 (.slice a (M.zs (dlk D.loo D.loo.length)).length cap) (M.zs (M.dl D.loo)).length (IC (M.zs (M.dl D.loo))) ∧ Below w.heap.size w wr) := ⟨owns_low ho (by omega), Bu HB1.out hb Lr⟩
   clear ho hb HX
   generalize (M.zs (dlk D.loo D.loo.length)).length = ll at *
   go_wp2
   go_ret
   exact ⟨_, rfl, HO.out⟩
def RdD (w : World) (D : DD) (at' m : Int) (e : Ending) (w' : World) : Prop := e = .returned (.tuple #[.string (M.dread D at' m), .int .i64 (M.refused D.now.length D.lost at' m)]) ∧ Below w.heap.size w w'
theorem cat_step (L : List ByteArray) (a k : Nat) (h : a + k < L.length) : M.cat ((L.drop a).take k) ++ L[a + k] = M.cat ((L.drop a).take (k + 1)) := by
 have hl : k < (L.drop a).length := by simp; omega
 rw [List.take_succ_eq_append_getElem hl, M.cat_app]
 simp
theorem ref_cases (n : Nat) (lost : Bool) (at' m : Int) :
  (at' < 0 ∧ M.refused n lost at' m = 1) ∨ (0 ≤ at' ∧ m < 1 ∧ M.refused n lost at' m = 1) ∨ (0 ≤ at' ∧ 1 ≤ m ∧ (n : Int) < at' ∧ M.refused n lost at' m = 5) ∨ (0 ≤ at' ∧ 1 ≤ m ∧ at' ≤ n ∧ (n : Int) - at' < m ∧ M.refused n lost at' m = 5) ∨
  (0 ≤ at' ∧ 1 ≤ m ∧ at' ≤ n ∧ m ≤ (n : Int) - at' ∧ lost = true ∧ M.refused n lost at' m = 8) ∨ (lost = false ∧ (∃ a k : Nat, at' = a ∧ m = k ∧ 1 ≤ k ∧ a + k ≤ n) ∧ M.refused n lost at' m = 0) := by
 by_cases h1 : at' < 0
 ·exact .inl ⟨h1, by unfold M.refused; rw [decide_eq_true h1]; rfl⟩
 by_cases h2 : m < 1
 ·exact .inr (.inl ⟨by omega, h2, by unfold M.refused; rw [decide_eq_true h2, Bool.or_true]; rfl⟩)
 by_cases h3 : (n : Int) < at'
 ·exact .inr (.inr (.inl ⟨by omega, by omega, h3, by unfold M.refused; rw [decide_eq_false h1, decide_eq_false h2, decide_eq_true (show at' > (n : Int) - m by omega)]; rfl⟩))
 by_cases h4 : (n : Int) - at' < m
 ·exact .inr (.inr (.inr (.inl ⟨by omega, by omega, by omega, h4, by unfold M.refused; rw [decide_eq_false h1, decide_eq_false h2, decide_eq_true (show at' > (n : Int) - m by omega)]; rfl⟩)))
 cases lost with
 | true => exact .inr (.inr (.inr (.inr (.inl ⟨by omega, by omega, by omega, by omega, rfl, by unfold M.refused; rw [decide_eq_false h1, decide_eq_false h2, decide_eq_false (show ¬ at' > (n : Int) - m by omega)]; rfl⟩))))
 | false => exact .inr (.inr (.inr (.inr (.inr ⟨rfl, ⟨at'.toNat, m.toNat, by omega, by omega, by omega, by omega⟩, by unfold M.refused; rw [decide_eq_false h1, decide_eq_false h2, decide_eq_false (show ¬ at' > (n : Int) - m by omega)]; rfl⟩))))
theorem rread_any (h : Hd) (D : DD) (at' m : Int) (w : World) (hn : D.now.length ≤ 4096) (hsz : ∀ s ∈ D.now, s.size = 64) (hx : XD w h D) :
  Calls Tryz.prog 41 #[.agg (h.vals D), .int .i64 at', .int .i64 m] w (RdD w D at' m) := by
 obtain ⟨aN, cN, aS, cS, aL, cL⟩ := h
 have HX : Hid (∀ W, Below w.heap.size w W → AtV W aN (SC D.now)) := fun W hW => (hx.keep hW).n
 unfold Hd.vals
 dsimp only
 obtain ⟨⟨c0, c1, c2, c3⟩, _⟩ := row4 (heap_alloc_last w (.cells #[.slice aN D.now.length cN, .slice aS D.sure.length cS, .slice aL D.loo.length cL, .bool D.lost] 34))
 have HB : Hid (Below w.heap.size w (w.alloc (.cells #[.slice aN D.now.length cN, .slice aS D.sure.length cS, .slice aL D.loo.length cL, .bool D.lost] 34))) := bel1 w _
 have HSZ := Hf hsz
 clear hx hsz
 have HK : ∀ r, M.refused D.now.length D.lost at' m = r → r ≠ 0 → Hid (RdD w D at' m (.returned (.tuple #[.string M.E, .int .i64 r])) (w.alloc (.cells #[.slice aN D.now.length cN, .slice aS D.sure.length cS, .slice aL D.loo.length cL, .bool D.lost] 34))) := fun r hr h0 => by
  subst hr; unfold RdD M.dread; rw [decide_eq_false h0]
  exact ⟨rfl, HB.out⟩
 rcases ref_cases D.now.length D.lost at' m with ⟨h1, hr⟩ | ⟨h1, h2, hr⟩ | ⟨h1, h2, h3, hr⟩ | ⟨h1, h2, h3, h4, hr⟩ | ⟨h1, h2, h3, h4, h5, hr⟩ | ⟨h5, ⟨a, k, rfl, rfl, h6, h7⟩, hr⟩
 ·have hd : decide (at' < 0) = true := by simpa using h1
  have HQ := HK 1 hr (by decide)
  clear hr HX HK HB
  go_enter Tryz.func41, Tryz.ntmps41
  go_wp2
  go_ret2
  exact HQ.out
 ·have hd : decide (at' < 0) = false := by simpa using h1
  have hd2 : decide (m < 1) = true := by simpa using h2
  have HQ := HK 1 hr (by decide)
  clear hr HX HK HB
  go_enter Tryz.func41, Tryz.ntmps41
  go_wp2
  go_ret2
  exact HQ.out
 ·have hd : decide (at' < 0) = false := by simpa using h1
  have hd2 : decide (m < 1) = false := by simpa using h2
  have hd3 : decide ((D.now.length : Int) < at') = true := by simpa using h3
  have HQ := HK 5 hr (by decide)
  clear hr HX HK HB
  go_enter Tryz.func41, Tryz.ntmps41
  go_wp2
  go_ret2
  exact HQ.out
 ·have hd : decide (at' < 0) = false := by simpa using h1
  have hd2 : decide (m < 1) = false := by simpa using h2
  have hd3 : decide ((D.now.length : Int) < at') = false := by simpa using h3
  have hd4 : decide ((D.now.length : Int) - at' < m) = true := by simpa using h4
  have HQ := HK 5 hr (by decide)
  clear hr HX HK HB
  go_enter Tryz.func41, Tryz.ntmps41
  go_wp2
  go_ret2
  exact HQ.out
 ·have hd : decide (at' < 0) = false := by simpa using h1
  have hd2 : decide (m < 1) = false := by simpa using h2
  have hd3 : decide ((D.now.length : Int) < at') = false := by simpa using h3
  have hd4 : decide ((D.now.length : Int) - at' < m) = false := by simpa using h4
  have HQ := HK 8 hr (by decide)
  clear hr HX HK HB; rw [h5] at c0 c1 c2 c3 HQ ⊢
  go_enter Tryz.func41, Tryz.ntmps41
  go_wp2
  go_ret2
  exact HQ.out
 ·have hd3 : decide ((D.now.length : Int) < (a : Int)) = false := by simp; omega
  have hd4 : decide ((D.now.length : Int) - (a : Int) < (k : Int)) = false := by simp; omega
  have hd2 : decide ((k : Int) < 1) = false := by simp; omega
  have hd1 : decide ((a : Int) < 0) = false := by simp
  have hd5 : decide (D.now.length < a) = false := by simp; omega
  have HQ : Hid (∀ W, Below w.heap.size w W → RdD w D (a : Int) (k : Int) (.returned (.tuple #[.string (M.cat ((D.now.drop a).take k)), .int .i64 0])) W) := fun W hW => by
   unfold RdD M.dread; rw [hr]
   exact ⟨rfl, hW⟩
  clear hr HK; rw [h5] at c0 c1 c2 c3 HB ⊢
  obtain ⟨W1, HW1⟩ := Nh (w.alloc (.cells #[.slice aN D.now.length cN, .slice aS D.sure.length cS, .slice aL D.loo.length cL, .bool false] 34))
  rw [HW1.out] at c0 c1 c2 c3 HB
  go_enter Tryz.func41, Tryz.ntmps41
  go_upto_region 1 with fail
  rw [HW1.out]; clear HW1; go_wp2
  go_loopw [8, 9] (fun s i wr => ∃ j : Nat, j ≤ k ∧ s = .string (M.cat ((D.now.drop a).take j)) ∧ i = .int .i64 j ∧ wr = W1) (fun _ i _ => k - (intOf i).toNat)
  case atStart => exact ⟨0, Nat.zero_le _, rfl, rfl, rfl⟩
  case round =>
   obtain ⟨j, hj, rfl, rfl, rfl⟩ := hrel
   by_cases hlt : j < k
   ·obtain ⟨b, off, rfl, d0⟩ := (HX.out _ HB.out).str (a + j) (by omega)
    have hst := cat_step D.now a j (by omega)
    have HST := Hf hst
    have hx64 : (D.now[a + j]'(by omega)).size = 64 := HSZ.out _ (List.getElem_mem _)
    have hcj : (M.cat ((D.now.drop a).take j)).size ≤ 300000 := by
     rw [M.cat_size _ (fun s hs => HSZ.out s (List.mem_of_mem_drop (List.mem_of_mem_take hs))), List.length_take]
     have : min j (D.now.drop a).length ≤ j := Nat.min_le_left _ _
     omega
    clear HX hst
    generalize D.now[a + j]'(by omega) = x at *
    generalize M.cat ((D.now.drop a).take j) = cj at *
    go_wp2
    go_roundw
    case rel => exact ⟨j + 1, by omega, by rw [HST.out], by go_num, by first | rfl | trivial⟩
    case measure => simp [intOf]; omega
   ·obtain rfl : j = k := by omega
    have HQ2 := Hf (HQ.out _ HB.out)
    clear HX HQ; go_wp2
    go_ret2
    exact HQ2.out
end Go.Proofs.YtlnedgjikkhplaaGreat.Ns
