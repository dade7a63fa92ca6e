/-
  The document's device, as plain lists, and how it goes with the program's.
-/
import Derived.Test.YtjbdicnenkganaaM
namespace Go.Proofs.Ytjbdicnenkganaa.M

structure DD where
  now : List ByteArray
  sure : List ByteArray
  loo : List Bool
  lost : Bool
/-- Of n sectors of 64 bytes. -/
structure DD.Ok (D : DD) (n : Nat) : Prop where
  l1 : D.now.length = n
  l2 : D.sure.length = n
  l3 : D.loo.length = n
  s1 : ∀ s ∈ D.now, s.size = 64
  s2 : ∀ s ∈ D.sure, s.size = 64
  n1 : 1 ≤ n ∧ n ≤ 4096
def dl (loo : List Bool) : List Nat := (List.range loo.length).filter fun i => (loo[i]?).getD false
theorem dl_len (loo : List Bool) : (dl loo).length ≤ loo.length := by
  have := List.length_filter_le (fun i => (loo[i]?).getD false) (List.range loo.length)
  rw [List.length_range] at this
  exact this
theorem dl_lo (P : List Pl) : dl (P.map lse) = lo P := by
  unfold dl lo
  rw [List.length_map]
  apply List.filter_congr
  intro i hi
  rw [List.mem_range] at hi
  simp [hi]
theorem dl_none (n : Nat) : dl (List.replicate n false) = [] := by
  unfold dl
  rw [List.filter_eq_nil_iff]
  intro i hi
  rw [List.mem_range] at hi
  rw [List.getElem?_eq_getElem hi]
  simp
theorem dl_lt {loo : List Bool} {i : Nat} (h : i ∈ dl loo) : i < loo.length := by
  unfold dl at h
  rw [List.mem_filter, List.mem_range] at h
  exact h.1
/-- k sectors from at on are s. -/
def dwn (now : List ByteArray) (at' : Nat) (s : ByteArray) : Nat → List ByteArray
  | 0 => now
  | k + 1 => (dwn now at' s k).set (at' + k) (pc s k)
def dwl (loo : List Bool) (at' : Nat) : Nat → List Bool
  | 0 => loo
  | k + 1 => (dwl loo at' k).set (at' + k) true
theorem dwn_len (now : List ByteArray) (at' : Nat) (s : ByteArray) (k : Nat) : (dwn now at' s k).length = now.length := by
  induction k with
  | zero => rfl
  | succ k ih => rw [dwn, List.length_set, ih]
theorem dwl_len (loo : List Bool) (at' : Nat) (k : Nat) : (dwl loo at' k).length = loo.length := by
  induction k with
  | zero => rfl
  | succ k ih => rw [dwl, List.length_set, ih]
theorem dwn_size {now : List ByteArray} (h : ∀ s ∈ now, s.size = 64) (at' : Nat) (s : ByteArray) (k : Nat) (hk : k ≤ s.size / 64) : ∀ t ∈ dwn now at' s k, t.size = 64 := by
  induction k with
  | zero => exact h
  | succ k ih =>
    intro t ht
    rcases List.mem_or_eq_of_mem_set ht with h' | h'
    · exact ih (by omega) t h'
    · rw [h']; exact pc_size s k (by omega)
theorem wr_last (P : List Pl) (at' : Nat) (s : ByteArray) (k : Nat) (hk : k ≤ s.size / 64) : (wr P at' s k).map last = dwn (P.map last) at' s k ∧ (wr P at' s k).map lse = dwl (P.map lse) at' k := by
  induction k with
  | zero => exact ⟨rfl, rfl⟩
  | succ k ih =>
    obtain ⟨h1, h2⟩ := ih (by omega)
    have hs := pc_size s k (by omega)
    rw [wr, st_last _ _ _ hs, st_lse _ _ _ hs, h1, h2]
    exact ⟨rfl, rfl⟩
def dwrote (D : DD) (at' : Int) (s : ByteArray) : DD := bif decide (wcode D.now.length D.lost at' s = 0) then { D with now := dwn D.now at'.toNat s (s.size / 64), loo := dwl D.loo at'.toNat (s.size / 64) } else D
def dread (D : DD) (at' m : Int) : ByteArray := bif decide (refused D.now.length D.lost at' m = 0) then cat ((D.now.drop at'.toNat).take m.toNat) else E
def dflush (D : DD) : DD := { D with sure := D.now, loo := List.replicate D.now.length false }
/-- The loose ones L, of which the first is the k-th. -/
def dcrs (keep tear : Nat) (sure : List ByteArray) (now : List ByteArray) : List Nat → Nat → Bool → List ByteArray
  | [], _, _ => now
  | i :: L, k, t => bif kept keep k then dcrs keep tear sure now L (k + 1) t else dcrs keep tear sure (now.set i (bif t then ((now[i]?).getD E).extract 0 tear ++ ((sure[i]?).getD E).extract tear 64 else (sure[i]?).getD E)) L (k + 1) false
def dcrash (D : DD) (keep : Nat) (tear : Int) : DD := dflush { D with now := dcrs keep tear.toNat D.sure D.now (dl D.loo) 0 (tears tear) }
def dlose (D : DD) : DD := { D with lost := true, loo := List.replicate D.now.length false }
theorem dcrs_eq (keep tear : Nat) (sure : List ByteArray) (L : List Nat) : ∀ (P : List Pl) (k : Nat) (t : Bool), L.Nodup → (∀ i ∈ L, ∃ h : i < P.length, lse P[i] = true ∧ sure[i]? = some P[i].1) → (crs keep tear P L k t).map last = dcrs keep tear sure (P.map last) L k t := by
  induction L with
  | nil => intro P k t _ _; rfl
  | cons i L ih =>
    intro P k t hn hl
    obtain ⟨hi, hls, hsu⟩ := hl i List.mem_cons_self
    rw [List.nodup_cons] at hn
    have hrest : ∀ v : ByteArray, ∀ j ∈ L, ∃ h : j < (P.set i (v, E)).length, lse (P.set i (v, E))[j] = true ∧ sure[j]? = some (P.set i (v, E))[j].1 := by
      intro v j hj
      obtain ⟨h1, h2, h3⟩ := hl j (List.mem_cons_of_mem _ hj)
      refine ⟨by rw [List.length_set]; exact h1, ?_⟩
      rw [List.getElem_set_ne (fun e => hn.1 (by rw [e]; exact hj))]
      exact ⟨h2, h3⟩
    rw [crs, dcrs, ih _ _ _ hn.2 (hrest _), List.map_set, last_E, List.getElem?_eq_getElem hi, Option.getD_some, hsu, Option.getD_some]
    have hnow : ((P.map last)[i]?).getD E = P[i].2 := by simp [hi, lse_yes hls]
    rw [hnow]
    unfold nv
    cases hkp : kept keep k with
    | true =>
      simp only [cond_true, Bool.and_true]
      congr 1
      rw [← lse_yes hls]
      apply List.ext_getElem
      · simp
      · intro j h1 h2
        rw [List.getElem_set]
        split
        · rename_i e
          subst e
          simp
        · rfl
    | false =>
      simp only [cond_false, Bool.and_false]
      rfl
/-- Both go together. -/
structure RR (n : Nat) (P : List Pl) (lost : Bool) (D : DD) : Prop where
  ls : D.lost = lost
  ok : D.Ok n
  live : lost = false → D.now = P.map last ∧ D.sure = P.map Prod.fst ∧ D.loo = P.map lse
  dead : lost = true → P = [] ∧ D.loo = List.replicate n false
section
variable {n : Nat} {P : List Pl} {lost : Bool} {D : DD}
theorem RR.loose (h : RR n P lost D) : dl D.loo = lo P := by
  cases lost with
  | false => rw [(h.live rfl).2.2, dl_lo]
  | true => rw [(h.dead rfl).2, (h.dead rfl).1, dl_none]; rfl
theorem RR.read (h : RR n P lost D) (at' m : Int) : dread D at' m = rtext n lost P at' m := by
  unfold dread rtext
  rw [h.ok.l1, h.ls]
  cases hd : decide (refused n lost at' m = 0) with
  | false => rfl
  | true =>
    have := refused_ok (by simpa using hd)
    rw [(h.live this.1).1]
theorem RR.code (h : RR n P lost D) (at' : Int) (s : ByteArray) : wcode D.now.length D.lost at' s = wcode n lost at' s := by rw [h.ok.l1, h.ls]
theorem RR.write (h : RR n P lost D) (at' : Int) (s : ByteArray) : RR n (wrote n lost P at' s) lost (dwrote D at' s) := by
  unfold dwrote wrote
  rw [h.code]
  cases hd : decide (wcode n lost at' s = 0) with
  | false => exact h
  | true =>
    obtain ⟨_, hr⟩ := wcode_ok (by simpa using hd)
    obtain ⟨hl, _⟩ := refused_ok hr
    obtain ⟨h1, h2, h3⟩ := h.live hl
    obtain ⟨w1, w2⟩ := wr_last P at'.toNat s (s.size / 64) (Nat.le_refl _)
    refine ⟨h.ls, ⟨?_, h.ok.l2, ?_, dwn_size h.ok.s1 _ _ _ (Nat.le_refl _), h.ok.s2, h.ok.n1⟩, fun _ => ⟨?_, ?_, ?_⟩, fun e => by rw [hl] at e; cases e⟩
    · simp only [cond_true, dwn_len]; exact h.ok.l1
    · simp only [cond_true, dwl_len]; exact h.ok.l3
    · simp only [cond_true]; rw [w1, h1]
    · simp only [cond_true]; rw [wr_fst, h2]
    · simp only [cond_true]; rw [w2, h3]
theorem dflush_ok (h : D.Ok n) : (dflush D).Ok n := ⟨h.l1, h.l1, by simp [dflush, h.l1], h.s1, h.s1, h.n1⟩
theorem rr_flush (h : RR n P lost D) : RR n (flush P) lost (dflush D) := by
  refine ⟨h.ls, dflush_ok h.ok, fun hl => ?_, fun hl => ?_⟩
  · obtain ⟨h1, h2, h3⟩ := h.live hl
    refine ⟨by show D.now = _; rw [flush_last, h1], by show D.now = _; rw [flush_fst, h1], ?_⟩
    show List.replicate D.now.length false = _
    rw [h1, List.length_map]
    apply List.ext_getElem
    · rw [List.length_replicate, List.length_map, flush_len]
    · intro i q1 q2
      rw [List.getElem_replicate, List.getElem_map]
      exact (flush_lse P _ (List.getElem_mem (by simpa using q2))).symm
  · rw [(h.dead hl).1]
    exact ⟨rfl, by show List.replicate D.now.length false = _; rw [h.ok.l1]⟩
theorem RR.lose (h : RR n P lost D) : RR n [] true (dlose D) :=
  ⟨rfl, ⟨h.ok.l1, h.ok.l2, by simp [dlose, h.ok.l1], h.ok.s1, h.ok.s2, h.ok.n1⟩, (fun e => by cases e), fun _ => ⟨rfl, by show List.replicate D.now.length false = _; rw [h.ok.l1]⟩⟩
theorem rr_crash (h : RR n P lost D) (hP : M.Ok P) (keep : Nat) (tear : Int) : RR n (crash P keep tear) lost (dcrash D keep tear) := by
  cases hl : lost with
  | true =>
    have hd := h.dead hl
    have e : dcrash D keep tear = dflush D := by
      unfold dcrash
      rw [hd.2, dl_none]
      rfl
    rw [e, hd.1]
    have := rr_flush h
    rw [hd.1, hl] at this
    exact this
  | false =>
    obtain ⟨h1, h2, h3⟩ := h.live hl
    obtain ⟨c1, c2, c3⟩ := crash_spec hP keep tear
    have e : dcrs keep tear.toNat D.sure D.now (dl D.loo) 0 (tears tear) = (crash P keep tear).map last := by
      rw [h1, h3, dl_lo]
      refine (dcrs_eq keep tear.toNat D.sure (lo P) P 0 (tears tear) (lo_nodup P) fun i hi => ?_).symm
      obtain ⟨q1, q2⟩ := mem_lo.1 hi
      exact ⟨q1, q2, by rw [h2]; simp [q1]⟩
    have hn : (crash P keep tear).length = n := by rw [c1, ← h.ok.l1, h1, List.length_map]
    have hsz : ∀ s ∈ (crash P keep tear).map last, s.size = 64 := by
      intro s hs
      obtain ⟨p, hp, rfl⟩ := List.mem_map.1 hs
      exact c2.last p hp
    unfold dcrash
    rw [e]
    refine ⟨h.ls.trans hl, ⟨?_, ?_, ?_, hsz, hsz, h.ok.n1⟩, fun _ => ⟨rfl, last_fst c3, ?_⟩, fun e => by cases e⟩
    · simp [dflush, hn]
    · simp [dflush, hn]
    · simp [dflush, hn]
    · show List.replicate ((crash P keep tear).map last).length false = _
      rw [List.length_map]
      apply List.ext_getElem
      · simp
      · intro i q1 q2
        rw [List.getElem_replicate, List.getElem_map]
        exact (c3 _ (List.getElem_mem (by simpa using q2))).symm
end
end Go.Proofs.Ytjbdicnenkganaa.M
