/-
  A device of sectors, as plain lists.
-/
namespace Go.Proofs.YtlnedgjikkhplaaGreat.Ns.M

/-- A sector: as at the last Flush, and as it was written since (empty if it was not). -/
abbrev Pl := ByteArray × ByteArray
abbrev E : ByteArray := ⟨#[]⟩
theorem size_E : E.size = 0 := rfl
theorem eq_E {s : ByteArray} (h : s.size = 0) : s = E := by
  apply ByteArray.ext
  exact Array.eq_empty_of_size_eq_zero h
/-- Is it loose? -/
def lse (p : Pl) : Bool := !decide (p.2.size = 0)
/-- As it was written last. -/
def last (p : Pl) : ByteArray := bif lse p then p.2 else p.1
/-- It stays as it was written last. -/
def cl (p : Pl) : Pl := (last p, E)
theorem lse_E (s : ByteArray) : lse (s, E) = false := rfl
theorem last_E (s : ByteArray) : last (s, E) = s := rfl
theorem lse_yes {p : Pl} (h : lse p = true) : last p = p.2 := by unfold last; rw [h]; rfl
theorem lse_no {p : Pl} (h : lse p = false) : last p = p.1 ∧ p.2 = E := by
  refine ⟨by unfold last; rw [h]; rfl, eq_E ?_⟩
  unfold lse at h
  simpa using h
theorem lse_64 {p : Pl} (h : p.2.size = 64) : lse p = true := by unfold lse; rw [h]; rfl
/-- Sectors are of 64 bytes. -/
def Ok (P : List Pl) : Prop := ∀ p ∈ P, p.1.size = 64 ∧ (p.2.size = 64 ∨ p.2.size = 0)
theorem Ok.get {P : List Pl} (h : Ok P) (i : Nat) (hi : i < P.length) : P[i].1.size = 64 ∧ (P[i].2.size = 64 ∨ P[i].2.size = 0) := h _ (List.getElem_mem hi)
theorem Ok.set {P : List Pl} (h : Ok P) (i : Nat) (p : Pl) (hp : p.1.size = 64 ∧ (p.2.size = 64 ∨ p.2.size = 0)) : Ok (P.set i p) := by
  intro q hq
  rcases List.mem_or_eq_of_mem_set hq with h' | h'
  · exact h q h'
  · rw [h']; exact hp
theorem Ok.last {P : List Pl} (h : Ok P) (p : Pl) (hp : p ∈ P) : (last p).size = 64 := by
  have := h p hp
  cases hl : lse p with
  | true =>
    rw [lse_yes hl]
    rcases this.2 with h' | h'
    · exact h'
    · unfold lse at hl; rw [h'] at hl; cases hl
  | false => rw [(lse_no hl).1]; exact this.1
/-- The numbers of the loose ones, rising. -/
def lo (P : List Pl) : List Nat := (List.range P.length).filter fun i => lse ((P[i]?).getD (E, E))
theorem mem_lo {P : List Pl} {i : Nat} : i ∈ lo P ↔ ∃ h : i < P.length, lse P[i] = true := by
  unfold lo
  rw [List.mem_filter, List.mem_range]
  constructor
  · rintro ⟨h, h'⟩
    rw [List.getElem?_eq_getElem h] at h'
    exact ⟨h, h'⟩
  · rintro ⟨h, h'⟩
    refine ⟨h, ?_⟩
    rw [List.getElem?_eq_getElem h]
    exact h'
theorem lo_lt (P : List Pl) : (lo P).Pairwise (· < ·) := List.pairwise_lt_range.filter _
theorem lo_nodup (P : List Pl) : (lo P).Nodup := (lo_lt P).imp (fun h => by omega)
theorem lo_len (P : List Pl) : (lo P).length ≤ P.length := by
  have := List.length_filter_le (fun i => lse ((P[i]?).getD (E, E))) (List.range P.length)
  rw [List.length_range] at this
  exact this
/-- The loose ones, each once, in any order. -/
def Lo (P : List Pl) (ls : List Nat) : Prop := ls.Nodup ∧ ∀ i, i ∈ ls ↔ ∃ h : i < P.length, lse P[i] = true
theorem Lo.perm {P : List Pl} {ls : List Nat} (h : Lo P ls) : ls.Perm (lo P) :=
  (List.perm_ext_iff_of_nodup h.1 (lo_nodup P)).2 fun i => by rw [h.2 i, mem_lo]
theorem Lo.len {P : List Pl} {ls : List Nat} (h : Lo P ls) : ls.length ≤ P.length := by rw [h.perm.length_eq]; exact lo_len P
/-- Numbers as Go has them. -/
def zs (l : List Nat) : List Int := l.map Int.ofNat
theorem zs_len (l : List Nat) : (zs l).length = l.length := by simp [zs]
theorem zs_get (l : List Nat) (j : Nat) (h : j < l.length) : (zs l)[j]'(by rw [zs_len]; exact h) = (l[j] : Int) := by simp [zs]
theorem Lo.sort {P : List Pl} {ls : List Nat} (h : Lo P ls) : (zs ls).mergeSort (fun x y => decide (x ≤ y)) = zs (lo P) := by
  refine List.Perm.eq_of_pairwise (le := fun a b : Int => a ≤ b) (fun a b _ _ h1 h2 => by omega) ?_ ?_ ((List.mergeSort_perm _ _).trans (h.perm.map _))
  · have := List.pairwise_mergeSort (le := fun x y : Int => decide (x ≤ y)) (fun a b c h1 h2 => by simp at *; omega) (fun a b => by simp; omega) (zs ls)
    exact this.imp (fun h => by simpa using h)
  · unfold zs
    rw [List.pairwise_map]
    exact (lo_lt P).imp (fun h => by show Int.ofNat _ ≤ Int.ofNat _; simp; omega)
theorem Lo.none {P : List Pl} (h : ∀ p ∈ P, lse p = false) : Lo P [] :=
  ⟨List.nodup_nil, fun i => ⟨fun h' => by simp at h', fun ⟨hi, h'⟩ => by rw [h _ (List.getElem_mem hi)] at h'; cases h'⟩⟩
theorem lo_none {P : List Pl} (h : ∀ p ∈ P, lse p = false) : lo P = [] := by
  rw [List.eq_nil_iff_forall_not_mem]
  intro i hi
  obtain ⟨h1, h2⟩ := mem_lo.1 hi
  rw [h _ (List.getElem_mem h1)] at h2
  cases h2
/-- Sector i is s until the next Flush. -/
def st (P : List Pl) (i : Nat) (s : ByteArray) : List Pl := P.set i (((P[i]?).getD (E, E)).1, s)
theorem st_len (P : List Pl) (i : Nat) (s : ByteArray) : (st P i s).length = P.length := by simp [st]
theorem st_eq (P : List Pl) (i : Nat) (s : ByteArray) (h : i < P.length) : st P i s = P.set i (P[i].1, s) := by simp [st, h]
theorem st_fst (P : List Pl) (i : Nat) (s : ByteArray) : (st P i s).map Prod.fst = P.map Prod.fst := by
  unfold st
  rw [List.map_set]
  apply List.ext_getElem?
  intro j
  rw [List.getElem?_set]
  split
  · rename_i h
    subst h
    split
    · rename_i h'
      rw [List.length_map] at h'
      simp [h']
    · rename_i h'
      rw [List.length_map] at h'
      rw [List.getElem?_eq_none (by rw [List.length_map]; omega)]
  · rfl
theorem st_last (P : List Pl) (i : Nat) (s : ByteArray) (hs : s.size = 64) : (st P i s).map last = (P.map last).set i s := by
  unfold st
  rw [List.map_set, lse_yes (lse_64 hs)]
theorem st_lse (P : List Pl) (i : Nat) (s : ByteArray) (hs : s.size = 64) : (st P i s).map lse = (P.map lse).set i true := by
  unfold st
  rw [List.map_set, lse_64 hs]
theorem st_ok {P : List Pl} (h : Ok P) (i : Nat) (s : ByteArray) (hi : i < P.length) (hs : s.size = 64) : Ok (st P i s) := by
  rw [st_eq P i s hi]
  exact h.set i _ ⟨(h.get i hi).1, .inl hs⟩
/-- The loose ones with one more. -/
def ad (P : List Pl) (ls : List Nat) (i : Nat) : List Nat := bif lse ((P[i]?).getD (E, E)) then ls else ls ++ [i]
theorem st_lo {P : List Pl} {ls : List Nat} (h : Lo P ls) (i : Nat) (s : ByteArray) (hi : i < P.length) (hs : s.size = 64) : Lo (st P i s) (ad P ls i) := by
  have key : ∀ j, (∃ hj : j < (st P i s).length, lse (st P i s)[j] = true) ↔ j = i ∨ j ∈ ls := by
    intro j
    rw [h.2 j]
    constructor
    · rintro ⟨hj, h'⟩
      rw [st_len] at hj
      by_cases e : j = i
      · exact .inl e
      · simp only [st, List.getElem_set] at h'
        rw [if_neg (fun e' => e e'.symm)] at h'
        exact .inr ⟨hj, h'⟩
    · rintro (rfl | ⟨hj, h'⟩)
      · refine ⟨by rw [st_len]; exact hi, ?_⟩
        simp only [st, List.getElem_set_self]
        exact lse_64 hs
      · refine ⟨by rw [st_len]; exact hj, ?_⟩
        simp only [st, List.getElem_set]
        split
        · exact lse_64 hs
        · exact h'
  unfold ad
  rw [List.getElem?_eq_getElem hi, Option.getD_some]
  cases hl : lse P[i] with
  | true =>
    refine ⟨h.1, fun j => ?_⟩
    rw [key j]
    constructor
    · exact .inr
    · rintro (rfl | h')
      · exact (h.2 j).2 ⟨hi, hl⟩
      · exact h'
  | false =>
    have hn : i ∉ ls := fun h' => by
      obtain ⟨_, h''⟩ := (h.2 i).1 h'
      rw [hl] at h''
      cases h''
    refine ⟨?_, fun j => ?_⟩
    · simp only [cond_false, List.nodup_append, List.nodup_cons, List.not_mem_nil, not_false_iff, List.nodup_nil, and_self, List.mem_singleton]
      refine ⟨h.1, ?_, ?_⟩
      · trivial
      · rintro a ha b rfl e
        subst e
        exact hn ha
    · rw [key j]
      simp only [cond_false, List.mem_append, List.mem_singleton]
      exact ⟨fun h' => h'.symm, fun h' => h'.symm⟩
/-- The k-th 64 bytes. -/
def pc (s : ByteArray) (k : Nat) : ByteArray := s.extract (k * 64) (k * 64 + 64)
theorem pc_size (s : ByteArray) (k : Nat) (h : k < s.size / 64) : (pc s k).size = 64 := by
  unfold pc
  rw [ByteArray.size_extract]
  omega
/-- k sectors from at on are s. -/
def wr (P : List Pl) (at' : Nat) (s : ByteArray) : Nat → List Pl
  | 0 => P
  | k + 1 => st (wr P at' s k) (at' + k) (pc s k)
theorem wr_len (P : List Pl) (at' : Nat) (s : ByteArray) (k : Nat) : (wr P at' s k).length = P.length := by
  induction k with
  | zero => rfl
  | succ k ih => rw [wr, st_len, ih]
theorem wr_fst (P : List Pl) (at' : Nat) (s : ByteArray) (k : Nat) : (wr P at' s k).map Prod.fst = P.map Prod.fst := by
  induction k with
  | zero => rfl
  | succ k ih => rw [wr, st_fst, ih]
/-- Why m sectors from at on can't be written or read. -/
def refused (n : Nat) (lost : Bool) (at' m : Int) : Int := bif decide (at' < 0) || decide (m < 1) then 1 else bif decide (at' > n - m) then 5 else bif lost then 8 else 0
theorem refused_ok {n : Nat} {lost : Bool} {at' m : Int} (h : refused n lost at' m = 0) : lost = false ∧ ∃ a k : Nat, at' = a ∧ m = k ∧ 1 ≤ k ∧ a + k ≤ n := by
  unfold refused at h
  cases h1 : decide (at' < 0) <;> cases h2 : decide (m < 1) <;> cases h3 : decide (at' > n - m) <;> cases h4 : lost <;> simp [h1, h2, h3, h4] at h
  simp at h1 h2 h3
  exact ⟨rfl, at'.toNat, m.toNat, by omega, by omega, by omega, by omega⟩
/-- A write's code. -/
def wcode (n : Nat) (lost : Bool) (at' : Int) (s : ByteArray) : Int := bif decide (s.size % 64 = 0) then refused n lost at' ((s.size / 64 : Nat) : Int) else 1
/-- What is there behind a write. -/
def wrote (n : Nat) (lost : Bool) (P : List Pl) (at' : Int) (s : ByteArray) : List Pl := bif decide (wcode n lost at' s = 0) then wr P at'.toNat s (s.size / 64) else P
theorem wrote_len (n : Nat) (lost : Bool) (P : List Pl) (at' : Int) (s : ByteArray) : (wrote n lost P at' s).length = P.length := by
  unfold wrote
  cases decide (wcode n lost at' s = 0)
  · rfl
  · exact wr_len _ _ _ _
theorem wrote_fst (n : Nat) (lost : Bool) (P : List Pl) (at' : Int) (s : ByteArray) : (wrote n lost P at' s).map Prod.fst = P.map Prod.fst := by
  unfold wrote
  cases decide (wcode n lost at' s = 0)
  · rfl
  · exact wr_fst _ _ _ _
theorem wcode_ok {n : Nat} {lost : Bool} {at' : Int} {s : ByteArray} (h : wcode n lost at' s = 0) : s.size % 64 = 0 ∧ refused n lost at' ((s.size / 64 : Nat) : Int) = 0 := by
  unfold wcode at h
  cases h1 : decide (s.size % 64 = 0) with
  | false => simp [h1] at h
  | true => simp [h1] at h; exact ⟨by simpa using h1, h⟩
/-- Texts behind each other. -/
def ofL (l : List UInt8) : ByteArray := ⟨l.toArray⟩
def cat (L : List ByteArray) : ByteArray := ofL (L.flatMap fun s => s.data.toList)
theorem cat_nil : cat [] = E := rfl
theorem ofL_app (a b : List UInt8) : ofL a ++ ofL b = ofL (a ++ b) := by
  apply ByteArray.ext
  rw [ByteArray.data_append]
  simp [ofL]
theorem ofL_of (s : ByteArray) : ofL s.data.toList = s := by simp [ofL]
theorem cat_app (L : List ByteArray) (s : ByteArray) : cat (L ++ [s]) = cat L ++ s := by
  unfold cat
  rw [List.flatMap_append, ← ofL_app]
  congr 1
  simp [ofL]
theorem ofL_size (l : List UInt8) : (ofL l).size = l.length := by simp [ofL, ByteArray.size]
theorem flat_len (L : List ByteArray) (h : ∀ s ∈ L, s.size = 64) : (L.flatMap fun s => s.data.toList).length = L.length * 64 := by
  induction L with
  | nil => rfl
  | cons a r ih =>
    rw [List.flatMap_cons, List.length_append, ih (fun s hs => h s (List.mem_cons_of_mem _ hs)), List.length_cons]
    have := h a (List.mem_cons_self)
    rw [← ByteArray.size_data] at this
    rw [Array.length_toList, this]
    omega
theorem cat_size (L : List ByteArray) (h : ∀ s ∈ L, s.size = 64) : (cat L).size = L.length * 64 := by
  unfold cat
  rw [ofL_size, flat_len L h]
/-- The i-th of texts behind each other. -/
theorem cat_get (L : List ByteArray) (h : ∀ s ∈ L, s.size = 64) (i : Nat) (hi : i < L.length) : (cat L).extract (i * 64) (i * 64 + 64) = L[i] := by
  apply ByteArray.ext
  apply Array.ext'
  rw [ByteArray.data_extract, Array.toList_extract]
  have e : (cat L).data.toList = L.flatMap fun s => s.data.toList := by simp [cat, ofL]
  rw [e]
  have h1 : L = L.take i ++ L[i] :: L.drop (i + 1) := by rw [List.getElem_cons_drop, List.take_append_drop]
  have hl : ((L.take i).flatMap fun s => s.data.toList).length = i * 64 := by
    rw [flat_len _ (fun s hs => h s (List.mem_of_mem_take hs)), List.length_take]
    congr 1
    omega
  have h2 : (L.flatMap fun s => s.data.toList) = ((L.take i).flatMap fun s => s.data.toList) ++ (L[i].data.toList ++ ((L.drop (i + 1)).flatMap fun s => s.data.toList)) := by
    conv => lhs; rw [h1]
    rw [List.flatMap_append, List.flatMap_cons]
  rw [h2, List.extract_eq_take_drop, List.drop_left' hl, Nat.add_sub_cancel_left]
  refine List.take_left' ?_
  have := h L[i] (List.getElem_mem hi)
  rw [← ByteArray.size_data] at this
  rw [Array.length_toList, this]
/-- What is read. -/
def rtext (n : Nat) (lost : Bool) (P : List Pl) (at' m : Int) : ByteArray := bif decide (refused n lost at' m = 0) then cat (((P.map last).drop at'.toNat).take m.toNat) else E
theorem rtext_all {n : Nat} {P : List Pl} (h : P.length = n) (h1 : 1 ≤ n) : refused n false 0 n = 0 ∧ rtext n false P 0 n = cat (P.map last) := by
  have hr : refused n false 0 n = 0 := by
    unfold refused
    have : decide ((n : Int) < 1) = false := by simp; omega
    simp [this]
  refine ⟨hr, ?_⟩
  unfold rtext
  rw [hr]
  simp only [decide_true, cond_true, Int.toNat_zero, List.drop_zero, Int.toNat_natCast]
  rw [List.take_of_length_le (by rw [List.length_map]; omega)]
/-- None is loose any more. -/
def flush (P : List Pl) : List Pl := P.map cl
theorem flush_len (P : List Pl) : (flush P).length = P.length := by simp [flush]
theorem flush_lse (P : List Pl) : ∀ p ∈ flush P, lse p = false := by
  intro p hp
  simp only [flush, List.mem_map] at hp
  obtain ⟨q, _, rfl⟩ := hp
  rfl
theorem flush_ok {P : List Pl} (h : Ok P) : Ok (flush P) := by
  intro p hp
  simp only [flush, List.mem_map] at hp
  obtain ⟨q, hq, rfl⟩ := hp
  exact ⟨h.last q hq, .inr rfl⟩
theorem flush_last (P : List Pl) : (flush P).map last = P.map last := by
  simp only [flush, List.map_map]
  apply List.map_congr_left
  intro p _
  rfl
theorem flush_fst (P : List Pl) : (flush P).map Prod.fst = P.map last := by
  simp only [flush, List.map_map]
  apply List.map_congr_left
  intro p _
  rfl
/-- Half done: the first ones of ls stay. -/
def half (P : List Pl) (l : List Nat) : List Pl := P.mapIdx fun i p => bif decide (i ∈ l) then (p.2, E) else p
theorem half_len (P : List Pl) (l : List Nat) : (half P l).length = P.length := by simp [half]
theorem half_nil (P : List Pl) : half P [] = P := by
  unfold half
  apply List.ext_getElem?
  intro i
  simp
theorem half_step (P : List Pl) (l : List Nat) (i : Nat) (hi : i < P.length) (hn : i ∉ l) :
    (half P l)[i]'(by rw [half_len]; exact hi) = P[i] ∧ (half P l).set i (P[i].2, E) = half P (l ++ [i]) := by
  constructor
  · simp [half, hn]
  · apply List.ext_getElem
    · simp [half]
    · intro j h1 h2
      simp only [half, List.getElem_set, List.getElem_mapIdx, List.mem_append, List.mem_singleton]
      by_cases e : i = j
      · subst e
        simp
      · have e' : ¬ j = i := fun h => e h.symm
        simp [e, e']
theorem half_all {P : List Pl} {ls : List Nat} (h : Lo P ls) : half P ls = flush P := by
  apply List.ext_getElem
  · simp [half, flush]
  · intro j h1 h2
    simp only [half, flush, List.getElem_mapIdx, List.getElem_map]
    rw [half_len] at h1
    by_cases hm : j ∈ ls
    · obtain ⟨_, h'⟩ := (h.2 j).1 hm
      simp [hm, cl, lse_yes h']
    · have h' : lse P[j] = false := by
        cases hl : lse P[j] with
        | false => rfl
        | true => exact absurd ((h.2 j).2 ⟨h1, hl⟩) hm
      obtain ⟨e1, e2⟩ := lse_no h'
      simp only [hm, cl, e1, decide_false, cond_false]
      exact Prod.ext rfl e2
/-- Does the k-th one stay? -/
def kept (keep k : Nat) : Bool := decide (keep / 2 ^ k % 2 = 1)
/-- Torn: it begins as it was written last. -/
def torn (p : Pl) (tear : Nat) : ByteArray := p.2.extract 0 tear ++ p.1.extract tear 64
theorem torn_size {p : Pl} {tear : Nat} (h1 : p.1.size = 64) (h2 : p.2.size = 64) (h3 : tear < 64) : (torn p tear).size = 64 := by
  unfold torn
  rw [ByteArray.size_append, ByteArray.size_extract, ByteArray.size_extract]
  omega
/-- The k-th one behind a crash; t: none was torn yet. -/
def nv (keep tear k : Nat) (t : Bool) (p : Pl) : ByteArray := bif kept keep k then p.2 else bif t then torn p tear else p.1
/-- The loose ones L, of which the first is the k-th. -/
def crs (keep tear : Nat) (P : List Pl) : List Nat → Nat → Bool → List Pl
  | [], _, _ => P
  | i :: L, k, t => crs keep tear (P.set i (nv keep tear k t ((P[i]?).getD (E, E)), E)) L (k + 1) (t && kept keep k)
def tears (tear : Int) : Bool := decide (1 ≤ tear) && decide (tear < 64)
/-- What is there behind a crash. -/
def crash (P : List Pl) (keep : Nat) (tear : Int) : List Pl := crs keep tear.toNat P (lo P) 0 (tears tear)
/-- A crash half done. -/
structure CI (P : List Pl) (keep : Nat) (tear : Int) (k : Nat) (t : Bool) (Q : List Pl) : Prop where
  len : Q.length = P.length
  ok : Ok Q
  same : ∀ i ∈ (lo P).drop k, Q[i]? = P[i]?
  rest : ∀ i (h : i < Q.length), i ∉ (lo P).drop k → Q[i].2 = E
  eq : crs keep tear.toNat Q ((lo P).drop k) k t = crash P keep tear
  t : t = true → tears tear = true
theorem CI.start {P : List Pl} (h : Ok P) (keep : Nat) (tear : Int) : CI P keep tear 0 (tears tear) P := by
  refine ⟨rfl, h, fun _ _ => rfl, fun i hi hn => ?_, rfl, id⟩
  rw [List.drop_zero, mem_lo] at hn
  cases hl : lse P[i] with
  | true => exact absurd ⟨hi, hl⟩ hn
  | false => exact (lse_no hl).2
theorem CI.step {P : List Pl} {keep : Nat} {tear : Int} {k : Nat} {t : Bool} {Q : List Pl} (h : CI P keep tear k t Q) (hk : k < (lo P).length) :
    ∃ hi : (lo P)[k] < Q.length, Q[(lo P)[k]].1.size = 64 ∧ Q[(lo P)[k]].2.size = 64 ∧ CI P keep tear (k + 1) (t && kept keep k) (Q.set (lo P)[k] (nv keep tear.toNat k t Q[(lo P)[k]], E)) := by
  obtain ⟨i, hi'⟩ : ∃ i, (lo P)[k] = i := ⟨_, rfl⟩
  have hd : (lo P).drop k = i :: (lo P).drop (k + 1) := by rw [← hi', List.getElem_cons_drop]
  have hmem : i ∈ lo P := by rw [← hi']; exact List.getElem_mem hk
  obtain ⟨hlt, hls⟩ := mem_lo.1 hmem
  have hiQ : i < Q.length := by rw [h.len]; exact hlt
  have hsame := h.same i (by rw [hd]; exact List.mem_cons_self)
  rw [List.getElem?_eq_getElem hiQ, List.getElem?_eq_getElem hlt, Option.some.injEq] at hsame
  have hok := h.ok.get i hiQ
  have h64 : Q[i].2.size = 64 := by
    rcases hok.2 with h' | h'
    · exact h'
    · rw [hsame] at h'
      unfold lse at hls
      rw [h'] at hls
      cases hls
  have hnd : i ∉ (lo P).drop (k + 1) := by
    have := (lo_nodup P).sublist (List.drop_sublist k (lo P))
    rw [hd, List.nodup_cons] at this
    exact this.1
  have hnv : (nv keep tear.toNat k t Q[i]).size = 64 := by
    unfold nv
    cases kept keep k
    · cases ht : t
      · exact hok.1
      · have := h.t ht
        unfold tears at this
        simp only [Bool.and_eq_true, decide_eq_true_eq] at this
        exact torn_size hok.1 h64 (by omega)
    · exact h64
  subst hi'
  refine ⟨hiQ, hok.1, h64, ⟨by simp [h.len], h.ok.set _ _ ⟨hnv, .inr rfl⟩, fun j hj => ?_, fun j hj hn => ?_, ?_, fun ht => ?_⟩⟩
  · rw [List.getElem?_set_ne (fun e => hnd (by rw [e]; exact hj))]
    exact h.same j (by rw [hd]; exact List.mem_cons_of_mem _ hj)
  · rw [List.getElem_set]
    split
    · rfl
    · rename_i e
      rw [List.length_set] at hj
      refine h.rest j hj ?_
      rw [hd, List.mem_cons]
      rintro (e' | e')
      · exact e e'.symm
      · exact hn e'
  · rw [← h.eq, hd, crs, List.getElem?_eq_getElem hiQ, Option.getD_some]
  · simp only [Bool.and_eq_true] at ht
    exact h.t ht.1
theorem CI.done {P : List Pl} {keep : Nat} {tear : Int} {t : Bool} {Q : List Pl} (h : CI P keep tear (lo P).length t Q) : Q = crash P keep tear ∧ Q.length = P.length ∧ Ok Q ∧ ∀ p ∈ Q, lse p = false := by
  have e := h.eq
  rw [List.drop_length] at e
  refine ⟨e, h.len, h.ok, fun p hp => ?_⟩
  obtain ⟨i, hi, rfl⟩ := List.getElem_of_mem hp
  unfold lse
  rw [h.rest i hi (by rw [List.drop_length]; simp)]
  rfl
theorem CI.all {P : List Pl} (h : Ok P) (keep : Nat) (tear : Int) (k : Nat) (hk : k ≤ (lo P).length) : ∃ t Q, CI P keep tear k t Q := by
  induction k with
  | zero => exact ⟨_, _, CI.start h keep tear⟩
  | succ k ih =>
    obtain ⟨t, Q, hc⟩ := ih (by omega)
    obtain ⟨_, _, _, hs⟩ := hc.step (by omega)
    exact ⟨_, _, hs⟩
theorem crash_spec {P : List Pl} (h : Ok P) (keep : Nat) (tear : Int) : (crash P keep tear).length = P.length ∧ Ok (crash P keep tear) ∧ ∀ p ∈ crash P keep tear, lse p = false := by
  obtain ⟨t, Q, hc⟩ := CI.all h keep tear _ (Nat.le_refl _)
  obtain ⟨e, h1, h2, h3⟩ := hc.done
  rw [← e]
  exact ⟨h1, h2, h3⟩
/-- What is not loose is as it was. -/
theorem crs_other (keep tear : Nat) (L : List Nat) : ∀ (P : List Pl) (k : Nat) (t : Bool) (i : Nat), i ∉ L → (crs keep tear P L k t)[i]? = P[i]? := by
  induction L with
  | nil => intro P k t i _; rfl
  | cons j L ih =>
    intro P k t i hi
    rw [List.mem_cons, not_or] at hi
    rw [crs, ih _ _ _ _ hi.2, List.getElem?_set_ne (fun e => hi.1 e.symm)]
/-- All is kept. -/
theorem crs_kept (keep tear : Nat) (L : List Nat) : ∀ (P : List Pl) (k : Nat) (t : Bool), (∀ j, k ≤ j → j < k + L.length → kept keep j = true) → L.Nodup → (∀ i ∈ L, ∃ h : i < P.length, lse P[i] = true) → (crs keep tear P L k t).map last = P.map last := by
  induction L with
  | nil => intro P k t _ _ _; rfl
  | cons i L ih =>
    intro P k t hk hn hl
    obtain ⟨hi, hls⟩ := hl i List.mem_cons_self
    rw [List.nodup_cons] at hn
    rw [crs, ih _ _ _ (fun j h1 h2 => hk j (by omega) (by rw [List.length_cons]; omega)) hn.2]
    · rw [List.map_set, last_E]
      have hkk := hk k (Nat.le_refl _) (by rw [List.length_cons]; omega)
      rw [List.getElem?_eq_getElem hi, Option.getD_some]
      unfold nv
      rw [hkk, cond_true, ← lse_yes hls]
      apply List.ext_getElem
      · simp
      · intro j h1 h2
        rw [List.getElem_set]
        split
        · rename_i e
          subst e
          simp
        · rfl
    · intro j hj
      obtain ⟨h1, h2⟩ := hl j (List.mem_cons_of_mem _ hj)
      refine ⟨by rw [List.length_set]; exact h1, ?_⟩
      rw [List.getElem_set_ne (fun e => hn.1 (by rw [e]; exact hj))]
      exact h2
/-- Nothing is kept. -/
theorem crs_none (keep tear : Nat) (L : List Nat) : ∀ (P : List Pl) (k : Nat), (∀ j, kept keep j = false) → (crs keep tear P L k false).map Prod.fst = P.map Prod.fst := by
  induction L with
  | nil => intro P k _; rfl
  | cons i L ih =>
    intro P k hk
    rw [crs, Bool.false_and, ih _ _ hk, List.map_set]
    unfold nv
    rw [hk k, cond_false, cond_false]
    apply List.ext_getElem?
    intro j
    rw [List.getElem?_set]
    split
    · rename_i e
      subst e
      split
      · rename_i h'
        rw [List.length_map] at h'
        simp [h']
      · rename_i h'
        rw [List.length_map] at h'
        rw [List.getElem?_eq_none (by rw [List.length_map]; omega)]
    · rfl
theorem kept_all (j : Nat) (h : j < 64) : kept 18446744073709551615 j = true := by
  unfold kept
  have : ∀ j : Fin 64, 18446744073709551615 / 2 ^ j.val % 2 = 1 := by decide
  simpa using this ⟨j, h⟩
theorem kept_zero (j : Nat) : kept 0 j = false := by
  unfold kept
  simp
theorem last_fst {P : List Pl} (h : ∀ p ∈ P, lse p = false) : P.map last = P.map Prod.fst := by
  apply List.map_congr_left
  intro p hp
  exact (lse_no (h p hp)).1
end Go.Proofs.YtlnedgjikkhplaaGreat.Ns.M
