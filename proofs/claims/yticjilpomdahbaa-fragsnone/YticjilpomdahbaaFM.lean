/-
  A store of fragments, as plain lists: a head's bytes, slots and what they stand for on a device, steps, crashes.
-/
import Derived.Test.YticjilpomdahbaaM
import Derived.Test.YticjilpomdahbaaSM
namespace Go.Proofs.Yticjilpomdahbaa.Fr
set_option linter.unusedVariables false
open M (Pl E last lse ofL ofL_size ofL_of pc cat Ok)

/-- Bytes 0 behind. -/
def pd (l : List UInt8) (n : Nat) : List UInt8 := l ++ List.replicate (n - l.length) 0
theorem pd_len (l : List UInt8) (n : Nat) (h : l.length ≤ n) : (pd l n).length = n := by
  simp only [pd, List.length_append, List.length_replicate]
  omega
def z0 : ByteArray := ofL (List.replicate 64 0)
theorem z0_size : z0.size = 64 := by rw [z0, ofL_size, List.length_replicate]
theorem ofL_data (l : List UInt8) : (ofL l).data.toList = l := by simp [ofL]
theorem len_data (s : ByteArray) : s.data.toList.length = s.size := Array.length_toList
/-- A head's numbers, a head. -/
def nums (a b : Nat) (l : List UInt8) : List UInt8 := K2.four (BitVec.ofNat 32 a) ++ (K2.four (BitVec.ofNat 32 b) ++ (K2.four (BitVec.ofNat 32 l.length) ++ K2.four (K2.sum l)))
def hd (a b : Nat) (l : List UInt8) : List UInt8 := K2.sealed (pd ([72, 70, 82, 71] ++ nums a b l) 60)
theorem four_len (x : BitVec 32) : (K2.four x).length = 4 := rfl
theorem nums_len (a b : Nat) (l : List UInt8) : (nums a b l).length = 16 := rfl
theorem pd60_len (a b : Nat) (l : List UInt8) : (pd ([72, 70, 82, 71] ++ nums a b l) 60).length = 60 := rfl
theorem hd_len (a b : Nat) (l : List UInt8) : (hd a b l).length = 64 := rfl
/-- The number in four bytes from k on. -/
def nm (l : List UInt8) (k : Nat) : Nat := (l.getD k 0).toNat + 256 * (l.getD (k + 1) 0).toNat + 65536 * (l.getD (k + 2) 0).toNat + 16777216 * (l.getD (k + 3) 0).toNat
theorem nm_lt (l : List UInt8) (k : Nat) : nm l k < 4294967296 := by
  unfold nm
  have h0 := (l.getD k 0).toNat_lt
  have h1 := (l.getD (k + 1) 0).toNat_lt
  have h2 := (l.getD (k + 2) 0).toNat_lt
  have h3 := (l.getD (k + 3) 0).toNat_lt
  omega
theorem byte_nat (x : BitVec 32) (k : Nat) : (K2.byte x k).toNat = x.toNat / 2 ^ k % 256 := by
  unfold K2.byte
  rw [UInt8.toNat_ofBitVec, BitVec.toNat_setWidth, BitVec.toNat_ushiftRight, Nat.shiftRight_eq_div_pow]
theorem nm_sum (x : BitVec 32) : (K2.byte x 0).toNat + 256 * (K2.byte x 8).toNat + 65536 * (K2.byte x 16).toNat + 16777216 * (K2.byte x 24).toNat = x.toNat := by
  have hx : x.toNat < 4294967296 := x.isLt
  have b0 := byte_nat x 0
  have b1 := byte_nat x 8
  have b2 := byte_nat x 16
  have b3 := byte_nat x 24
  simp only [Nat.pow_zero, Nat.reducePow] at b0 b1 b2 b3
  rw [b0, b1, b2, b3]
  omega
theorem hd_nm (a b : Nat) (l r : List UInt8) (ha : a < 4294967296) (hb : b < 4294967296) (hl : l.length < 4294967296) :
    nm (hd a b l ++ r) 4 = a ∧ nm (hd a b l ++ r) 8 = b ∧ nm (hd a b l ++ r) 12 = l.length := by
  refine ⟨?_, ?_, ?_⟩
  · refine Eq.trans (nm_sum (BitVec.ofNat 32 a)) ?_
    rw [BitVec.toNat_ofNat]; omega
  · refine Eq.trans (nm_sum (BitVec.ofNat 32 b)) ?_
    rw [BitVec.toNat_ofNat]; omega
  · refine Eq.trans (nm_sum (BitVec.ofNat 32 l.length)) ?_
    rw [BitVec.toNat_ofNat]; omega
/-- What is known of a slot. -/
abbrev Sl := Option ((Nat × Nat) × ByteArray)
/-- The body that a slot's bytes tell. -/
def bd (t : List UInt8) : List UInt8 := (t.drop 64).take (nm t 12)
/-- May a slot's numbers be? -/
def mb (t : List UInt8) : Bool := decide (nm t 4 ≤ 2147483647) && (decide (nm t 8 < 8) && decide (nm t 12 ≤ 512))
/-- What a slot's bytes tell. -/
def so (t : List UInt8) : Sl := bif mb t && decide (hd (nm t 4) (nm t 8) (bd t) = t.take 64) then some ((nm t 4, nm t 8), ofL (bd t)) else none
theorem so_img (a b : Nat) (l : List UInt8) (ha : a < 2147483648) (hb : b < 8) (hl : l.length ≤ 512) : so (hd a b l ++ pd l 512) = some ((a, b), ofL l) := by
  obtain ⟨e1, e2, e3⟩ := hd_nm a b l (pd l 512) (by omega) (by omega) (by omega)
  have e4 : bd (hd a b l ++ pd l 512) = l := by
    unfold bd
    rw [e3, List.drop_left' (hd_len a b l)]
    unfold pd
    exact List.take_left' rfl
  have e5 : (hd a b l ++ pd l 512).take 64 = hd a b l := List.take_left' (hd_len a b l)
  unfold so mb
  rw [e1, e2, e3, e4, e5, decide_eq_true (show a ≤ 2147483647 by omega), decide_eq_true hb, decide_eq_true hl, decide_eq_true rfl]
  rfl
theorem so_zero (t r : List UInt8) (h : t = List.replicate 64 0 ++ r) : so t = none := by
  have hne : hd (nm t 4) (nm t 8) (bd t) ≠ t.take 64 := by
    intro e
    have e2 : t.take 64 = List.replicate 64 0 := by rw [h]; exact List.take_left' List.length_replicate
    rw [e2] at e
    have := congrArg List.head? e
    have h1 : (hd (nm t 4) (nm t 8) (bd t)).head? = some 72 := rfl
    rw [h1] at this
    simp at this
  unfold so
  rw [decide_eq_false hne, Bool.and_false]
  rfl
/-- A sector as it was written last, and as at the last Flush. -/
def sec (P : List Pl) (j : Nat) : ByteArray := last ((P[j]?).getD (E, E))
def fl (P : List Pl) (j : Nat) : ByteArray := ((P[j]?).getD (E, E)).1
theorem sec_eq (P : List Pl) (j : Nat) : sec P j = ((P.map last)[j]?).getD E := by
  unfold sec
  rw [List.getElem?_map]
  cases P[j]? <;> rfl
theorem fl_eq (P : List Pl) (j : Nat) : fl P j = ((P.map Prod.fst)[j]?).getD E := by
  unfold fl
  rw [List.getElem?_map]
  cases P[j]? <;> rfl
theorem sec_st (P : List Pl) (i : Nat) (s : ByteArray) (hi : i < P.length) (hs : s.size = 64) (j : Nat) : sec (M.st P i s) j = if j = i then s else sec P j := by
  rw [sec_eq, M.st_last P i s hs, List.getElem?_set]
  by_cases h : j = i
  · subst h
    simp [hi]
  · rw [if_neg (fun e => h e.symm), if_neg h, sec_eq]
theorem sec_wr (P : List Pl) (at' : Nat) (s : ByteArray) (k : Nat) (h : at' + k ≤ P.length) (hs : k ≤ s.size / 64) (j : Nat) : sec (M.wr P at' s k) j = if at' ≤ j ∧ j < at' + k then pc s (j - at') else sec P j := by
  induction k with
  | zero => rw [M.wr, if_neg (by omega)]
  | succ k ih =>
    rw [M.wr, sec_st _ _ _ (by rw [M.wr_len]; omega) (M.pc_size s k (by omega)), ih (by omega) (by omega)]
    by_cases e : j = at' + k
    · rw [if_pos e, if_pos (by omega), show j - at' = k by omega]
    · rw [if_neg e]
      by_cases e2 : at' ≤ j ∧ j < at' + k
      · rw [if_pos e2, if_pos (by omega)]
      · rw [if_neg e2, if_neg (by omega)]
theorem fl_wr (P : List Pl) (at' : Nat) (s : ByteArray) (k : Nat) (j : Nat) : fl (M.wr P at' s k) j = fl P j := by rw [fl_eq, M.wr_fst, ← fl_eq]
theorem wr_ok {P : List Pl} (h : Ok P) (at' : Nat) (s : ByteArray) (k : Nat) (hl : at' + k ≤ P.length) (hs : k ≤ s.size / 64) : Ok (M.wr P at' s k) := by
  induction k with
  | zero => exact h
  | succ k ih =>
    rw [M.wr]
    exact M.st_ok (ih (by omega) (by omega)) _ _ (by rw [M.wr_len]; omega) (M.pc_size s k (by omega))
theorem sec_flush (P : List Pl) (j : Nat) : sec (M.flush P) j = sec P j := by rw [sec_eq, M.flush_last, ← sec_eq]
theorem fl_flush (P : List Pl) (j : Nat) : fl (M.flush P) j = sec P j := by rw [fl_eq, M.flush_fst, ← sec_eq]
/-- Nothing is loose that matters. -/
def Cl (P : List Pl) : Prop := ∀ j, fl P j = sec P j
theorem Cl.flush (P : List Pl) : Cl (M.flush P) := fun j => by rw [fl_flush, sec_flush]
theorem sec_set (P : List Pl) (i : Nat) (s : ByteArray) (j : Nat) (h : j ≠ i) (x : ByteArray) : sec (P.set i (s, x)) j = sec P j ∧ fl (P.set i (s, x)) j = fl P j := by
  unfold sec fl
  rw [List.getElem?_set_ne (fun e => h e.symm)]
  exact ⟨rfl, rfl⟩
/-- Behind a crash that tears nothing each sector is as it was written last, or as at the last Flush. -/
theorem crs_or (keep tear : Nat) (L : List Nat) : ∀ (P : List Pl) (k : Nat), L.Nodup → (∀ i ∈ L, ∃ h : i < P.length, lse P[i] = true) → ∀ j, sec (M.crs keep tear P L k false) j = sec P j ∨ sec (M.crs keep tear P L k false) j = fl P j := by
  induction L with
  | nil => intro P k _ _ j; exact .inl rfl
  | cons i L ih =>
    intro P k hn hl j
    obtain ⟨hi, hls⟩ := hl i List.mem_cons_self
    rw [List.nodup_cons] at hn
    rw [M.crs, Bool.false_and]
    by_cases e : j = i
    · subst e
      have h1 := M.crs_other keep tear L (P.set j (M.nv keep tear k false ((P[j]?).getD (E, E)), E)) (k + 1) false j hn.1
      have h2 : (P.set j (M.nv keep tear k false ((P[j]?).getD (E, E)), E))[j]? = some (M.nv keep tear k false P[j], E) := by
        rw [List.getElem?_eq_getElem hi, Option.getD_some]
        simp [hi]
      rw [h2] at h1
      unfold sec fl
      rw [h1, Option.getD_some, M.last_E, List.getElem?_eq_getElem hi, Option.getD_some]
      unfold M.nv
      cases M.kept keep k
      · right; rfl
      · left; rw [M.lse_yes hls]; rfl
    · obtain ⟨s1, s2⟩ := sec_set P i (M.nv keep tear k false ((P[i]?).getD (E, E))) j e E
      have := ih (P.set i (M.nv keep tear k false ((P[i]?).getD (E, E)), E)) (k + 1) hn.2 (fun i' hi' => by
        obtain ⟨h1, h2⟩ := hl i' (List.mem_cons_of_mem _ hi')
        refine ⟨by rw [List.length_set]; exact h1, ?_⟩
        rw [List.getElem_set_ne (fun e => hn.1 (by rw [e]; exact hi'))]
        exact h2) j
      rw [s1, s2] at this
      exact this
theorem crash_or (P : List Pl) (keep : Nat) (j : Nat) : sec (M.crash P keep 0) j = sec P j ∨ sec (M.crash P keep 0) j = fl P j :=
  crs_or keep 0 (M.lo P) P 0 (M.lo_nodup P) (fun i hi => M.mem_lo.1 hi) j
theorem crash_sure {P : List Pl} (keep : Nat) (j : Nat) (h : fl P j = sec P j) : sec (M.crash P keep 0) j = sec P j := by
  rcases crash_or P keep j with e | e
  · exact e
  · rw [e, h]
/-- What a slot stands for on a device. -/
def Sat (P : List Pl) (i : Nat) : Sl → Prop
  | none => sec P (9 * i) = z0
  | some ((a, b), s) => a < 2147483648 ∧ b < 8 ∧ s.size ≤ 512 ∧ sec P (9 * i) = ofL (hd a b s.data.toList) ∧ ∀ k, k < 8 → sec P (9 * i + 1 + k) = pc (ofL (pd s.data.toList 512)) k
theorem Sat.congr {P Q : List Pl} {i : Nat} {x : Sl} (h : Sat P i x) (e : ∀ k, k < 9 → sec Q (9 * i + k) = sec P (9 * i + k)) : Sat Q i x := by
  cases x with
  | none => exact (e 0 (by omega)).trans h
  | some y =>
    obtain ⟨⟨a, b⟩, s⟩ := y
    obtain ⟨h1, h2, h3, h4, h5⟩ := h
    refine ⟨h1, h2, h3, (e 0 (by omega)).trans h4, fun k hk => ?_⟩
    have := e (1 + k) (by omega)
    rw [← Nat.add_assoc] at this
    rw [this]
    exact h5 k hk
/-- A device and its slots. -/
structure Good (P : List Pl) (L : List Sl) : Prop where
  ok : Ok P
  len : L.length = min (P.length / 9) 256
  sat : ∀ (i : Nat) (x : Sl), L[i]? = some x → Sat P i x
  once : ∀ (i j : Nat) (p : Nat × Nat) (s s' : ByteArray), L[i]? = some (some (p, s)) → L[j]? = some (some (p, s')) → i = j
theorem Good.room {P : List Pl} {L : List Sl} (h : Good P L) (i : Nat) (hi : i < L.length) : 9 * i + 9 ≤ P.length := by
  have := h.len
  omega
/-- One slot changes. -/
theorem Good.change {P Q : List Pl} {L : List Sl} (h : Good P L) (i : Nat) (x : Sl) (hi : i < L.length) (hq : Ok Q) (hl : Q.length = P.length) (hs : Sat Q i x) (he : ∀ j, j < 9 * i ∨ 9 * i + 9 ≤ j → sec Q j = sec P j)
    (hf : ∀ (p : Nat × Nat) (s : ByteArray), x = some (p, s) → ∀ (j : Nat) (s' : ByteArray), L[j]? ≠ some (some (p, s'))) : Good Q (L.set i x) := by
  refine ⟨hq, by rw [List.length_set, hl]; exact h.len, fun j y hy => ?_, fun j k p s s' hj hk => ?_⟩
  · rw [List.getElem?_set] at hy
    by_cases e : i = j
    · subst e
      rw [if_pos rfl, if_pos hi] at hy
      cases hy
      exact hs
    · rw [if_neg e] at hy
      refine (h.sat j y hy).congr fun k hk => he _ ?_
      omega
  · rw [List.getElem?_set] at hj hk
    by_cases e1 : i = j
    · subst e1
      rw [if_pos rfl, if_pos hi] at hj
      simp only [Option.some.injEq] at hj
      by_cases e2 : i = k
      · exact e2
      · rw [if_neg e2] at hk
        exact absurd hk (hf p s hj k s')
    · rw [if_neg e1] at hj
      by_cases e2 : i = k
      · subst e2
        rw [if_pos rfl, if_pos hi] at hk
        simp only [Option.some.injEq] at hk
        exact absurd hj (hf p s' hk j s)
      · rw [if_neg e2] at hk
        exact h.once j k p s s' hj hk
theorem Good.same {P Q : List Pl} {L : List Sl} (h : Good P L) (hq : Ok Q) (hl : Q.length = P.length) (he : ∀ j, sec Q j = sec P j) : Good Q L :=
  ⟨hq, by rw [hl]; exact h.len, fun i x hx => (h.sat i x hx).congr fun k _ => he _, h.once⟩
theorem set_none {L : List Sl} {i : Nat} (h : L[i]? = some none) : L.set i none = L := by
  apply List.ext_getElem?
  intro j
  rw [List.getElem?_set]
  by_cases e : i = j
  · subst e
    rw [if_pos rfl, if_pos (List.getElem?_eq_some_iff.1 h).1, h]
  · rw [if_neg e]
theorem Good.crash {P : List Pl} {L : List Sl} (h : Good P L) (hc : Cl P) (keep : Nat) : Good (M.crash P keep 0) L :=
  h.same (M.crash_spec h.ok keep 0).2.1 (M.crash_spec h.ok keep 0).1 fun j => crash_sure keep j (hc j)
/-- The steps of a Put. -/
def hb (a b : Nat) (s : ByteArray) : ByteArray := ofL (hd a b s.data.toList)
def bb (s : ByteArray) : ByteArray := ofL (pd s.data.toList 512)
theorem hb_size (a b : Nat) (s : ByteArray) : (hb a b s).size = 64 := by rw [hb, ofL_size, hd_len]
theorem bb_size (s : ByteArray) (h : s.size ≤ 512) : (bb s).size = 512 := by rw [bb, ofL_size, pd_len _ _ (by rw [len_data]; exact h)]
theorem pc_one (s : ByteArray) (h : s.size = 64) : pc s 0 = s := by
  unfold pc
  rw [Nat.zero_mul, Nat.zero_add, ← h]
  exact ByteArray.extract_zero_size
def p1 (P : List Pl) (i : Nat) (s : ByteArray) : List Pl := M.wr P (9 * i + 1) (bb s) 8
def p2 (P : List Pl) (i : Nat) (s : ByteArray) : List Pl := M.flush (p1 P i s)
def p3 (P : List Pl) (i : Nat) (a b : Nat) (s : ByteArray) : List Pl := M.wr (p2 P i s) (9 * i) (hb a b s) 1
def p4 (P : List Pl) (i : Nat) (a b : Nat) (s : ByteArray) : List Pl := M.flush (p3 P i a b s)
theorem len1 (P : List Pl) (i : Nat) (s : ByteArray) : (p1 P i s).length = P.length := M.wr_len _ _ _ _
theorem len2 (P : List Pl) (i : Nat) (s : ByteArray) : (p2 P i s).length = P.length := (M.flush_len _).trans (len1 P i s)
theorem len3 (P : List Pl) (i : Nat) (a b : Nat) (s : ByteArray) : (p3 P i a b s).length = P.length := (M.wr_len _ _ _ _).trans (len2 P i s)
theorem len4 (P : List Pl) (i : Nat) (a b : Nat) (s : ByteArray) : (p4 P i a b s).length = P.length := (M.flush_len _).trans (len3 P i a b s)
/-- A fragment that may be put into slot i. -/
structure May (P : List Pl) (L : List Sl) (i a b : Nat) (s : ByteArray) : Prop where
  n : ∀ (j : Nat) (s' : ByteArray), L[j]? ≠ some (some ((a, b), s'))
  g : Good P L
  c : Cl P
  i : L[i]? = some none
  a : a < 2147483648
  b : b < 8
  s : s.size ≤ 512
section
variable {P : List Pl} {L : List Sl} {i a b : Nat} {s : ByteArray}
theorem May.lt (h : May P L i a b s) : i < L.length := (List.getElem?_eq_some_iff.1 h.i).1
theorem May.room (h : May P L i a b s) : 9 * i + 9 ≤ P.length := h.g.room i h.lt
theorem May.sec1 (h : May P L i a b s) (j : Nat) : sec (p1 P i s) j = if 9 * i + 1 ≤ j ∧ j < 9 * i + 1 + 8 then pc (bb s) (j - (9 * i + 1)) else sec P j :=
  sec_wr P _ _ 8 (by have := h.room; omega) (by rw [bb_size s h.s]; omega) j
theorem May.ok1 (h : May P L i a b s) : Ok (p1 P i s) := wr_ok h.g.ok _ _ 8 (by have := h.room; omega) (by rw [bb_size s h.s]; omega)
theorem May.ok2 (h : May P L i a b s) : Ok (p2 P i s) := M.flush_ok h.ok1
theorem May.ok3 (h : May P L i a b s) : Ok (p3 P i a b s) := wr_ok h.ok2 _ _ 1 (by have := h.room; rw [len2]; omega) (by rw [hb_size]; omega)
theorem May.sec3 (h : May P L i a b s) (j : Nat) : sec (p3 P i a b s) j = if j = 9 * i then hb a b s else sec (p1 P i s) j := by
  unfold p3
  rw [sec_wr _ _ _ 1 (by have := h.room; rw [len2]; omega) (by rw [hb_size]; omega) j]
  by_cases e : j = 9 * i
  · rw [if_pos (by omega), if_pos e, show j - 9 * i = 0 by omega, pc_one _ (hb_size a b s)]
  · rw [if_neg (by omega), if_neg e]
    exact sec_flush _ _
theorem May.nn (h : May P L i a b s) : Sat P i none := h.g.sat i _ h.i
theorem May.sat1 (h : May P L i a b s) : Sat (p1 P i s) i none := by
  show sec (p1 P i s) (9 * i) = z0
  rw [h.sec1, if_neg (by omega)]
  exact h.nn
theorem May.sat3 (h : May P L i a b s) : Sat (p3 P i a b s) i (some ((a, b), s)) := by
  refine ⟨h.a, h.b, h.s, ?_, fun k hk => ?_⟩
  · rw [h.sec3, if_pos rfl]; rfl
  · rw [h.sec3, if_neg (by omega), h.sec1, if_pos (by omega), show 9 * i + 1 + k - (9 * i + 1) = k by omega]
    rfl
theorem May.out1 (h : May P L i a b s) (j : Nat) (hj : j < 9 * i ∨ 9 * i + 9 ≤ j) : sec (p1 P i s) j = sec P j := by rw [h.sec1, if_neg (by omega)]
theorem May.out3 (h : May P L i a b s) (j : Nat) (hj : j < 9 * i ∨ 9 * i + 9 ≤ j) : sec (p3 P i a b s) j = sec P j := by rw [h.sec3, if_neg (by omega), h.out1 j hj]
theorem May.good4 (h : May P L i a b s) : Good (p4 P i a b s) (L.set i (some ((a, b), s))) ∧ Cl (p4 P i a b s) := by
  refine ⟨h.g.change i _ h.lt (M.flush_ok h.ok3) (len4 P i a b s) ?_ (fun j hj => (sec_flush _ j).trans (h.out3 j hj)) ?_, Cl.flush _⟩
  · exact h.sat3.congr fun k _ => sec_flush _ _
  · intro p s' e
    cases e
    exact h.n
theorem May.good2 (h : May P L i a b s) : Good (p2 P i s) L ∧ Cl (p2 P i s) := by
  refine ⟨?_, Cl.flush _⟩
  have := h.g.change (Q := p2 P i s) i none h.lt h.ok2 (len2 P i s) (h.sat1.congr fun k _ => sec_flush _ _) (fun j hj => (sec_flush _ j).trans (h.out1 j hj)) (by intro p s e; cases e)
  rw [set_none h.i] at this
  exact this
theorem May.crash1 (h : May P L i a b s) (keep : Nat) : Good (M.crash (p1 P i s) keep 0) L := by
  have sp := M.crash_spec h.ok1 keep 0
  have hj : ∀ j, ¬ (9 * i + 1 ≤ j ∧ j < 9 * i + 1 + 8) → sec (M.crash (p1 P i s) keep 0) j = sec P j := fun j hn => by
    have e1 : sec (p1 P i s) j = sec P j := by rw [h.sec1, if_neg hn]
    rw [crash_sure keep j (by rw [e1]; exact (fl_wr _ _ _ _ _).trans (h.c j)), e1]
  have := h.g.change (Q := M.crash (p1 P i s) keep 0) i none h.lt sp.2.1 (sp.1.trans (len1 P i s)) ((hj (9 * i) (by omega)).trans h.nn) (fun j hj' => hj j (by omega)) (by intro p s e; cases e)
  rw [set_none h.i] at this
  exact this
theorem May.crash3 (h : May P L i a b s) (keep : Nat) : Good (M.crash (p3 P i a b s) keep 0) L ∨ Good (M.crash (p3 P i a b s) keep 0) (L.set i (some ((a, b), s))) := by
  have sp := M.crash_spec h.ok3 keep 0
  have hf : ∀ j, fl (p3 P i a b s) j = sec (p1 P i s) j := fun j => (fl_wr _ _ _ _ _).trans (fl_flush _ _)
  have hj : ∀ j, j ≠ 9 * i → sec (M.crash (p3 P i a b s) keep 0) j = sec (p3 P i a b s) j := fun j hn => crash_sure keep j (by rw [hf, h.sec3, if_neg hn])
  rcases crash_or (p3 P i a b s) keep (9 * i) with e | e
  · right
    refine h.g.change i _ h.lt sp.2.1 (sp.1.trans (len3 P i a b s)) (h.sat3.congr fun k _ => ?_) (fun j hj' => (hj j (by omega)).trans (h.out3 j hj')) (by intro p s' e; cases e; exact h.n)
    by_cases hk : 9 * i + k = 9 * i
    · rw [hk]; exact e
    · exact hj _ hk
  · left
    have := h.g.change (Q := M.crash (p3 P i a b s) keep 0) i none h.lt sp.2.1 (sp.1.trans (len3 P i a b s)) (e.trans ((hf _).trans h.sat1)) (fun j hj' => (hj j (by omega)).trans (h.out3 j hj')) (by intro p s e; cases e)
    rw [set_none h.i] at this
    exact this
end
/-- The steps of a Delete. -/
def q1 (P : List Pl) (i : Nat) : List Pl := M.wr P (9 * i) z0 1
def q2 (P : List Pl) (i : Nat) : List Pl := M.flush (q1 P i)
theorem lenq1 (P : List Pl) (i : Nat) : (q1 P i).length = P.length := M.wr_len _ _ _ _
theorem lenq2 (P : List Pl) (i : Nat) : (q2 P i).length = P.length := (M.flush_len _).trans (lenq1 P i)
section
variable {P : List Pl} {L : List Sl} {i : Nat}
theorem Good.secq (h : Good P L) (hi : i < L.length) (j : Nat) : sec (q1 P i) j = if j = 9 * i then z0 else sec P j := by
  have hr := h.room i hi
  unfold q1
  rw [sec_wr _ _ _ 1 (by omega) (by rw [z0_size]; omega) j]
  by_cases e : j = 9 * i
  · rw [if_pos (by omega), if_pos e, show j - 9 * i = 0 by omega, pc_one _ z0_size]
  · rw [if_neg (by omega), if_neg e]
theorem Good.okq (h : Good P L) (hi : i < L.length) : Ok (q1 P i) := wr_ok h.ok _ _ 1 (by have := h.room i hi; omega) (by rw [z0_size]; omega)
theorem Good.q2 (h : Good P L) (hi : i < L.length) : Good (q2 P i) (L.set i none) ∧ Cl (q2 P i) := by
  refine ⟨h.change i none hi (M.flush_ok (h.okq hi)) (lenq2 P i) ?_ (fun j hj => ?_) (by intro p s e; cases e), Cl.flush _⟩
  · exact (sec_flush _ _).trans (by rw [h.secq hi, if_pos rfl])
  · exact (sec_flush _ _).trans (by rw [h.secq hi, if_neg (by omega)])
theorem Good.crashq (h : Good P L) (hc : Cl P) (hi : i < L.length) (keep : Nat) : Good (M.crash (q1 P i) keep 0) L ∨ Good (M.crash (q1 P i) keep 0) (L.set i none) := by
  have sp := M.crash_spec (h.okq hi) keep 0
  have hj : ∀ j, j ≠ 9 * i → sec (M.crash (q1 P i) keep 0) j = sec P j := fun j hn => by
    have e1 : sec (q1 P i) j = sec P j := by rw [h.secq hi, if_neg hn]
    rw [crash_sure keep j (by rw [e1]; exact (fl_wr _ _ _ _ _).trans (hc j)), e1]
  rcases crash_or (q1 P i) keep (9 * i) with e | e
  · right
    exact h.change i none hi sp.2.1 (sp.1.trans (lenq1 P i)) (e.trans (by rw [h.secq hi, if_pos rfl])) (fun j hj' => hj j (by omega)) (by intro p s e; cases e)
  · left
    refine h.same sp.2.1 (sp.1.trans (lenq1 P i)) fun j => ?_
    by_cases hk : j = 9 * i
    · rw [hk, e]
      exact (fl_wr _ _ _ _ _).trans (hc _)
    · exact hj j hk
end
/-- What is read of a slot. -/
theorem cat_cons (x : ByteArray) (L : List ByteArray) : cat (x :: L) = x ++ cat L := by
  unfold cat
  rw [List.flatMap_cons, ← M.ofL_app, ofL_of]
theorem ext_app (t : ByteArray) (a b : Nat) (h : a ≤ b) (hb : b ≤ t.size) : t.extract 0 a ++ t.extract a b = t.extract 0 b := by
  apply ByteArray.ext
  apply Array.ext'
  rw [ByteArray.data_append, ByteArray.data_extract, ByteArray.data_extract, ByteArray.data_extract, Array.toList_append, Array.toList_extract, Array.toList_extract, Array.toList_extract, List.extract_eq_take_drop, List.extract_eq_take_drop, List.extract_eq_take_drop]
  rw [List.drop_zero, Nat.sub_zero, Nat.sub_zero]
  have : (t.data.toList.take b) = (t.data.toList.take b).take a ++ (t.data.toList.take b).drop a := (List.take_append_drop _ _).symm
  rw [this, List.take_take, Nat.min_eq_left h, List.drop_take]
theorem cat_pcs (B : List ByteArray) (t : ByteArray) (a m : Nat) (hm : m * 64 ≤ t.size) (h : ∀ k, k < m → B[a + k]? = some (pc t k)) : cat ((B.drop a).take m) = t.extract 0 (m * 64) := by
  induction m with
  | zero => simp [M.cat_nil, E]; rfl
  | succ m ih =>
    have e : (B.drop a).take (m + 1) = (B.drop a).take m ++ [pc t m] := by
      rw [List.take_add_one, List.getElem?_drop, h m (by omega)]
      rfl
    rw [e, M.cat_app, ih (by omega) (fun k hk => h k (by omega))]
    unfold pc
    rw [ext_app t _ _ (by omega) (by omega)]
    congr 1
    omega
theorem sec_some (P : List Pl) (j : Nat) (h : j < P.length) : (P.map last)[j]? = some (sec P j) := by
  rw [sec_eq, List.getElem?_map, List.getElem?_eq_getElem h]
  rfl
/-- The bytes of n sectors from a on. -/
def tx (P : List Pl) (a n : Nat) : ByteArray := cat (((P.map last).drop a).take n)
theorem tx_size {P : List Pl} (h : Ok P) (a n : Nat) (hn : a + n ≤ P.length) : (tx P a n).size = n * 64 := by
  unfold tx
  rw [M.cat_size _ (fun s hs => by
    have := List.mem_of_mem_drop (List.mem_of_mem_take hs)
    simp only [List.mem_map] at this
    obtain ⟨p, hp, rfl⟩ := this
    exact h.last p hp), List.length_take, List.length_drop, List.length_map]
  congr 1
  omega
theorem tx_body {P : List Pl} {i a b : Nat} {s : ByteArray} (h : Sat P i (some ((a, b), s))) (hr : 9 * i + 9 ≤ P.length) : tx P (9 * i + 1) 8 = bb s := by
  obtain ⟨_, _, h3, _, h5⟩ := h
  have hz := bb_size s h3
  unfold tx
  rw [cat_pcs (P.map last) (bb s) (9 * i + 1) 8 (by omega) (fun k hk => by rw [sec_some P _ (by omega), h5 k hk]; rfl), show 8 * 64 = (bb s).size by omega]
  exact ByteArray.extract_zero_size
theorem tx_nine {P : List Pl} {i : Nat} (hr : 9 * i + 9 ≤ P.length) : tx P (9 * i) 9 = sec P (9 * i) ++ tx P (9 * i + 1) 8 := by
  unfold tx
  rw [← cat_cons]
  congr 1
  apply List.ext_getElem?
  intro j
  cases j with
  | zero => rw [List.getElem?_take, if_pos (by omega), List.getElem?_drop, Nat.add_zero, sec_some P _ (by omega)]; rfl
  | succ j =>
    rw [List.getElem?_cons_succ, List.getElem?_take, List.getElem?_take, List.getElem?_drop, List.getElem?_drop, show 9 * i + (j + 1) = 9 * i + 1 + j by omega]
    by_cases hj : j < 8
    · rw [if_pos (by omega), if_pos hj]
    · rw [if_neg (by omega), if_neg hj]
theorem Good.so {P : List Pl} {L : List Sl} (h : Good P L) {i : Nat} {x : Sl} (hx : L[i]? = some x) : Fr.so (tx P (9 * i) 9).data.toList = x ∧ (tx P (9 * i) 9).size = 576 := by
  have hi := (List.getElem?_eq_some_iff.1 hx).1
  have hr := h.room i hi
  refine ⟨?_, tx_size h.ok _ _ hr⟩
  have hs := h.sat i x hx
  rw [tx_nine hr]
  cases x with
  | none =>
    have e : sec P (9 * i) = z0 := hs
    rw [e]
    refine so_zero _ (tx P (9 * i + 1) 8).data.toList ?_
    rw [ByteArray.data_append, Array.toList_append, z0, ofL_data]
  | some y =>
    obtain ⟨⟨a, b⟩, s⟩ := y
    rw [tx_body hs hr]
    obtain ⟨h1, h2, h3, h4, _⟩ := hs
    rw [h4, ByteArray.data_append, Array.toList_append, ofL_data, bb, ofL_data, so_img a b _ h1 h2 (by rw [len_data]; exact h3), ofL_of]
theorem bb_cut (s : ByteArray) : (bb s).extract 0 s.size = s := by
  apply ByteArray.ext
  apply Array.ext'
  rw [ByteArray.data_extract, Array.toList_extract, bb, ofL_data, List.extract_eq_take_drop, List.drop_zero, Nat.sub_zero, pd, ← len_data]
  exact List.take_left' rfl
/-- Is a slot p's? -/
def isAt (p q : Int) : Sl → Bool
  | none => false
  | some ((a, b), _) => decide ((a : Int) = p) && decide ((b : Int) = q)
/-- The first place at which f holds, if there is one. -/
theorem first (L : List Sl) (f : Sl → Bool) : (∀ (i : Nat) (x : Sl), L[i]? = some x → f x = false) ∨ ∃ (i : Nat) (x : Sl), L[i]? = some x ∧ f x = true ∧ ∀ (j : Nat) (y : Sl), j < i → L[j]? = some y → f y = false := by
  induction L with
  | nil => left; intro i x h; simp at h
  | cons x L ih =>
    cases hx : f x with
    | true => right; exact ⟨0, x, rfl, hx, fun j y hj => by omega⟩
    | false =>
      rcases ih with h | ⟨i, y, h1, h2, h3⟩
      · left
        intro i y hy
        cases i with
        | zero => cases hy; exact hx
        | succ i => exact h i y hy
      · right
        refine ⟨i + 1, y, h1, h2, fun j z hj hz => ?_⟩
        cases j with
        | zero => cases hz; exact hx
        | succ j => exact h3 j z (by omega) hz
def mayBe (p q : Int) : Bool := decide (0 ≤ p) && (decide (p ≤ 2147483647) && (decide (0 ≤ q) && decide (q < 8)))
/-- How many slots are free; all places. -/
def fre (L : List Sl) : Nat := L.countP fun x => x.isNone
def pls (L : List Sl) : List (Nat × Nat) := L.filterMap fun x => x.map (·.1)
theorem fre_set (L : List Sl) (i : Nat) (y : (Nat × Nat) × ByteArray) (h : L[i]? = some (some y)) : fre (L.set i none) = fre L + 1 := by
  obtain ⟨hi, e⟩ := List.getElem?_eq_some_iff.1 h
  unfold fre
  rw [List.countP_set hi, e]
  simp
theorem fre_le (L : List Sl) : fre L ≤ L.length := List.countP_le_length
theorem mem_pls (L : List Sl) (p : Nat × Nat) : p ∈ pls L ↔ ∃ (i : Nat) (s : ByteArray), L[i]? = some (some (p, s)) := by
  unfold pls
  rw [List.mem_filterMap]
  constructor
  · rintro ⟨x, hx, e⟩
    obtain ⟨i, hi⟩ := List.getElem?_of_mem hx
    cases x with
    | none => cases e
    | some y =>
      obtain ⟨p', s⟩ := y
      simp only [Option.map_some, Option.some.injEq] at e
      subst e
      exact ⟨i, s, hi⟩
  · rintro ⟨i, s, h⟩
    exact ⟨_, List.mem_of_getElem? h, rfl⟩
end Go.Proofs.Yticjilpomdahbaa.Fr
