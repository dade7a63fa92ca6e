/-
  Nets, plain: what is under way, which links are cut, and what each call answers and leaves, the program's and the document's.
-/
import Derived.Test.YtjbodjjeenjbeaaL
import Derived.Test.YtjbodjjeenjbeaaSF
namespace Go.Proofs.Ytjbodjjeenjbeaa
set_option linter.unusedVariables false
namespace Nt

/-- What is under way: two numbers (a link, or who sends to whom) and bytes. -/
structure Pk where
  a : Int
  b : Int
  s : ByteArray
def wr (i : Int) (n : Nat) : Nat := (i % (n : Int)).toNat
theorem wr_int (i : Int) {n : Nat} (h : 0 < n) : ((wr i n : Nat) : Int) = i % (n : Int) := by
  have := Int.emod_nonneg i (show (n : Int) ≠ 0 by omega)
  unfold wr
  omega
theorem wr_lt (i : Int) {n : Nat} (h : 0 < n) : wr i n < n := by
  have h1 := wr_int i h
  have h2 := Int.emod_lt_of_pos i (show (0 : Int) < (n : Int) by omega)
  omega
def node (n a : Int) : Bool := decide (0 ≤ a) && decide (a < n)
theorem node_iff (n a : Int) : node n a = true ↔ 0 ≤ a ∧ a < n := by simp [node]
def lim (n : Int) : Int := min (max n 1) 64
theorem lim_le (n : Int) : 1 ≤ lim n ∧ lim n ≤ 64 := by unfold lim; omega
def lob (y : Int) : UInt8 := UInt8.ofNat (y % 256).toNat
theorem lob_nat (y : Int) : ((lob y).toNat : Int) = y % 256 := by
  unfold lob
  rw [UInt8.toNat_ofNat']
  omega
def lk (p : Pk) : Pk := ⟨min p.a p.b, max p.a p.b, p.s⟩
def byteAt (l : List UInt8) (j : Nat) : UInt8 := l[j]?.getD 0
/-- One byte of a text xored. -/
def spl (s : ByteArray) (at' by' : Int) : ByteArray := ofL (s.data.toList.set (wr at' s.size) (byteAt s.data.toList (wr at' s.size) ^^^ lob by'))
theorem spl_size (s : ByteArray) (at' by' : Int) : (spl s at' by').size = s.size := by unfold spl; rw [ofL_size, List.length_set, len_data]

/-- Whether a message may go. -/
def may (n : Int) (L : List Pk) (k f t i : Int) (b : List UInt8) : Bool := node n f && (node n t && (decide (Msg.chk k f t i b.length = 0) && decide (L.length < 1024)))
def add (ok : Bool) (L : List Pk) (p : Pk) : List Pk := bif ok then L ++ [p] else L
def drp (L : List Pk) (i : Int) : List Pk := L.eraseIdx (wr i L.length)
def is (L : List Pk) : Bool := decide (0 < L.length)
def room (L : List Pk) : Bool := decide (L.length < 1024)
def dbl (L : List Pk) (i : Int) : List Pk := bif is L && room L then L ++ (L[wr i L.length]?).toList else L
def spo (L : List Pk) (i at' by' : Int) : List Pk := match L[wr i L.length]? with
  | some p => L.set (wr i L.length) ⟨p.a, p.b, spl p.s at' by'⟩
  | none => L
def out (L : List Pk) (C : Int → Int → Bool) (i : Int) : Option ByteArray := match L[wr i L.length]? with
  | some p => bif C p.a p.b then none else some p.s
  | none => none
def gk : Option ByteArray → Int | some s => Msg.dk s | none => 0
def gf : Option ByteArray → Int | some s => Msg.df s | none => 0
def gt : Option ByteArray → Int | some s => Msg.dt s | none => 0
def gi : Option ByteArray → Int | some s => Msg.di s | none => 0
def gb : Option ByteArray → ByteArray | some s => ofL (Msg.db s) | none => ofL []
def gok : Option ByteArray → Bool | some s => decide (Msg.dcode s = 0) | none => false
/-- A message as a value. -/
def mv (k f t i : Int) (b : ByteArray) : Value := .agg #[.int .i64 k, .int .i64 f, .int .i64 t, .int .i64 i, .string b]
def gv (o : Option ByteArray) : Value := mv (gk o) (gf o) (gt o) (gi o) (gb o)
def cutC (C : Int → Int → Bool) (x y : Int) (on : Bool) : Int → Int → Bool := fun u v => bif decide (u = x) && decide (v = y) then on else C u v
/-- The document's links that are cut. -/
def cutK (K : List (Int × Int)) (x y : Int) (on : Bool) : List (Int × Int) := K.filter (fun q => decide (q ≠ (x, y))) ++ (bif on then [(x, y)] else [])
def rcut (K : List (Int × Int)) (x y : Int) : Bool := decide ((x, y) ∈ K)

/-- What is under way may be read and spoilt. -/
structure Ok (L : List Pk) : Prop where
  n : L.length ≤ 1024
  s : ∀ p ∈ L, 0 < p.s.size ∧ p.s.size ≤ 1000000
  l : ∀ p ∈ L, (0 ≤ p.a ∧ p.a < 64) ∧ (0 ≤ p.b ∧ p.b < 64)
theorem Ok.nil : Ok [] := ⟨by simp, fun p h => by simp at h, fun p h => by simp at h⟩
theorem Ok.drp {L : List Pk} (h : Ok L) (i : Int) : Ok (drp L i) := by
  have hm : ∀ p ∈ Nt.drp L i, p ∈ L := fun p hp => List.mem_of_mem_eraseIdx hp
  refine ⟨?_, fun p hp => h.s p (hm p hp), fun p hp => h.l p (hm p hp)⟩
  have := List.length_eraseIdx_le (l := L) (i := wr i L.length)
  unfold Nt.drp
  have := h.n
  omega
theorem Ok.app {L : List Pk} (h : Ok L) (hn : L.length < 1024) {p : Pk} (hs : 0 < p.s.size ∧ p.s.size ≤ 1000000) (hl : (0 ≤ p.a ∧ p.a < 64) ∧ (0 ≤ p.b ∧ p.b < 64)) : Ok (L ++ [p]) := by
  refine ⟨by simp; omega, fun q hq => ?_, fun q hq => ?_⟩
  · rcases List.mem_append.1 hq with h' | h'
    · exact h.s q h'
    · rw [List.mem_singleton.1 h']; exact hs
  · rcases List.mem_append.1 hq with h' | h'
    · exact h.l q h'
    · rw [List.mem_singleton.1 h']; exact hl
theorem is_lt {L : List Pk} (h : is L = true) : 0 < L.length := of_decide_eq_true h
theorem is_nil {L : List Pk} (h : is L = false) : L = [] := by
  have := of_decide_eq_false h
  exact List.length_eq_zero_iff.1 (by omega)
theorem at_some {L : List Pk} (h : 0 < L.length) (i : Int) : ∃ p, L[wr i L.length]? = some p ∧ p ∈ L := by
  have h1 := wr_lt i h
  exact ⟨L[wr i L.length], List.getElem?_eq_getElem h1, List.getElem_mem h1⟩
theorem Ok.dbl {L : List Pk} (h : Ok L) (i : Int) : Ok (dbl L i) := by
  unfold Nt.dbl
  cases h1 : is L && room L
  · exact h
  · simp only [Bool.and_eq_true] at h1
    obtain ⟨p, hp, hm⟩ := at_some (is_lt h1.1) i
    rw [hp]
    exact h.app (of_decide_eq_true h1.2) (h.s p hm) (h.l p hm)
theorem Ok.spo {L : List Pk} (h : Ok L) (i at' by' : Int) : Ok (spo L i at' by') := by
  unfold Nt.spo
  cases hp : L[wr i L.length]? with
  | none => exact h
  | some p =>
    have hm : p ∈ L := List.mem_of_getElem? hp
    refine ⟨by simp only [List.length_set]; exact h.n, fun q hq => ?_, fun q hq => ?_⟩
    · rcases List.mem_or_eq_of_mem_set hq with h' | rfl
      · exact h.s q h'
      · simp only [spl_size]; exact h.s p hm
    · rcases List.mem_or_eq_of_mem_set hq with h' | rfl
      · exact h.l q h'
      · exact h.l p hm
theorem sealed_sz (k f t i : Int) (b : List UInt8) (h : Msg.chk k f t i b.length = 0) : 0 < (ofL (Msg.ecode k f t i b)).size ∧ (ofL (Msg.ecode k f t i b)).size ≤ 1000000 := by
  obtain ⟨hf, hs⟩ := (Msg.chk_zero _ _ _ _ _).1 h
  obtain ⟨h1, h2, h3, h4⟩ := (Msg.fits_iff _ _ _ _).1 hf
  have := Msg.bts_len k f t i b h4 hs
  have he : Msg.ecode k f t i b = K2.sealed (Msg.bts k f t i b) := by unfold Msg.ecode; rw [decide_eq_true h]; rfl
  rw [he, ofL_size, K2.seal_len]
  omega
theorem may_iff (n : Int) (L : List Pk) (k f t i : Int) (b : List UInt8) : may n L k f t i b = true ↔ (0 ≤ f ∧ f < n) ∧ (0 ≤ t ∧ t < n) ∧ Msg.chk k f t i b.length = 0 ∧ L.length < 1024 := by
  unfold may
  simp only [Bool.and_eq_true, node_iff, decide_eq_true_eq]
theorem Ok.add {L : List Pk} (h : Ok L) {n : Int} (hn : n ≤ 64) (k f t i : Int) (b : List UInt8) (u v : Int) (hu : (u = f ∧ v = t) ∨ (u = min f t ∧ v = max f t)) : Ok (add (may n L k f t i b) L ⟨u, v, ofL (Msg.ecode k f t i b)⟩) := by
  unfold Nt.add
  cases hm : may n L k f t i b
  · exact h
  · obtain ⟨h1, h2, h3, h4⟩ := (may_iff _ _ _ _ _ _ _).1 hm
    refine h.app h4 (sealed_sz k f t i b h3) ?_
    show (0 ≤ u ∧ u < 64) ∧ (0 ≤ v ∧ v < 64)
    omega

/-! Both go together. -/
theorem lk_len (R : List Pk) : (R.map lk).length = R.length := List.length_map ..
theorem drp_lk (R : List Pk) (i : Int) : drp (R.map lk) i = (drp R i).map lk := by
  unfold drp
  rw [List.length_map, List.eraseIdx_eq_take_drop_succ, List.eraseIdx_eq_take_drop_succ, List.map_append, List.map_take, List.map_drop]
theorem add_lk (ok : Bool) (R : List Pk) (p : Pk) : add ok (R.map lk) (lk p) = (add ok R p).map lk := by
  unfold add
  cases ok
  · rfl
  · simp
theorem is_lk (R : List Pk) : is (R.map lk) = is R := by unfold is; rw [List.length_map]
theorem room_lk (R : List Pk) : room (R.map lk) = room R := by unfold room; rw [List.length_map]
theorem may_lk (n : Int) (R : List Pk) (k f t i : Int) (b : List UInt8) : may n (R.map lk) k f t i b = may n R k f t i b := by unfold may; rw [List.length_map]
theorem dbl_lk (R : List Pk) (i : Int) : dbl (R.map lk) i = (dbl R i).map lk := by
  unfold dbl
  rw [is_lk, room_lk, List.length_map, List.getElem?_map]
  cases h : is R && room R
  · rfl
  · cases R[wr i R.length]? <;> simp
theorem spo_lk (R : List Pk) (i at' by' : Int) : spo (R.map lk) i at' by' = (spo R i at' by').map lk := by
  unfold spo
  rw [List.length_map, List.getElem?_map]
  cases R[wr i R.length]? with
  | none => rfl
  | some p => simp [List.map_set, lk]
theorem out_lk (R : List Pk) (C : Int → Int → Bool) (i : Int) : out (R.map lk) C i = out R (fun x y => C (min x y) (max x y)) i := by
  unfold out
  rw [List.length_map, List.getElem?_map]
  cases R[wr i R.length]? with
  | none => rfl
  | some p => rfl
theorem cut_go (C : Int → Int → Bool) (K : List (Int × Int)) (h : ∀ x y, C x y = rcut K x y) (x y : Int) (on : Bool) : ∀ u v, cutC C x y on u v = rcut (cutK K x y on) u v := by
  intro u v
  unfold cutC rcut cutK
  rw [h]
  unfold rcut
  by_cases e : u = x ∧ v = y
  · obtain ⟨rfl, rfl⟩ := e
    cases on <;> simp
  · have e1 : (decide (u = x) && decide (v = y)) = false := by
      cases h1 : decide (u = x) && decide (v = y)
      · rfl
      · simp only [Bool.and_eq_true, decide_eq_true_eq] at h1
        exact absurd h1 e
    rw [e1]
    show decide ((u, v) ∈ K) = _
    congr 1
    have hne : (u, v) ≠ (x, y) := fun h => e (by cases h; exact ⟨rfl, rfl⟩)
    cases on <;> simp [hne] <;> intro _ h1 h2 <;> exact absurd ⟨h1, h2⟩ e
end Nt
end Go.Proofs.Ytjbodjjeenjbeaa
