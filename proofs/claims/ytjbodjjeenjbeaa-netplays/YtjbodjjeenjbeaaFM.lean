/-
  Messages as bytes, plain: which may be sent, their bytes, what bytes tell; there and back; a byte that is another one is told by the sum.
-/
import Derived.Test.YtjbodjjeenjbeaaH
import Derived.Test.YtjbodjjeenjbeaaSD
namespace Go.Proofs.Ytjbodjjeenjbeaa
set_option linter.unusedVariables false
namespace Msg

def inn (n a b : Int) : Bool := decide (a ≤ n) && decide (n ≤ b)
def fits (k f t i : Int) : Bool := inn k 1 99 && (inn f 0 63 && (inn t 0 63 && inn i 0 2147483647))
def chk (k f t i : Int) (n : Nat) : Int := bif fits k f t i then bif decide (4096 < n) then 2 else 0 else 1
def u8 (n : Int) : UInt8 := UInt8.ofNat n.toNat
/-- A message's bytes, not sealed. -/
def bts (k f t i : Int) (b : List UInt8) : List UInt8 := [u8 k] ++ [u8 f] ++ [u8 t] ++ M.enc i ++ M.encT b
/-- What is laid behind so many fields. -/
def pre (k f t i : Int) (b : List UInt8) : Nat → List UInt8
  | 0 => []
  | 1 => [u8 k]
  | 2 => [u8 k] ++ [u8 f]
  | 3 => [u8 k] ++ [u8 f] ++ [u8 t]
  | 4 => [u8 k] ++ [u8 f] ++ [u8 t] ++ M.enc i
  | _ => bts k f t i b
def ecode (k f t i : Int) (b : List UInt8) : List UInt8 := bif decide (chk k f t i b.length = 0) then K2.sealed (bts k f t i b) else []

theorem inn_iff (n a b : Int) : inn n a b = true ↔ a ≤ n ∧ n ≤ b := by simp [inn]
theorem fits_iff (k f t i : Int) : fits k f t i = true ↔ (1 ≤ k ∧ k ≤ 99) ∧ (0 ≤ f ∧ f ≤ 63) ∧ (0 ≤ t ∧ t ≤ 63) ∧ (0 ≤ i ∧ i ≤ 2147483647) := by simp [fits, inn_iff]
theorem chk_zero (k f t i : Int) (n : Nat) : chk k f t i n = 0 ↔ fits k f t i = true ∧ n ≤ 4096 := by
  unfold chk
  cases fits k f t i
  · simp
  · by_cases h : 4096 < n
    · simp [h]
    · simp [h]; omega
theorem chk_cases (k f t i : Int) (n : Nat) : fits k f t i = false ∧ chk k f t i n = 1 ∨ fits k f t i = true ∧ 4096 < n ∧ chk k f t i n = 2 ∨ fits k f t i = true ∧ n ≤ 4096 ∧ chk k f t i n = 0 := by
  unfold chk
  cases fits k f t i
  · simp
  · by_cases h : 4096 < n
    · simp [h]
    · simp [h]; omega
theorem u8_nat (n : Int) (h : 0 ≤ n ∧ n ≤ 255) : ((u8 n).toNat : Int) = n := by
  unfold u8
  rw [UInt8.toNat_ofNat']
  omega
theorem bts_len (k f t i : Int) (b : List UInt8) (hi : 0 ≤ i ∧ i ≤ 2147483647) (hb : b.length ≤ 4096) : (bts k f t i b).length ≤ 4119 := by
  have h1 := M.enc_ten i (by omega)
  have h2 := M.enc_ten (b.length : Int) (by omega)
  simp only [bts, M.encT, List.length_append, List.length_cons, List.length_nil]
  omega
theorem pre_le (k f t i : Int) (b : List UInt8) (hi : 0 ≤ i ∧ i ≤ 2147483647) (hb : b.length ≤ 4096) (j : Nat) : (pre k f t i b j).length ≤ 4119 := by
  have h1 := M.enc_ten i (by omega)
  have h2 := bts_len k f t i b hi hb
  match j with
  | 0 => simp [pre]
  | 1 => simp [pre]
  | 2 => simp [pre]
  | 3 => simp [pre]
  | 4 => simp only [pre, List.length_append, List.length_cons, List.length_nil]; omega
  | j + 5 => exact h2
theorem lay_byte (l : List UInt8) (n : Int) (h : 0 ≤ n ∧ n ≤ 255) (hl : l.length ≤ 4119) : M.byteW 65536 (0, l) n = (0, l ++ [u8 n]) := by
  unfold M.byteW
  rw [if_neg (by simp), if_neg (by omega), M.lay_fits _ _ _ (by simp; omega)]
  rfl
theorem lay_list (l s : List UInt8) (hl : l.length ≤ 4119) (hs : s.length ≤ 4119) : M.lay 65536 (0, l) s = (0, l ++ s) := M.lay_fits _ _ _ (by omega)

/-- What is read: the states between, and the answers. -/
def s1 (l : List UInt8) : Option (List UInt8) := nx (M.byte l)
def s2 (l : List UInt8) : Option (List UInt8) := nx (M.byte (lft (s1 l)))
def s3 (l : List UInt8) : Option (List UInt8) := nx (M.byte (lft (s2 l)))
def s4 (l : List UInt8) : Option (List UInt8) := nx (M.int (lft (s3 l)))
def s5 (l : List UInt8) : Option (List UInt8) := nx (M.text (lft (s4 l)))
def rk (l : List UInt8) : Int := vl 0 (M.byte l)
def rf (l : List UInt8) : Int := vl 0 (M.byte (lft (s1 l)))
def rt (l : List UInt8) : Int := vl 0 (M.byte (lft (s2 l)))
def ri (l : List UInt8) : Int := vl 0 (M.int (lft (s3 l)))
def rb (l : List UInt8) : List UInt8 := vl [] (M.text (lft (s4 l)))
def sts (l : List UInt8) : Nat → Option (List UInt8)
  | 0 => some l
  | 1 => s1 l
  | 2 => s2 l
  | 3 => s3 l
  | 4 => s4 l
  | _ => s5 l
theorem s1_le (l : List UInt8) : (lft (s1 l)).length ≤ l.length := byte_left l
theorem s2_le (l : List UInt8) : (lft (s2 l)).length ≤ l.length := Nat.le_trans (byte_left _) (s1_le l)
theorem s3_le (l : List UInt8) : (lft (s3 l)).length ≤ l.length := Nat.le_trans (byte_left _) (s2_le l)
theorem s4_le (l : List UInt8) : (lft (s4 l)).length ≤ l.length := Nat.le_trans (int_left _) (s3_le l)
theorem s5_le (l : List UInt8) : (lft (s5 l)).length ≤ l.length := Nat.le_trans (text_left _) (s4_le l)
theorem rb_le (l : List UInt8) : (rb l).length ≤ l.length := by
  unfold rb
  cases h : M.text (lft (s4 l)) with
  | none => simp [vl]
  | some p => exact Nat.le_trans (M.text_size _ _ _ h) (s4_le l)
/-- Whether bytes, not sealed, are just a message's. -/
def good (l : List UInt8) : Bool := decide (rdone (s5 l) = 0) && decide (chk (rk l) (rf l) (rt l) (ri l) (rb l).length = 0)

theorem nx_none {α : Type} {o : Option (α × List UInt8)} (h : o = none) : nx o = none := by rw [h]; rfl
theorem lft_none : lft none = [] := rfl
theorem s5_all (l : List UInt8) (h : s5 l = some []) : ∃ a b c r1 r2 r3, l = a :: b :: c :: r1 ∧ M.int r1 = some (ri l, r2) ∧ M.text r2 = some (rb l, r3) ∧ r3 = [] ∧ rk l = (a.toNat : Int) ∧ rf l = (b.toNat : Int) ∧ rt l = (c.toNat : Int) := by
  match l, h with
  | [], h => exact absurd h (by decide)
  | [a], h => exact absurd h (by simp [s5, s4, s3, s2, s1, nx, lft, M.byte, M.int_nil, M.text, M.count_none _ M.int_nil])
  | [a, b], h => exact absurd h (by simp [s5, s4, s3, s2, s1, nx, lft, M.byte, M.int_nil, M.text, M.count_none _ M.int_nil])
  | a :: b :: c :: r1, h =>
    have e3 : lft (s3 (a :: b :: c :: r1)) = r1 := rfl
    have e4 : s4 (a :: b :: c :: r1) = nx (M.int r1) := rfl
    have ei : ri (a :: b :: c :: r1) = vl 0 (M.int r1) := rfl
    cases hi : M.int r1 with
    | none =>
      rw [hi] at e4
      unfold s5 at h
      rw [e4] at h
      exact absurd h (by simp [nx, lft, M.text, M.count_none _ M.int_nil])
    | some p =>
      obtain ⟨i, r2⟩ := p
      rw [hi] at e4 ei
      have e4' : lft (s4 (a :: b :: c :: r1)) = r2 := by rw [e4]; rfl
      have eb : rb (a :: b :: c :: r1) = vl [] (M.text r2) := by unfold rb; rw [e4']
      unfold s5 at h
      rw [e4'] at h
      cases ht : M.text r2 with
      | none => rw [ht] at h; exact absurd h (by simp [nx])
      | some q =>
        obtain ⟨b', r3⟩ := q
        rw [ht] at h eb
        refine ⟨a, b, c, r1, r2, r3, rfl, ?_, ?_, ?_, rfl, rfl, rfl⟩
        · rw [ei]; exact hi
        · rw [eb]; exact ht
        · simpa [nx] using h
theorem u8_back (c : UInt8) : u8 (c.toNat : Int) = c := by
  unfold u8
  rw [Int.toNat_natCast, UInt8.ofNat_toNat]
/-- Bytes that are read are just the message's. -/
theorem good_bts (l : List UInt8) (h : good l = true) : chk (rk l) (rf l) (rt l) (ri l) (rb l).length = 0 ∧ bts (rk l) (rf l) (rt l) (ri l) (rb l) = l := by
  simp only [good, Bool.and_eq_true, decide_eq_true_eq] at h
  obtain ⟨h1, h2⟩ := h
  refine ⟨h2, ?_⟩
  have h3 : s5 l = some [] := by
    rcases rdone_eq (s5 l) with h' | h'
    · exact h'.2
    · omega
  obtain ⟨a, b, c, r1, r2, r3, e1, e2, e3, e4, e5, e6, e7⟩ := s5_all l h3
  have g1 := (M.int_only _ _ _ e2).1
  have g2 := M.text_only _ _ _ e3
  unfold bts
  rw [e5, e6, e7, u8_back, u8_back, u8_back]
  rw [e4, List.append_nil] at g2
  rw [← g2, List.append_assoc, ← g1]
  exact e1.symm
/-- A message's bytes are read as it was. -/
theorem bts_good (k f t i : Int) (b : List UInt8) (h : chk k f t i b.length = 0) :
    good (bts k f t i b) = true ∧ rk (bts k f t i b) = k ∧ rf (bts k f t i b) = f ∧ rt (bts k f t i b) = t ∧ ri (bts k f t i b) = i ∧ rb (bts k f t i b) = b := by
  obtain ⟨hf, hb⟩ := (chk_zero _ _ _ _ _).1 h
  obtain ⟨h1, h2, h3, h4⟩ := (fits_iff _ _ _ _).1 hf
  have hi : M.int (M.enc i ++ M.encT b) = some (i, M.encT b) := M.int_enc _ _ (by omega)
  have ht : M.text (M.encT b) = some (b, []) := by
    have := M.text_enc b [] (by omega)
    rwa [List.append_nil] at this
  have el : bts k f t i b = u8 k :: u8 f :: u8 t :: (M.enc i ++ M.encT b) := by simp [bts]
  have e3 : lft (s3 (bts k f t i b)) = M.enc i ++ M.encT b := by rw [el]; rfl
  have e4 : s4 (bts k f t i b) = some (M.encT b) := by unfold s4; rw [e3, hi]; rfl
  have e5 : s5 (bts k f t i b) = some [] := by
    unfold s5
    rw [e4]
    show nx (M.text (M.encT b)) = _
    rw [ht]; rfl
  have ek : rk (bts k f t i b) = k := by rw [el]; exact u8_nat k (by omega)
  have ef : rf (bts k f t i b) = f := by rw [el]; exact u8_nat f (by omega)
  have et : rt (bts k f t i b) = t := by rw [el]; exact u8_nat t (by omega)
  have ei : ri (bts k f t i b) = i := by unfold ri; rw [e3, hi]; rfl
  have eb : rb (bts k f t i b) = b := by
    unfold rb
    rw [e4]
    show vl [] (M.text (M.encT b)) = _
    rw [ht]; rfl
  refine ⟨?_, ek, ef, et, ei, eb⟩
  simp only [good, Bool.and_eq_true, decide_eq_true_eq]
  rw [ek, ef, et, ei, eb, e5]
  exact ⟨rfl, h⟩

/-- What Decode tells: the code, and whether a message is told; its bytes, opened. -/
def body (s : ByteArray) : List UInt8 := (openOut s).1.data.toList
def dcode (s : ByteArray) : Int := bif decide ((openOut s).2 ≠ 0) then (openOut s).2 else bif good (body s) then 0 else 3
def dk (s : ByteArray) : Int := bif decide (dcode s = 0) then rk (body s) else 0
def df (s : ByteArray) : Int := bif decide (dcode s = 0) then rf (body s) else 0
def dt (s : ByteArray) : Int := bif decide (dcode s = 0) then rt (body s) else 0
def di (s : ByteArray) : Int := bif decide (dcode s = 0) then ri (body s) else 0
def db (s : ByteArray) : List UInt8 := bif decide (dcode s = 0) then rb (body s) else []
theorem open_cases (s : ByteArray) : s.size < 4 ∧ openOut s = (ByteArray.empty, 2) ∨ ¬ s.size < 4 ∧ K2.sealed (s.data.toList.take (s.size - 4)) = s.data.toList ∧ openOut s = (ofL (s.data.toList.take (s.size - 4)), 0) ∨ ¬ s.size < 4 ∧ K2.sealed (s.data.toList.take (s.size - 4)) ≠ s.data.toList ∧ openOut s = (ByteArray.empty, 4) := by
  unfold openOut
  by_cases h : s.size < 4
  · simp [h]
  · by_cases h2 : K2.sealed (s.data.toList.take (s.size - 4)) = s.data.toList
    · simp [h, h2]
    · simp [h, h2]
theorem open_sealed (l : List UInt8) : openOut (ofL (K2.sealed l)) = (ofL l, 0) := by
  have hs : (ofL (K2.sealed l)).size = l.length + 4 := by rw [ofL_size, K2.seal_len]
  have ht : (ofL (K2.sealed l)).data.toList.take ((ofL (K2.sealed l)).size - 4) = l := by
    rw [hs, ofL_data]
    unfold K2.sealed
    rw [show l.length + 4 - 4 = l.length by omega, List.take_left]
  unfold openOut
  rw [if_neg (by omega), if_pos (by rw [ht, ofL_data]), ht]
theorem body_le (s : ByteArray) : (body s).length ≤ s.size := by
  unfold body
  rcases open_cases s with ⟨h1, h2⟩ | ⟨h1, h2, h3⟩ | ⟨h1, h2, h3⟩
  · rw [h2]; simp
  · rw [h3, ofL_data, List.length_take]; omega
  · rw [h3]; simp
/-- A message's sealed bytes are told as it. -/
theorem back_of (k f t i : Int) (b : List UInt8) (h : chk k f t i b.length = 0) :
    dcode (ofL (K2.sealed (bts k f t i b))) = 0 ∧ dk (ofL (K2.sealed (bts k f t i b))) = k ∧ df (ofL (K2.sealed (bts k f t i b))) = f ∧ dt (ofL (K2.sealed (bts k f t i b))) = t ∧ di (ofL (K2.sealed (bts k f t i b))) = i ∧ db (ofL (K2.sealed (bts k f t i b))) = b := by
  obtain ⟨g0, g1, g2, g3, g4, g5⟩ := bts_good k f t i b h
  have e1 := open_sealed (bts k f t i b)
  have e2 : body (ofL (K2.sealed (bts k f t i b))) = bts k f t i b := by unfold body; rw [e1, ofL_data]
  have e3 : dcode (ofL (K2.sealed (bts k f t i b))) = 0 := by unfold dcode; rw [e2, e1, g0]; rfl
  unfold dk df dt di db
  rw [e3, e2]
  exact ⟨rfl, g1, g2, g3, g4, g5⟩
/-- What is told is a message that may be, and the bytes are just its. -/
theorem only_of (s : ByteArray) (h : dcode s = 0) : chk (dk s) (df s) (dt s) (di s) (db s).length = 0 ∧ ofL (K2.sealed (bts (dk s) (df s) (dt s) (di s) (db s))) = s := by
  have hd := h
  unfold dcode at h
  rcases open_cases s with ⟨h1, h2⟩ | ⟨h1, h2, h3⟩ | ⟨h1, h2, h3⟩
  · rw [h2] at h; exact absurd h (by simp)
  · rw [h3] at h
    cases hg : good (body s) with
    | false => rw [hg] at h; exact absurd h (by simp)
    | true =>
      obtain ⟨g1, g2⟩ := good_bts _ hg
      unfold dk df dt di db
      rw [hd]
      refine ⟨g1, ?_⟩
      show ofL (K2.sealed (bts (rk (body s)) (rf (body s)) (rt (body s)) (ri (body s)) (rb (body s)))) = s
      rw [g2]
      unfold body
      rw [h3, ofL_data, h2, ofL_of]
  · rw [h3] at h; exact absurd h (by simp)
theorem four0 : ∀ a : Fin 256, K2.four (BitVec.ofNat 32 a.val) = [UInt8.ofNat a.val, 0, 0, 0] := by decide +kernel
theorem four1 : ∀ a : Fin 256, K2.four (BitVec.ofNat 32 (a.val * 256)) = [0, UInt8.ofNat a.val, 0, 0] := by decide +kernel
theorem four2 : ∀ a : Fin 256, K2.four (BitVec.ofNat 32 (a.val * 65536)) = [0, 0, UInt8.ofNat a.val, 0] := by decide +kernel
theorem four3 : ∀ a : Fin 256, K2.four (BitVec.ofNat 32 (a.val * 16777216)) = [0, 0, 0, UInt8.ofNat a.val] := by decide +kernel
theorem four_z : K2.four 0#32 = [0, 0, 0, 0] := by decide +kernel
theorem four_at (x : UInt8) (j : Nat) (hj : j < 4) : ∃ y, K2.four y = [0, 0, 0, 0].set j x := by
  have hx : x.toNat < 256 := x.toNat_lt
  have e : UInt8.ofNat x.toNat = x := UInt8.ofNat_toNat
  have h0 := four0 ⟨x.toNat, hx⟩
  have h1 := four1 ⟨x.toNat, hx⟩
  have h2 := four2 ⟨x.toNat, hx⟩
  have h3 := four3 ⟨x.toNat, hx⟩
  simp only [e] at h0 h1 h2 h3
  match j, hj with
  | 0, _ => exact ⟨_, h0⟩
  | 1, _ => exact ⟨_, h1⟩
  | 2, _ => exact ⟨_, h2⟩
  | 3, _ => exact ⟨_, h3⟩
theorem split4 (l : List UInt8) (k : Nat) (h : k + 4 ≤ l.length) : ∃ p a b c d q, l = p ++ [a, b, c, d] ++ q ∧ p.length = k := by
  refine ⟨l.take k, l[k], l[k + 1], l[k + 2], l[k + 3], l.drop (k + 4), ?_, by rw [List.length_take]; omega⟩
  conv => lhs; rw [← List.take_append_drop k l]
  rw [List.append_assoc]
  congr 1
  rw [List.drop_eq_getElem_cons (by omega), List.drop_eq_getElem_cons (by omega), List.drop_eq_getElem_cons (by omega), List.drop_eq_getElem_cons (by omega)]
  rfl
theorem set_seal (l t : List UInt8) (i : Nat) (c x : UInt8) (hc : (K2.sealed l)[i]? = some c) (hx : x ≠ 0) : (K2.sealed l).set i (c ^^^ x) ≠ K2.sealed t := by
  have hi : i < (K2.sealed l).length := (List.getElem?_eq_some_iff.1 hc).1
  have hl := K2.seal_len l
  obtain ⟨p, a, b, c', d, q, e, hp⟩ := split4 (K2.sealed l) (min i l.length) (by omega)
  obtain ⟨j, hj, hij⟩ : ∃ j, j < 4 ∧ i = p.length + j := ⟨i - p.length, by omega, by omega⟩
  obtain ⟨y, hy⟩ := four_at x j hj
  have hy0 : y ≠ 0#32 := by
    intro h
    rw [h, four_z] at hy
    match j, hj with
    | 0, _ => simp at hy; exact hx hy.symm
    | 1, _ => simp at hy; exact hx hy.symm
    | 2, _ => simp at hy; exact hx hy.symm
    | 3, _ => simp at hy; exact hx hy.symm
  have hb := K2.burst p [a, b, c', d] q y rfl hy0 l t e.symm
  have e2 : (K2.sealed l).set i (c ^^^ x) = p ++ K2.zipx [a, b, c', d] (K2.four y) ++ q := by
    rw [hy]
    rw [e, hij, List.append_assoc, List.getElem?_append_right (by omega)] at hc
    rw [e, hij, List.append_assoc, List.set_append_right _ _ (by omega), List.append_assoc]
    congr 1
    rw [show p.length + j - p.length = j by omega] at hc ⊢
    match j, hj with
    | 0, _ => simp at hc; subst hc; simp [K2.zipx]
    | 1, _ => simp at hc; subst hc; simp [K2.zipx]
    | 2, _ => simp at hc; subst hc; simp [K2.zipx]
    | 3, _ => simp at hc; subst hc; simp [K2.zipx]
  rw [e2]
  exact hb
/-- A sealed text of which one byte is another one is not opened. -/
theorem byte_of (l : List UInt8) (i : Nat) (c x : UInt8) (hc : (K2.sealed l)[i]? = some c) (hx : x ≠ 0) : openOut (ofL ((K2.sealed l).set i (c ^^^ x))) = (ByteArray.empty, 4) := by
  have hs : (ofL ((K2.sealed l).set i (c ^^^ x))).size = l.length + 4 := by rw [ofL_size, List.length_set, K2.seal_len]
  rcases open_cases (ofL ((K2.sealed l).set i (c ^^^ x))) with ⟨h1, h2⟩ | ⟨h1, h2, h3⟩ | ⟨h1, h2, h3⟩
  · omega
  · rw [ofL_data] at h2
    exact absurd h2.symm (set_seal l _ i c x hc hx)
  · exact h3
theorem byte_dcode (l : List UInt8) (i : Nat) (c x : UInt8) (hc : (K2.sealed l)[i]? = some c) (hx : x ≠ 0) : dcode (ofL ((K2.sealed l).set i (c ^^^ x))) = 4 := by
  unfold dcode
  rw [byte_of l i c x hc hx]
  rfl
end Msg
end Go.Proofs.Ytjbodjjeenjbeaa
