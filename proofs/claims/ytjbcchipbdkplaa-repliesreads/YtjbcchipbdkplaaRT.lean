/-
  What is kept, as bytes; and read again.
-/
import Derived.Test.YtjbcchipbdkplaaRM
namespace Go.Proofs.Ytjbcchipbdkplaa
namespace Rp
set_option linter.unusedVariables false
open M (enc encT int byte text)

/-- A byte, and a number. -/
def hd (n : Int) (k : Nat) : List UInt8 := UInt8.ofNat n.toNat :: enc k
def encC (c : C) : List UInt8 := enc c.id ++ (if c.busy then [1] else 0 :: encT c.reply)
def encL (l : List C) : List UInt8 := l.flatMap encC
def encP (p : Int × List C) : List UInt8 := hd p.1 p.2.length ++ encL p.2
def keys (T : Int → List C) : List Int := ((List.range 64).map Int.ofNat).filter fun c => !(T c).isEmpty
def prs (T : Int → List C) : List (Int × List C) := (keys T).map fun c => (c, T c)
def txt (room : Nat) (T : Int → List C) : List UInt8 := hd room (keys T).length ++ (prs T).flatMap encP
/-- A call, its number not yet looked at. -/
def rdC (s : List UInt8) : Option (C × List UInt8) :=
  match int s with
  | none => none
  | some (id, r) =>
    match byte r with
    | none => none
    | some (b, r1) =>
      if b = 1 then some (⟨id, true, []⟩, r1)
      else if b = 0 then
        match text r1 with
        | none => none
        | some (t, r2) => if t.length ≤ 4096 then some (⟨id, false, t⟩, r2) else none
      else none
def rdN : Nat → Int → List UInt8 → Option (List C × List UInt8)
  | 0, _, s => some ([], s)
  | n + 1, last, s =>
    match rdC s with
    | none => none
    | some (c, r) => if c.id ≤ last ∨ mayI c.id = false then none else (rdN n c.id r).map fun p => (c :: p.1, p.2)
def rdL (room : Nat) (s : List UInt8) : Option (List C × List UInt8) :=
  match int s with
  | none => none
  | some (n, r) => if n < 1 ∨ (room : Int) < n then none else rdN n.toNat (-1) r
def rdM (room : Nat) : Nat → Int → List UInt8 → Option (List (Int × List C) × List UInt8)
  | 0, _, s => some ([], s)
  | n + 1, last, s =>
    match byte s with
    | none => none
    | some (c, r) =>
      match rdL room r with
      | none => none
      | some (l, r1) => if c ≤ last ∨ mayC c = false then none else (rdM room n c r1).map fun p => ((c, l) :: p.1, p.2)
def rdA (s : List UInt8) : Option ((Nat × List (Int × List C)) × List UInt8) :=
  match byte s with
  | none => none
  | some (room, r) =>
    match int r with
    | none => none
    | some (n, r1) => if room < 1 ∨ 16 < room ∨ n < 0 ∨ 64 < n then none else (rdM room.toNat n.toNat (-1) r1).map fun p => ((room.toNat, p.1), p.2)
def rdR (s : List UInt8) : Option (Nat × List (Int × List C)) :=
  match rdA s with
  | some (x, []) => some x
  | _ => none
theorem byte_only {s : List UInt8} {b : Int} {r : List UInt8} (h : byte s = some (b, r)) : s = UInt8.ofNat b.toNat :: r ∧ 0 ≤ b ∧ b ≤ 255 := by
  cases s with
  | nil => simp [byte] at h
  | cons x q =>
    simp only [byte, Option.some.injEq, Prod.mk.injEq] at h
    obtain ⟨rfl, rfl⟩ := h
    have := x.toNat_lt
    simp
    omega
theorem byte_of (n : Int) (h : 0 ≤ n ∧ n ≤ 255) (r : List UInt8) : byte (UInt8.ofNat n.toNat :: r) = some (n, r) := by
  simp only [byte, Option.some.injEq, Prod.mk.injEq, and_true]
  rw [UInt8.toNat_ofNat']
  omega
theorem rdC_enc (c : C) (r : List UInt8) (h : 0 ≤ c.id ∧ c.id ≤ 2147483647) (h1 : c.reply.length ≤ 4096) (h2 : c.busy = true → c.reply = []) : rdC (encC c ++ r) = some (c, r) := by
  obtain ⟨id, b, t⟩ := c
  unfold rdC encC
  simp only at h h1 h2 ⊢
  rw [List.append_assoc, M.int_enc id _ (by omega)]
  simp only
  cases b with
  | true =>
    rw [h2 rfl]
    rfl
  | false =>
    simp only [Bool.false_eq_true, if_false, List.cons_append]
    have e : byte ((0 : UInt8) :: (encT t ++ r)) = some (0, encT t ++ r) := rfl
    rw [e]
    simp only
    rw [if_neg (by omega), if_pos trivial, M.text_enc t r (by omega)]
    simp only
    rw [if_pos h1]
theorem rdC_only {s : List UInt8} {c : C} {r : List UInt8} (h : rdC s = some (c, r)) : s = encC c ++ r ∧ c.reply.length ≤ 4096 ∧ (c.busy = true → c.reply = []) := by
  unfold rdC at h
  split at h
  · cases h
  · rename_i id r0 hi
    split at h
    · cases h
    · rename_i b r1 hb
      obtain ⟨rfl, _⟩ := M.int_only _ _ _ hi
      obtain ⟨rfl, _, _⟩ := byte_only hb
      split at h
      · rename_i h1
        simp only [Option.some.injEq, Prod.mk.injEq] at h
        obtain ⟨rfl, rfl⟩ := h
        subst h1
        exact ⟨by simp [encC], by simp, fun _ => rfl⟩
      · split at h
        · rename_i h0
          subst h0
          split at h
          · cases h
          · rename_i t r2 ht
            split at h
            · rename_i hl
              simp only [Option.some.injEq, Prod.mk.injEq] at h
              obtain ⟨rfl, rfl⟩ := h
              have e := M.text_only _ _ _ ht
              subst e
              exact ⟨by simp [encC], hl, fun h => by cases h⟩
            · cases h
        · cases h
theorem rdN_enc : ∀ (l : List C) (last : Int) (r : List UInt8), Up l → (∀ x ∈ l, last < x.id ∧ 0 ≤ x.id ∧ x.id ≤ 2147483647 ∧ x.reply.length ≤ 4096 ∧ (x.busy = true → x.reply = [])) → rdN l.length last (encL l ++ r) = some (l, r)
  | [], last, r, _, _ => rfl
  | c :: l, last, r, hu, h => by
    unfold Up at hu
    rw [List.pairwise_cons] at hu
    obtain ⟨h1, h2, h3, h4, h5⟩ := h c (by simp)
    have e : encL (c :: l) ++ r = encC c ++ (encL l ++ r) := by unfold encL; rw [List.flatMap_cons, List.append_assoc]
    rw [e, List.length_cons, rdN, rdC_enc c _ ⟨h2, h3⟩ h4 h5]
    simp only
    rw [if_neg (by rw [mayI_of h2 h3]; simp; omega), rdN_enc l c.id r hu.2 (fun x hx => ⟨hu.1 x hx, (h x (by simp [hx])).2⟩)]
    rfl
theorem rdN_only : ∀ (n : Nat) (last : Int) (s : List UInt8) (l : List C) (r : List UInt8), rdN n last s = some (l, r) →
    s = encL l ++ r ∧ l.length = n ∧ Up l ∧ ∀ x ∈ l, last < x.id ∧ 0 ≤ x.id ∧ x.id ≤ 2147483647 ∧ x.reply.length ≤ 4096 ∧ (x.busy = true → x.reply = [])
  | 0, last, s, l, r, h => by
    simp only [rdN, Option.some.injEq, Prod.mk.injEq] at h
    obtain ⟨rfl, rfl⟩ := h
    exact ⟨rfl, rfl, List.Pairwise.nil, by simp⟩
  | n + 1, last, s, l, r, h => by
    rw [rdN] at h
    split at h
    · cases h
    · rename_i c r0 hc
      split at h
      · cases h
      · rename_i hn
        rw [Option.map_eq_some_iff] at h
        obtain ⟨⟨l', r'⟩, h, he⟩ := h
        simp only [Prod.mk.injEq] at he
        obtain ⟨rfl, rfl⟩ := he
        obtain ⟨rfl, h4, h5⟩ := rdC_only hc
        obtain ⟨rfl, hl, hu, hx⟩ := rdN_only n c.id r0 l' r' h
        have hm : mayI c.id = true := by
          cases hm : mayI c.id with
          | true => rfl
          | false => exact absurd (.inr hm) hn
        have hm := mayI_yes hm
        have hlast : last < c.id := by
          rcases Int.lt_or_le last c.id with h' | h'
          · exact h'
          · exact absurd (.inl h') hn
        refine ⟨by unfold encL; rw [List.flatMap_cons, List.append_assoc], by simp [hl], ?_, ?_⟩
        · unfold Up
          rw [List.pairwise_cons]
          exact ⟨fun x h => (hx x h).1, hu⟩
        · intro x h
          rcases List.mem_cons.1 h with rfl | h
          · exact ⟨hlast, hm.1, hm.2, h4, h5⟩
          · obtain ⟨a, b⟩ := hx x h
            exact ⟨by omega, b⟩
theorem rdL_enc {room : Nat} {l : List C} (h : Okl room l) (h0 : l ≠ []) (hr : room ≤ 16) (r : List UInt8) : rdL room (enc l.length ++ (encL l ++ r)) = some (l, r) := by
  have hl := h.le
  have hp : 0 < l.length := List.length_pos_iff.2 h0
  unfold rdL
  rw [M.int_enc _ _ (by omega)]
  simp only
  rw [if_neg (by omega), Int.toNat_natCast]
  exact rdN_enc l (-1) r h.up (fun x hx => ⟨by have := (h.ids x hx).1; omega, (h.ids x hx).1, (h.ids x hx).2, h.rep x hx, h.bus x hx⟩)
theorem rdL_only {room : Nat} {s : List UInt8} {l : List C} {r : List UInt8} (h : rdL room s = some (l, r)) : s = enc l.length ++ (encL l ++ r) ∧ Okl room l ∧ l ≠ [] := by
  unfold rdL at h
  split at h
  · cases h
  · rename_i n r0 hi
    split at h
    · cases h
    · rename_i hn
      obtain ⟨rfl, _⟩ := M.int_only _ _ _ hi
      obtain ⟨rfl, hl, hu, hx⟩ := rdN_only _ _ _ _ _ h
      have e : (l.length : Int) = n := by omega
      rw [← e]
      refine ⟨rfl, ⟨hu, by omega, fun x h => ⟨(hx x h).2.1, (hx x h).2.2.1⟩, fun x h => (hx x h).2.2.2.1, fun x h => (hx x h).2.2.2.2⟩, ?_⟩
      intro e0
      subst e0
      simp at e
      omega
/-- Clients that rise, each with calls. -/
def Upp (room : Nat) (last : Int) (ps : List (Int × List C)) : Prop := ps.Pairwise (fun a b => a.1 < b.1) ∧ ∀ p ∈ ps, last < p.1 ∧ mayC p.1 = true ∧ Okl room p.2 ∧ p.2 ≠ []
theorem rdM_enc {room : Nat} (hr : room ≤ 16) : ∀ (ps : List (Int × List C)) (last : Int) (r : List UInt8), Upp room last ps → rdM room ps.length last (ps.flatMap encP ++ r) = some (ps, r)
  | [], last, r, _ => rfl
  | p :: ps, last, r, h => by
    obtain ⟨hu, hp⟩ := h
    rw [List.pairwise_cons] at hu
    obtain ⟨c, l⟩ := p
    obtain ⟨h1, h2, h3, h4⟩ := hp (c, l) (by simp)
    simp only at h1 h2 h3 h4
    have hc := mayC_yes h2
    rw [List.flatMap_cons, List.append_assoc, List.length_cons, rdM]
    have e : encP (c, l) ++ (ps.flatMap encP ++ r) = UInt8.ofNat c.toNat :: (enc l.length ++ (encL l ++ (ps.flatMap encP ++ r))) := by simp [encP, hd]
    rw [e, byte_of c (by omega)]
    simp only
    rw [rdL_enc h3 h4 hr]
    simp only
    rw [if_neg (by rw [h2]; simp; omega), rdM_enc hr ps c r ⟨hu.2, fun q hq => ⟨hu.1 q hq, (hp q (by simp [hq])).2⟩⟩]
    rfl
theorem rdM_only {room : Nat} : ∀ (n : Nat) (last : Int) (s : List UInt8) (ps : List (Int × List C)) (r : List UInt8), rdM room n last s = some (ps, r) → s = ps.flatMap encP ++ r ∧ ps.length = n ∧ Upp room last ps
  | 0, last, s, ps, r, h => by
    simp only [rdM, Option.some.injEq, Prod.mk.injEq] at h
    obtain ⟨rfl, rfl⟩ := h
    exact ⟨rfl, rfl, List.Pairwise.nil, by simp⟩
  | n + 1, last, s, ps, r, h => by
    rw [rdM] at h
    split at h
    · cases h
    · rename_i c r0 hb
      split at h
      · cases h
      · rename_i l r1 hl
        split at h
        · cases h
        · rename_i hn
          rw [Option.map_eq_some_iff] at h
          obtain ⟨⟨ps', r'⟩, h, he⟩ := h
          simp only [Prod.mk.injEq] at he
          obtain ⟨rfl, rfl⟩ := he
          obtain ⟨rfl, _, _⟩ := byte_only hb
          obtain ⟨rfl, ho, h0⟩ := rdL_only hl
          obtain ⟨rfl, hlen, hu, hp⟩ := rdM_only n c r1 ps' r' h
          have hm : mayC c = true := by
            cases hm : mayC c with
            | true => rfl
            | false => exact absurd (.inr hm) hn
          have hlast : last < c := by
            rcases Int.lt_or_le last c with h' | h'
            · exact h'
            · exact absurd (.inl h') hn
          refine ⟨by simp [encP, hd], by simp [hlen], ?_, ?_⟩
          · rw [List.pairwise_cons]
            exact ⟨fun q hq => (hp q hq).1, hu⟩
          · intro q hq
            rcases List.mem_cons.1 hq with rfl | hq
            · exact ⟨hlast, hm, ho, h0⟩
            · obtain ⟨a, b⟩ := hp q hq
              exact ⟨by omega, b⟩
theorem rdA_only {s : List UInt8} {room : Nat} {ps : List (Int × List C)} {r : List UInt8} (h : rdA s = some ((room, ps), r)) : s = hd room ps.length ++ (ps.flatMap encP ++ r) ∧ 1 ≤ room ∧ room ≤ 16 ∧ ps.length ≤ 64 ∧ Upp room (-1) ps := by
  unfold rdA at h
  split at h
  · cases h
  · rename_i rm r0 hb
    split at h
    · cases h
    · rename_i n r1 hi
      split at h
      · cases h
      · rename_i hn
        rw [Option.map_eq_some_iff] at h
        obtain ⟨⟨ps', r'⟩, h, he⟩ := h
        simp only [Prod.mk.injEq] at he
        obtain ⟨⟨rfl, rfl⟩, rfl⟩ := he
        obtain ⟨rfl, _, _⟩ := byte_only hb
        obtain ⟨rfl, _⟩ := M.int_only _ _ _ hi
        obtain ⟨rfl, hl, hu⟩ := rdM_only _ _ _ _ _ h
        have e : (ps'.length : Int) = n := by omega
        have e2 : ((rm.toNat : Nat) : Int) = rm := by omega
        refine ⟨?_, by omega, by omega, by omega, hu⟩
        unfold hd
        rw [e, e2]
        simp
theorem rdA_enc {room : Nat} {ps : List (Int × List C)} (h1 : 1 ≤ room) (h16 : room ≤ 16) (hl : ps.length ≤ 64) (hu : Upp room (-1) ps) (r : List UInt8) : rdA (hd room ps.length ++ (ps.flatMap encP ++ r)) = some ((room, ps), r) := by
  unfold rdA hd
  rw [List.cons_append, byte_of _ (by omega)]
  simp only
  rw [M.int_enc _ _ (by omega)]
  simp only
  rw [if_neg (by omega), Int.toNat_natCast, Int.toNat_natCast, rdM_enc h16 ps (-1) r hu]
  rfl
theorem mem_keys {T : Int → List C} {c : Int} : c ∈ keys T ↔ mayC c = true ∧ T c ≠ [] := by
  unfold keys
  rw [List.mem_filter]
  constructor
  · rintro ⟨h, h2⟩
    obtain ⟨k, hk, rfl⟩ := List.mem_map.1 h
    have := List.mem_range.1 hk
    refine ⟨mayC_of (by simp) (by simp; omega), ?_⟩
    intro e
    rw [e] at h2
    cases h2
  · rintro ⟨h, h2⟩
    have h := mayC_yes h
    refine ⟨List.mem_map.2 ⟨c.toNat, List.mem_range.2 (by omega), by simp; omega⟩, ?_⟩
    cases hT : T c with
    | nil => exact absurd hT h2
    | cons x r => rfl
theorem keys_up (T : Int → List C) : (keys T).Pairwise (· < ·) := by
  unfold keys
  refine List.Pairwise.filter _ ?_
  rw [List.pairwise_map]
  exact List.pairwise_lt_range.imp (fun h => by show Int.ofNat _ < Int.ofNat _; simp; omega)
theorem keys_len (T : Int → List C) : (keys T).length ≤ 64 := by
  unfold keys
  refine Nat.le_trans (List.length_filter_le _ _) ?_
  simp
/-- Rising numbers are known by which they are. -/
theorem up_eq {a b : List Int} (ha : a.Pairwise (· < ·)) (hb : b.Pairwise (· < ·)) (h : ∀ x, x ∈ a ↔ x ∈ b) : a = b := by
  refine List.Perm.eq_of_pairwise (le := fun a b : Int => a ≤ b) (fun a b _ _ h1 h2 => by omega) (ha.imp (fun h => by omega)) (hb.imp (fun h => by omega)) ?_
  exact (List.perm_ext_iff_of_nodup (ha.imp (fun h => by omega)) (hb.imp (fun h => by omega))).2 h
theorem up_sort {a b : List Int} (ha : a.Nodup) (hb : b.Pairwise (· < ·)) (h : ∀ x, x ∈ a ↔ x ∈ b) : a.mergeSort (fun x y => decide (x ≤ y)) = b := by
  refine List.Perm.eq_of_pairwise (le := fun a b : Int => a ≤ b) (fun a b _ _ h1 h2 => by omega) ?_ (hb.imp (fun h => by omega)) ((List.mergeSort_perm _ _).trans ((List.perm_ext_iff_of_nodup ha (hb.imp (fun h => by omega))).2 h))
  have := List.pairwise_mergeSort (le := fun x y : Int => decide (x ≤ y)) (fun a b c h1 h2 => by simp at *; omega) (fun a b => by simp; omega) a
  exact this.imp (fun h => by simpa using h)
def tof (ps : List (Int × List C)) : Int → List C := fun c =>
  match ps.find? (fun p => p.1 == c) with
  | some p => p.2
  | none => []
theorem tof_of {ps : List (Int × List C)} (hu : ps.Pairwise (fun a b => a.1 < b.1)) {p : Int × List C} (hp : p ∈ ps) : tof ps p.1 = p.2 := by
  unfold tof
  split
  · rename_i q hq
    have h1 := List.mem_of_find?_eq_some hq
    have h2 : q.1 = p.1 := by simpa using List.find?_some hq
    obtain ⟨i, hi, rfl⟩ := List.getElem_of_mem h1
    obtain ⟨j, hj, rfl⟩ := List.getElem_of_mem hp
    rcases Nat.lt_trichotomy i j with hl | hl | hl
    · have := List.pairwise_iff_getElem.1 hu i j hi hj hl; omega
    · subst hl; rfl
    · have := List.pairwise_iff_getElem.1 hu j i hj hi hl; omega
  · rename_i hq
    rw [List.find?_eq_none] at hq
    exact absurd (beq_self_eq_true p.1) (hq p hp)
theorem tof_no {ps : List (Int × List C)} {c : Int} (h : ∀ p ∈ ps, p.1 ≠ c) : tof ps c = [] := by
  unfold tof
  split
  · rename_i q hq
    exact absurd (by simpa using List.find?_some hq) (h q (List.mem_of_find?_eq_some hq))
  · rfl
theorem tof_case {ps : List (Int × List C)} (hu : ps.Pairwise (fun a b => a.1 < b.1)) (c : Int) : (∃ p ∈ ps, p.1 = c ∧ tof ps c = p.2) ∨ ((∀ p ∈ ps, p.1 ≠ c) ∧ tof ps c = []) := by
  by_cases h : ∃ p ∈ ps, p.1 = c
  · obtain ⟨p, hp, rfl⟩ := h
    exact .inl ⟨p, hp, rfl, tof_of hu hp⟩
  · have h' : ∀ p ∈ ps, p.1 ≠ c := fun p hp e => h ⟨p, hp, e⟩
    exact .inr ⟨h', tof_no h'⟩
theorem tof_ok {room : Nat} {ps : List (Int × List C)} (h1 : 1 ≤ room) (h16 : room ≤ 16) (h : Upp room (-1) ps) : Ok room (tof ps) := by
  refine ⟨fun c => ?_, h1, h16, fun c hc => ?_⟩
  · rcases tof_case h.1 c with ⟨p, hp, _, e⟩ | ⟨_, e⟩
    · rw [e]; exact (h.2 p hp).2.2.1
    · rw [e]; exact Okl.nil _
  · rcases tof_case h.1 c with ⟨p, hp, e, _⟩ | ⟨_, e⟩
    · have := (h.2 p hp).2.1
      rw [e, hc] at this
      cases this
    · exact e
theorem keys_tof {room : Nat} {ps : List (Int × List C)} (h : Upp room (-1) ps) : keys (tof ps) = ps.map Prod.fst := by
  refine up_eq (keys_up _) ?_ (fun c => ?_)
  · rw [List.pairwise_map]; exact h.1
  · rw [mem_keys, List.mem_map]
    constructor
    · rintro ⟨_, h2⟩
      rcases tof_case h.1 c with ⟨p, hp, e, _⟩ | ⟨_, e⟩
      · exact ⟨p, hp, e⟩
      · exact absurd e h2
    · rintro ⟨p, hp, rfl⟩
      rw [tof_of h.1 hp]
      exact ⟨(h.2 p hp).2.1, (h.2 p hp).2.2.2⟩
theorem prs_tof {room : Nat} {ps : List (Int × List C)} (h : Upp room (-1) ps) : prs (tof ps) = ps := by
  unfold prs
  rw [keys_tof h, List.map_map]
  refine (List.map_congr_left (g := id) fun p hp => ?_).trans (List.map_id _)
  show (p.1, tof ps p.1) = p
  rw [tof_of h.1 hp]
theorem prs_upp {room : Nat} {T : Int → List C} (h : Ok room T) : Upp room (-1) (prs T) := by
  refine ⟨?_, fun p hp => ?_⟩
  · unfold prs
    rw [List.pairwise_map]
    exact keys_up T
  · unfold prs at hp
    obtain ⟨c, hc, rfl⟩ := List.mem_map.1 hp
    obtain ⟨h1, h2⟩ := mem_keys.1 hc
    have := mayC_yes h1
    exact ⟨by show -1 < c; omega, h1, h.l c, h2⟩
theorem tof_prs {room : Nat} {T : Int → List C} (h : Ok room T) : tof (prs T) = T := by
  funext c
  rcases tof_case (prs_upp h).1 c with ⟨p, hp, e, e2⟩ | ⟨h1, e⟩
  · rw [e2]
    unfold prs at hp
    obtain ⟨c', _, rfl⟩ := List.mem_map.1 hp
    rw [← e]
  · rw [e]
    cases hc : mayC c with
    | false => exact (h.out c hc).symm
    | true =>
      cases hT : T c with
      | nil => rfl
      | cons x r => exact absurd rfl (h1 (c, T c) (List.mem_map.2 ⟨c, mem_keys.2 ⟨hc, by rw [hT]; simp⟩, rfl⟩))
/-- What was told is read. -/
theorem rd_txt {room : Nat} {T : Int → List C} (h : Ok room T) : rdR (txt room T) = some (room, prs T) := by
  have hk : (prs T).length = (keys T).length := by unfold prs; simp
  have := rdA_enc h.r1 h.r16 (by rw [hk]; exact keys_len T) (prs_upp h) []
  unfold rdR txt
  rw [List.append_nil, hk] at this
  rw [this]
/-- What is read was told. -/
theorem txt_rd {s : List UInt8} {room : Nat} {ps : List (Int × List C)} (h : rdR s = some (room, ps)) : txt room (tof ps) = s ∧ Ok room (tof ps) ∧ Upp room (-1) ps := by
  unfold rdR at h
  split at h
  · rename_i x hx
    cases h
    obtain ⟨e, h1, h16, _, hu⟩ := rdA_only hx
    refine ⟨?_, tof_ok h1 h16 hu, hu⟩
    unfold txt
    rw [prs_tof hu, keys_tof hu, List.length_map]
    rw [List.append_nil] at e
    exact e.symm
  · cases h
end Rp
end Go.Proofs.Ytjbcchipbdkplaa
