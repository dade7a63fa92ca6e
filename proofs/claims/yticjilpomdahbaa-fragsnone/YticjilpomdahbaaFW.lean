/-
  A store and its device, nothing cut and nothing loose: what each call does to its slots.
-/
import Derived.Test.YticjilpomdahbaaFQ
namespace Go.Proofs.Yticjilpomdahbaa
open Go.RowKit
open M (ofL ofL_size ofL_of)
set_option linter.unusedVariables false

/-- A store whose slots are those of its device. -/
structure GS (w0 w : World) (b s d : Nat) (F : Nat → Prop) (n : Nat) (P : List M.Pl) (L : List Fr.Sl) : Prop where
  f : Sto w0 w b s d F n P L false
  g : Fr.Good P L
  c : Fr.Cl P
/-- It is not there. -/
def Ab (L : List Fr.Sl) (p q : Int) : Prop := ∀ (i : Nat) (x : Fr.Sl), L[i]? = some x → Fr.isAt p q x = false
theorem isAt_self (a c : Nat) (t : ByteArray) : Fr.isAt a c (some ((a, c), t)) = true := by simp [Fr.isAt]
theorem isAt_iff {p q : Int} {x : Fr.Sl} (h : Fr.isAt p q x = true) : ∃ (a c : Nat) (t : ByteArray), x = some ((a, c), t) ∧ p = a ∧ q = c := by
  cases x with
  | none => cases h
  | some y =>
    obtain ⟨⟨a, c⟩, t⟩ := y
    simp only [Fr.isAt, Bool.and_eq_true, decide_eq_true_eq] at h
    exact ⟨a, c, t, rfl, h.1.symm, h.2.symm⟩
theorem Ab.fst {L : List Fr.Sl} {p q : Int} (h : Ab L p q) : Fst L (Fr.isAt p q) (-1) := ⟨.inl ⟨rfl, h⟩⟩
theorem Ab.ne {L : List Fr.Sl} {a c : Nat} (h : Ab L a c) (j : Nat) (t : ByteArray) : L[j]? ≠ some (some ((a, c), t)) := fun e => by
  have := h j _ e
  rw [isAt_self] at this
  cases this
/-- There is one, or there is none. -/
theorem there_or (L : List Fr.Sl) (p q : Int) : Ab L p q ∨ ∃ (i a c : Nat) (t : ByteArray), p = a ∧ q = c ∧ L[i]? = some (some ((a, c), t)) ∧ Fst L (Fr.isAt p q) i := by
  rcases Fr.first L (Fr.isAt p q) with h | ⟨i, x, h1, h2, h3⟩
  · exact .inl h
  · obtain ⟨a, c, t, rfl, e1, e2⟩ := isAt_iff h2
    exact .inr ⟨i, a, c, t, e1, e2, h1, ⟨.inr ⟨i, _, rfl, h1, h2, h3⟩⟩⟩
theorem Good.fst {P : List M.Pl} {L : List Fr.Sl} (h : Fr.Good P L) {i a c : Nat} {t : ByteArray} (hi : L[i]? = some (some ((a, c), t))) : Fst L (Fr.isAt a c) i := by
  refine ⟨.inr ⟨i, _, rfl, hi, isAt_self a c t, fun j y hj hy => ?_⟩⟩
  cases hx : Fr.isAt a c y with
  | false => rfl
  | true =>
    obtain ⟨a', c', t', rfl, e1, e2⟩ := isAt_iff hx
    have e1 : a = a' := by omega
    have e2 : c = c' := by omega
    subst e1 e2
    have := h.once j i _ _ _ hy hi
    omega
def PutR (L : List Fr.Sl) (p q : Int) (t : ByteArray) (r : Int) (L' : List Fr.Sl) : Prop :=
  (r ≠ 0 ∧ L' = L) ∨ (r = 0 ∧ ∃ (i a c : Nat), p = a ∧ q = c ∧ L[i]? = some none ∧ Ab L p q ∧ L' = L.set i (some ((a, c), t)))
def DelR (L : List Fr.Sl) (p q : Int) (r : Int) (L' : List Fr.Sl) : Prop :=
  (r = 7 ∧ L' = L ∧ Ab L p q) ∨ (r = 0 ∧ ∃ (i a c : Nat) (t : ByteArray), p = a ∧ q = c ∧ L[i]? = some (some ((a, c), t)) ∧ L' = L.set i none)
/-- What a call of a store leaves. -/
def GoOut (w0 w : World) (b s d : Nat) (F : Nat → Prop) (n : Nat) (R : Int → List Fr.Sl → Prop) (e : Ending) (w' : World) : Prop := ∃ (r : Int) (G : Nat → Prop) (P' : List M.Pl) (L' : List Fr.Sl), e = .returned (.int .i64 r) ∧ GS w0 w' b s d G n P' L' ∧ Ch w (FP F b s) w' (FP G b s) ∧ R r L'
section
variable {w0 w w' : World} {b s d : Nat} {F G : Nat → Prop} {n : Nat} {P : List M.Pl} {L : List Fr.Sl}
theorem GS.keep (h : GS w0 w b s d F n P L) (hb : Below w.heap.size w w') : GS w0 w' b s d F n P L := ⟨h.f.keep hb, h.g, h.c⟩
theorem GS.len (h : GS w0 w b s d F n P L) : P.length = n := h.f.dev.len
theorem GS.room (h : GS w0 w b s d F n P L) {i : Nat} (hi : i < L.length) : 9 * i + 9 ≤ n := by
  have := h.g.room i hi
  rw [h.len] at this
  exact this
theorem GS.stay (h : GS w0 w b s d F n P L) {e : Ending} {r : Int} {R : Int → List Fr.Sl → Prop} (he : e = .returned (.int .i64 r)) (hb : Below w.heap.size w w') (hR : R r L) : GoOut w0 w b s d F n R e w' := ⟨r, F, P, L, he, h.keep hb, Ch.ofBelow hb, hR⟩
theorem may_of (h : GS w0 w b s d F n P L) {i a c : Nat} {t : ByteArray} (hi : L[i]? = some none) (ha : Ab L a c) (h1 : a < 2147483648) (h2 : c < 8) (h3 : t.size ≤ 512) : Fr.May P L i a c t := ⟨ha.ne, h.g, h.c, hi, h1, h2, h3⟩
theorem d4_0 (n : Nat) (P : List M.Pl) (i a c : Nat) (t : ByteArray) (hi : 9 * i + 9 ≤ n) (ht : t.size ≤ 512) :
    d4 n P ((9 * i + 1 : Nat) : Int) (Fr.bb t) ((9 * i : Nat) : Int) (Fr.hb a c t) 1 = Fr.p1 P i t ∧ d4 n P ((9 * i + 1 : Nat) : Int) (Fr.bb t) ((9 * i : Nat) : Int) (Fr.hb a c t) 2 = Fr.p2 P i t ∧ d4 n P ((9 * i + 1 : Nat) : Int) (Fr.bb t) ((9 * i : Nat) : Int) (Fr.hb a c t) 3 = Fr.p3 P i a c t ∧ d4 n P ((9 * i + 1 : Nat) : Int) (Fr.bb t) ((9 * i : Nat) : Int) (Fr.hb a c t) 4 = Fr.p4 P i a c t := by
  have e1 := fun Q => wrote_in n (9 * i + 1) 8 Q (Fr.bb t) (by omega) (by rw [Fr.bb_size t ht]) (by omega)
  have e2 := fun Q => wrote_in n (9 * i) 1 Q (Fr.hb a c t) (by omega) (by rw [Fr.hb_size]) (by omega)
  unfold d4 Fr.p4 Fr.p3 Fr.p2 Fr.p1
  simp only [e1, e2, and_self]
theorem zr_z0 : zr = Fr.z0 := rfl
theorem d2_0 (n : Nat) (P : List M.Pl) (i : Nat) (hi : 9 * i + 9 ≤ n) : d2 n P ((9 * i : Nat) : Int) zr 1 = Fr.q1 P i ∧ d2 n P ((9 * i : Nat) : Int) zr 2 = Fr.q2 P i := by
  have e2 := wrote_in n (9 * i) 1 P zr (by omega) (by rw [zr_size]) (by omega)
  unfold d2 Fr.q2 Fr.q1
  rw [e2, zr_z0]
  exact ⟨rfl, rfl⟩
theorem mayBe_nat {p q : Int} (h : Fr.mayBe p q = true) : ∃ a c : Nat, p = a ∧ q = c ∧ a < 2147483648 ∧ c < 8 := by
  unfold Fr.mayBe at h
  simp only [Bool.and_eq_true, decide_eq_true_eq] at h
  exact ⟨p.toNat, q.toNat, by omega, by omega, by omega, by omega⟩
/-- Why nothing is put, or where it may be. -/
theorem put_ways (h : GS w0 w b s d F n P L) (p q : Int) (t : ByteArray) (htl : t.size ≤ maxLen) (steps : Int) :
    (Calls Try.prog 6 #[.pointer (some ⟨b, 0, none⟩), .agg #[.int .i64 p, .int .i64 q], .string t, .int .i64 steps] w fun e w' => ∃ r : Int, e = .returned (.int .i64 r) ∧ r ≠ 0 ∧ Below w.heap.size w w') ∨
    ∃ i a c : Nat, p = a ∧ q = c ∧ a < 2147483648 ∧ c < 8 ∧ t.size ≤ 512 ∧ L[i]? = some none ∧ Fst L isFr i ∧ Ab L a c := by
  cases hm : Fr.mayBe p q with
  | false => exact .inl ((put_arg t steps h.f.o hm).mono fun e w' h => ⟨1, h.1, by decide, h.2⟩)
  | true =>
    by_cases ht : t.size ≤ 512
    · rcases Fr.first L isFr with hf | ⟨i, x, h1, h2, h3⟩
      · exact .inl ((put_full t steps h.f.o hm ht ⟨.inl ⟨rfl, hf⟩⟩).mono fun e w' h => ⟨5, h.1, by decide, h.2⟩)
      · have hr : Fst L isFr i := ⟨.inr ⟨i, x, rfl, h1, h2, h3⟩⟩
        have hx : x = none := by cases x with | none => rfl | some y => cases h2
        subst hx
        rcases there_or L p q with ha | ⟨j, a, c, t', _, _, hj, hjr⟩
        · obtain ⟨a, c, rfl, rfl, h5, h6⟩ := mayBe_nat hm
          exact .inr ⟨i, a, c, rfl, rfl, h5, h6, ht, h1, hr, ha⟩
        · exact .inl ((put_twice t steps h.f.o hm ht hr (lt_of_some h1) hjr (lt_of_some hj)).mono fun e w' h => ⟨6, h.1, by decide, h.2⟩)
    · exact .inl ((put_size t steps h.f.o hm (by omega) htl).mono fun e w' h => ⟨2, h.1, by decide, h.2⟩)
theorem GS.put (h : GS w0 w b s d F n P L) (p q : Int) (t : ByteArray) (htl : t.size ≤ maxLen) :
    Calls Try.prog 6 #[.pointer (some ⟨b, 0, none⟩), .agg #[.int .i64 p, .int .i64 q], .string t, .int .i64 (-1)] w fun e w' => GoOut w0 w b s d F n (PutR L p q t) e w' := by
  rcases put_ways h p q t htl (-1) with hc | ⟨i, a, c, rfl, rfl, h1, h2, h3, h4, h5, h6⟩
  · exact hc.mono fun e w' ⟨r, h1, h2, h3⟩ => h.stay h1 h3 (.inl ⟨h2, rfl⟩)
  · refine (put_all t (-1) h.f h1 h2 h3 h5 h4 h6.fst (h.room (lt_of_some h4)) (fun j _ => by omega)).mono ?_
    rintro e w' ⟨G, he, hf, hc⟩
    rw [(d4_0 n P i a c t (h.room (lt_of_some h4)) h3).2.2.2] at hf
    have hg := (may_of h h4 h6 h1 h2 h3).good4
    exact ⟨0, G, _, _, he, ⟨hf, hg.1, hg.2⟩, hc, .inr ⟨rfl, i, a, c, rfl, rfl, h4, h6, rfl⟩⟩
theorem GS.del (h : GS w0 w b s d F n P L) (p q : Int) :
    Calls Try.prog 7 #[.pointer (some ⟨b, 0, none⟩), .agg #[.int .i64 p, .int .i64 q], .int .i64 (-1)] w fun e w' => GoOut w0 w b s d F n (DelR L p q) e w' := by
  rcases there_or L p q with ha | ⟨i, a, c, t, rfl, rfl, hi, hr⟩
  · exact (delete_no (-1) h.f.o ha.fst).mono fun e w' h' => h.stay h'.1 h'.2 (.inl ⟨rfl, rfl, ha⟩)
  · have hl := h.room (lt_of_some hi)
    refine (delete_all (-1) h.f hr hi (by omega) (fun j _ => by omega)).mono ?_
    rintro e w' ⟨G, he, hf, hc⟩
    rw [(d2_0 n P i hl).2] at hf
    have hg := h.g.q2 (lt_of_some hi)
    exact ⟨0, G, _, _, he, ⟨hf, hg.1, hg.2⟩, hc, .inr ⟨rfl, i, a, c, t, rfl, rfl, hi, rfl⟩⟩
theorem GS.get_no (h : GS w0 w b s d F n P L) {p q : Int} (ha : Ab L p q) :
    Calls Try.prog 4 #[.pointer (some ⟨b, 0, none⟩), .agg #[.int .i64 p, .int .i64 q]] w fun e w' => e = .returned (.tuple #[.string { data := #[] }, .int .i64 7]) ∧ Below w.heap.size w w' := Yticjilpomdahbaa.get_no h.f.o ha.fst
theorem GS.get_yes (h : GS w0 w b s d F n P L) {i a c : Nat} {t : ByteArray} (hi : L[i]? = some (some ((a, c), t))) :
    Calls Try.prog 4 #[.pointer (some ⟨b, 0, none⟩), .agg #[.int .i64 a, .int .i64 c]] w fun e w' => e = .returned (.tuple #[.string t, .int .i64 0]) ∧ Below w.heap.size w w' := by
  have hs := h.g.sat i _ hi
  have hl := h.g.room i (lt_of_some hi)
  exact Yticjilpomdahbaa.get_yes h.f (Good.fst h.g hi) hi (h.room (lt_of_some hi)) hs.2.2.1 (Fr.tx_body hs hl)
theorem GS.free (h : GS w0 w b s d F n P L) : Calls Try.prog 9 #[.pointer (some ⟨b, 0, none⟩)] w fun e w' => e = .returned (.int .i64 (Fr.fre L)) ∧ Below w.heap.size w w' := free_any b s d L false w h.f.o
/-- Behind a Put that may be cut. -/
def PutC (L : List Fr.Sl) (p q : Int) (t : ByteArray) (P' : List M.Pl) : Prop := ∀ keep, Fr.Good (M.crash P' keep 0) L ∨ ∃ (i a c : Nat), p = a ∧ q = c ∧ L[i]? = some none ∧ Ab L p q ∧ Fr.Good (M.crash P' keep 0) (L.set i (some ((a, c), t)))
def DelC (L : List Fr.Sl) (p q : Int) (P' : List M.Pl) : Prop := ∀ keep, Fr.Good (M.crash P' keep 0) L ∨ ∃ (i a c : Nat) (t : ByteArray), p = a ∧ q = c ∧ L[i]? = some (some ((a, c), t)) ∧ Fr.Good (M.crash P' keep 0) (L.set i none)
def CutOut (w0 w : World) (b s d : Nat) (F : Nat → Prop) (n : Nat) (R : List M.Pl → Prop) (e : Ending) (w' : World) : Prop := ∃ (r : Int) (G : Nat → Prop) (P' : List M.Pl), e = .returned (.int .i64 r) ∧ DS w0 w' d G n P' false ∧ Ch w (FP F b s) w' (FP G b s) ∧ R P'
theorem steps_or (steps : Int) (c : Nat) : (∃ m : Nat, m < c ∧ steps = m) ∨ ∀ j : Nat, j < c → steps ≠ j := by
  by_cases h : 0 ≤ steps ∧ steps < c
  · exact .inl ⟨steps.toNat, by omega, by omega⟩
  · exact .inr fun j hj e => h (by omega)
theorem GS.putC (h : GS w0 w b s d F n P L) (p q : Int) (t : ByteArray) (htl : t.size ≤ maxLen) (steps : Int) :
    Calls Try.prog 6 #[.pointer (some ⟨b, 0, none⟩), .agg #[.int .i64 p, .int .i64 q], .string t, .int .i64 steps] w fun e w' => CutOut w0 w b s d F n (PutC L p q t) e w' := by
  rcases put_ways h p q t htl steps with hc | ⟨i, a, c, rfl, rfl, h1, h2, h3, h4, h5, h6⟩
  · exact hc.mono fun e w' ⟨r, h1, h2, h3⟩ => ⟨r, F, P, h1, (h.keep h3).f.dev, Ch.ofBelow h3, fun keep => .inl (h.g.crash h.c keep)⟩
  · have hl := h.room (lt_of_some h4)
    have hM := may_of h h4 h6 h1 h2 h3
    obtain ⟨e1, e2, e3, e4⟩ := d4_0 n P i a c t hl h3
    rcases steps_or steps 4 with ⟨m, hm, hs⟩ | hs
    · refine (put_cut t steps h.f h1 h2 h3 h5 h4 h6.fst hl ⟨hm, hs⟩).mono ?_
      rintro e w' ⟨G, he, hf, hc⟩
      refine ⟨_, G, _, he, hf.dev, hc, fun keep => ?_⟩
      match m, hm with
      | 0, _ => exact .inl (h.g.crash h.c keep)
      | 1, _ => rw [e1]; exact .inl (hM.crash1 keep)
      | 2, _ => rw [e2]; exact .inl (hM.good2.1.crash hM.good2.2 keep)
      | 3, _ =>
        rw [e3]
        rcases hM.crash3 keep with hg | hg
        · exact .inl hg
        · exact .inr ⟨i, a, c, rfl, rfl, h4, h6, hg⟩
    · refine (put_all t steps h.f h1 h2 h3 h5 h4 h6.fst hl hs).mono ?_
      rintro e w' ⟨G, he, hf, hc⟩
      refine ⟨_, G, _, he, hf.dev, hc, fun keep => .inr ⟨i, a, c, rfl, rfl, h4, h6, ?_⟩⟩
      rw [e4]
      exact hM.good4.1.crash hM.good4.2 keep
theorem GS.delC (h : GS w0 w b s d F n P L) (p q : Int) (steps : Int) :
    Calls Try.prog 7 #[.pointer (some ⟨b, 0, none⟩), .agg #[.int .i64 p, .int .i64 q], .int .i64 steps] w fun e w' => CutOut w0 w b s d F n (DelC L p q) e w' := by
  rcases there_or L p q with ha | ⟨i, a, c, t, rfl, rfl, hi, hr⟩
  · exact (delete_no steps h.f.o ha.fst).mono fun e w' h' => ⟨7, F, P, h'.1, (h.keep h'.2).f.dev, Ch.ofBelow h'.2, fun keep => .inl (h.g.crash h.c keep)⟩
  · have hl := h.room (lt_of_some hi)
    obtain ⟨e1, e2⟩ := d2_0 n P i hl
    rcases steps_or steps 2 with ⟨m, hm, hs⟩ | hs
    · refine (delete_cut steps h.f hr hi (by omega) ⟨hm, hs⟩).mono ?_
      rintro e w' ⟨G, he, hf, hc⟩
      refine ⟨_, G, _, he, hf.dev, hc, fun keep => ?_⟩
      match m, hm with
      | 0, _ => exact .inl (h.g.crash h.c keep)
      | 1, _ =>
        rw [e1]
        rcases h.g.crashq h.c (lt_of_some hi) keep with hg | hg
        · exact .inl hg
        · exact .inr ⟨i, a, c, t, rfl, rfl, hi, hg⟩
    · refine (delete_all steps h.f hr hi (by omega) hs).mono ?_
      rintro e w' ⟨G, he, hf, hc⟩
      refine ⟨_, G, _, he, hf.dev, hc, fun keep => .inr ⟨i, a, c, t, rfl, rfl, hi, ?_⟩⟩
      rw [e2]
      exact (h.g.q2 (lt_of_some hi)).1.crash (h.g.q2 (lt_of_some hi)).2 keep
end
theorem cl_lse {P : List M.Pl} (h : ∀ p ∈ P, M.lse p = false) : Fr.Cl P := fun j => by rw [Fr.sec_eq, Fr.fl_eq, M.last_fst h]
/-- A new device has no fragment. -/
theorem new_good (n : Nat) (h : 1 ≤ n) : Fr.Good (new n) (List.replicate (min (n / 9) 256) none) ∧ Fr.Cl (new n) := by
  refine ⟨⟨new_ok n, by rw [List.length_replicate, new_len], fun i x hx => ?_, fun i j p s s' hx => ?_⟩, cl_lse (new_lse n)⟩
  · rw [List.getElem?_replicate] at hx
    split at hx
    · rename_i hi
      cases hx
      show Fr.sec (new n) (9 * i) = Fr.z0
      unfold Fr.sec new
      rw [List.getElem?_replicate, if_pos (by omega)]
      rfl
    · cases hx
  · rw [List.getElem?_replicate] at hx
    split at hx <;> cases hx
/-- Open of a device whose slots are known. -/
theorem openG {w0 w : World} {d : Nat} {F : Nat → Prop} {n : Nat} {P : List M.Pl} {L : List Fr.Sl} (h : DS w0 w d F n P false) (hg : Fr.Good P L) (hc : Fr.Cl P) :
    Calls Try.prog 5 #[.pointer (some ⟨d, 0, none⟩)] w fun e w' => ∃ b s, e = .returned (.tuple #[.pointer (some ⟨b, 0, none⟩), .int .i64 0]) ∧ GS w0 w' b s d F n P L ∧ (w.heap.size ≤ b ∧ w.heap.size ≤ s) ∧ Below w.heap.size w w' :=
  (open_any h hg).mono fun e w' ⟨b, s, h1, h2, h3, h4⟩ => ⟨b, s, h1, ⟨h2, hg, hc⟩, h3, h4⟩
end Go.Proofs.Yticjilpomdahbaa
