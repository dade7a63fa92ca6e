/-
  Stripes' bytes: laid, and read back, step by step.
-/
import Derived.Test.YtgcfpihfoekllaaSM
import Derived.Test.YtgcfpihfoekllaaH
namespace Go.Proofs.Ytgcfpihfoekllaa
namespace Sm
open Mb (Gp)
open M (enc encIs)

theorem encIs_len (l : List Int) (hn : l.length ≤ 1000) (h : ∀ n ∈ l, -9223372036854775808 ≤ n ∧ n ≤ 9223372036854775807) : (encIs l).length ≤ 10 + 10 * l.length := by
  have h1 : ∀ q : List Int, (∀ n ∈ q, -9223372036854775808 ≤ n ∧ n ≤ 9223372036854775807) → (q.flatMap enc).length ≤ 10 * q.length := by
    intro q
    induction q with
    | nil => intro _; simp
    | cons x r ih =>
      intro hq
      have a := M.enc_ten x (hq x (by simp))
      have b := ih fun n hn => hq n (List.mem_cons_of_mem _ hn)
      simp only [List.flatMap_cons, List.length_append, List.length_cons]
      omega
  have h2 := M.enc_ten (l.length : Int) (by omega)
  unfold encIs
  rw [List.length_append]
  have := h1 l h
  omega
/-- A stripe that may be, in one of the three states. -/
def ok (s : S) : Prop := 1 ≤ s.st ∧ s.st ≤ 3 ∧ may s
def okB (s : S) : Bool := decide (1 ≤ s.st ∧ s.st ≤ 3) && mayB s
theorem okB_eq {s : S} : okB s = true ↔ ok s := by
  unfold okB ok
  rw [Bool.and_eq_true, decide_eq_true_iff, mayB_eq, and_assoc]
theorem okB_no {s : S} (h : ¬ ok s) : okB s = false := by
  rw [← okB_eq] at h
  simpa using h
theorem okB_ap {s : S} (h1 : 1 ≤ s.st ∧ s.st ≤ 3) (h2 : 0 ≤ s.ow ∧ s.ow ≤ 15) (h3 : 1 ≤ s.ep ∧ s.ep ≤ 9223372036854775807) (h4 : 0 ≤ s.ln ∧ s.ln ≤ 65536) (h5 : 2 ≤ s.l.length) (h6 : s.l.length ≤ 8) : okB s = Mb.apB s.l := by
  unfold okB mayB gpB
  rw [decide_eq_true h1, decide_eq_true h2, decide_eq_true h3, decide_eq_true h4, decide_eq_true h5, decide_eq_true h6]
  simp
theorem ok.bnd {s : S} (h : ok s) : (-9223372036854775808 ≤ s.ow ∧ s.ow ≤ 9223372036854775807) ∧ (-9223372036854775808 ≤ s.ep ∧ s.ep ≤ 9223372036854775807) ∧ (-9223372036854775808 ≤ s.ln ∧ s.ln ≤ 9223372036854775807) ∧ s.l.length ≤ 8 ∧ (∀ n ∈ s.l, -9223372036854775808 ≤ n ∧ n ≤ 9223372036854775807) := by
  obtain ⟨_, _, h1, h2, h3, h4⟩ := h
  exact ⟨by omega, by omega, by omega, h4.2.1, fun n hn => by have := h4.2.2.1 n hn; omega⟩
/-- The text as it grows. -/
def p1 (s : S) : List UInt8 := [UInt8.ofNat s.st.toNat]
def p2 (s : S) : List UInt8 := p1 s ++ enc s.ow
def p3 (s : S) : List UInt8 := p2 s ++ enc s.ep
def p4 (s : S) : List UInt8 := p3 s ++ enc s.ln
def part (s : S) : List UInt8 := p4 s ++ encIs s.l
theorem part_eq (s : S) (r : List UInt8) : part s ++ r = UInt8.ofNat s.st.toNat :: (enc s.ow ++ (enc s.ep ++ (enc s.ln ++ (encIs s.l ++ r)))) := by simp [part, p4, p3, p2, p1, List.append_assoc]
def txt (m : List S) : List UInt8 := enc m.length ++ m.flatMap part
theorem part_len {s : S} (h : ok s) : (p1 s).length = 1 ∧ (p2 s).length ≤ 11 ∧ (p3 s).length ≤ 21 ∧ (p4 s).length ≤ 31 ∧ (part s).length ≤ 121 ∧ (enc s.ow).length ≤ 10 ∧ (enc s.ep).length ≤ 10 ∧ (enc s.ln).length ≤ 10 ∧ (encIs s.l).length ≤ 90 := by
  obtain ⟨h1, h2, h3, h4, h5⟩ := h.bnd
  have a1 := M.enc_ten _ h1
  have a2 := M.enc_ten _ h2
  have a3 := M.enc_ten _ h3
  have a4 := encIs_len s.l (by omega) h5
  have b1 : (p1 s).length = 1 := rfl
  have b2 : (p2 s).length = (p1 s).length + (enc s.ow).length := List.length_append
  have b3 : (p3 s).length = (p2 s).length + (enc s.ep).length := List.length_append
  have b4 : (p4 s).length = (p3 s).length + (enc s.ln).length := List.length_append
  have b5 : (part s).length = (p4 s).length + (encIs s.l).length := List.length_append
  omega
theorem lay_ok {p q : List UInt8} (h : p.length + q.length ≤ 65536) : M.lay 65536 (0, p) q = (0, p ++ q) := by
  unfold M.lay
  rw [if_neg (by simp), if_neg (by show ¬ 65536 < p.length + q.length; omega)]
theorem byte_ok {s : S} (h : ok s) : M.byteW 65536 (0, []) s.st = (0, p1 s) := by
  obtain ⟨h1, h2, _⟩ := h
  unfold M.byteW p1
  rw [if_neg (by simp), if_neg (by omega)]
  exact lay_ok (by simp)
/-- What a reader tells of one stripe, step by step. -/
def q1 (b : List UInt8) := M.byte b
def q2 (b : List UInt8) := M.int (lft (nx (q1 b)))
def q3 (b : List UInt8) := M.int (lft (nx (q2 b)))
def q4 (b : List UInt8) := M.int (lft (nx (q3 b)))
def q5 (b : List UInt8) := M.ints (lft (nx (q4 b)))
def rs (b : List UInt8) : S := ⟨vl 0 (q1 b), vl 0 (q2 b), vl 0 (q3 b), vl 0 (q4 b), vl [] (q5 b)⟩
theorem int_none : M.int [] = none := by decide
theorem byte_none : M.byte [] = none := rfl
theorem ints_none : M.ints [] = none := by decide
theorem some_nx {α : Type} {o : Option (α × List UInt8)} {r : List UInt8} (h : nx o = some r) : ∃ x, o = some (x, r) := by
  cases o with
  | none => cases h
  | some p => obtain ⟨x, q⟩ := p; simp [nx] at h; exact ⟨x, by rw [h]⟩
theorem none_nx {α : Type} {o : Option (α × List UInt8)} (h : nx o = none) : o = none := by
  cases o with
  | none => rfl
  | some p => cases h
theorem rs_bad {b : List UInt8} (h : nx (q5 b) = none) : ¬ may (rs b) := by
  rintro ⟨_, _, _, h4, _⟩
  unfold rs at h4
  rw [none_nx h] at h4
  exact absurd (show 2 ≤ ([] : List Int).length from h4) (by decide)
theorem rs_only {b r : List UInt8} (h : nx (q5 b) = some r) : b = part (rs b) ++ r ∧ 0 ≤ (rs b).st ∧ (rs b).ep ≤ 9223372036854775807 ∧ r.length < b.length := by
  obtain ⟨l, h5⟩ := some_nx h
  have g4 : q4 b ≠ none := fun e => by unfold q5 at h5; rw [e] at h5; exact absurd h5 (by rw [show lft (nx (none : Option (Int × List UInt8))) = [] from rfl, ints_none]; simp)
  obtain ⟨⟨ln, r4⟩, h4⟩ := Option.ne_none_iff_exists'.1 g4
  have g3 : q3 b ≠ none := fun e => by unfold q4 at h4; rw [e] at h4; exact absurd h4 (by rw [show lft (nx (none : Option (Int × List UInt8))) = [] from rfl, int_none]; simp)
  obtain ⟨⟨ep, r3⟩, h3⟩ := Option.ne_none_iff_exists'.1 g3
  have g2 : q2 b ≠ none := fun e => by unfold q3 at h3; rw [e] at h3; exact absurd h3 (by rw [show lft (nx (none : Option (Int × List UInt8))) = [] from rfl, int_none]; simp)
  obtain ⟨⟨ow, r2⟩, h2⟩ := Option.ne_none_iff_exists'.1 g2
  have g1 : q1 b ≠ none := fun e => by unfold q2 at h2; rw [e] at h2; exact absurd h2 (by rw [show lft (nx (none : Option (Int × List UInt8))) = [] from rfl, int_none]; simp)
  obtain ⟨⟨st, r1⟩, h1⟩ := Option.ne_none_iff_exists'.1 g1
  have k1 : M.byte b = some (st, r1) := h1
  have k2 : M.int r1 = some (ow, r2) := by have := h2; unfold q2 at this; rw [h1] at this; exact this
  have k3 : M.int r2 = some (ep, r3) := by have := h3; unfold q3 at this; rw [h2] at this; exact this
  have k4 : M.int r3 = some (ln, r4) := by have := h4; unfold q4 at this; rw [h3] at this; exact this
  have k5 : M.ints r4 = some (l, r) := by have := h5; unfold q5 at this; rw [h4] at this; exact this
  have e : rs b = ⟨st, ow, ep, ln, l⟩ := by unfold rs; rw [h1, h2, h3, h4, h5]; rfl
  rw [e, part_eq]
  cases b with
  | nil => cases k1
  | cons c b' =>
    simp only [M.byte, Option.some.injEq, Prod.mk.injEq] at k1
    obtain ⟨rfl, rfl⟩ := k1
    have o2 := M.int_only _ _ _ k2
    have o3 := M.int_only _ _ _ k3
    have o4 := M.int_only _ _ _ k4
    have o5 := M.ints_only _ _ _ k5
    refine ⟨?_, by simp, o3.2.2, ?_⟩
    · simp only [Int.toNat_natCast, UInt8.ofNat_toNat]
      rw [← o5, ← o4.1, ← o3.1, ← o2.1]
    · have a := M.int_len _ _ _ k2
      have b := M.int_len _ _ _ k3
      have c := M.int_len _ _ _ k4
      have d := (M.ints_all _ _ _ k5).2.2
      simp only [List.length_cons]
      omega
theorem rs_part {s : S} (h : ok s) (r : List UInt8) : nx (q5 (part s ++ r)) = some r ∧ rs (part s ++ r) = s := by
  obtain ⟨n1, n2, n3, n4, n5⟩ := h.bnd
  have e1 : q1 (part s ++ r) = some (s.st, enc s.ow ++ (enc s.ep ++ (enc s.ln ++ (encIs s.l ++ r)))) := by
    unfold q1
    rw [part_eq]
    simp only [M.byte, Option.some.injEq, Prod.mk.injEq, and_true]
    obtain ⟨a, b, _⟩ := h
    have : s.st.toNat < 256 := by omega
    simp
    omega
  have e2 : q2 (part s ++ r) = some (s.ow, enc s.ep ++ (enc s.ln ++ (encIs s.l ++ r))) := by
    unfold q2; rw [e1]; exact M.int_enc _ _ n1
  have e3 : q3 (part s ++ r) = some (s.ep, enc s.ln ++ (encIs s.l ++ r)) := by
    unfold q3; rw [e2]; exact M.int_enc _ _ n2
  have e4 : q4 (part s ++ r) = some (s.ln, encIs s.l ++ r) := by
    unfold q4; rw [e3]; exact M.int_enc _ _ n3
  have e5 : q5 (part s ++ r) = some (s.l, r) := by
    unfold q5; rw [e4]; exact M.ints_enc _ _ (by omega) n5
  refine ⟨by rw [e5]; rfl, ?_⟩
  unfold rs
  rw [e1, e2, e3, e4, e5]
  rfl
/-- Do bytes tell stripes? -/
def Tell (b : List UInt8) (m : List S) : Prop := G m ∧ b = txt m
theorem Tell.int {b : List UInt8} {m : List S} (h : Tell b m) : M.int b = some ((m.length : Int), m.flatMap part) := by
  rw [h.2]
  unfold txt
  have := h.1.ln
  exact M.int_enc _ _ (by omega)
/-- Amid reading: so many of all, what was read, what is left. -/
structure Inv (b : List UInt8) (n k : Nat) (acc : List S) (r : List UInt8) : Prop where
  len : acc.length = k
  ok' : ∀ s ∈ acc, ok s
  eq : b = enc n ++ (acc.flatMap part ++ r)
  all : ∀ m, Tell b m → m.length = n ∧ m.take k = acc ∧ (m.drop k).flatMap part = r
theorem Inv.start {b r : List UInt8} {n : Nat} (h : M.int b = some ((n : Int), r)) : Inv b n 0 [] r := by
  refine ⟨rfl, fun s h => by simp at h, by simpa using (M.int_only _ _ _ h).1, fun m hm => ?_⟩
  have := hm.int
  rw [h] at this
  simp only [Option.some.injEq, Prod.mk.injEq] at this
  exact ⟨by omega, by simp, by simp [this.2]⟩
theorem Inv.next {b r : List UInt8} {n k : Nat} {acc : List S} (h : Inv b n k acc r) (hk : k < n) {m : List S} (hm : Tell b m) : ∃ hl : k < m.length, r = part m[k] ++ (m.drop (k + 1)).flatMap part ∧ ok m[k] ∧ nx (q5 r) = some ((m.drop (k + 1)).flatMap part) ∧ rs r = m[k] := by
  obtain ⟨h1, h2, h3⟩ := h.all m hm
  have hl : k < m.length := by omega
  have ho : ok m[k] := hm.1.st _ (List.getElem_mem hl)
  have e : r = part m[k] ++ (m.drop (k + 1)).flatMap part := by rw [← h3, List.drop_eq_getElem_cons hl, List.flatMap_cons]
  obtain ⟨a, c⟩ := rs_part ho ((m.drop (k + 1)).flatMap part)
  rw [← e] at a c
  exact ⟨hl, e, ho, a, c⟩
theorem Inv.bad {b r : List UInt8} {n k : Nat} {acc : List S} (h : Inv b n k acc r) (hk : k < n) (hb : ¬ ok (rs r)) : ¬ ∃ m, Tell b m := by
  rintro ⟨m, hm⟩
  obtain ⟨hl, _, ho, _, e⟩ := h.next hk hm
  rw [e] at hb
  exact hb ho
theorem Inv.step {b r r' : List UInt8} {n k : Nat} {acc : List S} (h : Inv b n k acc r) (hk : k < n) (hr : nx (q5 r) = some r') (ho : ok (rs r)) : Inv b n (k + 1) (acc ++ [rs r]) r' := by
  refine ⟨by simp [h.len], fun s hs => ?_, ?_, fun m hm => ?_⟩
  · rcases List.mem_append.1 hs with hs | hs
    · exact h.ok' s hs
    · simp at hs; subst hs; exact ho
  · rw [h.eq, List.flatMap_append]
    simp only [List.flatMap_cons, List.flatMap_nil, List.append_nil, List.append_assoc]
    rw [← (rs_only hr).1]
  · obtain ⟨hl, _, _, a, e⟩ := h.next hk hm
    obtain ⟨h1, h2, h3⟩ := h.all m hm
    rw [hr] at a
    simp only [Option.some.injEq] at a
    exact ⟨h1, by rw [List.take_succ_eq_append_getElem hl, h2, e], a.symm⟩
theorem live_take (m : List S) (k : Nat) : live (m.take k) ≤ live m := by
  unfold live
  have := List.countP_append (p := nf) (l₁ := m.take k) (l₂ := m.drop k)
  rw [List.take_append_drop] at this
  omega
theorem Inv.room {b r : List UInt8} {n k : Nat} {acc : List S} (h : Inv b n k acc r) (hk : k < n) (hr : ¬ (acc.length < 4096 ∧ ((rs r).st = 3 ∨ live acc < 256))) : ¬ ∃ m, Tell b m := by
  rintro ⟨m, hm⟩
  obtain ⟨hl, _, _, _, e⟩ := h.next hk hm
  obtain ⟨h1, h2, h3⟩ := h.all m hm
  have hlv := live_take m (k + 1)
  rw [List.take_succ_eq_append_getElem hl, h2, live_app, ← e] at hlv
  have := hm.1.lv
  have := hm.1.ln
  have := h.len
  apply hr
  refine ⟨by omega, ?_⟩
  by_cases q : (rs r).st = 3
  · exact .inl q
  · rw [if_neg q] at hlv
    exact .inr (by omega)
theorem Inv.g {b r : List UInt8} {n k : Nat} {acc : List S} (h : Inv b n k acc r) (h1 : live acc ≤ 256) (h2 : k ≤ 4096) : G acc := ⟨fun s hs => h.ok' s hs, h1, by rw [h.len]; exact h2⟩
theorem Inv.full {b r : List UInt8} {n : Nat} {acc : List S} (h : Inv b n n acc r) (hr : 256 < live acc) : ¬ ∃ m, Tell b m := by
  rintro ⟨m, hm⟩
  obtain ⟨h1, h2, h3⟩ := h.all m hm
  rw [List.take_of_length_le (by omega)] at h2
  have := hm.1.lv
  rw [h2] at this
  omega
theorem Inv.rest {b r : List UInt8} {n : Nat} {acc : List S} (h : Inv b n n acc r) (hr : r ≠ []) : ¬ ∃ m, Tell b m := by
  rintro ⟨m, hm⟩
  obtain ⟨h1, h2, h3⟩ := h.all m hm
  rw [List.drop_of_length_le (by omega)] at h3
  exact hr h3.symm
theorem Inv.done {b : List UInt8} {n : Nat} {acc : List S} (h : Inv b n n acc []) (g : G acc) : Tell b acc := by
  refine ⟨g, ?_⟩
  rw [h.eq, List.append_nil]
  unfold txt
  rw [h.len]
theorem Inv.many {b r : List UInt8} {n k : Nat} {acc : List S} (h : Inv b n k acc r) (hn : 4096 < n) : ¬ ∃ m, Tell b m := by
  rintro ⟨m, hm⟩
  have := (h.all m hm).1
  have := hm.1.ln
  omega
theorem tell_none {b : List UInt8} (h : M.int b = none) : ¬ ∃ m, Tell b m := by
  rintro ⟨m, hm⟩
  have := hm.int
  rw [h] at this
  cases this
theorem tell_neg {b r : List UInt8} {n : Int} (h : M.int b = some (n, r)) (hn : n < 0) : ¬ ∃ m, Tell b m := by
  rintro ⟨m, hm⟩
  have := hm.int
  rw [h] at this
  simp only [Option.some.injEq, Prod.mk.injEq] at this
  omega
theorem tell_one {b : List UInt8} {m m' : List S} (h : Tell b m) (h' : Tell b m') : m = m' := by
  have hi := Inv.start h.int
  have a := h.int
  have c := h'.int
  rw [a] at c
  simp only [Option.some.injEq, Prod.mk.injEq] at c
  have key : ∀ (n k : Nat) (acc : List S) (r : List UInt8), Inv b n k acc r → k ≤ n → ∃ acc' r', Inv b n n acc' r' := by
    intro n k
    induction hd : n - k generalizing k with
    | zero => intro acc r hI hk; have : k = n := by omega
              subst this; exact ⟨acc, r, hI⟩
    | succ d ih =>
      intro acc r hI hk
      obtain ⟨hl, _, ho, hq, e⟩ := hI.next (by omega) h
      exact ih (k + 1) (by omega) _ _ (hI.step (by omega) hq (by rw [e]; exact ho)) (by omega)
  obtain ⟨acc, r, hI⟩ := key _ 0 [] _ hi (by omega)
  obtain ⟨x1, x2, _⟩ := hI.all m h
  obtain ⟨y1, y2, _⟩ := hI.all m' h'
  rw [List.take_of_length_le (by omega)] at x2 y2
  rw [x2, y2]
theorem tell_txt {m : List S} (g : G m) : Tell (txt m) m := ⟨g, rfl⟩
theorem txt_len {m : List S} (g : G m) : (txt m).length ≤ 10 + m.length * 121 := by
  have := g.ln
  have a := M.enc_ten (m.length : Int) (by omega)
  have c : ∀ q : List S, (∀ s ∈ q, ok s) → (q.flatMap part).length ≤ q.length * 121 := by
    intro q
    induction q with
    | nil => intro _; simp
    | cons x r ih =>
      intro hq
      have a := (part_len (hq x (by simp))).2.2.2.2.1
      have b := ih fun n hn => hq n (List.mem_cons_of_mem _ hn)
      simp only [List.flatMap_cons, List.length_append, List.length_cons]
      omega
  have d := c m fun s hs => g.st s hs
  unfold txt
  rw [List.length_append]
  omega
end Sm
end Go.Proofs.Ytgcfpihfoekllaa
