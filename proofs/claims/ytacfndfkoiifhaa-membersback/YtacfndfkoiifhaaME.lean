/-
  A group's bytes: how many; whether what was read may be a group; what a reader tells, step by step.
-/
import Derived.Test.YtacfndfkoiifhaaMT
import Derived.Test.YtacfndfkoiifhaaMD
import Derived.Test.YtacfndfkoiifhaaB
namespace Go.Proofs.Ytacfndfkoiifhaa
namespace Mb
open M (enc encIs)

theorem encIs_len (l : List Int) (hn : l.length ≤ 1000) (h : ∀ n ∈ l, -9223372036854775808 ≤ n ∧ n ≤ 9223372036854775807) : (encIs l).length ≤ 10 + 10 * l.length := by
  have h1 : ∀ q : List Int, (∀ n ∈ q, -9223372036854775808 ≤ n ∧ n ≤ 9223372036854775807) → (q.flatMap enc).length ≤ 10 * q.length := by
    intro q
    induction q with
    | nil => intro _; simp
    | cons x r ih =>
      intro hq
      have a := M.enc_ten x (hq x (by simp))
      have b := ih fun n hn => hq n (List.mem_cons_of_mem _ hn)
      simp only [List.flatMap_cons, List.length_append, List.length_cons]
      omega
  have h2 := M.enc_ten (l.length : Int) (by omega)
  unfold encIs
  rw [List.length_append]
  have := h1 l h
  omega
theorem G.bnd {s : S} (g : G s) (he : s.ep ≤ 9223372036854775807) : (-9223372036854775808 ≤ s.ep ∧ s.ep ≤ 9223372036854775807) ∧ (-9223372036854775808 ≤ s.hole ∧ s.hole ≤ 9223372036854775807) ∧ (-9223372036854775808 ≤ s.gone ∧ s.gone ≤ 9223372036854775807) ∧ s.l.length ≤ 8 ∧ s.sp.length ≤ 64 ∧ (∀ n ∈ s.l, -9223372036854775808 ≤ n ∧ n ≤ 9223372036854775807) ∧ (∀ n ∈ s.sp, -9223372036854775808 ≤ n ∧ n ≤ 9223372036854775807) := by
  have hg : -1 ≤ s.gone ∧ s.gone ≤ 63 := by
    by_cases h0 : s.hole < 0
    · have := (g.no h0).2; omega
    · cases e : s.fl with
      | false =>
        obtain ⟨hk, hx⟩ := g.is (by omega) e
        have := g.g.2.2.1 _ (List.getElem_mem hk)
        omega
      | true =>
        have := (g.fil (by omega) e).1
        omega
  have h1 := g.ep
  have h2 := g.lo
  have h3 := g.hi
  have h4 := g.g.2.1
  exact ⟨by omega, by omega, by omega, h4, g.ap.right.len, fun n hn => ep_small (g.g.2.2.1 n hn), fun n hn => ep_small (g.ap.right.1 n hn)⟩
theorem lay_ok {p q : List UInt8} (h : p.length + q.length ≤ 65536) : M.lay 65536 (0, p) q = (0, p ++ q) := by
  unfold M.lay
  rw [if_neg (by simp), if_neg (by show ¬ 65536 < p.length + q.length; omega)]
theorem byte_ok {p : List UInt8} (b : Bool) (h : p.length ≤ 65535) : M.byteW 65536 (0, p) (if b then 1 else 0) = (0, p ++ [bit b]) := by
  unfold M.byteW
  rw [if_neg (by simp)]
  cases b
  · rw [if_neg (by simp)]; exact lay_ok (by simp; omega)
  · rw [if_neg (by simp)]; exact lay_ok (by simp; omega)
/-- The text as it grows. -/
def t1 (s : S) : List UInt8 := enc s.ep
def t2 (s : S) : List UInt8 := t1 s ++ enc s.hole
def t3 (s : S) : List UInt8 := t2 s ++ [bit s.fl]
def t4 (s : S) : List UInt8 := t3 s ++ enc s.gone
def t5 (s : S) : List UInt8 := t4 s ++ encIs s.l
theorem t6 (s : S) : t5 s ++ encIs s.sp = txt s := by simp [t5, t4, t3, t2, t1, txt, List.append_assoc]
theorem t_len {s : S} (g : G s) (he : s.ep ≤ 9223372036854775807) : (t1 s).length ≤ 10 ∧ (t2 s).length ≤ 20 ∧ (t3 s).length ≤ 21 ∧ (t4 s).length ≤ 31 ∧ (t5 s).length ≤ 121 ∧ (txt s).length ≤ 1000 ∧ (enc s.hole).length ≤ 10 ∧ (enc s.gone).length ≤ 10 ∧ (encIs s.l).length ≤ 90 ∧ (encIs s.sp).length ≤ 650 := by
  obtain ⟨h1, h2, h3, h4, h5, h6, h7⟩ := g.bnd he
  have a1 := M.enc_ten _ h1
  have a2 := M.enc_ten _ h2
  have a3 := M.enc_ten _ h3
  have a4 := encIs_len s.l (by omega) h6
  have a5 := encIs_len s.sp (by omega) h7
  have b1 : (t1 s).length = (enc s.ep).length := rfl
  have b2 : (t2 s).length = (t1 s).length + (enc s.hole).length := List.length_append
  have b3 : (t3 s).length = (t2 s).length + 1 := List.length_append
  have b4 : (t4 s).length = (t3 s).length + (enc s.gone).length := List.length_append
  have b5 : (t5 s).length = (t4 s).length + (encIs s.l).length := List.length_append
  have b6 : (txt s).length = (t5 s).length + (encIs s.sp).length := by rw [← t6, List.length_append]
  omega
/-- May what was read be a group (its servers and spares may)? -/
def mb (s : S) : Bool :=
  if s.ep < 1 then false else if s.hole = -1 then (!s.fl && s.gone == -1) else if s.hole < 0 ∨ (s.l.length : Int) ≤ s.hole then false else if s.fl then apB (s.l ++ (s.sp ++ [s.gone])) else s.gone == s.l.getD s.hole.toNat 0
theorem mb_G {s : S} (h : nw s.l s.sp) : mb s = true ↔ G s := by
  unfold mb
  constructor
  · intro e
    by_cases h1 : s.ep < 1
    · rw [if_pos h1] at e; cases e
    rw [if_neg h1] at e
    by_cases h2 : s.hole = -1
    · rw [if_pos h2] at e
      simp only [Bool.and_eq_true, Bool.not_eq_true', beq_iff_eq] at e
      exact ⟨h.1, h.2, by omega, by omega, by omega, fun _ => e, fun q => by omega, fun q => by omega⟩
    rw [if_neg h2] at e
    by_cases h3 : s.hole < 0 ∨ (s.l.length : Int) ≤ s.hole
    · rw [if_pos h3] at e; cases e
    rw [if_neg h3] at e
    have hk : s.hole.toNat < s.l.length := by omega
    refine ⟨h.1, h.2, by omega, by omega, by omega, fun q => by omega, fun _ q => ?_, fun _ q => ?_⟩
    · rw [q] at e
      simp only [Bool.false_eq_true, if_false, beq_iff_eq] at e
      exact ⟨hk, by rw [e]; simp [hk]⟩
    · rw [q] at e
      simp only [if_true] at e
      have ha := apB_eq.1 e
      have hg : 0 ≤ s.gone ∧ s.gone ≤ 63 := ha.1 s.gone (by simp)
      exact ⟨hg, (ap3 h.2 hg).1 ha⟩
  · intro g
    have h1 := g.ep
    have h2 := g.lo
    have h3 := g.hi
    rw [if_neg (by omega)]
    by_cases q : s.hole = -1
    · rw [if_pos q]
      obtain ⟨a, b⟩ := g.no (by omega)
      rw [a, b]
      rfl
    rw [if_neg q, if_neg (by omega)]
    cases f : s.fl with
    | false =>
      obtain ⟨hk, hx⟩ := g.is (by omega) f
      simp [hk, hx]
    | true =>
      obtain ⟨a, b⟩ := g.fil (by omega) f
      simp only [if_true]
      exact apB_eq.2 ((ap3 h.2 a).2 b)
end Mb
end Go.Proofs.Ytacfndfkoiifhaa
