/-
  A group's bytes: laid, and read back.
-/
import Derived.Test.YtacfndfkoiifhaaM
import Derived.Test.YtacfndfkoiifhaaMB
namespace Go.Proofs.Ytacfndfkoiifhaa
namespace Mb
def bit (b : Bool) : UInt8 := if b then 1 else 0
def txt (s : S) : List UInt8 := M.enc s.ep ++ (M.enc s.hole ++ (bit s.fl :: (M.enc s.gone ++ (M.encIs s.l ++ M.encIs s.sp))))
/-- What any bytes tell, laid out: the six parts, and what is left. -/
def prt (b : List UInt8) : Option (Int × Int × Int × Int × List Int × List Int × List UInt8) :=
  match M.int b with
  | none => none
  | some (ep, r) =>
    match M.int r with
    | none => none
    | some (hole, r) =>
      match M.byte r with
      | none => none
      | some (f, r) =>
        match M.int r with
        | none => none
        | some (gone, r) =>
          match M.ints r with
          | none => none
          | some (l, r) =>
            match M.ints r with
            | none => none
            | some (sp, r) => some (ep, hole, f, gone, l, sp, r)
/-- Do bytes tell a group? -/
def Tell (b : List UInt8) (s : S) : Prop := ∃ f, prt b = some (s.ep, s.hole, f, s.gone, s.l, s.sp, []) ∧ (f = 0 ∨ f = 1) ∧ s.fl = decide (f = 1) ∧ G s
theorem byte_bit (b : Bool) (r : List UInt8) : M.byte (bit b :: r) = some (if b then 1 else 0, r) := by cases b <;> rfl
theorem ep_small {x : Int} (h : 0 ≤ x ∧ x ≤ 63) : -9223372036854775808 ≤ x ∧ x ≤ 9223372036854775807 := by omega
theorem tell_txt {s : S} (h : G s) (he : s.ep ≤ 9223372036854775807) : Tell (txt s) s := by
  have hg : -1 ≤ s.gone ∧ s.gone ≤ 63 := by
    by_cases h0 : s.hole < 0
    · have := (h.no h0).2; omega
    · cases e : s.fl with
      | false =>
        obtain ⟨hk, hx⟩ := h.is (by omega) e
        have := h.g.2.2.1 _ (List.getElem_mem hk)
        omega
      | true =>
        have := (h.fil (by omega) e).1
        omega
  have hl8 := h.g.2.1
  have hl := h.hi
  have hlo := h.lo
  have hep := h.ep
  have hs64 := h.ap.right.len
  have e1 : M.int (txt s) = some (s.ep, M.enc s.hole ++ (bit s.fl :: (M.enc s.gone ++ (M.encIs s.l ++ M.encIs s.sp)))) := M.int_enc _ _ (by omega)
  have e2 := M.int_enc s.hole (bit s.fl :: (M.enc s.gone ++ (M.encIs s.l ++ M.encIs s.sp))) (by omega)
  have e3 := M.int_enc s.gone (M.encIs s.l ++ M.encIs s.sp) (by omega)
  have e4 := M.ints_enc s.l (M.encIs s.sp) (by omega) (fun n hn => ep_small (h.g.2.2.1 n hn))
  have e5 := M.ints_enc s.sp [] (by omega) (fun n hn => ep_small (h.ap.1 n (List.mem_append_right _ hn)))
  rw [List.append_nil] at e5
  refine ⟨if s.fl then 1 else 0, ?_, by cases s.fl <;> simp, by cases s.fl <;> rfl, h⟩
  unfold prt
  rw [e1]
  simp only [e2, byte_bit, e3, e4, e5]
theorem tell_only {b : List UInt8} {s : S} (h : Tell b s) : b = txt s := by
  obtain ⟨f, hp, hf, hfl, hG⟩ := h
  unfold prt at hp
  split at hp
  · cases hp
  · rename_i ep r1 h1
    split at hp
    · cases hp
    · rename_i hole r2 h2
      split at hp
      · cases hp
      · rename_i f' r3 h3
        split at hp
        · cases hp
        · rename_i gone r4 h4
          split at hp
          · cases hp
          · rename_i l r5 h5
            split at hp
            · cases hp
            · rename_i sp r6 h6
              simp only [Option.some.injEq, Prod.mk.injEq] at hp
              obtain ⟨p1, p2, p3, p4, p5, p6, p7⟩ := hp
              subst p1 p2 p3 p4 p5 p6 p7
              have q1 := (M.int_only _ _ _ h1).1
              have q2 := (M.int_only _ _ _ h2).1
              have q4 := (M.int_only _ _ _ h4).1
              have q5 := M.ints_only _ _ _ h5
              have q6 := M.ints_only _ _ _ h6
              cases r2 with
              | nil => cases h3
              | cons x r2' =>
                simp only [M.byte, Option.some.injEq, Prod.mk.injEq] at h3
                obtain ⟨hx, rfl⟩ := h3
                have hb : x = bit s.fl := by
                  rw [hfl]
                  have hxn : x.toNat = 0 ∨ x.toNat = 1 := by rcases hf with e | e <;> omega
                  rcases hxn with e | e
                  · have : f' = 0 := by omega
                    subst this
                    exact UInt8.toNat_inj.1 (by rw [e]; rfl)
                  · have : f' = 1 := by omega
                    subst this
                    exact UInt8.toNat_inj.1 (by rw [e]; rfl)
                unfold txt
                rw [q1, q2, hb, q4, q5, q6, List.append_nil]
/-- What is told is one group. -/
theorem tell_one {b : List UInt8} {s t : S} (h : Tell b s) (k : Tell b t) : s = t := by
  obtain ⟨f, h1, -, h3, -⟩ := h
  obtain ⟨g, k1, -, k3, -⟩ := k
  rw [h1] at k1
  simp only [Option.some.injEq, Prod.mk.injEq] at k1
  obtain ⟨e1, e2, e3, e4, e5, e6, -⟩ := k1
  cases s
  cases t
  simp only at *
  subst e1 e2 e3 e4 e5 e6
  rw [h3, k3]
end Mb
end Go.Proofs.Ytacfndfkoiifhaa
