/- Stripes as a whole; commit, free. -/
import Derived.Test.YtgcfpihfoekllaaRF

namespace Go.Proofs.Ytgcfpihfoekllaa

open Go.RowKit

set_option linter.unusedVariables false

namespace Sm
theorem live_stt2 {m : List S} {i : Nat} (h : i < m.length) (h1 : m[i].st = 1) : live (stt m i 2) = live m := by
  have := live_set h { m[i] with st := 2 }
  rw [stt_eq h]
  rw [if_neg (by omega), if_neg (by show ¬ (2 : Int) = 3; decide)] at this
  omega
theorem live_stt3 {m : List S} {i : Nat} (h : i < m.length) (h3 : m[i].st ≠ 3) : live (stt m i 3) + 1 = live m := by
  have := live_set h { m[i] with st := 3 }
  rw [stt_eq h]
  rw [if_neg h3, if_pos rfl] at this
  omega
theorem live_mv {m : List S} {i : Nat} (h : i < m.length) (x : Nat) (v : Int) : live (mv m i x v) = live m := by
  have := live_set h { m[i] with l := m[i].l.set x v }
  rw [mv_eq h]
  exact Nat.add_right_cancel this
end Sm
open Sm (S)
def MM (w : World) (base b : Nat) (F : Nat → Prop) (m : List S) : Prop := ∃ v es, F = fpm b v es ∧ MI w base b v es (Sm.live m) ∧ es.map (·.s) = m ∧ Sm.G m
def DdOut (w : World) (base b : Nat) (F : Nat → Prop) (u : Value) (m' : List S) (e : Ending) (w' : World) : Prop := e = .returned u ∧ ∃ F', MM w' base b F' m' ∧ Fr w F w' F'
section
variable {w w' : World} {base b : Nat} {v : Value} {es : List E} {n : Int} {F : Nat → Prop} {m : List S}
theorem MM.keepBut (h : MM w base b F m) (hb : ∀ k, k < w.heap.size → F k → w'.heap[k]? = w.heap[k]?) : MM w' base b F m := by
  obtain ⟨v, es, rfl, h1, h2, h3⟩ := h
  exact ⟨v, es, rfl, h1.keepBut hb, h2, h3⟩
theorem MM.keep (h : MM w base b F m) (hb : Below w.heap.size w w') : MM w' base b F m := h.keepBut fun k hk _ => hb.block k hk
theorem MM.mine (h : MM w base b F m) : ∀ k, F k → base ≤ k ∧ k < w.heap.size := by
  obtain ⟨v, es, rfl, h1, h2, h3⟩ := h
  exact h1.mine
theorem MM.g (h : MM w base b F m) : Sm.G m := by
  obtain ⟨v, es, rfl, h1, h2, h3⟩ := h
  exact h3
theorem MM.len (h : MM w base b F m) : m.length ≤ 4096 := h.g.ln
theorem DdOut.same (h : MM w base b F m) (u : Value) : DdOut w base b F u m (.returned u) w := ⟨rfl, F, h, Fr.refl _ _⟩
theorem DdOut.later (h : MM w base b F m) (u : Value) {w1 : World} (hb : Below w.heap.size w w1) : DdOut w base b F u m (.returned u) w1 := ⟨rfl, F, h.keep hb, Fr.ofBelow hb⟩
theorem set_map {i : Nat} (hi : i < es.length) (e : E) : (es.set i e).map (·.s) = (es.map (·.s)).set i e.s := by rw [List.map_set]
theorem stt_map {i : Nat} (hi : i < es.length) (x : Int) : (es.set i { es[i] with s := { es[i].s with st := x } }).map (·.s) = Sm.stt (es.map (·.s)) i x := by
  rw [set_map hi, Sm.stt_eq (by simpa using hi)]
  simp
set_option maxHeartbeats 1000000 in
theorem commit_any (h : MM w base b F m) (i o : Int) : Calls Try.prog 27 #[.pointer (some ⟨b, 0, none⟩), .int .i64 i, .int .i64 o] w (DdOut w base b F (.int .i64 (Sm.cc m i o)) (Sm.cm m i o)) := by
  have HNO : Hid (¬ Sm.cc m i o = 0 → DdOut w base b F (.int .i64 (Sm.cc m i o)) (Sm.cm m i o) (.returned (.int .i64 (Sm.cc m i o))) w) := Hid_of fun e => by rw [show Sm.cm m i o = m by unfold Sm.cm; rw [if_neg e]]; exact DdOut.same h _
  obtain ⟨v, es, rfl, hM, rfl, hG⟩ := h
  have HG := Hid_of hG
  rcases Sm.cc_cases (es.map (·.s)) i o with ⟨k1, k2⟩ | ⟨hk, h0, h1, hc⟩
  · have hf := find_out hM i (by simpa using k1)
    have HQ := Hid_of (HNO.out (by rw [k2]; decide))
    rw [k2] at HQ ⊢
    clear HNO hM hG HG k1 k2
    go_enter Try.func27, Try.ntmps27
    go_wp2_with fail
    refine hf.mono ?_
    rintro e w1 ⟨rfl, hw1⟩
    subst w1
    clear hf
    go_wp2
    go_ret
    exact HQ.out
  · obtain ⟨k, rfl⟩ := Int.eq_ofNat_of_zero_le h0
    simp only [Int.toNat_natCast, List.length_map, List.getElem_map] at hk hc h1
    have hk2 : k < es.length := by omega
    obtain ⟨g, cap, hv, ⟨c0, c1, c2, _⟩, _, hgb⟩ := hM.get k hk2
    have hf := find_in hM k hk2 hv
    rcases hc with ⟨k1, k2⟩ | ⟨k1, k2, k3⟩ | ⟨k1, k2, k3⟩
    · have HQ := Hid_of (HNO.out (by rw [k2]; decide))
      rw [k2] at HQ ⊢
      have d1 : (es[k].s.st != 1) = true := by simpa using k1
      have d1' : (es[k].s.st == 1) = false := by simpa using k1
      clear HNO hM hG HG k1 k2
      generalize es[k].s = s at *
      go_enter Try.func27, Try.ntmps27
      go_wp2_with fail
      refine hf.mono ?_
      rintro e w1 ⟨rfl, hw1⟩
      subst w1
      clear hf
      go_wp2
      go_ret
      exact HQ.out
    · have HQ := Hid_of (HNO.out (by rw [k3]; decide))
      rw [k3] at HQ ⊢
      have d1 : (es[k].s.st != 1) = false := by simpa using k1
      have d1' : (es[k].s.st == 1) = true := by simpa using k1
      have d2 : (es[k].s.ow != o) = true := by simpa using k2
      have d2' : (es[k].s.ow == o) = false := by simpa using k2
      clear HNO hM hG HG k1 k2 k3
      generalize es[k].s = s at *
      go_enter Try.func27, Try.ntmps27
      go_wp2_with fail
      refine hf.mono ?_
      rintro e w1 ⟨rfl, hw1⟩
      subst w1
      clear hf
      go_wp2
      go_ret
      exact HQ.out
    · have hk3 : k < (es.map (·.s)).length := by simpa using hk2
      have hb := become2_any hM hk2 hv
      have d1 : (es[k].s.st != 1) = false := by simpa using k1
      have d1' : (es[k].s.st == 1) = true := by simpa using k1
      have d2 : (es[k].s.ow != o) = false := by simpa using k2
      have d2' : (es[k].s.ow == o) = true := by simpa using k2
      have HL : Hid (Sm.live (Sm.cm (es.map (·.s)) k o) = Sm.live (es.map (·.s)) ∧ (es.set k { es[k] with s := { es[k].s with st := 2 } }).map (·.s) = Sm.cm (es.map (·.s)) k o ∧ Sm.G (Sm.cm (es.map (·.s)) k o)) := Hid_of ⟨by unfold Sm.cm; rw [k3, if_pos rfl]; exact Sm.live_stt2 hk3 (by simpa using k1), by rw [stt_map hk2]; unfold Sm.cm; rw [k3, if_pos rfl]; rfl, hG.commit k o⟩
      have HF := Hid_of (fpm_set (b := b) (v := v) hk2 (e := { es[k] with s := { es[k].s with st := 2 } }) rfl)
      rw [k3]
      clear HNO hM hG HG k1 k2 k3
      generalize es.set k { es[k] with s := { es[k].s with st := 2 } } = es' at *
      generalize es[k].s = s at *
      go_enter Try.func27, Try.ntmps27
      go_wp2_with fail
      refine hf.mono ?_
      rintro e w1 ⟨rfl, hw1⟩
      subst w1
      clear hf
      go_wp2_with fail
      refine hb.mono ?_
      rintro e w1 ⟨rfl, hm, hfr⟩
      have HQ : Hid (DdOut w base b (fpm b v es) (.int .i64 0) (Sm.cm (es.map (·.s)) k o) (.returned (.int .i64 0)) w1) := Hid_of ⟨rfl, _, ⟨v, es', rfl, by rw [HL.out.1]; exact hm, HL.out.2.1, HL.out.2.2⟩, by rw [HF.out]; exact hfr⟩
      clear hb hm hfr HL HF
      go_wp2
      go_ret
      exact HQ.out
set_option maxHeartbeats 1000000 in
theorem free_any (h : MM w base b F m) (i : Int) : Calls Try.prog 28 #[.pointer (some ⟨b, 0, none⟩), .int .i64 i] w (DdOut w base b F (.int .i64 (Sm.fc m i)) (Sm.fm m i)) := by
  have HNO : Hid (¬ Sm.fc m i = 0 → DdOut w base b F (.int .i64 (Sm.fc m i)) (Sm.fm m i) (.returned (.int .i64 (Sm.fc m i))) w) := Hid_of fun e => by rw [show Sm.fm m i = m by unfold Sm.fm; rw [if_neg e]]; exact DdOut.same h _
  obtain ⟨v, es, rfl, hM, rfl, hG⟩ := h
  have HG := Hid_of hG
  rcases Sm.fc_cases (es.map (·.s)) i with ⟨k1, k2⟩ | ⟨hk, h0, h1, hc⟩
  · have hf := find_out hM i (by simpa using k1)
    have HQ := Hid_of (HNO.out (by rw [k2]; decide))
    rw [k2] at HQ ⊢
    clear HNO hM hG HG k1 k2
    go_enter Try.func28, Try.ntmps28
    go_wp2_with fail
    refine hf.mono ?_
    rintro e w1 ⟨rfl, hw1⟩
    subst w1
    clear hf
    go_wp2
    go_ret
    exact HQ.out
  · obtain ⟨k, rfl⟩ := Int.eq_ofNat_of_zero_le h0
    simp only [Int.toNat_natCast, List.length_map, List.getElem_map] at hk hc h1
    have hk2 : k < es.length := by omega
    obtain ⟨g, cap, hv, ⟨c0, c1, c2, _⟩, _, hgb⟩ := hM.get k hk2
    have hf := find_in hM k hk2 hv
    rcases hc with ⟨k1, k2⟩ | ⟨k1, k2⟩
    · have HQ := Hid_of (HNO.out (by rw [k2]; decide))
      rw [k2] at HQ ⊢
      have d1 : (es[k].s.st == 3) = true := by simpa using k1
      clear HNO hM hG HG k1 k2
      generalize es[k].s = s at *
      go_enter Try.func28, Try.ntmps28
      go_wp2_with fail
      refine hf.mono ?_
      rintro e w1 ⟨rfl, hw1⟩
      subst w1
      clear hf
      go_wp2
      go_ret
      exact HQ.out
    · have hk3 : k < (es.map (·.s)).length := by simpa using hk2
      have hlv := Sm.live_stt3 hk3 (by simpa using k1)
      have hll := Sm.live_le (es.map (·.s))
      have hln := hG.ln
      have hb := become3_any hM (by omega) hk2 hv
      have d1 : (es[k].s.st == 3) = false := by simpa using k1
      have HL : Hid (((Sm.live (Sm.fm (es.map (·.s)) k) : Nat) : Int) = Sm.live (es.map (·.s)) - 1 ∧ (es.set k { es[k] with s := { es[k].s with st := 3 } }).map (·.s) = Sm.fm (es.map (·.s)) k ∧ Sm.G (Sm.fm (es.map (·.s)) k)) := Hid_of ⟨by unfold Sm.fm; rw [k2, if_pos rfl, Int.toNat_natCast]; omega, by rw [stt_map hk2]; unfold Sm.fm; rw [k2, if_pos rfl]; rfl, hG.free k⟩
      have HF := Hid_of (fpm_set (b := b) (v := v) hk2 (e := { es[k] with s := { es[k].s with st := 3 } }) rfl)
      rw [k2]
      clear HNO hM hG HG k1 k2 hlv hll hln
      generalize es.set k { es[k] with s := { es[k].s with st := 3 } } = es' at *
      generalize es[k].s = s at *
      go_enter Try.func28, Try.ntmps28
      go_wp2_with fail
      refine hf.mono ?_
      rintro e w1 ⟨rfl, hw1⟩
      subst w1
      clear hf
      go_wp2_with fail
      refine hb.mono ?_
      rintro e w1 ⟨rfl, hm, hfr⟩
      have HQ : Hid (DdOut w base b (fpm b v es) (.int .i64 0) (Sm.fm (es.map (·.s)) k) (.returned (.int .i64 0)) w1) := Hid_of ⟨rfl, _, ⟨v, es', rfl, by rw [HL.out.1]; exact hm, HL.out.2.1, HL.out.2.2⟩, by rw [HF.out]; exact hfr⟩
      clear hb hm hfr HL HF
      go_wp2
      go_ret
      exact HQ.out
end

end Go.Proofs.Ytgcfpihfoekllaa
