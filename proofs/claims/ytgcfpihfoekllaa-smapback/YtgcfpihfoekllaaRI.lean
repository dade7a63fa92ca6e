/- An owner has gone: its begun stripes are freed. -/
import Derived.Test.YtgcfpihfoekllaaRG

namespace Go.Proofs.Ytgcfpihfoekllaa

open Go.RowKit

set_option linter.unusedVariables false

namespace Sm
theorem ids_nodup (p : S → Bool) (m : List S) (k : Nat) : (ids p m k).Nodup := by
  induction k with
  | zero => simp [ids]
  | succ k ih =>
    unfold ids
    refine List.nodup_append.2 ⟨ih, ?_, ?_⟩
    · split
      · split <;> simp
      · simp
    · intro a ha c hc
      rw [mem_ids] at ha
      obtain ⟨j, rfl, hj, _⟩ := ha
      split at hc
      · split at hc
        · simp at hc; subst hc; omega
        · simp at hc
      · simp at hc
theorem take_nodup {l : List Int} (h : l.Nodup) {k : Nat} (hk : k < l.length) : ¬ l[k] ∈ l.take k := by
  intro hm
  obtain ⟨i, hi, e⟩ := List.getElem_of_mem hm
  rw [List.length_take] at hi
  rw [List.getElem_take] at e
  unfold List.Nodup at h
  rw [List.pairwise_iff_getElem] at h
  exact h i k (by omega) hk (by omega) e
end Sm
open Sm (S)

section
variable {w w' wr : World} {base b : Nat} {v u : Value} {es es' : List E} {n : Int} {F : Nat → Prop} {m : List S} {o : Int} {k : Nat}
/-- What a drop leaves. -/
def DrOut (w : World) (base b : Nat) (F : Nat → Prop) (m : List S) (o : Int) (e : Ending) (w' : World) : Prop := ∃ u, e = .returned u ∧ OwnL il 3 w' w.heap.size u (Sm.ofOw m o) ∧ ∃ F', MM w' base b F' (Sm.dm m o) ∧ Fr w F w' F'
structure DrI (w wr : World) (base b : Nat) (v u : Value) (es es' : List E) (o : Int) (k : Nat) : Prop where
  mi : MI wr base b v es' (Sm.live (es'.map (·.s)))
  mp : es'.map (·.s) = Sm.frs (es.map (·.s)) ((Sm.ofOw (es.map (·.s)) o).take k)
  fp : fpm b v es' = fpm b v es
  fr : Fr w (fpm b v es) wr (fpm b v es)
  ow : OwnL il 3 wr w.heap.size u (Sm.ofOw (es.map (·.s)) o)
theorem DrI.len (h : DrI w wr base b v u es es' o k) : es'.length = es.length := by
  have := congrArg List.length h.mp
  rw [Sm.frs_len] at this
  simpa using this
theorem DrI.step (hM : MI w base b v es n) (hG : Sm.G (es.map (·.s))) (h : DrI w wr base b v u es es' o k) (hk : k < (Sm.ofOw (es.map (·.s)) o).length) :
    ∃ (j : Nat) (hj : j < es'.length) (g cap : Nat), (Sm.ofOw (es.map (·.s)) o)[k] = (j : Int) ∧ v = .slice (some ⟨g, 0, none⟩) es'.length cap ∧ (1 ≤ (Sm.live (es'.map (·.s)) : Int) ∧ (Sm.live (es'.map (·.s)) : Int) ≤ 100000) ∧
      ∀ w', (MI w' base b v (es'.set j { es'[j] with s := { es'[j].s with st := 3 } }) ((Sm.live (es'.map (·.s)) : Int) - 1) ∧ Fr wr (fpm b v es') w' (fpm b v es')) → DrI w w' base b v u es (es'.set j { es'[j] with s := { es'[j].s with st := 3 } }) o (k + 1) := by
  have hlen := h.len
  have hmem : (Sm.ofOw (es.map (·.s)) o)[k] ∈ Sm.ofOw (es.map (·.s)) o := List.getElem_mem hk
  unfold Sm.ofOw at hmem
  rw [Sm.mem_ids] at hmem
  obtain ⟨j, hj, hjl, hjm, hp⟩ := hmem
  have hj' : (Sm.ofOw (es.map (·.s)) o)[k] = (j : Int) := hj
  have hjE : j < es'.length := by rw [hlen]; simpa using hjm
  have hnt : ¬ (j : Int) ∈ (Sm.ofOw (es.map (·.s)) o).take k := by rw [← hj']; exact Sm.take_nodup (Sm.ids_nodup _ _ _) hk
  have hst : es'[j].s = (es.map (fun x : E => x.s))[j] := by
    have e1 : es'[j].s = (es'.map (·.s))[j]'(by simpa using hjE) := by simp
    have e2 : (es'.map (·.s))[j]? = some (es.map (fun x : E => x.s))[j] := by
      rw [h.mp, List.getElem?_eq_getElem (by rw [Sm.frs_len]; exact hjm), Sm.frs_get _ _ j hjm, if_neg hnt]
    rw [List.getElem?_eq_getElem (by simpa using hjE)] at e2
    rw [e1]
    exact Option.some.inj e2
  have h1 : es'[j].s.st = 1 := by
    rw [hst]
    unfold Sm.isOw at hp
    simp only [Bool.and_eq_true, beq_iff_eq] at hp
    exact hp.1
  obtain ⟨g, cap, hv, _⟩ := h.mi.get j hjE
  have hG' : Sm.G (es'.map (·.s)) := by rw [h.mp]; exact hG.frs _
  have hjm' : j < (es'.map (·.s)).length := by simpa using hjE
  have hlv := Sm.live_stt3 hjm' (by simp [h1])
  have hle := hG'.lv
  refine ⟨j, hjE, g, cap, hj', hv, ⟨by omega, by omega⟩, fun w' hm => ?_⟩
  have hfp : fpm b v (es'.set j { es'[j] with s := { es'[j].s with st := 3 } }) = fpm b v es' := fpm_set hjE rfl
  have hmap := stt_map hjE 3
  refine ⟨?_, ?_, ?_, ?_, ?_⟩
  · have : (Sm.live ((es'.set j { es'[j] with s := { es'[j].s with st := 3 } }).map (·.s)) : Int) = (Sm.live (es'.map (·.s)) : Int) - 1 := by rw [hmap]; omega
    rw [this]; exact hm.1
  · rw [hmap, h.mp, List.take_succ_eq_append_getElem hk, hj', Sm.frs_step _ _ j hjm]
  · rw [hfp, h.fp]
  · have := hm.2
    rw [h.fp] at this
    exact h.fr.trans this
  · refine h.ow.keepBut fun k hk hown => hm.2.block k hk fun hF => ?_
    rw [h.fp] at hF
    have := (hM.mine k hF).2
    have := (h.ow.lt hown).1
    omega
theorem DrI.done (hG : Sm.G (es.map (·.s))) (h : DrI w wr base b v u es es' o (Sm.ofOw (es.map (·.s)) o).length) : DrOut w base b (fpm b v es) (es.map (·.s)) o (.returned u) wr := by
  have hmp := h.mp
  rw [List.take_length, Sm.frs_all] at hmp
  exact ⟨u, rfl, h.ow, fpm b v es, ⟨v, es', h.fp.symm, by rw [← hmp]; exact h.mi, hmp, hG.drop o⟩, h.fr⟩
set_option maxRecDepth 100000 in
set_option maxHeartbeats 1000000 in
theorem drop_any (h : MM w base b F m) (o : Int) : Calls Try.prog 25 #[.pointer (some ⟨b, 0, none⟩), .int .i64 o] w (DrOut w base b F m o) := by
  obtain ⟨v, es, rfl, hM, rfl, hG⟩ := h
  have hn := hG.ln
  rw [List.length_map] at hn
  have hb := bel1 w (.cells #[.int .i64 o] 3)
  have hq := (row1 (heap_alloc_last w (.cells #[.int .i64 o] 3))).1
  have hw := which_any (hM.keep hb) 59 runs59 (.pointer (some ⟨w.heap.size, 0, none⟩)) (Sm.isOw o) (by omega) (fun W x hW hx => isOw_any x o _ W (by rw [← hq]; exact World.cell?_of_block (hW.block _ (by simp))))
  have HB := Hid_of hb
  have HE : Hid (Sm.ofOw (es.map (·.s)) o = Sm.ids (Sm.isOw o) (es.map (·.s)) es.length) := Hid_of (by unfold Sm.ofOw; rw [List.length_map])
  rw [← HE.out] at hw
  have HG := Hid_of hG
  have HM := Hid_of hM
  clear hb hq HE hG hM
  go_enter Try.func25, Try.ntmps25
  go_wp2_with fail
  refine hw.mono ?_
  intro e w1 ho
  obtain ⟨u, rfl, hown, hb1⟩ := IdsOut.pre HB.out ho
  have hil : (Sm.ofOw (es.map (·.s)) o).length ≤ 100000 := by have := Sm.ids_len (Sm.isOw o) (es.map (·.s)) (es.map (·.s)).length; unfold Sm.ofOw; rw [List.length_map] at this ⊢; omega
  have HI : Hid (DrI w w1 base b v u es es o 0) := Hid_of ⟨HM.out.keep hb1, by rw [List.take_zero, Sm.frs_nil], rfl, Fr.ofBelow hb1, hown⟩
  clear hw HB ho
  obtain ⟨au, cu, rfl, _⟩ := hown.at
  clear hown hb1
  go_wp2
  go_loopw [13] (fun i wr => ∃ (k : Nat) (es' : List E), k ≤ (Sm.ofOw (es.map (·.s)) o).length ∧ i = .int .i64 k ∧ Hid (DrI w wr base b v (.slice au (Sm.ofOw (es.map (·.s)) o).length cu) es es' o k)) (fun i _ => (Sm.ofOw (es.map (·.s)) o).length - (intOf i).toNat)
  case atStart => exact ⟨0, es, by omega, rfl, HI⟩
  case round =>
    obtain ⟨k, es', hk, rfl, HD⟩ := hrel
    clear HI
    by_cases hlt : k < (Sm.ofOw (es.map (·.s)) o).length
    · obtain ⟨a2, c2, hv2, hx, _⟩ := HD.out.ow.at
      simp only [Value.slice.injEq] at hv2
      obtain ⟨rfl, _, rfl⟩ := hv2
      obtain ⟨bu, ou, rfl, cu0⟩ := hx.at'.getI k hlt
      obtain ⟨j, hj, g, cap, ej, hv, hlv, hst⟩ := HD.out.step HM.out HG.out hlt
      have hf := find_in HD.out.mi j hj hv
      have hbc := become3_any HD.out.mi hlv hj hv
      have HS := Hid_of hst
      have hki : (k : Int) < ((Sm.ofOw (es.map (·.s)) o).length : Int) := by omega
      rw [ej] at cu0
      clear hx hv hlv hst ej HD HM HG
      go_wp2_with fail
      refine hf.mono ?_
      rintro e w2 ⟨rfl, hw2⟩
      subst w2
      clear hf
      go_wp2_with fail
      refine hbc.mono ?_
      rintro e w2 ⟨rfl, hm⟩
      have HN := Hid_of (HS.out w2 hm)
      clear hbc hm HS
      go_wp2
      go_roundw
      case rel => exact ⟨k + 1, _, by omega, by go_num, HN⟩
      case measure => simp [intOf]; omega
    · have hkn : k = (Sm.ofOw (es.map (·.s)) o).length := by omega
      subst hkn
      have HQ := Hid_of (HD.out.done HG.out)
      clear HD HM HG
      go_wp2
      go_ret
      exact HQ.out
theorem dropN (o : Int) (w : World) : Calls Try.prog 25 #[.pointer none, .int .i64 o] w fun e w' => e = .returned (.slice none 0 0) ∧ Below w.heap.size w w' := by
  have HB := Hid_of (bel1 w (.cells #[.int .i64 o] 3))
  go_enter Try.func25, Try.ntmps25
  go_wp2_with fail
  refine (whichN _ _).mono ?_
  rintro e w1 ⟨rfl, hw⟩
  subst w1
  go_wp2
  go_loopw [13] (fun i wr => i = .int .i64 0 ∧ Hid (Below w.heap.size w wr)) (fun i _ => 0)
  case atStart => exact ⟨rfl, HB⟩
  case round =>
    obtain ⟨rfl, HB2⟩ := hrel
    clear HB
    go_wp2
    go_ret
    exact ⟨rfl, HB2.out⟩
end

end Go.Proofs.Ytgcfpihfoekllaa
