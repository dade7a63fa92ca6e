/-
  Devices with two places, as plain lists: what is read behind a Write, and behind one that is cut.
-/
import Derived.Test.YthffglacokfkgaaZ
namespace Go.Proofs.Ythffglacokfkgaa
open Go.RowKit
open M (ofL ofL_size ofL_of)
set_option linter.unusedVariables false

def fl (L : List ByteArray) : List UInt8 := L.flatMap fun s => s.data.toList
/-- The bytes of a place. -/
def plc (P : List M.Pl) (k : Nat) : List UInt8 := fl (((P.map M.last).drop (k * 4)).take 4)
theorem last_64 {P : List M.Pl} (h : M.Ok P) : ∀ s ∈ P.map M.last, s.size = 64 := fun s hs => by
  obtain ⟨p, hp, rfl⟩ := List.mem_map.1 hs
  exact h.last p hp
theorem both_parts {P : List M.Pl} (hl : P.length = 8) (h : M.Ok P) : (both P).take 256 = plc P 0 ∧ (both P).drop 256 = plc P 1 := by
  have h64 := last_64 h
  have e : both P = fl ((P.map M.last).take 4) ++ fl ((P.map M.last).drop 4) := by
    unfold both M.cat fl
    rw [ofL_data, ← List.flatMap_append, List.take_append_drop]
  have el : (fl ((P.map M.last).take 4)).length = 256 := by
    unfold fl
    rw [M.flat_len _ (fun s hs => h64 s (List.mem_of_mem_take hs)), List.length_take, List.length_map, hl]
    rfl
  rw [e, List.take_left' el, List.drop_left' el]
  refine ⟨rfl, ?_⟩
  show fl ((P.map M.last).drop 4) = fl (((P.map M.last).drop 4).take 4)
  rw [List.take_of_length_le (l := (P.map M.last).drop 4) (by rw [List.length_drop, List.length_map, hl]; omega)]
theorem plc_len {P : List M.Pl} (hl : P.length = 8) (h : M.Ok P) (k : Nat) (hk : k < 2) : (plc P k).length = 256 := by
  unfold plc fl
  rw [M.flat_len _ (fun s hs => last_64 h s (List.mem_of_mem_drop (List.mem_of_mem_take hs))), List.length_take, List.length_drop, List.length_map, hl]
  omega
theorem rdP_eq {P : List M.Pl} (hl : P.length = 8) (h : M.Ok P) : rdP P = bif decide ((Sp.sa 0 (plc P 0)).1 < (Sp.sa 1 (plc P 1)).1) then Sp.sa 1 (plc P 1) else Sp.sa 0 (plc P 0) := by
  unfold rdP Sp.rd
  rw [(both_parts hl h).1, (both_parts hl h).2]
/-- The greater of both: it is the one of its place. -/
theorem rdP_max {P : List M.Pl} (hl : P.length = 8) (h : M.Ok P) (k : Nat) (hk : k < 2) : (Sp.sa k (plc P k)).1 ≤ (rdP P).1 := by
  rw [rdP_eq hl h]
  cases hd : decide ((Sp.sa 0 (plc P 0)).1 < (Sp.sa 1 (plc P 1)).1)
  · simp only [decide_eq_false_iff_not] at hd
    rcases (show k = 0 ∨ k = 1 by omega) with rfl | rfl
    · exact Nat.le_refl _
    · show _ ≤ (Sp.sa 0 (plc P 0)).1; omega
  · simp only [decide_eq_true_iff] at hd
    rcases (show k = 0 ∨ k = 1 by omega) with rfl | rfl
    · show _ ≤ (Sp.sa 1 (plc P 1)).1; omega
    · exact Nat.le_refl _
theorem rdP_own {P : List M.Pl} (hl : P.length = 8) (h : M.Ok P) (h1 : 1 ≤ (rdP P).1) : rdP P = Sp.sa ((rdP P).1 % 2) (plc P ((rdP P).1 % 2)) := by
  have key : ∀ k, k < 2 → rdP P = Sp.sa k (plc P k) → rdP P = Sp.sa ((rdP P).1 % 2) (plc P ((rdP P).1 % 2)) := by
    intro k hk e
    rcases Sp.sa_par k (plc P k) with ⟨h2, _⟩ | ⟨_, h2, _⟩
    · rw [e] at h1; omega
    · rw [e, h2]
  have e := rdP_eq hl h
  cases hd : decide ((Sp.sa 0 (plc P 0)).1 < (Sp.sa 1 (plc P 1)).1)
  · rw [hd] at e; exact key 0 (by omega) e
  · rw [hd] at e; exact key 1 (by omega) e
/-- One place tells more than the other. -/
theorem rdP_of {P : List M.Pl} (hl : P.length = 8) (h : M.Ok P) (k j : Nat) (hk : k < 2) (hj : j < 2) (hkj : k ≠ j) (hlt : (Sp.sa j (plc P j)).1 < (Sp.sa k (plc P k)).1) : rdP P = Sp.sa k (plc P k) := by
  rw [rdP_eq hl h]
  rcases (show k = 0 ∧ j = 1 ∨ k = 1 ∧ j = 0 by omega) with ⟨rfl, rfl⟩ | ⟨rfl, rfl⟩
  · rw [decide_eq_false (by omega)]; rfl
  · rw [decide_eq_true hlt]; rfl
/-! four sectors written -/
theorem four_parts (l : List UInt8) (h : l.length = 256) : l.take 64 ++ ((l.drop 64).take 64 ++ ((l.drop 128).take 64 ++ (l.drop 192).take 64)) = l := by
  have e3 : (l.drop 192).take 64 = l.drop 192 := List.take_of_length_le (by rw [List.length_drop]; omega)
  have e2 : (l.drop 128).take 64 ++ l.drop 192 = l.drop 128 := by
    have := List.take_append_drop 64 (l.drop 128)
    rwa [List.drop_drop] at this
  have e1 : (l.drop 64).take 64 ++ l.drop 128 = l.drop 64 := by
    have := List.take_append_drop 64 (l.drop 64)
    rwa [List.drop_drop] at this
  rw [e3, e2, e1, List.take_append_drop]
theorem pc_list (s : ByteArray) (k : Nat) (h : k * 64 + 64 ≤ s.size) : (M.pc s k).data.toList = (s.data.toList.drop (k * 64)).take 64 := by
  unfold M.pc
  rw [extract_list _ _ _ h, Nat.add_sub_cancel_left]
theorem fl_pc (s : ByteArray) (h : s.size = 256) : fl [M.pc s 0, M.pc s 1, M.pc s 2, M.pc s 3] = s.data.toList := by
  unfold fl
  simp only [List.flatMap_cons, List.flatMap_nil, List.append_nil]
  rw [pc_list s 0 (by omega), pc_list s 1 (by omega), pc_list s 2 (by omega), pc_list s 3 (by omega)]
  exact four_parts s.data.toList (by rw [len_data, h])
theorem wr_last (P : List M.Pl) (at' : Nat) (s : ByteArray) (h : s.size = 256) : (M.wr P at' s 4).map M.last = ((((P.map M.last).set at' (M.pc s 0)).set (at' + 1) (M.pc s 1)).set (at' + 2) (M.pc s 2)).set (at' + 3) (M.pc s 3) := by
  simp only [M.wr]
  rw [M.st_last _ _ _ (M.pc_size s 3 (by omega)), M.st_last _ _ _ (M.pc_size s 2 (by omega)), M.st_last _ _ _ (M.pc_size s 1 (by omega)), M.st_last _ _ _ (M.pc_size s 0 (by omega))]
  rfl
theorem wr_get (P : List M.Pl) (at' : Nat) (s : ByteArray) (i : Nat) (h : i < at' ∨ at' + 4 ≤ i) : (M.wr P at' s 4)[i]? = P[i]? := by
  simp only [M.wr, M.st]
  rw [List.getElem?_set_ne (by omega), List.getElem?_set_ne (by omega), List.getElem?_set_ne (by omega), List.getElem?_set_ne (by omega)]
theorem wr_ok {P : List M.Pl} (h : M.Ok P) (at' : Nat) (s : ByteArray) (hs : s.size = 256) (ha : at' + 4 ≤ P.length) : M.Ok (M.wr P at' s 4) := by
  simp only [M.wr]
  have h0 := M.st_ok h (at' + 0) (M.pc s 0) (by omega) (M.pc_size s 0 (by omega))
  have h1 := M.st_ok h0 (at' + 1) (M.pc s 1) (by rw [M.st_len]; omega) (M.pc_size s 1 (by omega))
  have h2 := M.st_ok h1 (at' + 2) (M.pc s 2) (by rw [M.st_len, M.st_len]; omega) (M.pc_size s 2 (by omega))
  exact M.st_ok h2 (at' + 3) (M.pc s 3) (by rw [M.st_len, M.st_len, M.st_len]; omega) (M.pc_size s 3 (by omega))
theorem list8 {α : Type} (L : List α) (h : L.length = 8) : ∃ a0 a1 a2 a3 a4 a5 a6 a7, L = [a0, a1, a2, a3, a4, a5, a6, a7] := by
  match L, h with
  | [a0, a1, a2, a3, a4, a5, a6, a7], _ => exact ⟨a0, a1, a2, a3, a4, a5, a6, a7, rfl⟩
theorem plc_wr {P : List M.Pl} (hl : P.length = 8) (k j : Nat) (hk : k < 2) (hj : j < 2) (hkj : k ≠ j) (s : ByteArray) (h : s.size = 256) : plc (M.wr P (k * 4) s 4) k = s.data.toList ∧ plc (M.wr P (k * 4) s 4) j = plc P j := by
  unfold plc
  rw [wr_last P (k * 4) s h]
  obtain ⟨a0, a1, a2, a3, a4, a5, a6, a7, e⟩ := list8 (P.map M.last) (by rw [List.length_map, hl])
  rw [e]
  rcases (show k = 0 ∧ j = 1 ∨ k = 1 ∧ j = 0 by omega) with ⟨rfl, rfl⟩ | ⟨rfl, rfl⟩
  · exact ⟨(congrArg fl (by simp)).trans (fl_pc s h), congrArg fl (by simp)⟩
  · exact ⟨(congrArg fl (by simp)).trans (fl_pc s h), congrArg fl (by simp)⟩
theorem plc_flush (P : List M.Pl) (k : Nat) : plc (M.flush P) k = plc P k := by
  unfold plc
  rw [M.flush_last]
/-- Behind a Write its state is read. -/
theorem rd_nxt {P : List M.Pl} (hl : P.length = 8) (h : M.Ok P) (body : List UInt8) (hb : body.length ≤ 244) (hg : (rdP P).1 < 2147483647) : rdP (nxt P body) = ((rdP P).1 + 1, body) := by
  obtain ⟨g, hg'⟩ : ∃ g, (rdP P).1 = g := ⟨_, rfl⟩
  have hs : (ofL (Sp.pk body (g + 1))).size = 256 := by rw [ofL_size, Sp.pk_len _ _ hb]
  obtain ⟨k, hk⟩ : ∃ k, (g + 1) % 2 = k := ⟨_, rfl⟩
  obtain ⟨j, hj⟩ : ∃ j, g % 2 = j := ⟨_, rfl⟩
  have hm := rdP_max hl h j (by omega)
  unfold nxt
  rw [hg'] at hg hm ⊢
  have ho := Sp.ok_pk body (g + 1) hb (by omega) (by omega)
  rw [hk] at ho ⊢
  have hq := plc_wr hl k j (by omega) (by omega) (by omega) (ofL (Sp.pk body (g + 1))) hs
  rw [ofL_data] at hq
  have h1 : M.Ok (M.flush (M.wr P (k * 4) (ofL (Sp.pk body (g + 1))) 4)) := M.flush_ok (wr_ok h _ _ hs (by omega))
  have h2 : (M.flush (M.wr P (k * 4) (ofL (Sp.pk body (g + 1))) 4)).length = 8 := by rw [M.flush_len, M.wr_len, hl]
  rw [rdP_of h2 h1 k j (by omega) (by omega) (by omega)]
  · rw [plc_flush, hq.1, ho.2]
  · rw [plc_flush, plc_flush, hq.1, hq.2, ho.2]
    show _ < g + 1
    omega
theorem nxt_lse (P : List M.Pl) (body : List UInt8) : ∀ p ∈ nxt P body, M.lse p = false := M.flush_lse _
theorem crash_same {P : List M.Pl} (h : ∀ p ∈ P, M.lse p = false) (keep : Nat) (tear : Int) : M.crash P keep tear = P := by
  unfold M.crash
  rw [M.lo_none h]
  rfl
theorem rd_new : rdP (new 8) = (0, []) := by
  have hl : (new 8).length = 8 := new_len 8
  have h : plc (new 8) 0 = List.replicate 256 0 ∧ plc (new 8) 1 = List.replicate 256 0 := by
    constructor <;> decide +kernel
  rw [rdP_eq hl (new_ok 8), h.1, h.2, Sp.sa_zero 0 _ (by decide +kernel), Sp.sa_zero 1 _ (by decide +kernel)]
  rfl
/-! a Write that is cut -/
theorem plc_same {P Q : List M.Pl} (j : Nat) (h : ∀ i, j * 4 ≤ i → i < j * 4 + 4 → Q[i]? = P[i]?) : plc Q j = plc P j := by
  unfold plc
  congr 1
  apply List.ext_getElem?
  intro i
  rw [List.getElem?_take, List.getElem?_take]
  split
  · rw [List.getElem?_drop, List.getElem?_drop, List.getElem?_map, List.getElem?_map, h _ (by omega) (by omega)]
  · rfl
theorem cut_other {P : List M.Pl} (hl : P.length = 8) (hn : ∀ p ∈ P, M.lse p = false) (k j : Nat) (hk : k < 2) (hj : j < 2) (hkj : k ≠ j) (s : ByteArray) (keep : Nat) (tear : Int) :
    plc (M.crash (M.wr P (k * 4) s 4) keep tear) j = plc P j := by
  apply plc_same
  intro i h1 h2
  have e := wr_get P (k * 4) s i (by omega)
  unfold M.crash
  rw [M.crs_other, e]
  intro hm
  obtain ⟨h3, h4⟩ := M.mem_lo.1 hm
  have h5 : i < P.length := by rw [M.wr_len] at h3; exact h3
  rw [List.getElem?_eq_getElem h3, List.getElem?_eq_getElem h5, Option.some.injEq] at e
  rw [e, hn _ (List.getElem_mem h5)] at h4
  cases h4
/-- Behind a Write that is cut. -/
theorem rd_cut {P : List M.Pl} (hl : P.length = 8) (h : M.Ok P) (hn : ∀ p ∈ P, M.lse p = false) (h1 : 1 ≤ (rdP P).1) (h2 : (rdP P).1 < 2147483647) (body : List UInt8) (hb : body.length ≤ 244) (keep : Nat) (tear : Int) (Q : List M.Pl)
    (hQ : Q = M.crash (M.wr P (((rdP P).1 + 1) % 2 * 4) (ofL (Sp.pk body ((rdP P).1 + 1))) 4) keep tear) :
    1 ≤ (rdP Q).1 ∧ ((rdP Q).1 = (rdP P).1 → (rdP Q).2 = (rdP P).2) ∧
    (¬ (rdP Q).1 = (rdP P).1 → Sp.ok (((rdP P).1 + 1) % 2) (plc Q (((rdP P).1 + 1) % 2)) = true ∧ rdP Q = (Sp.nm (plc Q (((rdP P).1 + 1) % 2)) 0, Sp.bd (plc Q (((rdP P).1 + 1) % 2))) ∧
      (plc Q (((rdP P).1 + 1) % 2) = Sp.pk body ((rdP P).1 + 1) → rdP Q = ((rdP P).1 + 1, body))) := by
  obtain ⟨g, hg⟩ : ∃ g, (rdP P).1 = g := ⟨_, rfl⟩
  have hs : (ofL (Sp.pk body (g + 1))).size = 256 := by rw [ofL_size, Sp.pk_len _ _ hb]
  have hw := rdP_own hl h h1
  rw [hg] at h1 h2 hQ hw ⊢
  obtain ⟨k, hk⟩ : ∃ k, (g + 1) % 2 = k := ⟨_, rfl⟩
  obtain ⟨j, hj⟩ : ∃ j, g % 2 = j := ⟨_, rfl⟩
  have ho := Sp.ok_pk body (g + 1) hb (by omega) (by omega)
  rw [hk] at hQ ho ⊢
  rw [hj] at hw
  have hok := wr_ok h (k * 4) (ofL (Sp.pk body (g + 1))) hs (by omega)
  obtain ⟨q1, q2, q3⟩ := M.crash_spec hok keep tear
  have hj' := cut_other hl hn k j (by omega) (by omega) (by omega) (ofL (Sp.pk body (g + 1))) keep tear
  rw [← hQ] at q1 q2 hj'
  have hQl : Q.length = 8 := by rw [q1, M.wr_len, hl]
  have hmj := rdP_max hQl q2 j (by omega)
  rw [hj', ← hw, hg] at hmj
  have h1' : 1 ≤ (rdP Q).1 := by omega
  have hown := rdP_own hQl q2 h1'
  refine ⟨h1', fun e => ?_, fun e => ?_⟩
  · rw [e, hj, hj', ← hw] at hown
    rw [hown]
  · have hkk : (rdP Q).1 % 2 = k := by
      rcases (show (rdP Q).1 % 2 = k ∨ (rdP Q).1 % 2 = j by omega) with h' | h'
      · exact h'
      · rw [h', hj', ← hw] at hown
        rw [hown] at e
        exact absurd hg e
    rw [hkk] at hown
    have hok2 : Sp.ok k (plc Q k) = true := by
      rcases Sp.sa_par k (plc Q k) with ⟨h3, _⟩ | ⟨_, _, _, _, h3⟩
      · rw [← hown] at h3; omega
      · exact h3
    refine ⟨hok2, by rw [hown, Sp.sa_yes hok2], fun e2 => ?_⟩
    rw [hown, e2, ho.2]
end Go.Proofs.Ythffglacokfkgaa
