/-
  Devices with two places, as plain lists: what is read behind a Write, and behind one that is cut.
  What stands on a device that holds records, as plain lists: one more of them, a crash, another area.
-/
import Derived.Test.YtlnedgjikkhplaaGreatGL27
import Derived.Test.YtlnedgjikkhplaaGreatGL21
section
namespace Go.Proofs.YtlnedgjikkhplaaGreat.Ns
open Go.RowKit
open M (ofL ofL_size ofL_of)
set_option linter.unusedVariables false

def fl (L : List ByteArray) : List UInt8 := L.flatMap fun s => s.data.toList
/-- The bytes of a place. -/
def plc (P : List M.Pl) (k : Nat) : List UInt8 := fl (((P.map M.last).drop (k * 4)).take 4)
theorem last_64 {P : List M.Pl} (h : M.Ok P) : ∀ s ∈ P.map M.last, s.size = 64 := fun s hs => by
  obtain ⟨p, hp, rfl⟩ := List.mem_map.1 hs
  exact h.last p hp
theorem both_parts {P : List M.Pl} (hl : P.length = 8) (h : M.Ok P) : (both P).take 256 = plc P 0 ∧ (both P).drop 256 = plc P 1 := by
  have h64 := last_64 h
  have e : both P = fl ((P.map M.last).take 4) ++ fl ((P.map M.last).drop 4) := by
    unfold both M.cat fl
    rw [ofL_data, ← List.flatMap_append, List.take_append_drop]
  have el : (fl ((P.map M.last).take 4)).length = 256 := by
    unfold fl
    rw [M.flat_len _ (fun s hs => h64 s (List.mem_of_mem_take hs)), List.length_take, List.length_map, hl]
    rfl
  rw [e, List.take_left' el, List.drop_left' el]
  refine ⟨rfl, ?_⟩
  show fl ((P.map M.last).drop 4) = fl (((P.map M.last).drop 4).take 4)
  rw [List.take_of_length_le (l := (P.map M.last).drop 4) (by rw [List.length_drop, List.length_map, hl]; omega)]
theorem plc_len {P : List M.Pl} (hl : P.length = 8) (h : M.Ok P) (k : Nat) (hk : k < 2) : (plc P k).length = 256 := by
  unfold plc fl
  rw [M.flat_len _ (fun s hs => last_64 h s (List.mem_of_mem_drop (List.mem_of_mem_take hs))), List.length_take, List.length_drop, List.length_map, hl]
  omega
theorem rdP_eq {P : List M.Pl} (hl : P.length = 8) (h : M.Ok P) : rdP P = bif decide ((Sp.sa 0 (plc P 0)).1 < (Sp.sa 1 (plc P 1)).1) then Sp.sa 1 (plc P 1) else Sp.sa 0 (plc P 0) := by
  unfold rdP Sp.rd
  rw [(both_parts hl h).1, (both_parts hl h).2]
/-- The greater of both: it is the one of its place. -/
theorem rdP_max {P : List M.Pl} (hl : P.length = 8) (h : M.Ok P) (k : Nat) (hk : k < 2) : (Sp.sa k (plc P k)).1 ≤ (rdP P).1 := by
  rw [rdP_eq hl h]
  cases hd : decide ((Sp.sa 0 (plc P 0)).1 < (Sp.sa 1 (plc P 1)).1)
  · simp only [decide_eq_false_iff_not] at hd
    rcases (show k = 0 ∨ k = 1 by omega) with rfl | rfl
    · exact Nat.le_refl _
    · show _ ≤ (Sp.sa 0 (plc P 0)).1; omega
  · simp only [decide_eq_true_iff] at hd
    rcases (show k = 0 ∨ k = 1 by omega) with rfl | rfl
    · show _ ≤ (Sp.sa 1 (plc P 1)).1; omega
    · exact Nat.le_refl _
theorem rdP_own {P : List M.Pl} (hl : P.length = 8) (h : M.Ok P) (h1 : 1 ≤ (rdP P).1) : rdP P = Sp.sa ((rdP P).1 % 2) (plc P ((rdP P).1 % 2)) := by
  have key : ∀ k, k < 2 → rdP P = Sp.sa k (plc P k) → rdP P = Sp.sa ((rdP P).1 % 2) (plc P ((rdP P).1 % 2)) := by
    intro k hk e
    rcases Sp.sa_par k (plc P k) with ⟨h2, _⟩ | ⟨_, h2, _⟩
    · rw [e] at h1; omega
    · rw [e, h2]
  have e := rdP_eq hl h
  cases hd : decide ((Sp.sa 0 (plc P 0)).1 < (Sp.sa 1 (plc P 1)).1)
  · rw [hd] at e; exact key 0 (by omega) e
  · rw [hd] at e; exact key 1 (by omega) e
/-- One place tells more than the other. -/
theorem rdP_of {P : List M.Pl} (hl : P.length = 8) (h : M.Ok P) (k j : Nat) (hk : k < 2) (hj : j < 2) (hkj : k ≠ j) (hlt : (Sp.sa j (plc P j)).1 < (Sp.sa k (plc P k)).1) : rdP P = Sp.sa k (plc P k) := by
  rw [rdP_eq hl h]
  rcases (show k = 0 ∧ j = 1 ∨ k = 1 ∧ j = 0 by omega) with ⟨rfl, rfl⟩ | ⟨rfl, rfl⟩
  · rw [decide_eq_false (by omega)]; rfl
  · rw [decide_eq_true hlt]; rfl
/-! four sectors written -/
theorem four_parts (l : List UInt8) (h : l.length = 256) : l.take 64 ++ ((l.drop 64).take 64 ++ ((l.drop 128).take 64 ++ (l.drop 192).take 64)) = l := by
  have e3 : (l.drop 192).take 64 = l.drop 192 := List.take_of_length_le (by rw [List.length_drop]; omega)
  have e2 : (l.drop 128).take 64 ++ l.drop 192 = l.drop 128 := by
    have := List.take_append_drop 64 (l.drop 128)
    rwa [List.drop_drop] at this
  have e1 : (l.drop 64).take 64 ++ l.drop 128 = l.drop 64 := by
    have := List.take_append_drop 64 (l.drop 64)
    rwa [List.drop_drop] at this
  rw [e3, e2, e1, List.take_append_drop]
theorem pc_list (s : ByteArray) (k : Nat) (h : k * 64 + 64 ≤ s.size) : (M.pc s k).data.toList = (s.data.toList.drop (k * 64)).take 64 := by
  unfold M.pc
  rw [extract_list _ _ _ h, Nat.add_sub_cancel_left]
theorem fl_pc (s : ByteArray) (h : s.size = 256) : fl [M.pc s 0, M.pc s 1, M.pc s 2, M.pc s 3] = s.data.toList := by
  unfold fl
  simp only [List.flatMap_cons, List.flatMap_nil, List.append_nil]
  rw [pc_list s 0 (by omega), pc_list s 1 (by omega), pc_list s 2 (by omega), pc_list s 3 (by omega)]
  exact four_parts s.data.toList (by rw [len_data, h])
theorem wr_last (P : List M.Pl) (at' : Nat) (s : ByteArray) (h : s.size = 256) : (M.wr P at' s 4).map M.last = ((((P.map M.last).set at' (M.pc s 0)).set (at' + 1) (M.pc s 1)).set (at' + 2) (M.pc s 2)).set (at' + 3) (M.pc s 3) := by
  simp only [M.wr]
  rw [M.st_last _ _ _ (M.pc_size s 3 (by omega)), M.st_last _ _ _ (M.pc_size s 2 (by omega)), M.st_last _ _ _ (M.pc_size s 1 (by omega)), M.st_last _ _ _ (M.pc_size s 0 (by omega))]
  rfl
theorem wr_get (P : List M.Pl) (at' : Nat) (s : ByteArray) (i : Nat) (h : i < at' ∨ at' + 4 ≤ i) : (M.wr P at' s 4)[i]? = P[i]? := by
  simp only [M.wr, M.st]
  rw [List.getElem?_set_ne (by omega), List.getElem?_set_ne (by omega), List.getElem?_set_ne (by omega), List.getElem?_set_ne (by omega)]
theorem wr_ok {P : List M.Pl} (h : M.Ok P) (at' : Nat) (s : ByteArray) (hs : s.size = 256) (ha : at' + 4 ≤ P.length) : M.Ok (M.wr P at' s 4) := by
  simp only [M.wr]
  have h0 := M.st_ok h (at' + 0) (M.pc s 0) (by omega) (M.pc_size s 0 (by omega))
  have h1 := M.st_ok h0 (at' + 1) (M.pc s 1) (by rw [M.st_len]; omega) (M.pc_size s 1 (by omega))
  have h2 := M.st_ok h1 (at' + 2) (M.pc s 2) (by rw [M.st_len, M.st_len]; omega) (M.pc_size s 2 (by omega))
  exact M.st_ok h2 (at' + 3) (M.pc s 3) (by rw [M.st_len, M.st_len, M.st_len]; omega) (M.pc_size s 3 (by omega))
theorem list8 {α : Type} (L : List α) (h : L.length = 8) : ∃ a0 a1 a2 a3 a4 a5 a6 a7, L = [a0, a1, a2, a3, a4, a5, a6, a7] := by
  match L, h with
  | [a0, a1, a2, a3, a4, a5, a6, a7], _ => exact ⟨a0, a1, a2, a3, a4, a5, a6, a7, rfl⟩
theorem plc_wr {P : List M.Pl} (hl : P.length = 8) (k j : Nat) (hk : k < 2) (hj : j < 2) (hkj : k ≠ j) (s : ByteArray) (h : s.size = 256) : plc (M.wr P (k * 4) s 4) k = s.data.toList ∧ plc (M.wr P (k * 4) s 4) j = plc P j := by
  unfold plc
  rw [wr_last P (k * 4) s h]
  obtain ⟨a0, a1, a2, a3, a4, a5, a6, a7, e⟩ := list8 (P.map M.last) (by rw [List.length_map, hl])
  rw [e]
  rcases (show k = 0 ∧ j = 1 ∨ k = 1 ∧ j = 0 by omega) with ⟨rfl, rfl⟩ | ⟨rfl, rfl⟩
  · exact ⟨(congrArg fl (by simp)).trans (fl_pc s h), congrArg fl (by simp)⟩
  · exact ⟨(congrArg fl (by simp)).trans (fl_pc s h), congrArg fl (by simp)⟩
theorem plc_flush (P : List M.Pl) (k : Nat) : plc (M.flush P) k = plc P k := by
  unfold plc
  rw [M.flush_last]
/-- Behind a Write its state is read. -/
theorem rd_nxt {P : List M.Pl} (hl : P.length = 8) (h : M.Ok P) (body : List UInt8) (hb : body.length ≤ 244) (hg : (rdP P).1 < 2147483647) : rdP (nxt P body) = ((rdP P).1 + 1, body) := by
  obtain ⟨g, hg'⟩ : ∃ g, (rdP P).1 = g := ⟨_, rfl⟩
  have hs : (ofL (Sp.pk body (g + 1))).size = 256 := by rw [ofL_size, Sp.pk_len _ _ hb]
  obtain ⟨k, hk⟩ : ∃ k, (g + 1) % 2 = k := ⟨_, rfl⟩
  obtain ⟨j, hj⟩ : ∃ j, g % 2 = j := ⟨_, rfl⟩
  have hm := rdP_max hl h j (by omega)
  unfold nxt
  rw [hg'] at hg hm ⊢
  have ho := Sp.ok_pk body (g + 1) hb (by omega) (by omega)
  rw [hk] at ho ⊢
  have hq := plc_wr hl k j (by omega) (by omega) (by omega) (ofL (Sp.pk body (g + 1))) hs
  rw [ofL_data] at hq
  have h1 : M.Ok (M.flush (M.wr P (k * 4) (ofL (Sp.pk body (g + 1))) 4)) := M.flush_ok (wr_ok h _ _ hs (by omega))
  have h2 : (M.flush (M.wr P (k * 4) (ofL (Sp.pk body (g + 1))) 4)).length = 8 := by rw [M.flush_len, M.wr_len, hl]
  rw [rdP_of h2 h1 k j (by omega) (by omega) (by omega)]
  · rw [plc_flush, hq.1, ho.2]
  · rw [plc_flush, plc_flush, hq.1, hq.2, ho.2]
    show _ < g + 1
    omega
theorem nxt_lse (P : List M.Pl) (body : List UInt8) : ∀ p ∈ nxt P body, M.lse p = false := M.flush_lse _
theorem crash_same {P : List M.Pl} (h : ∀ p ∈ P, M.lse p = false) (keep : Nat) (tear : Int) : M.crash P keep tear = P := by
  unfold M.crash
  rw [M.lo_none h]
  rfl
theorem rd_new : rdP (new 8) = (0, []) := by
  have hl : (new 8).length = 8 := new_len 8
  have h : plc (new 8) 0 = List.replicate 256 0 ∧ plc (new 8) 1 = List.replicate 256 0 := by
    constructor <;> decide +kernel
  rw [rdP_eq hl (new_ok 8), h.1, h.2, Sp.sa_zero 0 _ (by decide +kernel), Sp.sa_zero 1 _ (by decide +kernel)]
  rfl
/-! a Write that is cut -/
theorem plc_same {P Q : List M.Pl} (j : Nat) (h : ∀ i, j * 4 ≤ i → i < j * 4 + 4 → Q[i]? = P[i]?) : plc Q j = plc P j := by
  unfold plc
  congr 1
  apply List.ext_getElem?
  intro i
  rw [List.getElem?_take, List.getElem?_take]
  split
  · rw [List.getElem?_drop, List.getElem?_drop, List.getElem?_map, List.getElem?_map, h _ (by omega) (by omega)]
  · rfl
theorem cut_other {P : List M.Pl} (hl : P.length = 8) (hn : ∀ p ∈ P, M.lse p = false) (k j : Nat) (hk : k < 2) (hj : j < 2) (hkj : k ≠ j) (s : ByteArray) (keep : Nat) (tear : Int) :
    plc (M.crash (M.wr P (k * 4) s 4) keep tear) j = plc P j := by
  apply plc_same
  intro i h1 h2
  have e := wr_get P (k * 4) s i (by omega)
  unfold M.crash
  rw [M.crs_other, e]
  intro hm
  obtain ⟨h3, h4⟩ := M.mem_lo.1 hm
  have h5 : i < P.length := by rw [M.wr_len] at h3; exact h3
  rw [List.getElem?_eq_getElem h3, List.getElem?_eq_getElem h5, Option.some.injEq] at e
  rw [e, hn _ (List.getElem_mem h5)] at h4
  cases h4
/-- Behind a Write that is cut. -/
theorem rd_cut {P : List M.Pl} (hl : P.length = 8) (h : M.Ok P) (hn : ∀ p ∈ P, M.lse p = false) (h1 : 1 ≤ (rdP P).1) (h2 : (rdP P).1 < 2147483647) (body : List UInt8) (hb : body.length ≤ 244) (keep : Nat) (tear : Int) (Q : List M.Pl)
    (hQ : Q = M.crash (M.wr P (((rdP P).1 + 1) % 2 * 4) (ofL (Sp.pk body ((rdP P).1 + 1))) 4) keep tear) :
    1 ≤ (rdP Q).1 ∧ ((rdP Q).1 = (rdP P).1 → (rdP Q).2 = (rdP P).2) ∧
    (¬ (rdP Q).1 = (rdP P).1 → Sp.ok (((rdP P).1 + 1) % 2) (plc Q (((rdP P).1 + 1) % 2)) = true ∧ rdP Q = (Sp.nm (plc Q (((rdP P).1 + 1) % 2)) 0, Sp.bd (plc Q (((rdP P).1 + 1) % 2))) ∧
      (plc Q (((rdP P).1 + 1) % 2) = Sp.pk body ((rdP P).1 + 1) → rdP Q = ((rdP P).1 + 1, body))) := by
  obtain ⟨g, hg⟩ : ∃ g, (rdP P).1 = g := ⟨_, rfl⟩
  have hs : (ofL (Sp.pk body (g + 1))).size = 256 := by rw [ofL_size, Sp.pk_len _ _ hb]
  have hw := rdP_own hl h h1
  rw [hg] at h1 h2 hQ hw ⊢
  obtain ⟨k, hk⟩ : ∃ k, (g + 1) % 2 = k := ⟨_, rfl⟩
  obtain ⟨j, hj⟩ : ∃ j, g % 2 = j := ⟨_, rfl⟩
  have ho := Sp.ok_pk body (g + 1) hb (by omega) (by omega)
  rw [hk] at hQ ho ⊢
  rw [hj] at hw
  have hok := wr_ok h (k * 4) (ofL (Sp.pk body (g + 1))) hs (by omega)
  obtain ⟨q1, q2, q3⟩ := M.crash_spec hok keep tear
  have hj' := cut_other hl hn k j (by omega) (by omega) (by omega) (ofL (Sp.pk body (g + 1))) keep tear
  rw [← hQ] at q1 q2 hj'
  have hQl : Q.length = 8 := by rw [q1, M.wr_len, hl]
  have hmj := rdP_max hQl q2 j (by omega)
  rw [hj', ← hw, hg] at hmj
  have h1' : 1 ≤ (rdP Q).1 := by omega
  have hown := rdP_own hQl q2 h1'
  refine ⟨h1', fun e => ?_, fun e => ?_⟩
  · rw [e, hj, hj', ← hw] at hown
    rw [hown]
  · have hkk : (rdP Q).1 % 2 = k := by
      rcases (show (rdP Q).1 % 2 = k ∨ (rdP Q).1 % 2 = j by omega) with h' | h'
      · exact h'
      · rw [h', hj', ← hw] at hown
        rw [hown] at e
        exact absurd hg e
    rw [hkk] at hown
    have hok2 : Sp.ok k (plc Q k) = true := by
      rcases Sp.sa_par k (plc Q k) with ⟨h3, _⟩ | ⟨_, _, _, _, h3⟩
      · rw [← hown] at h3; omega
      · exact h3
    refine ⟨hok2, by rw [hown, Sp.sa_yes hok2], fun e2 => ?_⟩
    rw [hown, e2, ho.2]
end Go.Proofs.YtlnedgjikkhplaaGreat.Ns
end
section
namespace Go.Proofs.YtlnedgjikkhplaaGreat.Du
set_option linter.unusedVariables false
set_option linter.unusedSimpArgs false
open Na.M (E V S S0)
open Ns (fl)
open Ns.M (ofL Pl last lse flush wr st pc crash)

/-! texts of sectors -/
theorem fl_app (L Q : List ByteArray) : fl (L ++ Q) = fl L ++ fl Q := by simp [fl]
theorem fl_len {L : List ByteArray} (h : ∀ s ∈ L, s.size = 64) : (fl L).length = L.length * 64 := Ns.M.flat_len L h
theorem fl_take {L : List ByteArray} (h : ∀ s ∈ L, s.size = 64) (j : Nat) : fl (L.take j) = (fl L).take (j * 64) := by
  rcases Nat.lt_or_ge L.length j with hj | hj
  · rw [List.take_of_length_le (by omega), List.take_of_length_le (by rw [fl_len h]; omega)]
  · have e : fl L = fl (L.take j) ++ fl (L.drop j) := by rw [← fl_app, List.take_append_drop]
    rw [e, List.take_left' (by rw [fl_len (fun s hs => h s (List.mem_of_mem_take hs)), List.length_take, Nat.min_eq_left hj])]
theorem fl_drop {L : List ByteArray} (h : ∀ s ∈ L, s.size = 64) (j : Nat) : fl (L.drop j) = (fl L).drop (j * 64) := by
  rcases Nat.lt_or_ge L.length j with hj | hj
  · rw [List.drop_of_length_le (by omega), List.drop_of_length_le (by rw [fl_len h]; omega)]
    rfl
  · have e : fl L = fl (L.take j) ++ fl (L.drop j) := by rw [← fl_app, List.take_append_drop]
    rw [e, List.drop_left' (by rw [fl_len (fun s hs => h s (List.mem_of_mem_take hs)), List.length_take, Nat.min_eq_left hj])]
/-- The first k pieces of a text. -/
def pcs (s : ByteArray) : Nat → List ByteArray
  | 0 => []
  | k + 1 => pcs s k ++ [pc s k]
theorem pcs_len (s : ByteArray) : ∀ k, (pcs s k).length = k
  | 0 => rfl
  | k + 1 => by rw [pcs, List.length_append, pcs_len s k]; rfl
theorem pcs_64 (s : ByteArray) : ∀ k, k * 64 ≤ s.size → ∀ p ∈ pcs s k, p.size = 64
  | 0, _, p, hp => by simp [pcs] at hp
  | k + 1, h, p, hp => by
    rw [pcs, List.mem_append] at hp
    rcases hp with hp | hp
    · exact pcs_64 s k (by omega) p hp
    · rw [List.mem_singleton.1 hp]; exact Ns.M.pc_size s k (by omega)
theorem fl_pcs (s : ByteArray) : ∀ k, k * 64 ≤ s.size → fl (pcs s k) = s.data.toList.take (k * 64)
  | 0, _ => by simp [pcs, fl]
  | k + 1, h => by
    have hp := Ns.pc_list s k (by omega)
    rw [pcs, fl_app, fl_pcs s k (by omega)]
    have : fl [pc s k] = (s.data.toList.drop (k * 64)).take 64 := by
      rw [← hp]; simp [fl]
    rw [this, show (k + 1) * 64 = k * 64 + 64 by omega, List.take_add]
theorem set_mid {α : Type} (A B : List α) (x y : α) (D : List α) : (A ++ (B ++ (y :: D))).set (A.length + B.length) x = A ++ ((B ++ [x]) ++ D) := by
  rw [← List.append_assoc, List.set_append_right _ _ (by simp), List.length_append, Nat.sub_self, List.set_cons_zero]
  simp
theorem wr_lastL (P : List Pl) (a : Nat) (s : ByteArray) : ∀ k, k * 64 ≤ s.size → a + k ≤ P.length → (wr P a s k).map last = (P.map last).take a ++ (pcs s k ++ (P.map last).drop (a + k))
  | 0, _, h => by
    show P.map last = _
    simp [pcs]
  | k + 1, hs, h => by
    show (st (wr P a s k) (a + k) (pc s k)).map last = _
    rw [Ns.M.st_last _ _ _ (Ns.M.pc_size s k (by omega)), wr_lastL P a s k (by omega) (by omega)]
    have hl : a + k < (P.map last).length := by rw [List.length_map]; omega
    rw [List.drop_eq_getElem_cons hl]
    have hta : ((P.map last).take a).length = a := by rw [List.length_take, List.length_map]; omega
    have := set_mid ((P.map last).take a) (pcs s k) (pc s k) (P.map last)[a + k] ((P.map last).drop (a + k + 1))
    rw [hta, pcs_len] at this
    rw [this]
    rfl
theorem wr_okL {P : List Pl} (h : Ns.M.Ok P) (a : Nat) (s : ByteArray) : ∀ k, k * 64 ≤ s.size → a + k ≤ P.length → Ns.M.Ok (wr P a s k)
  | 0, _, _ => h
  | k + 1, hs, hl => Ns.M.st_ok (wr_okL h a s k (by omega) (by omega)) (a + k) (pc s k) (by rw [Ns.M.wr_len]; omega) (Ns.M.pc_size s k (by omega))
theorem wr_getL (P : List Pl) (a : Nat) (s : ByteArray) (i : Nat) : ∀ k, (i < a ∨ a + k ≤ i) → (wr P a s k)[i]? = P[i]?
  | 0, _ => rfl
  | k + 1, h => by
    show ((wr P a s k).set (a + k) _)[i]? = _
    rw [List.getElem?_set_ne (by omega)]
    exact wr_getL P a s i k (by omega)
theorem wr_take (P : List Pl) (a m : Nat) (s : ByteArray) : ∀ k, a + k ≤ m → (wr P a s k).take m = wr (P.take m) a s k
  | 0, _ => rfl
  | k + 1, h => by
    have ih := wr_take P a m s k (by omega)
    show ((wr P a s k).set (a + k) (((wr P a s k)[a + k]?.getD (Ns.M.E, Ns.M.E)).1, pc s k)).take m = (wr (P.take m) a s k).set (a + k) (((wr (P.take m) a s k)[a + k]?.getD (Ns.M.E, Ns.M.E)).1, pc s k)
    rw [List.take_set, ih, ← ih, List.getElem?_take, if_pos (by omega)]
theorem wr_take_out (P : List Pl) (a m : Nat) (s : ByteArray) (k : Nat) (h : m ≤ a) : (wr P a s k).take m = P.take m := by
  apply List.ext_getElem?
  intro i
  rw [List.getElem?_take, List.getElem?_take]
  split
  · exact wr_getL P a s i k (by omega)
  · rfl
theorem flush_take (P : List Pl) (m : Nat) : (flush P).take m = flush (P.take m) := by
  unfold flush
  rw [List.map_take]
/-! the areas -/
/-- An area's text. -/
def arT (n : Nat) (P : List Pl) (k : Nat) : List UInt8 := fl (((P.map last).drop (8 + k * hf n)).take (hf n))
theorem arT_flush (n : Nat) (P : List Pl) (k : Nat) : arT n (flush P) k = arT n P k := by
  unfold arT
  rw [Ns.M.flush_last]
theorem hf_le (n : Nat) (h : 8 ≤ n) : 8 + 2 * hf n ≤ n := by unfold hf; omega
theorem mul_le1 {k h : Nat} (hk : k ≤ 1) : k * h + h ≤ 2 * h := by
  rcases (show k = 0 ∨ k = 1 by omega) with rfl | rfl <;> omega
/-- Sectors of an area are written. -/
theorem arT_wr {n : Nat} {P : List Pl} (hl : P.length = n) (hok : Ns.M.Ok P) (h8 : 8 ≤ n) (k u z : Nat) (hk : k ≤ 1) (s : ByteArray) (hs : s.size = z * 64) (hu : u + z ≤ hf n) :
    arT n (wr P (8 + k * hf n + u) s z) k = (arT n P k).take (u * 64) ++ (s.data.toList ++ (arT n P k).drop ((u + z) * 64)) := by
  have h2 := hf_le n h8
  have h3 := mul_le1 (h := hf n) hk
  have h64 : ∀ q ∈ P.map last, q.size = 64 := Ns.last_64 hok
  unfold arT
  rw [wr_lastL P _ s z (by omega) (by omega)]
  have hAb : 8 + k * hf n + hf n ≤ n := by omega
  obtain ⟨A, hA⟩ : ∃ A, 8 + k * hf n = A := ⟨_, rfl⟩
  rw [hA] at hAb ⊢
  clear hA
  have e1 : ((P.map last).take (A + u) ++ (pcs s z ++ (P.map last).drop (A + u + z))).drop A = ((P.map last).drop A).take u ++ (pcs s z ++ (P.map last).drop (A + u + z)) := by
    rw [List.drop_append_of_le_length (by rw [List.length_take, List.length_map]; omega), List.drop_take, Nat.add_sub_cancel_left]
  have e2 : (((P.map last).drop A).take u).length = u := by rw [List.length_take, List.length_drop, List.length_map]; omega
  have e3 : (((P.map last).drop A).take u ++ (pcs s z ++ (P.map last).drop (A + u + z))).take (hf n) = ((P.map last).drop A).take u ++ (pcs s z ++ ((P.map last).drop (A + u + z)).take (hf n - u - z)) := by
    rw [List.take_append, e2, List.take_of_length_le (l := ((P.map last).drop A).take u) (by omega), List.take_append, pcs_len, List.take_of_length_le (l := pcs s z) (by rw [pcs_len]; omega)]
  rw [e1, e3, fl_app, fl_app, fl_pcs s z (by omega)]
  have h64a : ∀ q ∈ ((P.map last).drop A).take (hf n), q.size = 64 := fun q hq => h64 q (List.mem_of_mem_drop (List.mem_of_mem_take hq))
  have e4 : ((P.map last).drop A).take u = (((P.map last).drop A).take (hf n)).take u := by rw [List.take_take, Nat.min_eq_left (by omega)]
  have e5 : ((P.map last).drop (A + u + z)).take (hf n - u - z) = (((P.map last).drop A).take (hf n)).drop (u + z) := by
    rw [List.drop_take, List.drop_drop, show hf n - (u + z) = hf n - u - z by omega, show A + (u + z) = A + u + z by omega]
  rw [e4, e5, fl_take h64a, fl_drop h64a, List.take_of_length_le (l := s.data.toList) (by show s.size ≤ _; omega)]
/-- Other sectors are written. -/
theorem arT_same {n : Nat} {P Q : List Pl} (k : Nat) (h : ∀ i, 8 + k * hf n ≤ i → i < 8 + k * hf n + hf n → Q[i]? = P[i]?) : arT n Q k = arT n P k := by
  unfold arT
  congr 1
  apply List.ext_getElem?
  intro i
  rw [List.getElem?_take, List.getElem?_take]
  split
  · rw [List.getElem?_drop, List.getElem?_drop, List.getElem?_map, List.getElem?_map, h _ (by omega) (by omega)]
  · rfl
theorem take_same {P Q : List Pl} (m : Nat) (h : ∀ i, i < m → Q[i]? = P[i]?) : Q.take m = P.take m := by
  apply List.ext_getElem?
  intro i
  rw [List.getElem?_take, List.getElem?_take]
  split
  · exact h i (by omega)
  · rfl
/-- A device that holds these records. -/
structure Gd (n : Nat) (P : List Pl) (x : X) (rs : List R) : Prop where
  n10 : 10 ≤ n
  nle : n ≤ 4096
  len : P.length = n
  ok : Ns.M.Ok P
  ar : x.ar ≤ 1
  st : Ns.rdP (P.take 8) = (x.ep, bif decide (x.ep = 0) then [] else [UInt8.ofNat x.ar])
  a0 : x.ep = 0 → x.ar = 0
  wf : ∀ r ∈ rs, Wf r
  cn : x.n = rs.length
  us : x.us = secs x.ep 0 rs
  le : x.us ≤ hf n
  mk' : mk rs = x.a
  tx : arT n P x.ar = recs x.ep 0 rs ++ List.replicate ((hf n - x.us) * 64) 0
  nl : ∀ i p, (i < 8 ∨ (8 + x.ar * hf n ≤ i ∧ i < 8 + x.ar * hf n + hf n)) → P[i]? = some p → lse p = false
  cl : x.cut = false → ∀ p ∈ P, lse p = false
section
variable {n : Nat} {P : List Pl} {x : X} {rs : List R}
theorem Gd.ep (h : Gd n P x rs) : x.ep ≤ 2147483647 := by
  have hp := Ns.rd_par (Ns.both (P.take 8))
  have e : Ns.Sp.rd (Ns.both (P.take 8)) = (x.ep, bif decide (x.ep = 0) then [] else [UInt8.ofNat x.ar]) := h.st
  rw [e] at hp
  rcases hp with ⟨h1, _⟩ | ⟨_, h1, _⟩ <;> simp only at h1 <;> omega
theorem Gd.nn (h : Gd n P x rs) : x.n ≤ 2044 := by
  have h1 := secs_ge x.ep rs 0
  have h2 := h.us
  have h3 := h.le
  have h4 := h.cn
  have h5 := h.nle
  unfold hf at h3
  omega
theorem Gd.aok (h : Gd n P x rs) : Na.M.Ok x.a ∧ Vd x.a := by
  rw [← h.mk']
  exact ⟨mk_ok rs, mk_vd rs⟩
/-- A crash that tears nothing. -/
theorem Gd.crash (h : Gd n P x rs) (keep : Nat) : Gd n (Ns.M.crash P keep 0) { x with cut := false } rs := by
  obtain ⟨c1, c2, c3⟩ := Ns.M.crash_spec h.ok keep 0
  have hs : ∀ i, (i < 8 ∨ (8 + x.ar * hf n ≤ i ∧ i < 8 + x.ar * hf n + hf n)) → (Ns.M.crash P keep 0)[i]? = P[i]? := by
    intro i hi
    unfold Ns.M.crash
    refine Ns.M.crs_other _ _ _ _ _ _ _ fun hm => ?_
    obtain ⟨h3, h4⟩ := Ns.M.mem_lo.1 hm
    rw [h.nl i _ hi (List.getElem?_eq_getElem h3)] at h4
    cases h4
  refine ⟨h.n10, h.nle, by rw [c1, h.len], c2, h.ar, ?_, h.a0, h.wf, h.cn, h.us, h.le, h.mk', ?_, fun i p hi hp => c3 p (List.mem_of_getElem? hp), fun _ => c3⟩
  · rw [take_same 8 fun i hi => hs i (.inl hi)]
    exact h.st
  · rw [arT_same x.ar fun i h1 h2 => hs i (.inr ⟨h1, h2⟩)]
    exact h.tx
/-- One more record, flushed. -/
def addP (n : Nat) (P : List Pl) (x : X) (r : R) : List Pl := flush (wr P (8 + x.ar * hf n + x.us) (ofL (Du.rec x.ep x.n r)) (sec x.ep x.n r))
def addX (x : X) (r : R) : X := { x with n := x.n + 1, us := x.us + sec x.ep x.n r, a := redo x.a r }
theorem Gd.add (h : Gd n P x rs) (r : R) (hr : Wf r) (hf' : sec x.ep x.n r ≤ hf n - x.us) : Gd n (addP n P x r) (addX x r) (rs ++ [r]) := by
  have hle := h.le
  have hn := h.n10
  have hz : (ofL (Du.rec x.ep x.n r)).size = sec x.ep x.n r * 64 := by rw [Ns.M.ofL_size, rec_len]
  have h2 := hf_le n (by omega)
  have h3 := mul_le1 (h := hf n) h.ar
  have hl := h.len
  have hw := arT_wr h.len h.ok (by omega) x.ar x.us (sec x.ep x.n r) h.ar (ofL (Du.rec x.ep x.n r)) hz (by omega)
  refine ⟨h.n10, h.nle, by unfold addP; rw [Ns.M.flush_len, Ns.M.wr_len, h.len], Ns.M.flush_ok (wr_okL h.ok _ _ _ (by omega) (by omega)), h.ar, ?_, h.a0, ?_, ?_, ?_, ?_, ?_, ?_, ?_, ?_⟩
  · unfold addP
    rw [flush_take, wr_take_out _ _ _ _ _ (by omega), ← flush_take]
    have hfl : (flush P).take 8 = flush (P.take 8) := flush_take P 8
    have : Ns.rdP ((flush P).take 8) = Ns.rdP (P.take 8) := by
      unfold Ns.rdP Ns.both
      rw [flush_take, Ns.M.flush_last]
    rw [this]
    exact h.st
  · intro q hq
    rcases List.mem_append.1 hq with hq | hq
    · exact h.wf q hq
    · rw [List.mem_singleton.1 hq]; exact hr
  · show x.n + 1 = _
    rw [List.length_append, h.cn]
    rfl
  · show x.us + sec x.ep x.n r = secs x.ep 0 (rs ++ [r])
    rw [secs_app, ← h.us, Nat.zero_add, ← h.cn]
    rfl
  · show x.us + sec x.ep x.n r ≤ hf n
    omega
  · show Du.mk (rs ++ [r]) = redo x.a r
    rw [mk_snoc, h.mk']
  · show arT n (addP n P x r) x.ar = recs x.ep 0 (rs ++ [r]) ++ List.replicate ((hf n - (x.us + sec x.ep x.n r)) * 64) 0
    unfold addP
    have hrl : (recs x.ep 0 rs).length = x.us * 64 := by rw [recs_len, h.us]
    rw [arT_flush, hw, h.tx, List.take_left' hrl, Ns.ofL_data, recs_app, Nat.zero_add, ← h.cn, List.drop_append, List.drop_of_length_le (by omega), List.nil_append, List.drop_replicate, hrl]
    rw [show (hf n - x.us) * 64 - ((x.us + sec x.ep x.n r) * 64 - x.us * 64) = (hf n - (x.us + sec x.ep x.n r)) * 64 by omega]
    rw [recs, recs, List.append_nil, List.append_assoc]
  · intro i p _ hp
    exact Ns.M.flush_lse _ p (List.mem_of_getElem? hp)
  · intro _ p hp
    exact Ns.M.flush_lse _ p hp
end
end Go.Proofs.YtlnedgjikkhplaaGreat.Du
end
