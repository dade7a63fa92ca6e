/-
  Stripes as plain data: what each deed does, and what it keeps.
-/
import Derived.Test.YtgcfpihfoekllaaMC
namespace Go.Proofs.Ytgcfpihfoekllaa
namespace Sm
open Mb (pl Ap Gp apB)

/-- A stripe: its state, its owner, its epoch, its length, its servers. -/
structure S where
  st : Int
  ow : Int
  ep : Int
  ln : Int
  l : List Int
def may (s : S) : Prop := (0 ≤ s.ow ∧ s.ow ≤ 15) ∧ (1 ≤ s.ep ∧ s.ep ≤ 9223372036854775807) ∧ (0 ≤ s.ln ∧ s.ln ≤ 65536) ∧ Gp s.l
def gpB (l : List Int) : Bool := decide (2 ≤ l.length) && (decide (l.length ≤ 8) && apB l)
theorem gpB_eq {l : List Int} : gpB l = true ↔ Gp l := by
  unfold gpB Gp
  simp [Mb.apB_eq]
def mayB (s : S) : Bool := decide (0 ≤ s.ow ∧ s.ow ≤ 15) && (decide (1 ≤ s.ep ∧ s.ep ≤ 9223372036854775807) && (decide (0 ≤ s.ln ∧ s.ln ≤ 65536) && gpB s.l))
theorem mayB_eq {s : S} : mayB s = true ↔ may s := by
  unfold mayB may
  simp only [Bool.and_eq_true, decide_eq_true_iff, gpB_eq]
theorem mayB_no {s : S} : mayB s = false ↔ ¬ may s := by
  rw [← mayB_eq]
  simp
/-- Which are they? -/
def ids (p : S → Bool) (m : List S) : Nat → List Int
  | 0 => []
  | k + 1 => ids p m k ++ (match m[k]? with | some s => if p s then [(k : Int)] else [] | none => [])
theorem ids_yes {p : S → Bool} {m : List S} {k : Nat} (h : k < m.length) (hp : p m[k] = true) : ids p m (k + 1) = ids p m k ++ [(k : Int)] := by
  simp [ids, h, hp]
theorem ids_no {p : S → Bool} {m : List S} {k : Nat} (h : k < m.length) (hp : p m[k] = false) : ids p m (k + 1) = ids p m k := by
  simp [ids, h, hp]
theorem ids_len (p : S → Bool) (m : List S) (k : Nat) : (ids p m k).length ≤ k := by
  induction k with
  | zero => exact Nat.le_refl _
  | succ k ih =>
    unfold ids
    rw [List.length_append]
    split
    · split <;> simp <;> omega
    · simp; omega
theorem mem_ids {p : S → Bool} {m : List S} {k : Nat} {x : Int} : x ∈ ids p m k ↔ ∃ j : Nat, x = (j : Int) ∧ j < k ∧ ∃ h : j < m.length, p m[j] = true := by
  induction k with
  | zero => simp [ids]
  | succ k ih =>
    unfold ids
    rw [List.mem_append, ih]
    constructor
    · rintro (⟨j, rfl, hj, h⟩ | h)
      · exact ⟨j, rfl, by omega, h⟩
      · split at h
        · rename_i s hs
          obtain ⟨hk, rfl⟩ := List.getElem?_eq_some_iff.1 hs
          split at h
          · rename_i hp
            simp at h
            exact ⟨k, h, by omega, hk, hp⟩
          · simp at h
        · simp at h
    · rintro ⟨j, rfl, hj, h, hp⟩
      rcases Nat.lt_or_ge j k with h' | h'
      · exact .inl ⟨j, rfl, h', h, hp⟩
      · have e : j = k := by omega
        subst e
        right
        simp [h, hp]
theorem ids_pre (p : S → Bool) (m : List S) {a b : Nat} (h : a ≤ b) : ids p m a <+: ids p m b := by
  induction b with
  | zero => have : a = 0 := by omega
            subst this; exact List.prefix_refl _
  | succ b ih =>
    rcases Nat.lt_or_ge a (b + 1) with h' | h'
    · exact (ih (by omega)).trans ⟨_, rfl⟩
    · have : a = b + 1 := by omega
      subst this; exact List.prefix_refl _
/-- Those that are not freed: so many. -/
def nf (s : S) : Bool := s.st != 3
theorem nf_no {s : S} (h : s.st = 3) : nf s = false := by simp [nf, h]
theorem nf_yes {s : S} (h : s.st ≠ 3) : nf s = true := by simp [nf, h]
def live (m : List S) : Nat := m.countP nf
/-- A state's, a server's, an owner's begun ones. -/
def isSt (x : Int) (s : S) : Bool := s.st == x
def isOn (x : Int) (s : S) : Bool := (s.st != 3) && decide (x ∈ s.l)
def isOw (o : Int) (s : S) : Bool := (s.st == 1) && (s.ow == o)
def ofSt (m : List S) (x : Int) : List Int := ids (isSt x) m m.length
def onSv (m : List S) (x : Int) : List Int := ids (isOn x) m m.length
def ofOw (m : List S) (o : Int) : List Int := ids (isOw o) m m.length
theorem ids_live (m : List S) (k : Nat) (hk : k ≤ m.length) : (ids (isSt 3) m k).length + (m.take k).countP nf = k := by
  induction k with
  | zero => simp [ids]
  | succ k ih =>
    have h : k < m.length := hk
    have := ih (by omega)
    rw [List.take_succ_eq_append_getElem h, List.countP_append]
    by_cases e : m[k].st = 3
    · rw [ids_yes h (by simp [isSt, e]), List.countP_cons, nf_no e]
      simp
      omega
    · rw [ids_no h (by simp [isSt, e]), List.countP_cons, nf_yes e]
      simp
      omega
theorem live_ids (m : List S) : (live m : Int) = m.length - (ofSt m 3).length := by
  have := ids_live m m.length (Nat.le_refl _)
  rw [List.take_length] at this
  unfold live ofSt
  omega
theorem live_le (m : List S) : live m ≤ m.length := List.countP_le_length
/-- The one of that number. -/
def at' (m : List S) (i : Int) : Option S := if 0 ≤ i then m[i.toNat]? else none
theorem at_some {m : List S} {i : Int} {s : S} (h : at' m i = some s) : 0 ≤ i ∧ i < m.length ∧ ∃ hk : i.toNat < m.length, m[i.toNat] = s := by
  unfold at' at h
  split at h
  · obtain ⟨hk, e⟩ := List.getElem?_eq_some_iff.1 h
    exact ⟨by assumption, by omega, hk, e⟩
  · cases h
theorem at_none {m : List S} {i : Int} (h : at' m i = none) : i < 0 ∨ (m.length : Int) ≤ i := by
  unfold at' at h
  split at h
  · rw [List.getElem?_eq_none_iff] at h
    omega
  · omega
theorem at_in {m : List S} {i : Int} (h0 : 0 ≤ i) (h : i < m.length) : ∃ hk : i.toNat < m.length, at' m i = some m[i.toNat] := by
  have hk : i.toNat < m.length := by omega
  exact ⟨hk, by unfold at'; rw [if_pos h0]; simp [hk]⟩
theorem at_out {m : List S} {i : Int} (h : i < 0 ∨ (m.length : Int) ≤ i) : at' m i = none := by
  unfold at'
  split
  · rw [List.getElem?_eq_none_iff]; omega
  · rfl
/-! The deeds: the code, what there is behind it. -/
def bc (m : List S) (s : S) : Int := if mayB s = false then 1 else if 256 ≤ live m ∨ 4096 ≤ m.length then 5 else 0
def bm (m : List S) (s : S) : List S := if bc m s = 0 then m ++ [s] else m
def bv (m : List S) (s : S) : Int := if bc m s = 0 then m.length else 0
def cc (m : List S) (i o : Int) : Int := match at' m i with | none => 7 | some s => if s.st ≠ 1 ∨ s.ow ≠ o then 16 else 0
def fc (m : List S) (i : Int) : Int := match at' m i with | none => 7 | some s => if s.st = 3 then 16 else 0
/-- One of another state. -/
def stt (m : List S) (i : Nat) (x : Int) : List S := match m[i]? with | some s => m.set i { s with st := x } | none => m
def cm (m : List S) (i o : Int) : List S := if cc m i o = 0 then stt m i.toNat 2 else m
def fm (m : List S) (i : Int) : List S := if fc m i = 0 then stt m i.toNat 3 else m
def wd (m : List S) (i : Int) : Int := match at' m i with | none => 8 | some s => s.l.length
def mc (m : List S) (i x v : Int) : Int :=
  if x < 0 ∨ wd m i ≤ x ∨ v < 0 ∨ 63 < v then 1 else match at' m i with
    | none => 7
    | some s => if 0 ≤ pl s.l v ∧ pl s.l v ≠ x then 6 else if s.st = 3 then 16 else 0
def mv (m : List S) (i x : Nat) (v : Int) : List S := match m[i]? with | some s => m.set i { s with l := s.l.set x v } | none => m
def mm (m : List S) (i x v : Int) : List S := if mc m i x v = 0 then mv m i.toNat x.toNat v else m
/-- Those of a list freed. -/
def frs (m : List S) (js : List Int) : List S := m.mapIdx fun i s => if (i : Int) ∈ js then { s with st := 3 } else s
def dm (m : List S) (o : Int) : List S := m.map fun s => if isOw o s then { s with st := 3 } else s
theorem frs_len (m : List S) (js : List Int) : (frs m js).length = m.length := by simp [frs]
theorem frs_get (m : List S) (js : List Int) (i : Nat) (h : i < m.length) : (frs m js)[i]'(by rw [frs_len]; exact h) = if (i : Int) ∈ js then { m[i] with st := 3 } else m[i] := by simp [frs]
theorem frs_nil (m : List S) : frs m [] = m := by
  refine List.ext_getElem (frs_len _ _) fun i h1 h2 => ?_
  rw [frs_get m [] i h2]
  simp
theorem stt_eq {m : List S} {i : Nat} (h : i < m.length) (x : Int) : stt m i x = m.set i { m[i] with st := x } := by unfold stt; simp [h]
theorem mv_eq {m : List S} {i : Nat} (h : i < m.length) (x : Nat) (v : Int) : mv m i x v = m.set i { m[i] with l := m[i].l.set x v } := by unfold mv; simp [h]
theorem frs_step (m : List S) (js : List Int) (i : Nat) (h : i < m.length) : frs m (js ++ [(i : Int)]) = stt (frs m js) i 3 := by
  rw [stt_eq (by rw [frs_len]; exact h)]
  refine List.ext_getElem (by rw [List.length_set, frs_len, frs_len]) fun k h1 h2 => ?_
  have hk : k < m.length := by rw [frs_len] at h1; exact h1
  rw [frs_get m _ k hk, List.getElem_set, frs_get m js k hk, frs_get m js i h]
  by_cases e : i = k
  · subst e
    simp only [List.mem_append, List.mem_singleton, or_true, if_true]
    split <;> rfl
  · rw [if_neg e]
    have : ¬ (k : Int) = i := by omega
    simp [this]
theorem frs_all (m : List S) (o : Int) : frs m (ofOw m o) = dm m o := by
  refine List.ext_getElem (by simp [frs, dm]) fun k h1 h2 => ?_
  have hk : k < m.length := by rw [frs_len] at h1; exact h1
  rw [frs_get m _ k hk]
  simp only [dm, List.getElem_map]
  have e : (k : Int) ∈ ofOw m o ↔ isOw o m[k] = true := by
    unfold ofOw
    rw [mem_ids]
    constructor
    · rintro ⟨j, hj, _, h, hp⟩
      have : j = k := by omega
      subst this
      exact hp
    · exact fun hp => ⟨k, rfl, hk, hk, hp⟩
  by_cases hp : isOw o m[k] = true
  · rw [if_pos (e.2 hp), if_pos hp]
  · rw [if_neg (fun h => hp (e.1 h)), if_neg hp]
/-- What holds of stripes at each time. -/
structure G (m : List S) : Prop where
  st : ∀ s ∈ m, 1 ≤ s.st ∧ s.st ≤ 3 ∧ may s
  lv : live m ≤ 256
  ln : m.length ≤ 4096
theorem G.nil : G [] := ⟨fun s h => by simp at h, by decide, by decide⟩
theorem G.get {m : List S} (g : G m) {i : Nat} (h : i < m.length) : 1 ≤ m[i].st ∧ m[i].st ≤ 3 ∧ may m[i] := g.st _ (List.getElem_mem h)
theorem live_app (m : List S) (s : S) : live (m ++ [s]) = live m + if s.st = 3 then 0 else 1 := by
  unfold live
  rw [List.countP_append]
  by_cases e : s.st = 3
  · simp [e, nf_no e]
  · simp [e, nf_yes e]
theorem live_set {m : List S} {i : Nat} (h : i < m.length) (s : S) : live (m.set i s) + (if m[i].st = 3 then 0 else 1) = live m + if s.st = 3 then 0 else 1 := by
  unfold live
  induction m generalizing i with
  | nil => simp at h
  | cons x r ih =>
    cases i with
    | zero =>
      simp only [List.set_cons_zero, List.countP_cons, List.getElem_cons_zero]
      by_cases e : x.st = 3 <;> by_cases f : s.st = 3 <;> simp [nf, e, f]
    | succ i =>
      have := ih (i := i) (by simpa using h)
      simp only [List.set_cons_succ, List.countP_cons, List.getElem_cons_succ]
      omega
theorem bc_cases (m : List S) (s : S) : (¬ may s ∧ bc m s = 1) ∨ (may s ∧ (256 ≤ live m ∨ 4096 ≤ m.length) ∧ bc m s = 5) ∨ (may s ∧ live m < 256 ∧ m.length < 4096 ∧ bc m s = 0) := by
  unfold bc
  by_cases h : may s
  · rw [if_neg (fun h' => mayB_no.1 h' h)]
    by_cases k : 256 ≤ live m ∨ 4096 ≤ m.length
    · rw [if_pos k]; exact .inr (.inl ⟨h, k, rfl⟩)
    · rw [if_neg k]; exact .inr (.inr ⟨h, by omega, by omega, rfl⟩)
  · rw [if_pos (mayB_no.2 h)]; exact .inl ⟨h, rfl⟩
theorem cc_cases (m : List S) (i o : Int) : ((i < 0 ∨ (m.length : Int) ≤ i) ∧ cc m i o = 7) ∨ (∃ hk : i.toNat < m.length, 0 ≤ i ∧ i < m.length ∧ ((m[i.toNat].st ≠ 1 ∧ cc m i o = 16) ∨ (m[i.toNat].st = 1 ∧ m[i.toNat].ow ≠ o ∧ cc m i o = 16) ∨ (m[i.toNat].st = 1 ∧ m[i.toNat].ow = o ∧ cc m i o = 0))) := by
  unfold cc
  cases e : at' m i with
  | none => exact .inl ⟨at_none e, rfl⟩
  | some s =>
    obtain ⟨h0, h1, hk, rfl⟩ := at_some e
    refine .inr ⟨hk, h0, h1, ?_⟩
    by_cases a : m[i.toNat].st = 1
    · by_cases b : m[i.toNat].ow = o
      · exact .inr (.inr ⟨a, b, by simp [a, b]⟩)
      · exact .inr (.inl ⟨a, b, by simp [a, b]⟩)
    · exact .inl ⟨a, by simp [a]⟩
theorem fc_cases (m : List S) (i : Int) : ((i < 0 ∨ (m.length : Int) ≤ i) ∧ fc m i = 7) ∨ (∃ hk : i.toNat < m.length, 0 ≤ i ∧ i < m.length ∧ ((m[i.toNat].st = 3 ∧ fc m i = 16) ∨ (m[i.toNat].st ≠ 3 ∧ fc m i = 0))) := by
  unfold fc
  cases e : at' m i with
  | none => exact .inl ⟨at_none e, rfl⟩
  | some s =>
    obtain ⟨h0, h1, hk, rfl⟩ := at_some e
    refine .inr ⟨hk, h0, h1, ?_⟩
    by_cases a : m[i.toNat].st = 3
    · exact .inl ⟨a, by simp [a]⟩
    · exact .inr ⟨a, by simp [a]⟩
theorem mc_cases (m : List S) (i x v : Int) : ((x < 0 ∨ wd m i ≤ x ∨ v < 0 ∨ 63 < v) ∧ mc m i x v = 1) ∨ (0 ≤ x ∧ x < wd m i ∧ (0 ≤ v ∧ v ≤ 63) ∧ (((i < 0 ∨ (m.length : Int) ≤ i) ∧ wd m i = 8 ∧ mc m i x v = 7) ∨ (∃ hk : i.toNat < m.length, 0 ≤ i ∧ i < m.length ∧ wd m i = m[i.toNat].l.length ∧
    ((0 ≤ pl m[i.toNat].l v ∧ pl m[i.toNat].l v ≠ x ∧ mc m i x v = 6) ∨ ((pl m[i.toNat].l v < 0 ∨ pl m[i.toNat].l v = x) ∧ ((m[i.toNat].st = 3 ∧ mc m i x v = 16) ∨ (m[i.toNat].st ≠ 3 ∧ mc m i x v = 0))))))) := by
  unfold mc
  by_cases h : x < 0 ∨ wd m i ≤ x ∨ v < 0 ∨ 63 < v
  · rw [if_pos h]; exact .inl ⟨h, rfl⟩
  · rw [if_neg h]
    refine .inr ⟨by omega, by omega, by omega, ?_⟩
    unfold wd at *
    cases e : at' m i with
    | none => exact .inl ⟨at_none e, rfl, rfl⟩
    | some s =>
      obtain ⟨h0, h1, hk, rfl⟩ := at_some e
      refine .inr ⟨hk, h0, h1, rfl, ?_⟩
      simp only
      by_cases a : 0 ≤ pl m[i.toNat].l v ∧ pl m[i.toNat].l v ≠ x
      · exact .inl ⟨a.1, a.2, by rw [if_pos a]⟩
      · rw [if_neg a]
        refine .inr ⟨by omega, ?_⟩
        by_cases b : m[i.toNat].st = 3
        · exact .inl ⟨b, by simp [b]⟩
        · exact .inr ⟨b, by simp [b]⟩
theorem G.set {m : List S} (g : G m) {i : Nat} (h : i < m.length) {s : S} (hs : 1 ≤ s.st ∧ s.st ≤ 3 ∧ may s) (h3 : m[i].st = 3 → s.st = 3) : G (m.set i s) := by
  refine ⟨fun x hx => ?_, ?_, by rw [List.length_set]; exact g.ln⟩
  · rcases List.mem_or_eq_of_mem_set hx with hx | rfl
    · exact g.st x hx
    · exact hs
  · have := live_set h s
    have := g.lv
    by_cases e : m[i].st = 3
    · rw [if_pos e, if_pos (h3 e)] at *
      omega
    · rw [if_neg e] at *
      split at * <;> omega
theorem G.stt {m : List S} (g : G m) {i : Nat} (h : i < m.length) {x : Int} (hx : x = 2 ∧ m[i].st = 1 ∨ x = 3) : G (stt m i x) := by
  rw [stt_eq h]
  refine g.set h ⟨by rcases hx with h' | h' <;> simp <;> omega, by rcases hx with h' | h' <;> simp <;> omega, (g.get h).2.2⟩ (fun e => ?_)
  rcases hx with ⟨_, h'⟩ | h'
  · omega
  · exact h'
theorem G.begin {m : List S} (g : G m) {s : S} (hs : s.st = 1) : G (bm m s) := by
  unfold bm
  rcases bc_cases m s with ⟨_, e⟩ | ⟨_, _, e⟩ | ⟨h, h1, h2, e⟩
  · rw [e]; exact g
  · rw [e]; exact g
  · rw [e, if_pos rfl]
    refine ⟨fun x hx => ?_, ?_, ?_⟩
    · rcases List.mem_append.1 hx with hx | hx
      · exact g.st x hx
      · simp at hx; subst hx; exact ⟨by omega, by omega, h⟩
    · rw [live_app, if_neg (by omega)]; omega
    · simp; omega
theorem G.commit {m : List S} (g : G m) (i o : Int) : G (cm m i o) := by
  unfold cm
  rcases cc_cases m i o with ⟨_, e⟩ | ⟨hk, _, _, ⟨_, e⟩ | ⟨_, _, e⟩ | ⟨h, _, e⟩⟩
  · rw [e]; exact g
  · rw [e]; exact g
  · rw [e]; exact g
  · rw [e, if_pos rfl]; exact g.stt hk (.inl ⟨rfl, h⟩)
theorem G.free {m : List S} (g : G m) (i : Int) : G (fm m i) := by
  unfold fm
  rcases fc_cases m i with ⟨_, e⟩ | ⟨hk, _, _, ⟨_, e⟩ | ⟨h, e⟩⟩
  · rw [e]; exact g
  · rw [e]; exact g
  · rw [e, if_pos rfl]; exact g.stt hk (.inr rfl)
theorem gp_set {l : List Int} (h : Gp l) {x : Nat} (hx : x < l.length) {v : Int} (hv : 0 ≤ v ∧ v ≤ 63) (hp : pl l v < 0 ∨ pl l v = x) : Gp (l.set x v) := by
  obtain ⟨h1, h2, h3, h4⟩ := h
  refine ⟨by rw [List.length_set]; exact h1, by rw [List.length_set]; exact h2, fun y hy => ?_, ?_⟩
  · rcases List.mem_or_eq_of_mem_set hy with hy | rfl
    · exact h3 y hy
    · exact hv
  · rcases hp with hp | hp
    · have hn : ¬ v ∈ l := Mb.pl_neg.1 hp
      unfold List.Nodup at *
      rw [List.pairwise_iff_getElem] at h4 ⊢
      intro i j hi hj hij
      rw [List.length_set] at hi hj
      rw [List.getElem_set, List.getElem_set]
      by_cases e1 : x = i
      · subst e1
        rw [if_pos rfl, if_neg (by omega)]
        exact fun e => hn (e ▸ List.getElem_mem hj)
      · rw [if_neg e1]
        by_cases e2 : x = j
        · rw [if_pos e2]
          exact fun e => hn (e ▸ List.getElem_mem hi)
        · rw [if_neg e2]
          exact h4 i j hi hj hij
    · have hm : v ∈ l := Mb.pl_ge.1 (by omega)
      obtain ⟨_, _, hk, e⟩ := Mb.pl_lt hm
      have ex : (pl l v).toNat = x := by omega
      have : l.set x v = l := by
        have hlx : l[x] = v := by
          have : ∀ (k : Nat) (hk : k < l.length), k = x → l[k] = v → l[x] = v := fun k hk e1 e2 => by subst e1; exact e2
          exact this _ hk ex e
        rw [← hlx]
        exact List.set_getElem_self hx
      rw [this]
      exact h4
theorem G.move {m : List S} (g : G m) (i x v : Int) : G (mm m i x v) := by
  unfold mm
  rcases mc_cases m i x v with ⟨_, e⟩ | ⟨h0, h1, h2, ⟨_, _, e⟩ | ⟨hk, _, _, hw, ⟨_, _, e⟩ | ⟨hp, ⟨_, e⟩ | ⟨h3, e⟩⟩⟩⟩
  · rw [e]; exact g
  · rw [e]; exact g
  · rw [e]; exact g
  · rw [e]; exact g
  · rw [e, if_pos rfl, mv_eq hk]
    obtain ⟨a, b, c⟩ := g.get hk
    exact g.set hk ⟨a, b, c.1, c.2.1, c.2.2.1, gp_set c.2.2.2 (by omega) h2 (by omega)⟩ (fun e => e)
theorem dm_take (m : List S) (o : Int) (k : Nat) (h : k < m.length) : (dm m o)[k]'(by simp [dm]; exact h) = if isOw o m[k] then { m[k] with st := 3 } else m[k] := by simp [dm]
theorem dm_len (m : List S) (o : Int) : (dm m o).length = m.length := by simp [dm]
theorem G.frs {m : List S} (g : G m) (js : List Int) : G (frs m js) := by
  refine ⟨fun x hx => ?_, ?_, by rw [frs_len]; exact g.ln⟩
  · obtain ⟨i, hi, rfl⟩ := List.getElem_of_mem hx
    have hk : i < m.length := by rw [frs_len] at hi; exact hi
    rw [frs_get m js i hk]
    obtain ⟨a, b, c⟩ := g.get hk
    split
    · exact ⟨by show (1 : Int) ≤ 3; decide, by show (3 : Int) ≤ 3; decide, c⟩
    · exact ⟨a, b, c⟩
  · have h : ∀ (q : List S) (f : Nat → Bool), (q.mapIdx fun i s => if f i then { s with st := 3 } else s).countP nf ≤ q.countP nf := by
      intro q
      induction q with
      | nil => intro f; simp
      | cons s r ih =>
        intro f
        rw [List.mapIdx_cons, List.countP_cons, List.countP_cons]
        have := ih (fun i => f (i + 1))
        by_cases e : f 0 = true
        · rw [e, if_pos rfl, nf_no (s := { s with st := 3 }) rfl, if_neg (by simp)]; omega
        · rw [if_neg e]; omega
    have := h m fun i => decide ((i : Int) ∈ js)
    simp only [decide_eq_true_iff] at this
    have hl := g.lv
    unfold Sm.frs live at *
    exact Nat.le_trans this hl
theorem G.drop {m : List S} (g : G m) (o : Int) : G (dm m o) := by rw [← frs_all]; exact g.frs _
end Sm
end Go.Proofs.Ytgcfpihfoekllaa
