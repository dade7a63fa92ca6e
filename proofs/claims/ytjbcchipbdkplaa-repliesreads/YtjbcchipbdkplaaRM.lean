/-
  Calls that are kept, as plain lists: taken, and replied to.
-/
import Derived.Test.YtjbcchipbdkplaaM
namespace Go.Proofs.Ytjbcchipbdkplaa
namespace Rp
set_option linter.unusedVariables false

/-- A call that is kept. -/
structure C where
  id : Int
  busy : Bool
  reply : List UInt8
def mayI (id : Int) : Bool := decide (0 ≤ id) && decide (id ≤ 2147483647)
def mayC (c : Int) : Bool := decide (0 ≤ c) && decide (c ≤ 63)
theorem mayI_yes {id : Int} (h : mayI id = true) : 0 ≤ id ∧ id ≤ 2147483647 := by simpa [mayI] using h
theorem mayI_no {id : Int} (h : mayI id = false) : id < 0 ∨ 2147483647 < id := by
  by_cases h0 : id < 0
  · exact .inl h0
  · exact .inr (by simp [mayI] at h; exact h (by omega))
theorem mayC_yes {c : Int} (h : mayC c = true) : 0 ≤ c ∧ c ≤ 63 := by simpa [mayC] using h
theorem mayC_no {c : Int} (h : mayC c = false) : c < 0 ∨ 63 < c := by
  by_cases h0 : c < 0
  · exact .inl h0
  · exact .inr (by simp [mayC] at h; exact h (by omega))
theorem mayI_of {id : Int} (h0 : 0 ≤ id) (h1 : id ≤ 2147483647) : mayI id = true := by simp [mayI, h0, h1]
theorem mayC_of {c : Int} (h0 : 0 ≤ c) (h1 : c ≤ 63) : mayC c = true := by simp [mayC, h0, h1]
/-- By number. -/
def Up (l : List C) : Prop := l.Pairwise fun a b => a.id < b.id
/-- What may be kept of a client. -/
structure Okl (room : Nat) (l : List C) : Prop where
  up : Up l
  le : l.length ≤ room
  ids : ∀ x ∈ l, 0 ≤ x.id ∧ x.id ≤ 2147483647
  rep : ∀ x ∈ l, x.reply.length ≤ 4096
  bus : ∀ x ∈ l, x.busy = true → x.reply = []
theorem Okl.nil (room : Nat) : Okl room [] := ⟨List.Pairwise.nil, Nat.zero_le _, by simp, by simp, by simp⟩
/-- Where a search ends. -/
structure Sr (l : List C) (k : Int) (r : Nat) (b : Bool) : Prop where
  le : r ≤ l.length
  lo : ∀ j (h : j < l.length), j < r → l[j].id < k
  hi : ∀ j (h : j < l.length), r ≤ j → k ≤ l[j].id
  yes : b = true → ∃ h : r < l.length, l[r].id = k
  no : b = false → ∀ x ∈ l, x.id ≠ k
theorem sr_of {l : List C} {k : Int} {r : Nat} (hle : r ≤ l.length) (hlo : ∀ j (h : j < l.length), j < r → l[j].id < k) (hhi : ∀ j (h : j < l.length), r ≤ j → k ≤ l[j].id) (hu : Up l) (b : Bool) (hb : b = true ↔ ∃ h : r < l.length, l[r].id = k) : Sr l k r b := by
  refine ⟨hle, hlo, hhi, hb.1, fun h x hx e => ?_⟩
  obtain ⟨j, hj, rfl⟩ := List.getElem_of_mem hx
  rcases Nat.lt_or_ge j r with h1 | h1
  · have := hlo j hj h1; omega
  · have hr : r < l.length := by omega
    have h2 := hhi r hr (Nat.le_refl _)
    have : l[r].id = k := by
      rcases Nat.eq_or_lt_of_le h1 with h3 | h3
      · subst h3; exact e
      · have := List.pairwise_iff_getElem.1 hu r j hr hj h3; omega
    rw [hb.2 ⟨hr, this⟩] at h
    cases h
theorem Sr.uniq {l : List C} {k : Int} {r r' : Nat} {b b' : Bool} (h : Sr l k r b) (h' : Sr l k r' b') (hu : Up l) : r = r' ∧ b = b' := by
  have hlt : ∀ {r r' : Nat} {b b' : Bool}, Sr l k r b → Sr l k r' b' → ¬ r < r' := by
    intro r r' b b' h h' hl
    have h1 := h'.lo r (Nat.lt_of_lt_of_le hl h'.le) hl
    have h2 := h.hi r (Nat.lt_of_lt_of_le hl h'.le) (Nat.le_refl _)
    omega
  have e : r = r' := by
    have a := hlt h h'
    have c := hlt h' h
    omega
  subst e
  refine ⟨rfl, ?_⟩
  cases b <;> cases b'
  · rfl
  · obtain ⟨hr, e⟩ := h'.yes rfl
    exact absurd e (h.no rfl _ (List.getElem_mem hr))
  · obtain ⟨hr, e⟩ := h.yes rfl
    exact absurd e (h'.no rfl _ (List.getElem_mem hr))
  · rfl
/-- Where a call stands, or would. -/
def plc (l : List C) (k : Int) : Nat := (l.takeWhile fun x => decide (x.id < k)).length
def fnd (l : List C) (k : Int) : Option C := l.find? fun x => x.id == k
theorem fnd_yes {l : List C} {k : Int} {x : C} (h : fnd l k = some x) : x ∈ l ∧ x.id = k := by
  unfold fnd at h
  exact ⟨List.mem_of_find?_eq_some h, by simpa using List.find?_some h⟩
theorem fnd_no {l : List C} {k : Int} (h : fnd l k = none) : ∀ x ∈ l, x.id ≠ k := by
  unfold fnd at h
  rw [List.find?_eq_none] at h
  intro x hx
  simpa using h x hx
theorem fnd_none {l : List C} {k : Int} (h : ∀ x ∈ l, x.id ≠ k) : fnd l k = none := by
  unfold fnd
  rw [List.find?_eq_none]
  intro x hx
  simpa using h x hx
theorem up_inj {l : List C} (hu : Up l) {x y : C} (hx : x ∈ l) (hy : y ∈ l) (h : x.id = y.id) : x = y := by
  obtain ⟨i, hi, rfl⟩ := List.getElem_of_mem hx
  obtain ⟨j, hj, rfl⟩ := List.getElem_of_mem hy
  rcases Nat.lt_trichotomy i j with hl | hl | hl
  · have := List.pairwise_iff_getElem.1 hu i j hi hj hl; omega
  · subst hl; rfl
  · have := List.pairwise_iff_getElem.1 hu j i hj hi hl; omega
theorem fnd_some {l : List C} {k : Int} {x : C} (hu : Up l) (hx : x ∈ l) (h : x.id = k) : fnd l k = some x := by
  cases hf : fnd l k with
  | none => exact absurd h (fnd_no hf x hx)
  | some y =>
    have hy := fnd_yes hf
    rw [up_inj hu hy.1 hx (by rw [hy.2, h])]
theorem Sr.fnd {l : List C} {k : Int} {r : Nat} {b : Bool} (h : Sr l k r b) (hu : Up l) : (b = true → ∃ hr : r < l.length, fnd l k = some l[r] ∧ l[r].id = k) ∧ (b = false → Rp.fnd l k = none) := by
  refine ⟨fun hb => ?_, fun hb => fnd_none (h.no hb)⟩
  obtain ⟨hr, e⟩ := h.yes hb
  exact ⟨hr, fnd_some hu (List.getElem_mem hr) e, e⟩
theorem tw_lo (k : Int) : ∀ (l : List C) (j : Nat) (h : j < l.length), j < plc l k → l[j].id < k
  | [], j, h, _ => by simp at h
  | x :: r, j, h, hj => by
    unfold plc at hj
    rw [List.takeWhile_cons] at hj
    split at hj
    · rename_i hx
      cases j with
      | zero => simpa using hx
      | succ j => exact tw_lo k r j (by simpa using h) (by unfold plc; simpa using hj)
    · simp at hj
theorem tw_hi (k : Int) : ∀ (l : List C), Up l → ∀ (j : Nat) (h : j < l.length), plc l k ≤ j → k ≤ l[j].id
  | [], _, j, h, _ => by simp at h
  | x :: r, hu, j, h, hj => by
    unfold plc at hj
    rw [List.takeWhile_cons] at hj
    unfold Up at hu
    rw [List.pairwise_cons] at hu
    split at hj
    · cases j with
      | zero => simp at hj
      | succ j => exact tw_hi k r hu.2 j (by simpa using h) (by unfold plc; simpa using hj)
    · rename_i hx
      have hx' : k ≤ x.id := by simpa using hx
      cases j with
      | zero => exact hx'
      | succ j =>
        have hj' : j < r.length := by simpa using h
        have := hu.1 r[j] (List.getElem_mem hj')
        show k ≤ r[j].id
        omega
theorem plc_le (l : List C) (k : Int) : plc l k ≤ l.length := by unfold plc; exact List.Sublist.length_le (List.takeWhile_sublist _)
theorem plc_sr {l : List C} (k : Int) (hu : Up l) : Sr l k (plc l k) (fnd l k).isSome := by
  refine sr_of (plc_le l k) (tw_lo k l) (tw_hi k l hu) hu _ ⟨fun h => ?_, fun ⟨h, e⟩ => ?_⟩
  · obtain ⟨x, hx⟩ := Option.isSome_iff_exists.1 h
    obtain ⟨hm, e⟩ := fnd_yes hx
    obtain ⟨j, hj, rfl⟩ := List.getElem_of_mem hm
    have h1 : ¬ j < plc l k := fun h1 => by have := tw_lo k l j hj h1; omega
    have hr : plc l k < l.length := by omega
    refine ⟨hr, ?_⟩
    have h2 := tw_hi k l hu (plc l k) hr (Nat.le_refl _)
    rcases Nat.eq_or_lt_of_le (Nat.le_of_not_lt h1) with h3 | h3
    · have : l[plc l k] = l[j] := by congr 1
      rw [this]; exact e
    · have := List.pairwise_iff_getElem.1 hu _ j hr hj h3; omega
  · rw [fnd_some hu (List.getElem_mem h) e]; rfl
theorem Sr.plc {l : List C} {k : Int} {r : Nat} {b : Bool} (h : Sr l k r b) (hu : Up l) : r = plc l k ∧ b = (Rp.fnd l k).isSome := h.uniq (plc_sr k hu) hu
/-- What a call is that is taken; its reply; what is kept then. -/
def tkc (room : Nat) (l : List C) (k : Int) : Int :=
  match fnd l k with
  | some x => if x.busy then 3 else 2
  | none => if room ≤ l.length ∧ plc l k = 0 then 4 else 1
def tkr (l : List C) (k : Int) : List UInt8 :=
  match fnd l k with
  | some x => if x.busy then [] else x.reply
  | none => []
def ins (l : List C) (i : Nat) (k : Int) : List C := l.take i ++ [⟨k, true, []⟩] ++ l.drop i
def tkl (room : Nat) (l : List C) (k : Int) : List C :=
  match fnd l k with
  | some _ => l
  | none => if room ≤ l.length ∧ plc l k = 0 then l else if room ≤ l.length then (ins l (plc l k) k).drop 1 else ins l (plc l k) k
theorem ins_len {l : List C} {i : Nat} (h : i ≤ l.length) (k : Int) : (ins l i k).length = l.length + 1 := by unfold ins; simp; omega
theorem ins_drop {l : List C} {i : Nat} (h0 : 0 < i) (hl : l ≠ []) (k : Int) : (ins l i k).drop 1 = (l.drop 1).take (i - 1) ++ [⟨k, true, []⟩] ++ (l.drop 1).drop (i - 1) := by
  unfold ins
  cases l with
  | nil => exact absurd rfl hl
  | cons x r => cases i with
    | zero => omega
    | succ i => simp
theorem ins_mem {l : List C} {i : Nat} {k : Int} {x : C} : x ∈ ins l i k ↔ x ∈ l ∨ x = ⟨k, true, []⟩ := by
  unfold ins
  constructor
  · intro h
    simp only [List.mem_append, List.mem_singleton] at h
    rcases h with (h | h) | h
    · exact .inl (List.mem_of_mem_take h)
    · exact .inr h
    · exact .inl (List.mem_of_mem_drop h)
  · rintro (h | h)
    · rw [← List.take_append_drop i l, List.mem_append] at h
      simp only [List.mem_append]
      rcases h with h | h
      · exact .inl (.inl h)
      · exact .inr h
    · simp [h]
theorem ins_up {l : List C} {k : Int} (hu : Up l) (hf : fnd l k = none) : Up (ins l (plc l k) k) := by
  have hs := plc_sr k hu
  rw [hf] at hs
  have hn := hs.no rfl
  unfold Up ins
  rw [List.pairwise_append, List.pairwise_append]
  refine ⟨⟨hu.sublist (List.take_sublist _ _), List.pairwise_singleton _ _, ?_⟩, hu.sublist (List.drop_sublist _ _), ?_⟩
  · intro a ha b hb
    simp at hb
    subst hb
    obtain ⟨j, hj, rfl⟩ := List.getElem_of_mem ha
    simp only [List.length_take] at hj
    rw [List.getElem_take]
    exact hs.lo j (by omega) (by omega)
  · intro a ha b hb
    have hbk : k < b.id := by
      obtain ⟨j, hj, rfl⟩ := List.getElem_of_mem hb
      simp only [List.length_drop] at hj
      rw [List.getElem_drop]
      have h1 := hs.hi (plc l k + j) (by omega) (by omega)
      have h2 := hn l[plc l k + j] (List.getElem_mem _)
      omega
    simp only [List.mem_append, List.mem_singleton] at ha
    rcases ha with ha | ha
    · have hak : a.id < k := by
        obtain ⟨j, hj, rfl⟩ := List.getElem_of_mem ha
        simp only [List.length_take] at hj
        rw [List.getElem_take]
        exact hs.lo j (by omega) (by omega)
      omega
    · subst ha; exact hbk
theorem tkl_mem {room : Nat} {l : List C} {k : Int} {x : C} (h : x ∈ tkl room l k) : x ∈ l ∨ x = ⟨k, true, []⟩ := by
  unfold tkl at h
  split at h
  · exact .inl h
  · split at h
    · exact .inl h
    · split at h
      · exact ins_mem.1 (List.mem_of_mem_drop h)
      · exact ins_mem.1 h
theorem tkl_up {room : Nat} {l : List C} {k : Int} (hu : Up l) : Up (tkl room l k) := by
  unfold tkl
  split
  · exact hu
  · rename_i hf
    split
    · exact hu
    · split
      · exact (ins_up hu hf).sublist (List.drop_sublist _ _)
      · exact ins_up hu hf
theorem tkl_len {room : Nat} {l : List C} {k : Int} (h : l.length ≤ room) : (tkl room l k).length ≤ room := by
  unfold tkl
  have hp := plc_le l k
  split
  · exact h
  · split
    · exact h
    · split
      · rw [List.length_drop, ins_len hp]; omega
      · rw [ins_len hp]; omega
theorem tkl_ok {room : Nat} {l : List C} {k : Int} (h : Okl room l) (hk : 0 ≤ k ∧ k ≤ 2147483647) : Okl room (tkl room l k) := by
  refine ⟨tkl_up h.up, tkl_len h.le, fun x hx => ?_, fun x hx => ?_, fun x hx => ?_⟩
  · rcases tkl_mem hx with h' | h'
    · exact h.ids x h'
    · subst h'; exact hk
  · rcases tkl_mem hx with h' | h'
    · exact h.rep x h'
    · subst h'; simp
  · rcases tkl_mem hx with h' | h'
    · exact h.bus x h'
    · subst h'; exact fun _ => rfl
theorem tkl_none {room : Nat} {l : List C} {k : Int} (h1 : 1 ≤ room) (h : tkl room l k = []) : l = [] := by
  have hp := plc_le l k
  unfold tkl at h
  split at h
  · exact h
  · split at h
    · exact h
    · split at h
      · have := congrArg List.length h
        rw [List.length_drop, ins_len hp] at this
        simp at this
        omega
      · have := congrArg List.length h
        rw [ins_len hp] at this
        simp at this
/-- A fresh one is kept, busy. -/
theorem tkl_fresh {room : Nat} {l : List C} {k : Int} (hu : Up l) (h : tkc room l k = 1) : fnd (tkl room l k) k = some ⟨k, true, []⟩ := by
  have hu' := tkl_up (room := room) (k := k) hu
  refine fnd_some hu' ?_ rfl
  have hp := plc_le l k
  unfold tkc at h
  unfold tkl
  split at h
  · split at h <;> omega
  · rename_i hf
    split at h
    · omega
    · rename_i hn
      rw [if_neg hn]
      split
      · rename_i hr
        rw [ins_drop (by omega) (fun e => by subst e; exact hn ⟨hr, rfl⟩)]
        simp
      · exact ins_mem.2 (.inr rfl)
theorem tkl_else {room : Nat} {l : List C} {k : Int} (h : tkc room l k ≠ 1) : tkl room l k = l := by
  unfold tkc at h
  unfold tkl
  split at h
  · rfl
  · split at h
    · rename_i hn; rw [if_pos hn]
    · omega
theorem tkc_val (room : Nat) (l : List C) (k : Int) : tkc room l k = 1 ∨ tkc room l k = 2 ∨ tkc room l k = 3 ∨ tkc room l k = 4 := by
  unfold tkc
  split
  · split <;> simp
  · split <;> simp
theorem tk_of {room : Nat} {l : List C} {k : Int} {x : C} (h : fnd l k = some x) : tkc room l k = (if x.busy then 3 else 2) ∧ tkr l k = (if x.busy then [] else x.reply) ∧ tkl room l k = l := by
  unfold tkc tkr tkl
  rw [h]
  exact ⟨rfl, rfl, rfl⟩
/-- A reply is put. -/
def ptb (l : List C) (k : Int) (s : List UInt8) : Bool := decide (s.length ≤ 4096) && (match fnd l k with | some x => x.busy | none => false)
def ptl (l : List C) (k : Int) (s : List UInt8) : List C := if ptb l k s then l.set (plc l k) ⟨k, false, s⟩ else l
theorem ptb_yes {l : List C} {k : Int} {s : List UInt8} (h : ptb l k s = true) : s.length ≤ 4096 ∧ ∃ x, fnd l k = some x ∧ x.busy = true := by
  unfold ptb at h
  simp only [Bool.and_eq_true, decide_eq_true_eq] at h
  refine ⟨h.1, ?_⟩
  have h2 := h.2
  split at h2
  · rename_i x hx; exact ⟨x, hx, h2⟩
  · cases h2
theorem ptl_mem {l : List C} {k : Int} {s : List UInt8} {x : C} (h : x ∈ ptl l k s) : x ∈ l ∨ (ptb l k s = true ∧ x = ⟨k, false, s⟩) := by
  unfold ptl at h
  split at h
  · rename_i hb
    rcases List.mem_or_eq_of_mem_set h with h' | h'
    · exact .inl h'
    · exact .inr ⟨hb, h'⟩
  · exact .inl h
theorem ptl_ids (l : List C) (k : Int) (s : List UInt8) (hu : Up l) : (ptl l k s).map C.id = l.map C.id := by
  unfold ptl
  split
  · rename_i hb
    obtain ⟨_, x, hx, _⟩ := ptb_yes hb
    have hs := plc_sr k hu
    rw [hx] at hs
    obtain ⟨hr, e⟩ := hs.yes rfl
    rw [List.map_set]
    apply List.ext_getElem
    · simp
    · intro i h1 h2
      rw [List.getElem_set]
      split
      · rename_i h3; subst h3; simp [e]
      · rfl
  · rfl
theorem up_ids {l q : List C} (h : q.map C.id = l.map C.id) (hu : Up l) : Up q := by
  have e : ∀ l : List C, Up l ↔ (l.map C.id).Pairwise (· < ·) := fun l => by unfold Up; rw [List.pairwise_map]
  rw [e, h, ← e]; exact hu
theorem ptl_len (l : List C) (k : Int) (s : List UInt8) : (ptl l k s).length = l.length := by unfold ptl; split <;> simp
theorem ptl_ok {room : Nat} {l : List C} {k : Int} {s : List UInt8} (h : Okl room l) : Okl room (ptl l k s) := by
  refine ⟨up_ids (ptl_ids l k s h.up) h.up, by rw [ptl_len]; exact h.le, fun x hx => ?_, fun x hx => ?_, fun x hx => ?_⟩
  · rcases ptl_mem hx with h' | ⟨hb, h'⟩
    · exact h.ids x h'
    · obtain ⟨_, y, hy, _⟩ := ptb_yes hb
      obtain ⟨hm, e⟩ := fnd_yes hy
      subst h'
      rw [← e]; exact h.ids y hm
  · rcases ptl_mem hx with h' | ⟨hb, h'⟩
    · exact h.rep x h'
    · subst h'; exact (ptb_yes hb).1
  · rcases ptl_mem hx with h' | ⟨hb, h'⟩
    · exact h.bus x h'
    · subst h'; exact fun h => by cases h
theorem ptl_fnd {l : List C} {k : Int} {s : List UInt8} (hu : Up l) (hb : ptb l k s = true) : fnd (ptl l k s) k = some ⟨k, false, s⟩ := by
  refine fnd_some (up_ids (ptl_ids l k s hu) hu) ?_ rfl
  obtain ⟨_, x, hx, _⟩ := ptb_yes hb
  have hs := plc_sr k hu
  rw [hx] at hs
  obtain ⟨hr, e⟩ := hs.yes rfl
  unfold ptl
  rw [if_pos hb]
  exact List.mem_set hr _
theorem ptl_none {l : List C} {k : Int} {s : List UInt8} (h : ptl l k s = []) : l = [] := by
  have := congrArg List.length h
  rw [ptl_len] at this
  exact List.eq_nil_of_length_eq_zero this
/-- All clients' calls. -/
structure Ok (room : Nat) (T : Int → List C) : Prop where
  l : ∀ c, Okl room (T c)
  r1 : 1 ≤ room
  r16 : room ≤ 16
  out : ∀ c, mayC c = false → T c = []
def non : Int → List C := fun _ => []
theorem Ok.non {room : Nat} (h1 : 1 ≤ room) (h2 : room ≤ 16) : Ok room non := ⟨fun _ => Okl.nil _, h1, h2, fun _ _ => rfl⟩
def fup {α : Type} (T : Int → α) (c : Int) (l : α) : Int → α := fun j => if j = c then l else T j
theorem fup_same {α : Type} (T : Int → α) (c : Int) (l : α) : fup T c l c = l := by unfold fup; rw [if_pos rfl]
theorem fup_other {α : Type} (T : Int → α) {c j : Int} (l : α) (h : j ≠ c) : fup T c l j = T j := by unfold fup; rw [if_neg h]
theorem fup_self {α : Type} (T : Int → α) (c : Int) : fup T c (T c) = T := by
  funext j
  unfold fup
  split
  · rename_i h; rw [h]
  · rfl
def may (c id : Int) : Bool := mayC c && mayI id
def take (room : Nat) (T : Int → List C) (c k : Int) : Int → List C := if may c k then fup T c (tkl room (T c) k) else T
def code (room : Nat) (T : Int → List C) (c k : Int) : Int := if may c k then tkc room (T c) k else 0
def told (T : Int → List C) (c k : Int) : List UInt8 := if may c k then tkr (T c) k else []
def put (T : Int → List C) (c k : Int) (s : List UInt8) : Int → List C := fup T c (ptl (T c) k s)
theorem Ok.fup {room : Nat} {T : Int → List C} (h : Ok room T) {c : Int} {l : List C} (hl : Okl room l) (ho : mayC c = false → l = []) : Ok room (fup T c l) := by
  refine ⟨fun j => ?_, h.r1, h.r16, fun j hj => ?_⟩
  · unfold Rp.fup
    split
    · exact hl
    · exact h.l j
  · unfold Rp.fup
    split
    · rename_i e; subst e; exact ho hj
    · exact h.out j hj
theorem take_ok {room : Nat} {T : Int → List C} (h : Ok room T) (c k : Int) : Ok room (take room T c k) := by
  unfold take
  split
  · rename_i hm
    unfold may at hm
    simp only [Bool.and_eq_true] at hm
    exact h.fup (tkl_ok (h.l c) (mayI_yes hm.2)) (fun h' => by rw [hm.1] at h'; cases h')
  · exact h
theorem put_ok {room : Nat} {T : Int → List C} (h : Ok room T) (c k : Int) (s : List UInt8) : Ok room (put T c k s) := by
  refine h.fup (ptl_ok (h.l c)) (fun h' => ?_)
  rw [h.out c h']
  unfold ptl
  split <;> rfl
theorem code_one {room : Nat} {T : Int → List C} {c k : Int} (h : code room T c k = 1) : may c k = true ∧ tkc room (T c) k = 1 := by
  unfold code at h
  split at h
  · rename_i hm; exact ⟨hm, h⟩
  · omega
/-- A call that is taken again. -/
theorem again_fresh {room : Nat} {T : Int → List C} (h : Ok room T) {c k : Int} (h1 : code room T c k = 1) : code room (take room T c k) c k = 3 ∧ told (take room T c k) c k = [] ∧ take room (take room T c k) c k = take room T c k := by
  obtain ⟨hm, ht⟩ := code_one h1
  have hf := tkl_fresh (h.l c).up ht
  obtain ⟨e1, e2, e3⟩ := tk_of (room := room) hf
  unfold code told take
  simp only [hm, if_true, fup_same]
  rw [e1, e2, e3]
  refine ⟨rfl, rfl, ?_⟩
  funext j
  unfold fup
  split <;> rfl
theorem again_else {room : Nat} {T : Int → List C} {c k : Int} (h1 : code room T c k ≠ 1) : take room T c k = T := by
  unfold code at h1
  unfold take
  split at h1
  · rename_i hm
    rw [if_pos hm, tkl_else h1, fup_self]
  · rename_i hm; rw [if_neg hm]
theorem fnd_may {room : Nat} {T : Int → List C} (h : Ok room T) {c k : Int} {x : C} (hf : fnd (T c) k = some x) : may c k = true := by
  obtain ⟨hm, e⟩ := fnd_yes hf
  unfold may
  rw [Bool.and_eq_true]
  refine ⟨?_, ?_⟩
  · cases hc : mayC c with
    | true => rfl
    | false => rw [h.out c hc] at hm; simp at hm
  · have := (h.l c).ids x hm
    exact mayI_of (by omega) (by omega)
/-- What was put is told. -/
theorem put_told {room : Nat} {T : Int → List C} (h : Ok room T) {c k : Int} {s : List UInt8} (hb : ptb (T c) k s = true) : code room (put T c k s) c k = 2 ∧ told (put T c k s) c k = s ∧ take room (put T c k s) c k = put T c k s ∧ code room T c k = 3 := by
  have hf := ptl_fnd (h.l c).up hb
  obtain ⟨_, x, hx, hxb⟩ := ptb_yes hb
  have hm := fnd_may h hx
  obtain ⟨e1, e2, e3⟩ := tk_of (room := room) hf
  obtain ⟨f1, _, _⟩ := tk_of (room := room) hx
  unfold code told take put
  simp only [hm, if_true, fup_same]
  rw [e1, e2, e3, f1, hxb]
  refine ⟨rfl, rfl, ?_, rfl⟩
  funext j
  unfold fup
  split <;> rfl
theorem code_val (room : Nat) (T : Int → List C) (c k : Int) : code room T c k = 0 ∨ code room T c k = 1 ∨ code room T c k = 2 ∨ code room T c k = 3 ∨ code room T c k = 4 := by
  unfold code
  split
  · exact .inr (tkc_val _ _ _)
  · exact .inl rfl
end Rp
end Go.Proofs.Ytjbcchipbdkplaa
