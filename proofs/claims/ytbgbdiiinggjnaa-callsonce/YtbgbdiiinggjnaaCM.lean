/-
  Calls, as a plain list: who is called, what each has come to, how often it was sent, when it is due.
-/
import Derived.Test.YtbgbdiiinggjnaaM
namespace Go.Proofs.Ytbgbdiiinggjnaa.Cl
set_option linter.unusedVariables false
open M (E)

/-- A call. -/
structure K where
  id : Int
  whom : Int
  st : Int
  sent : Int
  due : Int
  body : ByteArray
  reply : ByteArray
/-- An open call as the program keeps it. -/
structure W where
  fr : Int
  whom : Int
  id : Int
  sent : Int
  body : ByteArray
/-- A message. -/
structure Ms where
  k : Int
  f : Int
  t : Int
  i : Int
  b : ByteArray

def op (k : K) : Bool := decide (k.st = 1)
/-- The open ones. -/
def opn (L : List K) : List K := L.filter op
def wt (me : Int) (k : K) : W := ⟨me, k.whom, k.id, k.sent, k.body⟩
def msg (me : Int) (k : K) : Ms := ⟨1, me, k.whom, k.id, k.body⟩
/-- The numbers of open ones. -/
def nums (L : List K) : List Int := (opn L).map (·.id)
/-- How much later it is due again. -/
def wait (n : Int) : Int := if n ≤ 0 then 4 else if n = 1 then 8 else if n = 2 then 16 else if n = 3 then 32 else 64
theorem wait_rng (n : Int) : 4 ≤ wait n ∧ wait n ≤ 64 := by unfold wait; repeat' split <;> omega
theorem wait_next (n : Int) (h : 0 ≤ n) : min (2 * wait n) 64 = wait (n + 1) := by unfold wait; repeat' split <;> omega
def moment (now : Int) : Bool := decide (0 ≤ now) && decide (now ≤ 1099511626776)
theorem moment_iff {now : Int} : moment now = true ↔ 0 ≤ now ∧ now ≤ 1099511626776 := by unfold moment; simp
/-- A node's number; the first number. -/
def node (x : Int) : Int := min (max x 0) 63
def start (x : Int) : Int := min (max x 0) 1073741824
theorem node_rng (x : Int) : 0 ≤ node x ∧ node x ≤ 63 := by unfold node; omega
theorem start_rng (x : Int) : 0 ≤ start x ∧ start x ≤ 1073741824 := by unfold start; omega
/-- The call of that number. -/
def get (L : List K) (i : Int) : Option K := L.find? (fun k => decide (k.id = i))
/-- What it has come to. -/
def stS (L : List K) (i : Int) : Int := match get L i with | some k => k.st | none => 0
def stR (L : List K) (i : Int) : ByteArray := match get L i with | some k => k.reply | none => ⟨#[]⟩
/-- What is kept of one that is not open. -/
def en (L : List K) (i : Int) : Option (Int × ByteArray) := match get L i with | some k => if op k then none else some (k.st, k.reply) | none => none
/-- One of them changed. -/
def one (i : Int) (g : K → K) (k : K) : K := if k.id = i then g k else k
def upd (L : List K) (i : Int) (g : K → K) : List K := L.map (one i g)
def sendK (now : Int) (k : K) : K := ⟨k.id, k.whom, k.st, k.sent + 1, now + wait k.sent, k.body, k.reply⟩
def goneK (k : K) : K := ⟨k.id, k.whom, 3, k.sent, k.due, k.body, k.reply⟩
def ansK (s : ByteArray) (k : K) : K := ⟨k.id, k.whom, 2, k.sent, k.due, k.body, s⟩
/-- What is done to a call that is due. -/
def stepK (now : Int) (k : K) : K := if 8 ≤ k.sent then goneK k else sendK now k
def outK (me : Int) (L : List K) (i : Int) : List Ms := match get L i with | some k => if 8 ≤ k.sent then [] else [msg me k] | none => []
def run (me now : Int) : List Int → List K → List Ms → List K × List Ms
  | [], L, o => (L, o)
  | i :: r, L, o => run me now r (upd L i (stepK now)) (o ++ outK me L i)
/-- What a call is refused for. -/
def ccode (n : Nat) (next whom len now : Int) : Int := if whom < 0 ∨ 63 < whom ∨ moment now = false then 1 else if 4096 < len then 2 else if 64 ≤ n ∨ 2147483647 ≤ next then 5 else 0
/-- Is it an answer? -/
def isA (me : Int) (L : List K) (m : Ms) : Bool := decide (m.k = 2) && decide (m.t = me) && (match get L m.i with | some k => op k && decide (k.whom = m.f) | none => false)
def ans (me : Int) (L : List K) (m : Ms) : List K := if isA me L m then upd L m.i (ansK m.b) else L
def fgt (L : List K) (i : Int) : List K := if (en L i).isSome then L.filter (fun k => decide (k.id ≠ i)) else L

/-- What holds of calls. -/
structure KOk (next : Int) (k : K) : Prop where
  i0 : 0 ≤ k.id
  i1 : k.id < next
  s0 : 0 ≤ k.sent
  s1 : k.sent ≤ 8
  d0 : 0 ≤ k.due
  d1 : k.due ≤ 1099511626840
  t0 : 0 ≤ k.whom
  t1 : k.whom ≤ 63
  b : k.body.size ≤ 4096
  r : k.reply.size ≤ 140737488351232
  st : k.st = 1 ∨ k.st = 2 ∨ k.st = 3
  e : k.st ≠ 2 → k.reply = ⟨#[]⟩
def Up (L : List K) : Prop := L.Pairwise (fun a b => a.id < b.id)
structure Gd (next : Int) (L : List K) : Prop where
  s : Up L
  k : ∀ k ∈ L, KOk next k
  n : (opn L).length ≤ 64

theorem get_some {L : List K} {i : Int} {k : K} (h : get L i = some k) : k ∈ L ∧ k.id = i := by
  unfold get at h
  exact ⟨List.mem_of_find?_eq_some h, by simpa using List.find?_some h⟩
theorem get_none {L : List K} {i : Int} (h : get L i = none) : ∀ k ∈ L, k.id ≠ i := by
  unfold get at h
  intro k hk
  have := (List.find?_eq_none.1 h) k hk
  simpa using this
theorem Up.inj {L : List K} (h : Up L) {a b : K} (ha : a ∈ L) (hb : b ∈ L) (e : a.id = b.id) : a = b := by
  obtain ⟨i, hi, rfl⟩ := List.getElem_of_mem ha
  obtain ⟨j, hj, rfl⟩ := List.getElem_of_mem hb
  have hp := List.pairwise_iff_getElem.1 h
  rcases Nat.lt_trichotomy i j with hl | hl | hl
  · have := hp i j hi hj hl; omega
  · subst hl; rfl
  · have := hp j i hj hi hl; omega
theorem Up.idx {L : List K} (h : Up L) {i j : Nat} (hi : i < L.length) (hj : j < L.length) (e : L[i].id = L[j].id) : i = j := by
  have hp := List.pairwise_iff_getElem.1 h
  rcases Nat.lt_trichotomy i j with hl | hl | hl
  · have := hp i j hi hj hl; omega
  · exact hl
  · have := hp j i hj hi hl; omega
theorem get_mem {L : List K} (h : Up L) {k : K} (hk : k ∈ L) : get L k.id = some k := by
  cases hg : get L k.id with
  | none => exact absurd rfl (get_none hg k hk)
  | some k' =>
    obtain ⟨h1, h2⟩ := get_some hg
    rw [h.inj h1 hk h2]
theorem Up.opn {L : List K} (h : Up L) : Up (opn L) := List.Pairwise.filter _ h
theorem mem_opn {L : List K} {k : K} : k ∈ opn L ↔ k ∈ L ∧ k.st = 1 := by unfold opn op; rw [List.mem_filter]; simp
/-- One changed, by its place. -/
theorem upd_at {L : List K} (h : Up L) {i : Int} (g : K → K) {r : Nat} (hr : r < L.length) (e : L[r].id = i) : upd L i g = L.set r (g L[r]) := by
  apply List.ext_getElem
  · simp [upd]
  · intro j h1 h2
    simp only [upd, List.getElem_map, List.getElem_set]
    simp only [upd, List.length_map] at h1
    unfold one
    by_cases hj : r = j
    · subst hj; rw [if_pos e, if_pos rfl]
    · rw [if_neg hj, if_neg (fun e' => hj (h.idx hr h1 (by rw [e, e'])))]
theorem ne_at : ∀ {L : List K} (h : Up L) {i : Int} {r : Nat} (hr : r < L.length) (e : L[r].id = i), L.filter (fun k => decide (k.id ≠ i)) = L.take r ++ L.drop (r + 1)
  | [], h, i, r, hr, e => by simp at hr
  | a :: L, h, i, 0, hr, e => by
    rw [Up, List.pairwise_cons] at h
    have ha : a.id = i := by simpa using e
    rw [List.filter_cons, if_neg (by simp [ha])]
    simp only [List.take_zero, List.nil_append, List.drop_succ_cons, List.drop_zero]
    rw [List.filter_eq_self]
    intro x hx
    have := h.1 x hx
    simp
    omega
  | a :: L, h, i, r + 1, hr, e => by
    rw [Up, List.pairwise_cons] at h
    have hr' : r < L.length := by simpa using hr
    have e' : L[r].id = i := by simpa using e
    have ha : a.id ≠ i := by have := h.1 _ (List.getElem_mem hr'); omega
    rw [List.filter_cons, if_pos (by simp [ha]), ne_at h.2 hr' e']
    simp
theorem one_id {i : Int} {g : K → K} (hg : ∀ k, (g k).id = k.id) (k : K) : (one i g k).id = k.id := by
  unfold one
  split
  · exact hg k
  · rfl
theorem Up.upd {L : List K} (h : Up L) {i : Int} {g : K → K} (hg : ∀ k, (g k).id = k.id) : Up (upd L i g) := by
  unfold Up Cl.upd
  rw [List.pairwise_map]
  exact List.Pairwise.imp (fun {a b} hab => by rw [one_id hg, one_id hg]; exact hab) h
theorem get_upd (L : List K) {i : Int} {g : K → K} (hg : ∀ k, (g k).id = k.id) (j : Int) : get (upd L i g) j = if j = i then (get L i).map g else get L j := by
  unfold get upd
  rw [List.find?_map]
  have hf : ((fun k : K => decide (k.id = j)) ∘ one i g) = (fun k => decide (k.id = j)) := by
    funext k
    simp only [Function.comp_apply, one_id hg]
  rw [hf]
  by_cases hj : j = i
  · subst hj
    rw [if_pos rfl]
    cases hq : L.find? (fun k => decide (k.id = j)) with
    | none => rfl
    | some k =>
      have := List.find?_some hq
      simp only [decide_eq_true_eq] at this
      simp [one, this]
  · rw [if_neg hj]
    cases hq : L.find? (fun k => decide (k.id = j)) with
    | none => rfl
    | some k =>
      have := List.find?_some hq
      simp only [decide_eq_true_eq] at this
      simp [one, this, hj]
/-- Still open. -/
theorem opn_upd (L : List K) {i : Int} {g : K → K} (hg : ∀ k, (g k).st = k.st) : opn (upd L i g) = upd (opn L) i g := by
  unfold opn upd
  rw [List.filter_map]
  congr 1
  apply List.filter_congr
  intro k _
  unfold op one
  simp only [Function.comp_apply]
  split
  · rw [hg]
  · rfl
/-- No more open. -/
theorem opn_shut : ∀ (L : List K) {i : Int} {g : K → K} (hg : ∀ k, (g k).st ≠ 1), opn (upd L i g) = (opn L).filter (fun k => decide (k.id ≠ i))
  | [], i, g, hg => rfl
  | a :: L, i, g, hg => by
    have ih := opn_shut L (i := i) hg
    unfold opn upd at ih ⊢
    rw [List.map_cons, List.filter_cons, List.filter_cons, ih]
    by_cases ha : a.id = i
    · have h1 : op (one i g a) = false := by unfold op one; rw [if_pos ha]; simp [hg]
      rw [h1]
      cases h2 : op a
      · rfl
      · rw [if_pos rfl, List.filter_cons]
        simp [ha]
    · have h1 : one i g a = a := by unfold one; rw [if_neg ha]
      rw [h1]
      cases h2 : op a
      · rfl
      · rw [if_pos rfl, if_pos rfl, List.filter_cons]
        simp [ha]
theorem mem_upd {L : List K} {i : Int} {g : K → K} {k : K} : k ∈ upd L i g ↔ ∃ a ∈ L, one i g a = k := by unfold upd; rw [List.mem_map]

/-- How the program's calls stand for these; R: those that are being sent. -/
structure Rel (me next : Int) (O : List W) (P : List E) (f : Int → Option (Int × ByteArray)) (n : Nat) (L : List K) (R : List Int) : Prop where
  o : O = (opn L).map (wt me)
  p : ∀ e : E, e ∈ P ↔ ∃ k ∈ opn L, (⟨k.id, k.due⟩ : E) = e ∧ k.id ∉ R
  f : ∀ i, f i = en L i
  l : Gd next L
  n : (n : Int) + (opn L).length ≤ next
  me : 0 ≤ me ∧ me ≤ 63
  nx : 0 ≤ next ∧ next ≤ 2147483647
  r : ∀ i ∈ R, ∃ k ∈ opn L, k.id = i
def fup (f : Int → Option (Int × ByteArray)) (i : Int) (v : Option (Int × ByteArray)) : Int → Option (Int × ByteArray) := fun j => if j = i then v else f j

theorem len_sub : ∀ (P : List E) (Q : List Int), M.U P → (∀ e ∈ P, e.i ∈ Q) → P.length ≤ Q.length
  | [], Q, _, _ => by simp
  | e :: P, Q, hu, h => by
    unfold M.U at hu
    rw [List.pairwise_cons] at hu
    have he := h e List.mem_cons_self
    have := len_sub P (Q.erase e.i) hu.2 (fun x hx => (List.mem_erase_of_ne (hu.1 x hx).symm).2 (h x (List.mem_cons_of_mem _ hx)))
    rw [List.length_erase_of_mem he] at this
    have hq : 0 < Q.length := List.length_pos_of_mem he
    simp
    omega
section
variable {me next : Int} {O : List W} {P : List E} {f : Int → Option (Int × ByteArray)} {n : Nat} {L : List K} {R : List Int}
theorem Rel.len (h : Rel me next O P f n L R) : O.length = (opn L).length := by rw [h.o, List.length_map]
theorem Rel.len64 (h : Rel me next O P f n L R) : O.length ≤ 64 := by rw [h.len]; exact h.l.n
theorem Rel.at (h : Rel me next O P f n L R) {r : Nat} (hr : r < O.length) : ∃ hr' : r < (opn L).length, O[r] = wt me (opn L)[r] := by
  have e := h.o
  subst e
  refine ⟨by simpa using hr, by simp⟩
theorem Rel.up (h : Rel me next O P f n L R) : O.Pairwise (fun a b => a.id < b.id) := by
  rw [h.o, List.pairwise_map]
  exact h.l.s.opn
/-- The open call that stands at r. -/
theorem Rel.found (h : Rel me next O P f n L R) {r : Nat} (hr : r < O.length) {i : Int} (e : O[r].id = i) : ∃ k, get L i = some k ∧ k ∈ opn L ∧ k.id = i ∧ O[r] = wt me k ∧ KOk next k ∧ k.st = 1 ∧ ∃ hr' : r < (opn L).length, (opn L)[r] = k := by
  obtain ⟨hr', hw⟩ := h.at hr
  have hm : (opn L)[r] ∈ opn L := List.getElem_mem hr'
  have hi : (opn L)[r].id = i := by rw [hw] at e; exact e
  refine ⟨(opn L)[r], ?_, hm, hi, hw, h.l.k _ (mem_opn.1 hm).1, (mem_opn.1 hm).2, hr', rfl⟩
  rw [← hi]
  exact get_mem h.l.s (mem_opn.1 hm).1
theorem Rel.place (h : Rel me next O P f n L R) {k : K} (hk : k ∈ opn L) : ∃ r, ∃ hr : r < O.length, O[r].id = k.id := by
  obtain ⟨r, hr, rfl⟩ := List.getElem_of_mem hk
  refine ⟨r, by rw [h.len]; exact hr, ?_⟩
  obtain ⟨_, hw⟩ := h.at (r := r) (by rw [h.len]; exact hr)
  rw [hw]
  rfl
theorem Rel.shutOf (h : Rel me next O P f n L R) {i : Int} (ho : ∀ w ∈ O, w.id ≠ i) {k : K} (hg : get L i = some k) : op k = false := by
  cases hop : op k with
  | false => rfl
  | true =>
    obtain ⟨h1, h2⟩ := get_some hg
    have hk : k ∈ opn L := by unfold opn; rw [List.mem_filter]; exact ⟨h1, hop⟩
    obtain ⟨r, hr, e⟩ := h.place hk
    exact absurd (e.trans h2) (ho _ (List.getElem_mem hr))
theorem Rel.plen (h : Rel me next O P f n L R) (hg : M.G P) : P.length ≤ (opn L).length := by
  have := len_sub P (nums L) hg.u (fun e he => by
    obtain ⟨k, hk, rfl, _⟩ := (h.p e).1 he
    exact List.mem_map.2 ⟨k, hk, rfl⟩)
  unfold nums at this
  rwa [List.length_map] at this
theorem Rel.plen1 (h : Rel me next O P f n L R) (hg : M.G P) {i : Int} (hi : i ∈ R) : P.length < (opn L).length ∧ ∀ e ∈ P, e.i ≠ i := by
  have hne : ∀ e ∈ P, e.i ≠ i := fun e he => by
    obtain ⟨k, hk, rfl, hr⟩ := (h.p e).1 he
    intro e'
    simp only at e'
    rw [e'] at hr
    exact hr hi
  obtain ⟨k, hk, hki⟩ := h.r i hi
  have hin : i ∈ nums L := List.mem_map.2 ⟨k, hk, hki⟩
  have := len_sub P ((nums L).erase i) hg.u (fun e he => by
    obtain ⟨k, hk, rfl, _⟩ := (h.p e).1 he
    exact (List.mem_erase_of_ne (hne _ he)).2 (List.mem_map.2 ⟨k, hk, rfl⟩))
  rw [List.length_erase_of_mem hin] at this
  have hp : 0 < (nums L).length := List.length_pos_of_mem hin
  have hl : (nums L).length = (opn L).length := by unfold nums; rw [List.length_map]
  exact ⟨by omega, hne⟩
theorem mem_stop {l : List E} {k : Int} {e : E} : e ∈ M.stop l k ↔ e ∈ l ∧ e.i ≠ k := by
  unfold M.stop
  rw [List.mem_filter]
  simp
/-- A call is no more open. -/
theorem Rel.shut (h : Rel me next O P f n L R) {r : Nat} (hr : r < O.length) {i : Int} (e : O[r].id = i) (R' : List Int) (hR : ∀ j, j ∈ R' ↔ j ∈ R ∧ j ≠ i) {g : K → K} (hi : ∀ k, (g k).id = k.id) (hs : ∀ k, (g k).st ≠ 1) (hok : ∀ k, get L i = some k → KOk next (g k)) {k : K} (hk : get L i = some k) :
    Rel me next (O.take r ++ O.drop (r + 1)) (M.stop P i) (fup f i (some ((g k).st, (g k).reply))) (n + 1) (upd L i g) R' := by
  obtain ⟨k', hg, hm, hki, hw, ok, hst, hr', hk'⟩ := h.found hr e
  rw [hk] at hg
  cases hg
  have hne := ne_at h.l.s.opn (i := i) hr' (by rw [hk']; exact hki)
  have hopn := opn_shut L (i := i) hs
  have hlen : (opn (upd L i g)).length + 1 = (opn L).length := by rw [hopn, hne]; simp; omega
  refine ⟨?_, fun x => ?_, fun j => ?_, ⟨h.l.s.upd hi, fun x hx => ?_, by have := h.l.n; omega⟩, by have := h.n; omega, h.me, h.nx, fun j hj => ?_⟩
  · rw [hopn, hne, List.map_append, List.map_take, List.map_drop, ← h.o]
  · rw [mem_stop, h.p, hopn]
    constructor
    · rintro ⟨⟨a, ha, rfl, hr⟩, hx⟩
      exact ⟨a, List.mem_filter.2 ⟨ha, by simpa using hx⟩, rfl, fun hj => hr ((hR _).1 hj).1⟩
    · rintro ⟨a, ha, rfl, hr⟩
      rw [List.mem_filter] at ha
      have hne : a.id ≠ i := by simpa using ha.2
      exact ⟨⟨a, ha.1, rfl, fun hj => hr ((hR _).2 ⟨hj, hne⟩)⟩, hne⟩
  · unfold fup en
    rw [get_upd L hi]
    by_cases hj : j = i
    · subst hj
      rw [if_pos rfl, if_pos rfl, hk]
      simp [op, hs]
    · rw [if_neg hj, if_neg hj]
      exact h.f j
  · obtain ⟨a, ha, rfl⟩ := mem_upd.1 hx
    unfold one
    by_cases hai : a.id = i
    · rw [if_pos hai]
      exact hok a (by rw [← hai]; exact get_mem h.l.s ha)
    · rw [if_neg hai]
      exact h.l.k a ha
  · obtain ⟨h1, h2⟩ := (hR j).1 hj
    obtain ⟨a, ha, hai⟩ := h.r j h1
    exact ⟨a, by rw [hopn, List.mem_filter]; exact ⟨ha, by simp; omega⟩, hai⟩
theorem sendK_ok {k : K} {now : Int} (h : KOk next k) (hs : k.sent < 8) (hn : 0 ≤ now ∧ now ≤ 1099511626776) : KOk next (sendK now k) := by
  have := wait_rng k.sent
  exact ⟨h.i0, h.i1, by have := h.s0; simp [sendK]; omega, by simp [sendK]; omega, by simp [sendK]; omega, by simp [sendK]; omega, h.t0, h.t1, h.b, h.r, h.st, h.e⟩
theorem goneK_ok {k : K} (h : KOk next k) (hk : k.st = 1) : KOk next (goneK k) :=
  ⟨h.i0, h.i1, h.s0, h.s1, h.d0, h.d1, h.t0, h.t1, h.b, h.r, .inr (.inr rfl), fun _ => h.e (by omega)⟩
theorem ansK_ok {k : K} {s : ByteArray} (h : KOk next k) (hs : s.size ≤ 140737488351232) : KOk next (ansK s k) :=
  ⟨h.i0, h.i1, h.s0, h.s1, h.d0, h.d1, h.t0, h.t1, h.b, hs, .inr (.inl rfl), fun e => absurd rfl e⟩
/-- A call is sent. -/
theorem Rel.sent (h : Rel me next O P f n L R) (hg : M.G P) {r : Nat} (hr : r < O.length) {i : Int} (e : O[r].id = i) (hi : i ∈ R) (R' : List Int) (hR : ∀ j, j ∈ R' ↔ j ∈ R ∧ j ≠ i) {now : Int} (hn : 0 ≤ now ∧ now ≤ 1099511626776) {k : K} (hk : get L i = some k) (hs : k.sent < 8) :
    Rel me next (O.set r (wt me (sendK now k))) (M.setL P i (now + wait k.sent)) f n (upd L i (sendK now)) R' := by
  obtain ⟨k', hgk, hm, hki, hw, ok, hst, hr', hk'⟩ := h.found hr e
  rw [hk] at hgk
  cases hgk
  have hopn := opn_upd L (i := i) (g := sendK now) (fun _ => rfl)
  obtain ⟨hpl, hpn⟩ := h.plen1 hg hi
  have hst2 : M.stop P i = P := M.stop_none hpn
  have hwr := wait_rng k.sent
  have hset : M.setL P i (now + wait k.sent) = M.ins P ⟨i, now + wait k.sent⟩ := by
    have := (M.set_ok (l := P) (k := i) (a := now + wait k.sent) (by have := ok.i0; unfold M.bad; simp; omega) (by rw [hst2]; have := h.l.n; omega)).1
    rw [this, hst2]
  have hat : (opn L)[r].id = i := by rw [hk']; exact hki
  have hlen : (opn (upd L i (sendK now))).length = (opn L).length := by rw [hopn]; unfold upd; rw [List.length_map]
  refine ⟨?_, fun x => ?_, fun j => ?_, ⟨h.l.s.upd (fun _ => rfl), fun x hx => ?_, by rw [hlen]; exact h.l.n⟩, by rw [hlen]; exact h.n, h.me, h.nx, fun j hj => ?_⟩
  · rw [hopn, upd_at h.l.s.opn _ hr' hat, List.map_set, ← h.o, hk']
  · rw [hset, M.mem_ins, h.p, hopn]
    constructor
    · rintro (rfl | ⟨a, ha, rfl, hr⟩)
      · refine ⟨sendK now k, mem_upd.2 ⟨k, hm, by unfold one; rw [if_pos hki]⟩, ?_, fun hj => ?_⟩
        · simp only [sendK, hki]
        · exact ((hR _).1 hj).2 hki
      · have hne : a.id ≠ i := fun e' => hr (by rw [e']; exact hi)
        exact ⟨a, mem_upd.2 ⟨a, ha, by unfold one; rw [if_neg hne]⟩, rfl, fun hj => hr ((hR _).1 hj).1⟩
    · rintro ⟨x', hx', rfl, hr⟩
      obtain ⟨a, ha, rfl⟩ := mem_upd.1 hx'
      by_cases hai : a.id = i
      · have : a = k := h.l.s.opn.inj ha hm (by rw [hai, hki])
        subst this
        left
        unfold one
        rw [if_pos hai]
        simp only [sendK, hki]
      · right
        have e1 : one i (sendK now) a = a := by unfold one; rw [if_neg hai]
        rw [e1] at hr ⊢
        exact ⟨a, ha, rfl, fun hj => hr ((hR _).2 ⟨hj, hai⟩)⟩
  · rw [h.f j]
    unfold en
    rw [get_upd L (g := sendK now) (fun _ => rfl)]
    by_cases hj : j = i
    · subst hj
      rw [if_pos rfl, hk]
      have : op k = true := by unfold op; simp [hst]
      have h2 : op (sendK now k) = true := by unfold op sendK; simp [hst]
      simp [this, h2]
    · rw [if_neg hj]
  · obtain ⟨a, ha, rfl⟩ := mem_upd.1 hx
    unfold one
    by_cases hai : a.id = i
    · rw [if_pos hai]
      have h3 := get_mem h.l.s ha
      rw [hai, hk] at h3
      cases h3
      exact sendK_ok (h.l.k _ ha) hs hn
    · rw [if_neg hai]
      exact h.l.k a ha
  · obtain ⟨h1, h2⟩ := (hR j).1 hj
    obtain ⟨a, ha, hai⟩ := h.r j h1
    exact ⟨a, by rw [hopn]; exact mem_upd.2 ⟨a, ha, by unfold one; rw [if_neg (by omega)]⟩, hai⟩
/-- Those that are due are taken. -/
theorem Rel.due (h : Rel me next O P f n L []) (now : Int) : Rel me next O (M.dueL P now) f n L (M.dueI P now) := by
  have hin : ∀ j, j ∈ M.dueI P now ↔ ∃ k ∈ opn L, k.id = j ∧ k.due ≤ now := by
    intro j
    unfold M.dueI
    rw [List.mem_map]
    constructor
    · rintro ⟨x, hx, rfl⟩
      rw [List.mem_filter] at hx
      obtain ⟨k, hk, rfl, _⟩ := (h.p x).1 hx.1
      exact ⟨k, hk, rfl, by simpa using hx.2⟩
    · rintro ⟨k, hk, rfl, hd⟩
      exact ⟨⟨k.id, k.due⟩, List.mem_filter.2 ⟨(h.p _).2 ⟨k, hk, rfl, by simp⟩, by simpa using hd⟩, rfl⟩
  refine ⟨h.o, fun x => ?_, h.f, h.l, h.n, h.me, h.nx, fun i hi => ?_⟩
  · unfold M.dueL
    rw [List.mem_filter, h.p]
    constructor
    · rintro ⟨⟨k, hk, rfl, _⟩, hd⟩
      refine ⟨k, hk, rfl, fun hj => ?_⟩
      obtain ⟨k', hk', he, hd'⟩ := (hin _).1 hj
      have := h.l.s.opn.inj hk' hk he
      subst this
      simp at hd
      omega
    · rintro ⟨k, hk, rfl, hj⟩
      refine ⟨⟨k, hk, rfl, by simp⟩, ?_⟩
      have : ¬ k.due ≤ now := fun hd => hj ((hin _).2 ⟨k, hk, rfl, hd⟩)
      simpa using this
  · obtain ⟨k, hk, he, _⟩ := (hin i).1 hi
    exact ⟨k, hk, he⟩
/-- A call is made. -/
def newK (next whom now : Int) (body : ByteArray) : K := ⟨next, whom, 1, 0, now, body, ⟨#[]⟩⟩
theorem opn_new (L : List K) (next whom now : Int) (body : ByteArray) : opn (L ++ [newK next whom now body]) = opn L ++ [newK next whom now body] := by
  unfold opn
  rw [List.filter_append]
  rfl
theorem KOk.up {k : K} (h : KOk next k) : KOk (next + 1) k := ⟨h.i0, by have := h.i1; omega, h.s0, h.s1, h.d0, h.d1, h.t0, h.t1, h.b, h.r, h.st, h.e⟩
theorem Rel.call (h : Rel me next O P f n L []) (hg : M.G P) {whom now : Int} {body : ByteArray} (hc : ccode O.length next whom body.size now = 0) :
    Rel me (next + 1) (O ++ [⟨me, whom, next, 0, body⟩]) (M.setL P next now) f n (L ++ [newK next whom now body]) [] := by
  have hcc : ¬ (whom < 0 ∨ 63 < whom ∨ moment now = false) ∧ ¬ (4096 < (body.size : Int)) ∧ ¬ (64 ≤ O.length ∨ 2147483647 ≤ next) := by
    unfold ccode at hc
    split at hc
    · omega
    · rename_i h1
      split at hc
      · omega
      · rename_i h2
        split at hc
        · omega
        · rename_i h3
          exact ⟨h1, h2, h3⟩
  obtain ⟨h1, h2, h3⟩ := hcc
  have hmo : moment now = true := by
    cases hm : moment now
    · exact absurd (.inr (.inr hm)) h1
    · rfl
  obtain ⟨m0, m1⟩ := moment_iff.1 hmo
  have hnx := h.nx
  have hidlt : ∀ k ∈ L, k.id < next := fun k hk => (h.l.k k hk).i1
  have hpn : ∀ e ∈ P, e.i ≠ next := fun e he => by
    obtain ⟨k, hk, rfl, _⟩ := (h.p e).1 he
    have := hidlt k (mem_opn.1 hk).1
    simp only
    omega
  have hst2 : M.stop P next = P := M.stop_none hpn
  have hpl := h.plen hg
  have hlen := h.len
  have hset : M.setL P next now = M.ins P ⟨next, now⟩ := by
    have := (M.set_ok (l := P) (k := next) (a := now) (by unfold M.bad; simp; omega) (by rw [hst2]; omega)).1
    rw [this, hst2]
  have hopn := opn_new L next whom now body
  refine ⟨?_, fun x => ?_, fun j => ?_, ⟨?_, fun x hx => ?_, ?_⟩, ?_, h.me, by omega, fun j hj => by simp at hj⟩
  · rw [hopn, List.map_append, ← h.o]
    rfl
  · rw [hset, M.mem_ins, h.p, hopn]
    constructor
    · rintro (rfl | ⟨a, ha, rfl, _⟩)
      · exact ⟨newK next whom now body, by simp, rfl, by simp⟩
      · exact ⟨a, List.mem_append_left _ ha, rfl, by simp⟩
    · rintro ⟨a, ha, rfl, _⟩
      rw [List.mem_append] at ha
      rcases ha with ha | ha
      · exact .inr ⟨a, ha, rfl, by simp⟩
      · simp only [List.mem_singleton] at ha
        subst ha
        exact .inl rfl
  · rw [h.f j]
    unfold en get
    rw [List.find?_append]
    cases hq : L.find? (fun k => decide (k.id = j)) with
    | some k => rfl
    | none =>
      simp only [Option.none_or, List.find?_cons, newK]
      by_cases hj : next = j
      · simp [hj, op]
      · simp [hj]
  · unfold Up
    rw [List.pairwise_append]
    refine ⟨h.l.s, by simp, fun a ha b hb => ?_⟩
    simp only [List.mem_singleton] at hb
    subst hb
    exact hidlt a ha
  · rw [List.mem_append] at hx
    rcases hx with hx | hx
    · exact (h.l.k x hx).up
    · simp only [List.mem_singleton] at hx
      subst hx
      exact ⟨hnx.1, by simp only [newK]; omega, by simp [newK], by simp [newK], m0, by simp only [newK]; omega, by simp only [newK]; omega, by simp only [newK]; omega, by simp only [newK]; omega, by simp only [newK]; exact Nat.zero_le _, .inl rfl, fun _ => rfl⟩
  · rw [hopn, List.length_append]
    simp
    omega
  · have := h.n
    rw [hopn, List.length_append]
    simp
    omega
theorem Rel.new (me first : Int) : Rel (node me) (start first) [] [] (fun _ => none) 0 [] [] :=
  ⟨rfl, fun e => by simp [opn], fun _ => rfl, ⟨List.Pairwise.nil, by simp, by simp [opn]⟩, by have := start_rng first; simp [opn]; omega, node_rng me, by have := start_rng first; omega, by simp⟩
theorem en_none {i : Int} {k : K} (hg : get L i = some k) (ho : op k = false) : en L i = some (k.st, k.reply) := by unfold en; rw [hg]; simp [ho]
/-- A call is forgotten. -/
theorem Rel.forget (h : Rel me next O P f n L []) (i : Int) : Rel me next O P (fup f i none) n (fgt L i) [] := by
  unfold fgt
  cases he : en L i with
  | none =>
    simp only [Option.isSome_none, Bool.false_eq_true, if_false]
    refine ⟨h.o, h.p, fun j => ?_, h.l, h.n, h.me, h.nx, h.r⟩
    unfold fup
    by_cases hj : j = i
    · rw [if_pos hj, hj, he]
    · rw [if_neg hj]; exact h.f j
  | some v =>
    simp only [Option.isSome_some, if_true]
    have hno : ∀ k ∈ L, k.st = 1 → k.id ≠ i := fun k hk hs e => by
      have := get_mem h.l.s hk
      rw [e] at this
      unfold en at he
      rw [this] at he
      simp [op, hs] at he
    have hopn : opn (L.filter (fun k => decide (k.id ≠ i))) = opn L := by
      unfold opn
      rw [List.filter_filter]
      apply List.filter_congr
      intro k hk
      cases ho : op k
      · rfl
      · have := hno k hk (by simpa [op] using ho)
        simp [this]
    refine ⟨by rw [hopn]; exact h.o, by rw [hopn]; exact h.p, fun j => ?_, ⟨List.Pairwise.filter _ h.l.s, fun k hk => h.l.k k (List.mem_filter.1 hk).1, by rw [hopn]; exact h.l.n⟩, by rw [hopn]; exact h.n, h.me, h.nx, by rw [hopn]; exact h.r⟩
    unfold fup
    by_cases hj : j = i
    · subst hj
      rw [if_pos rfl]
      unfold en
      cases hq : get (L.filter (fun k => decide (k.id ≠ j))) j with
      | none => rfl
      | some k =>
        obtain ⟨h1, h2⟩ := get_some hq
        have := (List.mem_filter.1 h1).2
        simp [h2] at this
    · rw [if_neg hj, h.f j]
      unfold en get
      rw [List.find?_filter]
      have : (fun a : K => decide (decide (a.id ≠ i) = true ∧ decide (a.id = j) = true)) = (fun k => decide (k.id = j)) := by
        funext k
        by_cases hk : k.id = j
        · simp [hk, hj]
        · simp [hk]
      rw [this]
end
end Go.Proofs.Ytbgbdiiinggjnaa.Cl
