/-
  A file's calls: Put, Uses.
-/
import Derived.Test.YtajgjkkggppbiaaP
namespace Go.Proofs.Ytajgjkkggppbiaa
open Go.RowKit
set_option linter.unusedVariables false
open M (E)

theorem prp_ok {e : E} (h : prp e = true) : M.Ok e ∧ e.f ≤ 1073741824 := by
  simp [prp] at h
  exact ⟨⟨by omega, by omega, by omega, by omega, by omega, by omega⟩, by omega⟩
/-- What Put leaves. -/
def putF (P : List E) (e : E) (i : Int) : Option (Int × Int) := if prp e = true ∧ e.a ≤ i ∧ i < e.a + e.n then some (e.d, e.f + (i - e.a)) else M.rep P i
set_option maxRecDepth 100000 in
set_option maxHeartbeats 2000000 in
theorem put_any (base b : Nat) (v : Value) (P : List E) (e : E) (w : World) (h : XI w base b v P) (hbw : base ≤ w.heap.size) (ha : e.a ≤ 9223372036854775807) :
    Calls Try.prog 19 #[.pointer (some ⟨b, 0, none⟩), EV e] w fun x w' => x = .returned (.int .i64 (if prp e then 0 else 1)) ∧ XOut w base b v (putF P e) w' := by
  obtain ⟨W1, HW1⟩ : ∃ W1, Hid (w.alloc (.cells #[.int .i64 e.a, .int .i64 e.n, .int .i64 e.d, .int .i64 e.f] 32) = W1) := ⟨_, rfl⟩
  have HB1 : Hid (Below w.heap.size w W1) := by rw [← HW1.out]; exact bel1 w _
  have hs1 : W1.heap.size = w.heap.size + 1 := by rw [← HW1.out]; simp
  have hrow : W1.heap[w.heap.size]? = some (.cells #[.int .i64 e.a, .int .i64 e.n, .int .i64 e.d, .int .i64 e.f] 32 (0, 0)) := by rw [← HW1.out]; exact heap_alloc_last w _
  have hpr := proper_any e.a e.n e.d e.f W1 ha
  have HPE : Hid (prp ⟨e.a, e.n, e.d, e.f⟩ = prp e) := rfl
  rw [HPE.out] at hpr
  have hEV : EV e = .agg #[.int .i64 e.a, .int .i64 e.n, .int .i64 e.d, .int .i64 e.f] := rfl
  have HS : Hid (∀ w', Below W1.heap.size W1 w' → w'.cell? ⟨w.heap.size, 0, none⟩ = some (.int .i64 e.a) ∧ w'.cell? ⟨w.heap.size, 1, none⟩ = some (.int .i64 e.n) ∧ w'.cell? ⟨w.heap.size, 2, none⟩ = some (.int .i64 e.d) ∧ w'.cell? ⟨w.heap.size, 3, none⟩ = some (.int .i64 e.f)) := fun w' hb' => row4 ((hb'.block _ (by omega)).trans hrow)
  have HX : Hid (∀ w', Below W1.heap.size W1 w' → XI w' base b v P) := fun w' hb' => (h.keep HB1.out).keep hb'
  have HB : Hid (∀ w', Below W1.heap.size W1 w' → Below w.heap.size w w') := fun w' hb' => bel_up HB1.out hb' (Nat.le_refl _)
  cases hp : prp e
  · rw [hp] at hpr
    have HK : Hid (∀ w', Below W1.heap.size W1 w' → XOut w base b v (putF P e) w') := by
      intro w' hb'
      obtain ⟨v', P', x1, x2, x3⟩ := XOut.same h (HB.out w' hb')
      exact ⟨v', P', x1, fun i => by rw [x2]; unfold putF; rw [hp]; simp, x3⟩
    rw [hEV]
    clear hEV HS HX HB hrow HPE hp
    generalize e.a = pa at *
    generalize e.n = pn at *
    generalize e.d = pd at *
    generalize e.f = pf at *
    go_enter Try.func19, Try.ntmps19
    go_wp2_with fail
    rw [HW1.out]
    refine hpr.mono ?_
    rintro x w2 ⟨rfl, hb2⟩
    have HK2 := Hid_of (HK.out w2 hb2)
    clear HK hb2 hpr HW1
    go_wp2
    go_ret
    exact ⟨rfl, HK2.out⟩
  · rw [hp] at hpr
    obtain ⟨hok, hf30⟩ := prp_ok hp
    have hsm := sm_of_ok hok
    have hend := fun w' => ending_any e.a e.n e.d e.f w' hsm.1 hsm.2.1
    have hlay := fun w' (hb' : Below W1.heap.size W1 w') => lay_any base b v P e.a (e.a + e.n) e w' (HX.out w' hb') (by have := (HB.out w' hb').size; omega) hok.1 (by have := hok.2.1; omega) hok.2.2.1 (.inr ⟨hok, rfl, rfl⟩) hsm
    have HK : Hid (∀ w2 w3, Below W1.heap.size W1 w2 → LayOut w2 base b v (fun i => if e.a ≤ i ∧ i < e.a + e.n then M.rep [e] i else M.rep P i) (.returned (.tuple #[])) w3 → XOut w base b v (putF P e) w3 ∧ (w3.cell? ⟨w.heap.size, 0, none⟩ = some (.int .i64 e.a) ∧ w3.cell? ⟨w.heap.size, 1, none⟩ = some (.int .i64 e.n) ∧ w3.cell? ⟨w.heap.size, 2, none⟩ = some (.int .i64 e.d) ∧ w3.cell? ⟨w.heap.size, 3, none⟩ = some (.int .i64 e.f))) := by
      rintro w2 w3 hb2 ⟨_, v', P', x1, x2, x3⟩
      have hw2 := HB.out w2 hb2
      refine ⟨⟨v', P', x1, fun i => ?_, (Ch.ofBelow hw2).trans x3⟩, row4 ((x3.block w.heap.size (by have := hb2.size; omega) (by have := h.lt; omega) (fun e' => by have := (h.own.lt _ e').2; omega)).trans ((hb2.block _ (by omega)).trans hrow))⟩
      rw [x2]
      unfold putF
      show (if e.a ≤ i ∧ i < e.a + e.n then M.rep [e] i else M.rep P i) = _
      by_cases hi : e.a ≤ i ∧ i < e.a + e.n
      · rw [if_pos hi, if_pos ⟨hp, hi⟩, M.rep_pos e i hi]
      · rw [if_neg hi, if_neg (fun hh => hi hh.2)]
    have HLY : Hid (∀ w', Below W1.heap.size W1 w' → Calls Try.prog 34 #[.pointer (some ⟨b, 0, none⟩), .int .i64 e.a, .int .i64 (e.a + e.n), .agg #[.int .i64 e.a, .int .i64 e.n, .int .i64 e.d, .int .i64 e.f]] w' (LayOut w' base b v (fun i => if e.a ≤ i ∧ i < e.a + e.n then M.rep [e] i else M.rep P i))) := hlay
    rw [hEV]
    obtain ⟨FF, hFF⟩ : ∃ FF, (fun i => if e.a ≤ i ∧ i < e.a + e.n then M.rep [e] i else M.rep P i) = FF := ⟨_, rfl⟩
    rw [hFF] at HK HLY
    obtain ⟨F2, hF2⟩ : ∃ F2, putF P e = F2 := ⟨_, rfl⟩
    rw [hF2] at HK ⊢
    clear hEV HX HB hrow HPE hp hok hsm hlay hFF hF2 hf30
    generalize e.a = pa at *
    generalize e.n = pn at *
    generalize e.d = pd at *
    generalize e.f = pf at *
    go_enter Try.func19, Try.ntmps19
    go_wp2_with fail
    rw [HW1.out]
    refine hpr.mono ?_
    rintro x w2 ⟨rfl, hb2⟩
    have HS2 : Hid (∀ w', Below w2.heap.size w2 w' → w'.cell? ⟨w.heap.size, 0, none⟩ = some (.int .i64 pa) ∧ w'.cell? ⟨w.heap.size, 1, none⟩ = some (.int .i64 pn) ∧ w'.cell? ⟨w.heap.size, 2, none⟩ = some (.int .i64 pd) ∧ w'.cell? ⟨w.heap.size, 3, none⟩ = some (.int .i64 pf)) := fun w' hb' => HS.out w' (bel_up hb2 hb' (Nat.le_refl _))
    obtain ⟨q0, q1, q2, q3⟩ := HS2.out w2 (Below.refl _ _)
    have HB2 : Hid (∀ w', Below w2.heap.size w2 w' → Below W1.heap.size W1 w') := fun w' hb' => bel_up hb2 hb' (Nat.le_refl _)
    clear HW1 hpr HS hb2
    go_wp2_with fail
    go_region_held3 (fun wq => wq.cell? ⟨w.heap.size, 0, none⟩ = some (.int .i64 pa) ∧ wq.cell? ⟨w.heap.size, 1, none⟩ = some (.int .i64 pn) ∧ wq.cell? ⟨w.heap.size, 2, none⟩ = some (.int .i64 pd) ∧ wq.cell? ⟨w.heap.size, 3, none⟩ = some (.int .i64 pf)) (first | exact HS2.out _ (Below.refl _ _) | exact HS2.out _ (Below.drew (Below.refl _ _)) | exact HS2.out _ (by assumption) | assumption) (first
      | (go_at_call 27; refine (hend _).mono ?_; rintro x w4 ⟨rfl, hb4⟩; have B4 : Below w2.heap.size w2 w4 := Below.trans (Below.drew (Below.refl _ _)) hb4; clear hb4)
      | (go_at_call 34; refine (HLY.out w4 (HB2.out w4 B4)).mono ?_; rintro x w5 hx5; obtain ⟨hk5, hs5⟩ := HK.out w4 w5 (HB2.out w4 B4) (by obtain ⟨rfl, hx5'⟩ := hx5; exact ⟨rfl, hx5'⟩); have HK5 := Hid_of hk5; obtain ⟨rfl, hx6⟩ := hx5; clear hx6 hk5))
    all_goals
      clear HS2 HB2 HK HLY hend q0 q1 q2 q3
      go_wp2
      go_ret
      exact ⟨rfl, HK5.out⟩

/-- How many bytes stand at an id. -/
def usesP (id : Int) : List E → Int
  | [] => 0
  | p :: r => (if p.d = id then p.n else 0) + usesP id r
theorem usesP_take (id : Int) (P : List E) (k : Nat) (h : k < P.length) : usesP id (P.take (k + 1)) = usesP id (P.take k) + (if P[k].d = id then P[k].n else 0) := by
  have key : ∀ (l q : List E), usesP id (l ++ q) = usesP id l + usesP id q := by
    intro l q
    induction l with
    | nil => simp [usesP]
    | cons p r ih => simp only [List.cons_append, usesP, ih]; omega
  rw [List.take_succ_eq_append_getElem h, key]
  simp only [usesP]
  omega
theorem usesP_bd (id : Int) : ∀ (P : List E), (∀ p ∈ P, M.Ok p) → 0 ≤ usesP id P ∧ usesP id P ≤ 16384 * P.length
  | [], _ => by simp [usesP]
  | p :: r, h => by
    have := usesP_bd id r fun q hq => h q (by simp [hq])
    obtain ⟨o1, o2, o3, _⟩ := h p (by simp)
    simp only [usesP, List.length_cons]
    split <;> omega
set_option maxRecDepth 100000 in
set_option maxHeartbeats 2000000 in
theorem uses_any (base b : Nat) (v : Value) (P : List E) (id : Int) (w : World) (h : XI w base b v P) :
    Calls Try.prog 12 #[.pointer (some ⟨b, 0, none⟩), .int .i64 id] w fun x w' => x = .returned (.int .i64 (usesP id P)) ∧ Below w.heap.size w w' := by
  obtain ⟨a, cap, hv, hat, hbk, hcap⟩ := owns_atE h.own
  have c0 := h.c0
  rw [hv] at c0
  have hlen := h.len
  have HG := Hid_of h.g
  have HAT : Hid (AtE w a P) := hat
  clear h hv hbk hat
  go_enter Try.func12, Try.ntmps12
  go_wp2
  go_loopw [5, 15] (fun c i wr => ∃ k : Nat, k ≤ P.length ∧ i = .int .i64 k ∧ c = .int .i64 (usesP id (P.take k)) ∧ Below w.heap.size w wr) (fun _ i _ => P.length - (intOf i).toNat)
  case atStart => exact ⟨0, by omega, rfl, rfl, Below.refl _ _⟩
  case round =>
    obtain ⟨k, hk, rfl, rfl, hbel⟩ := hrel
    by_cases hlt : k < P.length
    · obtain ⟨bb, off, rfl, d0, d1, d2, d3⟩ := (HAT.out.keep hbel) k hlt
      have HU : Hid (usesP id (P.take (k + 1)) = usesP id (P.take k) + (if P[k].d = id then P[k].n else 0)) := usesP_take id P k hlt
      have hbd := usesP_bd id (P.take (k + 1)) (fun p hp => HG.out.1 p (List.mem_of_mem_take hp))
      have hbd0 := usesP_bd id (P.take k) (fun p hp => HG.out.1 p (List.mem_of_mem_take hp))
      have hsz := hbel.size
      have HB : Hid (Below w.heap.size w (wr.alloc (.cells #[.int .i64 P[k].a, .int .i64 P[k].n, .int .i64 P[k].d, .int .i64 P[k].f] 32))) := hbel.alloc hsz _
      simp only [List.length_take] at hbd hbd0
      have hb1 : usesP id (P.take (k + 1)) ≤ 1000000000 := by omega
      clear HAT
      generalize P[k].a = pa at *
      generalize P[k].n = pn at *
      generalize P[k].d = pd at *
      generalize P[k].f = pf at *
      by_cases hd : pd = id
      · subst hd
        rw [if_pos rfl] at HU
        have hw : IntKind.i64.wrap (usesP pd (P.take k) + pn) = usesP pd (P.take k) + pn := by rw [← HU.out, IntKind.wrap_i64]; omega
        clear hbd hbd0 hb1
        generalize usesP pd (P.take k) = u0 at *
        go_wp2
        go_roundw
        case rel => exact ⟨k + 1, by omega, by go_num, by rw [HU.out], HB.out⟩
        case measure => simp [intOf]; omega
      · rw [if_neg hd, Int.add_zero] at HU
        have hdd : (pd == id) = false := by simpa using hd
        clear hbd hbd0 hb1
        generalize usesP id (P.take k) = u0 at *
        go_wp2
        go_roundw
        case rel => exact ⟨k + 1, by omega, by go_num, by rw [HU.out], HB.out⟩
        case measure => simp [intOf]; omega
    · have hkn : k = P.length := by omega
      subst hkn
      go_wp2
      go_ret
      rw [List.take_length]
      exact ⟨rfl, hbel⟩
end Go.Proofs.Ytajgjkkggppbiaa
