import Derived.Test.YtlnedgjikkhplaaGreatGP06
set_option maxRecDepth 100000
set_option maxHeartbeats 8000000
set_option linter.unusedVariables false
set_option linter.unusedSimpArgs false
namespace Go.Proofs.YtlnedgjikkhplaaGreat.Na
open Go.RowKit
open M (E V)
structure AS (w0 w : World) (F : Nat → Prop) (b : Nat) (a : M.S) : Prop where
 ai : ∃ v, F = fpa b v ∧ AI w w0.heap.size b v a
 bel : Below w0.heap.size w0 w
 ok : M.Ok a
section
variable {w0 w w' : World} {F G G' : Nat → Prop} {b : Nat} {a : M.S}
theorem AS.keep (h : AS w0 w F b a) (hb : Below w.heap.size w w') : AS w0 w' F b a := by
 obtain ⟨v, hF, hX⟩ := h.ai
 exact ⟨⟨v, hF, hX.keep hb⟩, Bu h.bel hb Lr, h.ok⟩
theorem AS.mine (h : AS w0 w F b a) : ∀ k, F k → w0.heap.size ≤ k ∧ k < w.heap.size := by
 obtain ⟨v, rfl, hX⟩ := h.ai
 exact hX.mine
theorem AS.step (h : AS w0 w F b a) (hF : Fr w G w' G') (hap : ∀ k, F k → ¬ G k) (hG : ∀ k, G k → w0.heap.size ≤ k) : AS w0 w' F b a ∧ ∀ k, F k → ¬ G' k := by
 have hm := h.mine
 obtain ⟨v, e, hX⟩ := h.ai
 refine ⟨⟨⟨v, e, hX.keepBut (fun k hk hk2 => hF.block k hk (hap k (by rw [e]; exact hk2)))⟩, h.bel.trans (hF.below hG h.bel.size), h.ok⟩, fun k hk hg => ?_⟩
 rcases hF.n k hg with h' | h'
 ·exact hap k hk h'
 ·have := (hm k hk).2; omega
theorem newA_any (w0 w : World) (hb : Below w0.heap.size w0 w) : Calls Tryz.prog 34 #[] w fun e w' => ∃ b F, e = .returned (.pointer (some ⟨b, 0, none⟩)) ∧ AS w0 w' F b M.S0 ∧ Below w.heap.size w w' ∧ ∀ k, F k → w.heap.size ≤ k :=
 (new_any w).mono fun e w' ⟨b, h1, h2, h3, h4⟩ => ⟨b, _, h1, ⟨⟨_, rfl, ⟨h2.row, h2.own.low hb.size, h2.ap, Nat.le_trans hb.size h2.lo⟩⟩, Bu hb h3 Lr, M.Ok.zero⟩, h3, fun k hk => (h2.mine k hk).1⟩
theorem AS.fr (h : AS w0 w F b a) (hF : Fr w F w' G) : Below w0.heap.size w0 w' := h.bel.trans (hF.below (fun k hk => (h.mine k hk).1) h.bel.size)
theorem AS.promise (h : AS w0 w F b a) (x : E) (k : Int) : Calls Tryz.prog 57 #[.pointer (some ⟨b, 0, none⟩), bV x, .int .i64 k] w fun e w' => ∃ ad c, e = .returned (.tuple #[.slice ad (M.prl a x k).length c, .bool (M.prb a x k)]) ∧ XL vl w' ad c (M.prl a x k) ∧ (∀ j, blk ad j → w.heap.size ≤ j ∧ j < w'.heap.size) ∧ AS w0 w' F b (M.prs a x k) ∧ Fr w F w' F := by
 have h0 := h
 obtain ⟨v, rfl, hX⟩ := h.ai
 refine (promise_any hX h.ok x k).mono ?_; rintro e w' ⟨u, h1, h2, h3, h4⟩
 obtain ⟨ad, c, rfl, hx, hbk⟩ := h2.at
 exact ⟨ad, c, h1, hx, fun j hj => ⟨(hbk j hj).1, (hbk j hj).2.2⟩, ⟨⟨v, rfl, h3⟩, h0.fr h4, M.prs_ok h.ok x k⟩, h4⟩
theorem AS.accept (h : AS w0 w F b a) (x : V) : Calls Tryz.prog 62 #[.pointer (some ⟨b, 0, none⟩), vV x] w fun e w' => ∃ G, e = .returned (.bool (M.acb a x)) ∧ AS w0 w' G b (M.acs a x) ∧ Fr w F w' G := by
 have h0 := h
 obtain ⟨v, rfl, hX⟩ := h.ai
 have key : Calls Tryz.prog 62 #[.pointer (some ⟨b, 0, none⟩), vV x] w (AcOut w w0.heap.size b v a x) := by
  cases hb : M.acb a x with
  | false => exact accept_no hX x hb
  | true => exact accept_yes hX h.bel.size h.ok x hb
 refine key.mono ?_; rintro e w' ⟨v', h1, h2, h3⟩
 exact ⟨_, h1, ⟨⟨v', rfl, h2⟩, h0.fr h3, M.acs_ok h.ok x⟩, h3⟩
theorem AS.trim (h : AS w0 w F b a) (u : Int) : Calls Tryz.prog 65 #[.pointer (some ⟨b, 0, none⟩), .int .i64 u] w fun e w' => ∃ G, e = .returned (.int .i64 (M.trn a u : Nat)) ∧ AS w0 w' G b (M.trs a u) ∧ Fr w F w' G := by
 have h0 := h
 obtain ⟨v, rfl, hX⟩ := h.ai
 refine (trim_any hX h.ok u).mono ?_; rintro e w' ⟨v', h1, h2, h3⟩
 exact ⟨_, h1, ⟨⟨v', rfl, h2⟩, h0.fr h3, M.trs_ok h.ok u⟩, h3⟩
theorem AS.promised (h : AS w0 w F b a) : Calls Tryz.prog 52 #[.pointer (some ⟨b, 0, none⟩)] w fun e w' => e = .returned (bV a.p) ∧ Below w.heap.size w w' := by
 obtain ⟨v, rfl, hX⟩ := h.ai
 exact promised_any hX
theorem AS.base (h : AS w0 w F b a) : Calls Tryz.prog 53 #[.pointer (some ⟨b, 0, none⟩)] w fun e w' => e = .returned (.int .i64 a.base) ∧ w' = w := by
 obtain ⟨v, rfl, hX⟩ := h.ai
 exact base_any hX
theorem AS.votes (h : AS w0 w F b a) (k : Int) : Calls Tryz.prog 54 #[.pointer (some ⟨b, 0, none⟩), .int .i64 k] w fun e w' => ∃ ad c, e = .returned (.slice ad (M.vts a.l k).length c) ∧ XL vl w' ad c (M.vts a.l k) ∧ (∀ j, blk ad j → w.heap.size ≤ j ∧ j < w'.heap.size) ∧ Below w.heap.size w w' := by
 obtain ⟨v, rfl, hX⟩ := h.ai
 refine (votes_any hX h.ok k).mono ?_; rintro e w' ⟨u, h1, h2, h3⟩
 obtain ⟨ad, c, rfl, hx, hbk⟩ := h2.at
 exact ⟨ad, c, h1, hx, fun j hj => ⟨(hbk j hj).1, (hbk j hj).2.2⟩, h3⟩
end
structure XB (w : World) (F : Nat → Prop) (ad : Option Addr) (c : Nat) (l : List V) : Prop where
 xl : XL vl w ad c l
 lt : ∀ k, blk ad k → k < w.heap.size
 ap : ∀ k, blk ad k → ¬ F k
theorem XB.step {w w' : World} {F G : Nat → Prop} {ad : Option Addr} {c : Nat} {l : List V} (h : XB w F ad c l) (hF : Fr w F w' G) : XB w' G ad c l :=
 ⟨h.xl.keepBut fun k hk hb => hF.block k hk (h.ap k hb), fun k hk => Nat.lt_of_lt_of_le (h.lt k hk) hF.size, fun k hk hG => by
  rcases hF.n k hG with h' | h'
  ·exact h.ap k hk h'
  ·have := h.lt k hk; omega⟩
theorem XB.up {w w' : World} {F : Nat → Prop} {ad : Option Addr} {c : Nat} {l : List V} (h : XB w F ad c l) (hb : Below w.heap.size w w') : XB w' F ad c l := h.step (Fr.ofBelow hb)
structure BX (w : World) (F : Nat → Prop) (g : Nat) (o : Obj) : Prop where
 row : w.heap[g]? = some o
 ap : ¬ F g
theorem BX.step {w w' : World} {F G : Nat → Prop} {g : Nat} {o : Obj} (h : BX w F g o) (hF : Fr w F w' G) : BX w' G g o := by
 have hl := (Array.getElem?_eq_some_iff.1 h.row).1
 refine ⟨(hF.block g hl h.ap).trans h.row, fun e => ?_⟩
 rcases hF.n g e with h' | h'
 ·exact h.ap h'
 ·omega
theorem BX.up {w w' : World} {F : Nat → Prop} {g : Nat} {o : Obj} (h : BX w F g o) (hb : Below w.heap.size w w') : BX w' F g o := h.step (Fr.ofBelow hb)
def veq (s i t : Int) (v : ByteArray) (s' i' t' : Int) (v' : ByteArray) : Bool := (s == s') && (((i == i') && (t == t')) && (v.toList == v'.toList))
theorem veq_refl (s i t : Int) (v : ByteArray) : veq s i t v s i t v = true := by simp [veq]
theorem equal33 (s i t : Int) (v : ByteArray) (s' i' t' : Int) (v' : ByteArray) (w : World) : (Op.equalIn 10000 48 (.agg #[.int .i64 s, .int .i64 i, .int .i64 t, .string v]) (.agg #[.int .i64 s', .int .i64 i', .int .i64 t', .string v'])).run Tryz.prog w = .ok (veq s i t v s' i' t' v') w := by
 have u3 := Tryz.underlying3
 have u9 := Tryz.underlying9
 have a3 := Tryz.isAgg3
 have a9 := Tryz.isAgg9
 have a28 := Tryz.isAgg36
 have z3 := Tryz.sizeOf3
 have z9 := Tryz.sizeOf9
 have z28 := Tryz.sizeOf36
 have hS : Tryz.prog.underlying 48 = some (.struct (Tryz.prog.fieldsOf 48)) := by kernel_rfl
 have hp : Tryz.prog.stoodInHeld 48 = false := by kernel_rfl
 rw [show (10000 : Nat) = 9999 + 1 from rfl, run_equalIn_agg w 9999 48 _ _ hS hp]; clear hS hp
 simp only [Program.fieldsOf, Tryz.underlying48]
 unfold veq
 cases h1 : s == s' with
 | false => go_simp
 | true =>
  cases h2 : i == i' with
  | false =>
   have n2 : ¬ (i = i') := by simpa using h2
   go_simp
  | true =>
   have n2 : i = i' := by simpa using h2
   cases h3 : t == t' with
   | false =>
    have n3 : ¬ (t = t') := by simpa using h3
    go_simp
   | true =>
    have n3 : t = t' := by simpa using h3
    go_simp
    by_cases h : v.toList = v'.toList
    ·simp [h]
    ·simp [h]
theorem ql33 (s i t : Int) (v : ByteArray) (s' i' t' : Int) (v' : ByteArray) (w : World) : (binOp .eql 48 (.agg #[.int .i64 s, .int .i64 i, .int .i64 t, .string v]) (.agg #[.int .i64 s', .int .i64 i', .int .i64 t', .string v'])).run Tryz.prog w = .ok (.bool (veq s i t v s' i' t' v')) w := by
 rw [run_eql_struct, equal33]
 rfl
theorem ne33 (s i t : Int) (v : ByteArray) (w : World) : (binOp .neq 48 (.agg #[.int .i64 s, .int .i64 i, .int .i64 t, .string v]) (.agg #[.int .i64 s, .int .i64 i, .int .i64 t, .string v])).run Tryz.prog w = .ok (.bool false) w := by
 rw [run_neq_struct, equal33, veq_refl]
 rfl
theorem same_any (a : Option Addr) (ca : Nat) (b : Option Addr) (cb : Nat) (l : List V) (w : World) (hl : l.length ≤ 1000000) (ha : AtL vl w a l) (hb : AtL vl w b l) :
  Calls Tryz.prog 20 #[.slice a l.length ca, .slice b l.length cb] w fun e w' => e = .returned (.bool true) ∧ Below w.heap.size w w' := by
 go_enter Tryz.func20, Tryz.ntmps20
 go_wp2
 go_loopw [5] (fun i wr => ∃ k : Nat, k ≤ l.length ∧ i = .int .i64 k ∧ Below w.heap.size w wr) (fun i _ => l.length - (intOf i).toNat)
 case atStart => exact ⟨0, by omega, rfl, Below.refl _ _⟩
 case round =>
  obtain ⟨k, hk, rfl, hbel⟩ := hrel
  by_cases hlt : k < l.length
  ·obtain ⟨b1, o1, rfl, c0, c1, c2, c3⟩ := (ha.keep hbel).getV k hlt
   obtain ⟨b2, o2, rfl, d0, d1, d2, d3⟩ := (hb.keep hbel).getV k hlt
   have hki : (k : Int) < (l.length : Int) := by omega
   have he := ne33 l[k].s l[k].b.i l[k].b.t l[k].v
   generalize l[k].s = x1 at *
   generalize l[k].b.i = x2 at *
   generalize l[k].b.t = x3 at *
   generalize l[k].v = x4 at *
   have HB : Hid (∀ n, Below w.heap.size w (wr.drewN n)) := fun n => below_drewN hbel n
   clear ha hb hbel
   go_wp2_with fail
   go_quiet (fail)
   go_wp2
   go_roundw
   case rel => exact ⟨k + 1, by omega, by go_num, HB.out _⟩
   case measure => simp [intOf]; omega
  ·have hkn : k = l.length := by omega
   subst hkn; go_wp2
   go_ret
   exact ⟨rfl, hbel⟩
end Go.Proofs.YtlnedgjikkhplaaGreat.Na
namespace Go.Proofs.YtlnedgjikkhplaaGreat.Ns.M
abbrev Pl := ByteArray × ByteArray
abbrev E : ByteArray := ⟨#[]⟩
theorem eq_E {s : ByteArray} (h : s.size = 0) : s = E := by
 apply ByteArray.ext
 exact Array.eq_empty_of_size_eq_zero h
def lse (p : Pl) : Bool := !decide (p.2.size = 0)
def last (p : Pl) : ByteArray := bif lse p then p.2 else p.1
def cl (p : Pl) : Pl := (last p, E)
theorem lse_E (s : ByteArray) : lse (s, E) = false := rfl
theorem last_E (s : ByteArray) : last (s, E) = s := rfl
theorem lse_yes {p : Pl} (h : lse p = true) : last p = p.2 := by unfold last; rw [h]; rfl
theorem lse_no {p : Pl} (h : lse p = false) : last p = p.1 ∧ p.2 = E := by
 refine ⟨by unfold last; rw [h]; rfl, eq_E ?_⟩
 unfold lse at h
 simpa using h
theorem lse_64 {p : Pl} (h : p.2.size = 64) : lse p = true := by unfold lse; rw [h]; rfl
def Ok (P : List Pl) : Prop := ∀ p ∈ P, p.1.size = 64 ∧ (p.2.size = 64 ∨ p.2.size = 0)
theorem Ok.get {P : List Pl} (h : Ok P) (i : Nat) (hi : i < P.length) : P[i].1.size = 64 ∧ (P[i].2.size = 64 ∨ P[i].2.size = 0) := h _ (List.getElem_mem hi)
theorem Ok.set {P : List Pl} (h : Ok P) (i : Nat) (p : Pl) (hp : p.1.size = 64 ∧ (p.2.size = 64 ∨ p.2.size = 0)) : Ok (P.set i p) := by
 intro q hq
 rcases List.mem_or_eq_of_mem_set hq with h' | h'
 ·exact h q h'
 ·rw [h']; exact hp
theorem Ok.last {P : List Pl} (h : Ok P) (p : Pl) (hp : p ∈ P) : (last p).size = 64 := by
 have := h p hp
 cases hl : lse p with
 | true =>
  rw [lse_yes hl]
  rcases this.2 with h' | h'
  ·exact h'
  ·unfold lse at hl; rw [h'] at hl; cases hl
 | false => rw [(lse_no hl).1]; exact this.1
def lo (P : List Pl) : List Nat := (List.range P.length).filter fun i => lse ((P[i]?).getD (E, E))
theorem mem_lo {P : List Pl} {i : Nat} : i ∈ lo P ↔ ∃ h : i < P.length, lse P[i] = true := by
 unfold lo; rw [List.mem_filter, List.mem_range]
 constructor
 ·rintro ⟨h, h'⟩
  rw [List.getElem?_eq_getElem h] at h'
  exact ⟨h, h'⟩
 ·rintro ⟨h, h'⟩
  refine ⟨h, ?_⟩
  rw [List.getElem?_eq_getElem h]
  exact h'
theorem lo_lt (P : List Pl) : (lo P).Pairwise (· < ·) := List.pairwise_lt_range.filter _
theorem lo_nodup (P : List Pl) : (lo P).Nodup := (lo_lt P).imp (fun h => by omega)
theorem lo_len (P : List Pl) : (lo P).length ≤ P.length := by
 have := List.length_filter_le (fun i => lse ((P[i]?).getD (E, E))) (List.range P.length)
 rw [List.length_range] at this
 exact this
def Lo (P : List Pl) (ls : List Nat) : Prop := ls.Nodup ∧ ∀ i, i ∈ ls ↔ ∃ h : i < P.length, lse P[i] = true
theorem Lo.perm {P : List Pl} {ls : List Nat} (h : Lo P ls) : ls.Perm (lo P) :=
 (List.perm_ext_iff_of_nodup h.1 (lo_nodup P)).2 fun i => by rw [h.2 i, mem_lo]
theorem Lo.len {P : List Pl} {ls : List Nat} (h : Lo P ls) : ls.length ≤ P.length := by rw [h.perm.length_eq]; exact lo_len P
def zs (l : List Nat) : List Int := l.map Int.ofNat
theorem zs_len (l : List Nat) : (zs l).length = l.length := by simp [zs]
theorem zs_get (l : List Nat) (j : Nat) (h : j < l.length) : (zs l)[j]'(by rw [zs_len]; exact h) = (l[j] : Int) := by simp [zs]
theorem Lo.sort {P : List Pl} {ls : List Nat} (h : Lo P ls) : (zs ls).mergeSort (fun x y => decide (x ≤ y)) = zs (lo P) := by
 refine List.Perm.eq_of_pairwise (le := fun a b : Int => a ≤ b) (fun a b _ _ h1 h2 => by omega) ?_ ?_ ((List.mergeSort_perm _ _).trans (h.perm.map _))
 ·have := List.pairwise_mergeSort (le := fun x y : Int => decide (x ≤ y)) (fun a b c h1 h2 => by simp at *; omega) (fun a b => by simp; omega) (zs ls)
  exact this.imp (fun h => by simpa using h)
 ·unfold zs
  rw [List.pairwise_map]
  exact (lo_lt P).imp (fun h => by show Int.ofNat _ ≤ Int.ofNat _; simp; omega)
theorem Lo.none {P : List Pl} (h : ∀ p ∈ P, lse p = false) : Lo P [] :=
 ⟨List.nodup_nil, fun i => ⟨fun h' => by simp at h', fun ⟨hi, h'⟩ => by rw [h _ (List.getElem_mem hi)] at h'; cases h'⟩⟩
def st (P : List Pl) (i : Nat) (s : ByteArray) : List Pl := P.set i (((P[i]?).getD (E, E)).1, s)
theorem st_len (P : List Pl) (i : Nat) (s : ByteArray) : (st P i s).length = P.length := by simp [st]
theorem st_eq (P : List Pl) (i : Nat) (s : ByteArray) (h : i < P.length) : st P i s = P.set i (P[i].1, s) := by simp [st, h]
theorem st_fst (P : List Pl) (i : Nat) (s : ByteArray) : (st P i s).map Prod.fst = P.map Prod.fst := by
 unfold st; rw [List.map_set]
 apply List.ext_getElem?
 intro j; rw [List.getElem?_set]
 split
 ·rename_i h
  subst h
  split
  ·rename_i h'
   rw [List.length_map] at h'
   simp [h']
  ·rename_i h'
   rw [List.length_map] at h'; rw [List.getElem?_eq_none (by rw [List.length_map]; omega)]
 ·rfl
theorem st_last (P : List Pl) (i : Nat) (s : ByteArray) (hs : s.size = 64) : (st P i s).map last = (P.map last).set i s := by
 unfold st; rw [List.map_set, lse_yes (lse_64 hs)]
theorem st_lse (P : List Pl) (i : Nat) (s : ByteArray) (hs : s.size = 64) : (st P i s).map lse = (P.map lse).set i true := by
 unfold st; rw [List.map_set, lse_64 hs]
theorem st_ok {P : List Pl} (h : Ok P) (i : Nat) (s : ByteArray) (hi : i < P.length) (hs : s.size = 64) : Ok (st P i s) := by
 rw [st_eq P i s hi]
 exact h.set i _ ⟨(h.get i hi).1, .inl hs⟩
def ad (P : List Pl) (ls : List Nat) (i : Nat) : List Nat := bif lse ((P[i]?).getD (E, E)) then ls else ls ++ [i]
theorem st_lo {P : List Pl} {ls : List Nat} (h : Lo P ls) (i : Nat) (s : ByteArray) (hi : i < P.length) (hs : s.size = 64) : Lo (st P i s) (ad P ls i) := by
 have key : ∀ j, (∃ hj : j < (st P i s).length, lse (st P i s)[j] = true) ↔ j = i ∨ j ∈ ls := by
  intro j; rw [h.2 j]
  constructor
  ·rintro ⟨hj, h'⟩
   rw [st_len] at hj
   by_cases e : j = i
   ·exact .inl e
   ·simp only [st, List.getElem_set] at h'
    rw [if_neg (fun e' => e e'.symm)] at h'
    exact .inr ⟨hj, h'⟩
  ·rintro (rfl | ⟨hj, h'⟩)
   ·refine ⟨by rw [st_len]; exact hi, ?_⟩
    simp only [st, List.getElem_set_self]
    exact lse_64 hs
   ·refine ⟨by rw [st_len]; exact hj, ?_⟩
    simp only [st, List.getElem_set]
    split
    ·exact lse_64 hs
    ·exact h'
 unfold ad; rw [List.getElem?_eq_getElem hi, Option.getD_some]
 cases hl : lse P[i] with
 | true =>
  refine ⟨h.1, fun j => ?_⟩
  rw [key j]
  constructor
  ·exact .inr
  ·rintro (rfl | h')
   ·exact (h.2 j).2 ⟨hi, hl⟩
   ·exact h'
 | false =>
  have hn : i ∉ ls := fun h' => by
   obtain ⟨_, h''⟩ := (h.2 i).1 h'
   rw [hl] at h''
   cases h''
  refine ⟨?_, fun j => ?_⟩
  ·simp only [cond_false, List.nodup_append, List.nodup_cons, List.not_mem_nil, not_false_iff, List.nodup_nil, and_self, List.mem_singleton]
   refine ⟨h.1, ?_, ?_⟩
   ·trivial
   ·rintro a ha b rfl e
    subst e
    exact hn ha
  ·rw [key j]
   simp only [cond_false, List.mem_append, List.mem_singleton]
   exact ⟨fun h' => h'.symm, fun h' => h'.symm⟩
def pc (s : ByteArray) (k : Nat) : ByteArray := s.extract (k * 64) (k * 64 + 64)
theorem pc_size (s : ByteArray) (k : Nat) (h : k < s.size / 64) : (pc s k).size = 64 := by
 unfold pc; rw [ByteArray.size_extract]
 omega
def wr (P : List Pl) (at' : Nat) (s : ByteArray) : Nat → List Pl
 | 0 => P
 | k + 1 => st (wr P at' s k) (at' + k) (pc s k)
theorem wr_len (P : List Pl) (at' : Nat) (s : ByteArray) (k : Nat) : (wr P at' s k).length = P.length := by
 induction k with
 | zero => rfl
 | succ k ih => rw [wr, st_len, ih]
theorem wr_fst (P : List Pl) (at' : Nat) (s : ByteArray) (k : Nat) : (wr P at' s k).map Prod.fst = P.map Prod.fst := by
 induction k with
 | zero => rfl
 | succ k ih => rw [wr, st_fst, ih]
def refused (n : Nat) (lost : Bool) (at' m : Int) : Int := bif decide (at' < 0) || decide (m < 1) then 1 else bif decide (at' > n - m) then 5 else bif lost then 8 else 0
theorem refused_ok {n : Nat} {lost : Bool} {at' m : Int} (h : refused n lost at' m = 0) : lost = false ∧ ∃ a k : Nat, at' = a ∧ m = k ∧ 1 ≤ k ∧ a + k ≤ n := by
 unfold refused at h
 cases h1 : decide (at' < 0) <;> cases h2 : decide (m < 1) <;> cases h3 : decide (at' > n - m) <;> cases h4 : lost <;> simp [h1, h2, h3, h4] at h
 simp at h1 h2 h3
 exact ⟨rfl, at'.toNat, m.toNat, by omega, by omega, by omega, by omega⟩
def wcode (n : Nat) (lost : Bool) (at' : Int) (s : ByteArray) : Int := bif decide (s.size % 64 = 0) then refused n lost at' ((s.size / 64 : Nat) : Int) else 1
def wrote (n : Nat) (lost : Bool) (P : List Pl) (at' : Int) (s : ByteArray) : List Pl := bif decide (wcode n lost at' s = 0) then wr P at'.toNat s (s.size / 64) else P
theorem wcode_ok {n : Nat} {lost : Bool} {at' : Int} {s : ByteArray} (h : wcode n lost at' s = 0) : s.size % 64 = 0 ∧ refused n lost at' ((s.size / 64 : Nat) : Int) = 0 := by
 unfold wcode at h
 cases h1 : decide (s.size % 64 = 0) with
 | false => simp [h1] at h
 | true => simp [h1] at h; exact ⟨by simpa using h1, h⟩
def ofL (l : List UInt8) : ByteArray := ⟨l.toArray⟩
def cat (L : List ByteArray) : ByteArray := ofL (L.flatMap fun s => s.data.toList)
theorem ofL_app (a b : List UInt8) : ofL a ++ ofL b = ofL (a ++ b) := by
 apply ByteArray.ext
 rw [ByteArray.data_append]
 simp [ofL]
theorem ofL_of (s : ByteArray) : ofL s.data.toList = s := by simp [ofL]
theorem cat_app (L : List ByteArray) (s : ByteArray) : cat (L ++ [s]) = cat L ++ s := by
 unfold cat; rw [List.flatMap_append, ← ofL_app]
 congr 1
 simp [ofL]
theorem ofL_size (l : List UInt8) : (ofL l).size = l.length := by simp [ofL, ByteArray.size]
theorem flat_len (L : List ByteArray) (h : ∀ s ∈ L, s.size = 64) : (L.flatMap fun s => s.data.toList).length = L.length * 64 := by
 induction L with
 | nil => rfl
 | cons a r ih =>
  rw [List.flatMap_cons, List.length_append, ih (fun s hs => h s (List.mem_cons_of_mem _ hs)), List.length_cons]
  have := h a (List.mem_cons_self)
  rw [← ByteArray.size_data] at this; rw [Array.length_toList, this]
  omega
theorem cat_size (L : List ByteArray) (h : ∀ s ∈ L, s.size = 64) : (cat L).size = L.length * 64 := by
 unfold cat; rw [ofL_size, flat_len L h]
def rtext (n : Nat) (lost : Bool) (P : List Pl) (at' m : Int) : ByteArray := bif decide (refused n lost at' m = 0) then cat (((P.map last).drop at'.toNat).take m.toNat) else E
def flush (P : List Pl) : List Pl := P.map cl
theorem flush_len (P : List Pl) : (flush P).length = P.length := by simp [flush]
theorem flush_lse (P : List Pl) : ∀ p ∈ flush P, lse p = false := by
 intro p hp
 simp only [flush, List.mem_map] at hp
 obtain ⟨q, _, rfl⟩ := hp
 rfl
theorem flush_ok {P : List Pl} (h : Ok P) : Ok (flush P) := by
 intro p hp
 simp only [flush, List.mem_map] at hp
 obtain ⟨q, hq, rfl⟩ := hp
 exact ⟨h.last q hq, .inr rfl⟩
theorem flush_last (P : List Pl) : (flush P).map last = P.map last := by
 simp only [flush, List.map_map]
 apply List.map_congr_left
 intro p _
 rfl
theorem flush_fst (P : List Pl) : (flush P).map Prod.fst = P.map last := by
 simp only [flush, List.map_map]
 apply List.map_congr_left
 intro p _
 rfl
def half (P : List Pl) (l : List Nat) : List Pl := P.mapIdx fun i p => bif decide (i ∈ l) then (p.2, E) else p
theorem half_len (P : List Pl) (l : List Nat) : (half P l).length = P.length := by simp [half]
theorem half_nil (P : List Pl) : half P [] = P := by
 unfold half
 apply List.ext_getElem?
 intro i
 simp
theorem half_step (P : List Pl) (l : List Nat) (i : Nat) (hi : i < P.length) (hn : i ∉ l) :
  (half P l)[i]'(by rw [half_len]; exact hi) = P[i] ∧ (half P l).set i (P[i].2, E) = half P (l ++ [i]) := by
 constructor
 ·simp [half, hn]
 ·apply List.ext_getElem
  ·simp [half]
  ·intro j h1 h2
   simp only [half, List.getElem_set, List.getElem_mapIdx, List.mem_append, List.mem_singleton]
   by_cases e : i = j
   ·subst e
    simp
   ·have e' : ¬ j = i := fun h => e h.symm
    simp [e, e']
theorem half_all {P : List Pl} {ls : List Nat} (h : Lo P ls) : half P ls = flush P := by
 apply List.ext_getElem
 ·simp [half, flush]
 ·intro j h1 h2
  simp only [half, flush, List.getElem_mapIdx, List.getElem_map]
  rw [half_len] at h1
  by_cases hm : j ∈ ls
  ·obtain ⟨_, h'⟩ := (h.2 j).1 hm
   simp [hm, cl, lse_yes h']
  ·have h' : lse P[j] = false := by
    cases hl : lse P[j] with
    | false => rfl
    | true => exact absurd ((h.2 j).2 ⟨h1, hl⟩) hm
   obtain ⟨e1, e2⟩ := lse_no h'
   simp only [hm, cl, e1, decide_false, cond_false]
   exact Prod.ext rfl e2
def kept (keep k : Nat) : Bool := decide (keep / 2 ^ k % 2 = 1)
def torn (p : Pl) (tear : Nat) : ByteArray := p.2.extract 0 tear ++ p.1.extract tear 64
theorem torn_size {p : Pl} {tear : Nat} (h1 : p.1.size = 64) (h2 : p.2.size = 64) (h3 : tear < 64) : (torn p tear).size = 64 := by
 unfold torn; rw [ByteArray.size_append, ByteArray.size_extract, ByteArray.size_extract]
 omega
def nv (keep tear k : Nat) (t : Bool) (p : Pl) : ByteArray := bif kept keep k then p.2 else bif t then torn p tear else p.1
def crs (keep tear : Nat) (P : List Pl) : List Nat → Nat → Bool → List Pl
 | [], _, _ => P
 | i :: L, k, t => crs keep tear (P.set i (nv keep tear k t ((P[i]?).getD (E, E)), E)) L (k + 1) (t && kept keep k)
def tears (tear : Int) : Bool := decide (1 ≤ tear) && decide (tear < 64)
def crash (P : List Pl) (keep : Nat) (tear : Int) : List Pl := crs keep tear.toNat P (lo P) 0 (tears tear)
structure CI (P : List Pl) (keep : Nat) (tear : Int) (k : Nat) (t : Bool) (Q : List Pl) : Prop where
 len : Q.length = P.length
 ok : Ok Q
 same : ∀ i ∈ (lo P).drop k, Q[i]? = P[i]?
 rest : ∀ i (h : i < Q.length), i ∉ (lo P).drop k → Q[i].2 = E
 eq : crs keep tear.toNat Q ((lo P).drop k) k t = crash P keep tear
 t : t = true → tears tear = true
theorem CI.start {P : List Pl} (h : Ok P) (keep : Nat) (tear : Int) : CI P keep tear 0 (tears tear) P := by
 refine ⟨rfl, h, fun _ _ => rfl, fun i hi hn => ?_, rfl, id⟩
 rw [List.drop_zero, mem_lo] at hn
 cases hl : lse P[i] with
 | true => exact absurd ⟨hi, hl⟩ hn
 | false => exact (lse_no hl).2
theorem CI.step {P : List Pl} {keep : Nat} {tear : Int} {k : Nat} {t : Bool} {Q : List Pl} (h : CI P keep tear k t Q) (hk : k < (lo P).length) :
  ∃ hi : (lo P)[k] < Q.length, Q[(lo P)[k]].1.size = 64 ∧ Q[(lo P)[k]].2.size = 64 ∧ CI P keep tear (k + 1) (t && kept keep k) (Q.set (lo P)[k] (nv keep tear.toNat k t Q[(lo P)[k]], E)) := by
 obtain ⟨i, hi'⟩ : ∃ i, (lo P)[k] = i := ⟨_, rfl⟩
 have hd : (lo P).drop k = i :: (lo P).drop (k + 1) := by rw [← hi', List.getElem_cons_drop]
 have hmem : i ∈ lo P := by rw [← hi']; exact List.getElem_mem hk
 obtain ⟨hlt, hls⟩ := mem_lo.1 hmem
 have hiQ : i < Q.length := by rw [h.len]; exact hlt
 have hsame := h.same i (by rw [hd]; exact List.mem_cons_self)
 rw [List.getElem?_eq_getElem hiQ, List.getElem?_eq_getElem hlt, Option.some.injEq] at hsame
 have hok := h.ok.get i hiQ
 have h64 : Q[i].2.size = 64 := by
  rcases hok.2 with h' | h'
  ·exact h'
  ·rw [hsame] at h'
   unfold lse at hls; rw [h'] at hls
   cases hls
 have hnd : i ∉ (lo P).drop (k + 1) := by
  have := (lo_nodup P).sublist (List.drop_sublist k (lo P))
  rw [hd, List.nodup_cons] at this
  exact this.1
 have hnv : (nv keep tear.toNat k t Q[i]).size = 64 := by
  unfold nv
  cases kept keep k
  ·cases ht : t
   ·exact hok.1
   ·have := h.t ht
    unfold tears at this
    simp only [Bool.and_eq_true, decide_eq_true_eq] at this
    exact torn_size hok.1 h64 (by omega)
  ·exact h64
 subst hi'
 refine ⟨hiQ, hok.1, h64, ⟨by simp [h.len], h.ok.set _ _ ⟨hnv, .inr rfl⟩, fun j hj => ?_, fun j hj hn => ?_, ?_, fun ht => ?_⟩⟩
 ·rw [List.getElem?_set_ne (fun e => hnd (by rw [e]; exact hj))]
  exact h.same j (by rw [hd]; exact List.mem_cons_of_mem _ hj)
 ·rw [List.getElem_set]
  split
  ·rfl
  ·rename_i e
   rw [List.length_set] at hj
   refine h.rest j hj ?_
   rw [hd, List.mem_cons]; rintro (e' | e')
   ·exact e e'.symm
   ·exact hn e'
 ·rw [← h.eq, hd, crs, List.getElem?_eq_getElem hiQ, Option.getD_some]
 ·simp only [Bool.and_eq_true] at ht
  exact h.t ht.1
theorem CI.done {P : List Pl} {keep : Nat} {tear : Int} {t : Bool} {Q : List Pl} (h : CI P keep tear (lo P).length t Q) : Q = crash P keep tear ∧ Q.length = P.length ∧ Ok Q ∧ ∀ p ∈ Q, lse p = false := by
 have e := h.eq
 rw [List.drop_length] at e
 refine ⟨e, h.len, h.ok, fun p hp => ?_⟩
 obtain ⟨i, hi, rfl⟩ := List.getElem_of_mem hp
 unfold lse; rw [h.rest i hi (by rw [List.drop_length]; simp)]
 rfl
theorem CI.all {P : List Pl} (h : Ok P) (keep : Nat) (tear : Int) (k : Nat) (hk : k ≤ (lo P).length) : ∃ t Q, CI P keep tear k t Q := by
 induction k with
 | zero => exact ⟨_, _, CI.start h keep tear⟩
 | succ k ih =>
  obtain ⟨t, Q, hc⟩ := ih (by omega)
  obtain ⟨_, _, _, hs⟩ := hc.step (by omega)
  exact ⟨_, _, hs⟩
theorem crash_spec {P : List Pl} (h : Ok P) (keep : Nat) (tear : Int) : (crash P keep tear).length = P.length ∧ Ok (crash P keep tear) ∧ ∀ p ∈ crash P keep tear, lse p = false := by
 obtain ⟨t, Q, hc⟩ := CI.all h keep tear _ Lr
 obtain ⟨e, h1, h2, h3⟩ := hc.done
 rw [← e]
 exact ⟨h1, h2, h3⟩
theorem crs_other (keep tear : Nat) (L : List Nat) : ∀ (P : List Pl) (k : Nat) (t : Bool) (i : Nat), i ∉ L → (crs keep tear P L k t)[i]? = P[i]? := by
 induction L with
 | nil => intro P k t i _; rfl
 | cons j L ih =>
  intro P k t i hi; rw [List.mem_cons, not_or] at hi; rw [crs, ih _ _ _ _ hi.2, List.getElem?_set_ne (fun e => hi.1 e.symm)]
theorem last_fst {P : List Pl} (h : ∀ p ∈ P, lse p = false) : P.map last = P.map Prod.fst := by
 apply List.map_congr_left
 intro p hp
 exact (lse_no (h p hp)).1
end Go.Proofs.YtlnedgjikkhplaaGreat.Ns.M
