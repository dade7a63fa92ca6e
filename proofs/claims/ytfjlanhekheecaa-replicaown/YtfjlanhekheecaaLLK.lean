/-
  A learner that is new since a world; one that is none; rows of texts held against each other.
-/
import Derived.Test.YtfjlanhekheecaaLLD
import Derived.Test.YtfjlanhekheecaaLLE
namespace Go.Proofs.Ytfjlanhekheecaa.Nl
open Go.RowKit Go.Maps
set_option linter.unusedVariables false
open Go.Proofs.Ytfjlanhekheecaa.M (E V)
open Go.Proofs.Ytfjlanhekheecaa.Nl.M (W fup)

theorem LI.low {w : World} {base base' b m : Nat} {s : M.S} {f : Int → Option K} (h : LI w base b m s f) (hb : base' ≤ base) : LI w base' b m s f :=
  ⟨h.row, h.mi, h.td, h.un, fun k h1 h2 => by
    obtain ⟨g, e1, e2, e3⟩ := h.vo k h1 h2
    exact ⟨g, e1, e2, Nat.le_trans hb e3⟩, h.ap, Nat.le_trans hb h.lo.1, Nat.le_trans hb h.lo.2⟩
/-- A learner, new since w0, at block b; F: its own. -/
structure LS (w0 w : World) (F : Nat → Prop) (b : Nat) (s : M.S) : Prop where
  li : ∃ m f, F = fpl b m f ∧ LI w w0.heap.size b m s f
  bel : Below w0.heap.size w0 w
  ok : M.Ok s
section
variable {w0 w w' : World} {F G G' : Nat → Prop} {b : Nat} {s : M.S}
theorem LS.keep (h : LS w0 w F b s) (hb : Below w.heap.size w w') : LS w0 w' F b s := by
  obtain ⟨m, f, hF, hX⟩ := h.li
  exact ⟨⟨m, f, hF, hX.keep hb⟩, bel_up h.bel hb (Nat.le_refl _), h.ok⟩
theorem LS.mine (h : LS w0 w F b s) : ∀ k, F k → w0.heap.size ≤ k ∧ k < w.heap.size := by
  obtain ⟨m, f, rfl, hX⟩ := h.li
  exact hX.mine
theorem LS.fr (h : LS w0 w F b s) (hF : Fr w F w' G) : Below w0.heap.size w0 w' := h.bel.trans (hF.below (fun k hk => (h.mine k hk).1) h.bel.size)
/-- What New leaves. -/
def NwOut (w0 w : World) (n : Int) (e : Ending) (w' : World) : Prop :=
  (M.nde n = false ∧ e = .returned (.pointer none) ∧ w' = w) ∨ (M.nde n = true ∧ ∃ b F, e = .returned (.pointer (some ⟨b, 0, none⟩)) ∧ LS w0 w' F b (M.s0 n) ∧ Below w.heap.size w w' ∧ ∀ k, F k → w.heap.size ≤ k)
theorem newS_any (w0 w : World) (hb : Below w0.heap.size w0 w) (n : Int) : Calls Try.prog 26 #[.int .i64 n] w (NwOut w0 w n) :=
  (new_any n w).mono fun e w' h => by
    rcases h with h | ⟨h0, b, m, h1, h2, h3⟩
    · exact .inl h
    · exact .inr ⟨h0, b, _, h1, ⟨⟨m, _, rfl, h2.low hb.size⟩, bel_up hb h3 (Nat.le_refl _), M.Ok.zero h0⟩, h3, fun k hk => (h2.mine k hk).1⟩
theorem LS.hear (h : LS w0 w F b s) (fr : Int) (x : V) (hk : (Lit.int .i64 x.s).wf = true) (hc : s.c ≤ 900000) : Calls Try.prog 56 #[.pointer (some ⟨b, 0, none⟩), .int .i64 fr, vV x] w fun e w' => ∃ G, e = .returned (.bool (M.hb s fr x)) ∧ LS w0 w' G b (M.hs s fr x) ∧ Fr w F w' G := by
  have h0 := h
  obtain ⟨m, f, rfl, hX⟩ := h.li
  refine (hear_any hX h.ok fr x hk hc).mono ?_
  rintro e w' ⟨f', h1, h2, h3⟩
  exact ⟨_, h1, ⟨⟨m, f', rfl, h2⟩, h0.fr h3, h.ok.hs fr x⟩, h3⟩
theorem LS.tell (h : LS w0 w F b s) (k : Int) (v : ByteArray) (hk : (Lit.int .i64 k).wf = true) (hc : s.c ≤ 900000) : Calls Try.prog 58 #[.pointer (some ⟨b, 0, none⟩), .int .i64 k, .string v] w fun e w' => ∃ G, e = .returned (.bool (M.may s k v)) ∧ LS w0 w' G b (M.ts s k v) ∧ Fr w F w' G := by
  have h0 := h
  obtain ⟨m, f, rfl, hX⟩ := h.li
  refine (tell_any hX h.ok k hk v hc).mono ?_
  rintro e w' ⟨f', h1, h2, h3⟩
  exact ⟨_, h1, ⟨⟨m, f', rfl, h2⟩, h0.fr h3, h.ok.ts k v⟩, h3⟩
theorem LS.trim (h : LS w0 w F b s) (u : Int) : Calls Try.prog 38 #[.pointer (some ⟨b, 0, none⟩), .int .i64 u] w fun e w' => ∃ G, e = .returned (.int .i64 (M.tb s u - s.base)) ∧ LS w0 w' G b (M.tr s u) ∧ Fr w F w' G := by
  have h0 := h
  obtain ⟨m, f, rfl, hX⟩ := h.li
  refine (trim_any hX h.ok u).mono ?_
  rintro e w' ⟨f', h1, h2, h3⟩
  exact ⟨_, h1, ⟨⟨m, f', rfl, h2⟩, h0.fr h3, h.ok.tr u⟩, h3⟩
theorem LS.next (h : LS w0 w F b s) : Calls Try.prog 27 #[.pointer (some ⟨b, 0, none⟩)] w fun e w' => e = .returned (.int .i64 (M.nx s)) ∧ w' = w := by
  obtain ⟨m, f, rfl, hX⟩ := h.li
  exact next_any hX h.ok
theorem LS.base (h : LS w0 w F b s) : Calls Try.prog 40 #[.pointer (some ⟨b, 0, none⟩)] w fun e w' => e = .returned (.int .i64 s.base) ∧ w' = w := by
  obtain ⟨m, f, rfl, hX⟩ := h.li
  exact base_any hX
theorem LS.log (h : LS w0 w F b s) (fr : Int) : Calls Try.prog 41 #[.pointer (some ⟨b, 0, none⟩), .int .i64 fr] w fun e w' => ∃ ad c, e = .returned (.slice ad (M.lgs s fr).length c) ∧ XL tl w' ad c (M.lgs s fr) ∧ (∀ j, blk ad j → w.heap.size ≤ j ∧ j < w'.heap.size) ∧ Below w.heap.size w w' := by
  obtain ⟨m, f, rfl, hX⟩ := h.li
  refine (log_any hX h.ok fr).mono ?_
  rintro e w' ⟨u, rfl, ho, hb⟩
  obtain ⟨ad, c, rfl, hx, hbk⟩ := ho.at
  exact ⟨ad, c, rfl, hx, fun j hj => ⟨(hbk j hj).1, (hbk j hj).2.2⟩, hb⟩
end
theorem hear_nil (fr : Int) (x : V) (w : World) : Calls Try.prog 56 #[.pointer none, .int .i64 fr, vV x] w fun e w' => e = .returned (.bool false) ∧ Below w.heap.size w w' := by
  obtain ⟨W1, HW1⟩ : ∃ W1, Hid (w.alloc (.cells #[.int .i64 x.s, .int .i64 x.b.i, .int .i64 x.b.t, .string x.v] 42) = W1) := ⟨_, Hid_of rfl⟩
  have hb1 : Below w.heap.size w W1 := by rw [← HW1.out]; exact bel1 w _
  have hr1 : W1.heap[w.heap.size]? = some (.cells #[.int .i64 x.s, .int .i64 x.b.i, .int .i64 x.b.t, .string x.v] 42 (0, 0)) := by rw [← HW1.out]; exact heap_alloc_last w _
  have HB1 := Hid_of hb1
  clear hb1 hr1
  go_enter Try.func56, Try.ntmps56
  go_upto_region 1 with fail
  rw [HW1.out]
  clear HW1
  go_wp2
  go_ret
  exact ⟨rfl, HB1.out⟩
theorem tell_nil (k : Int) (v : ByteArray) (w : World) : Calls Try.prog 58 #[.pointer none, .int .i64 k, .string v] w fun e w' => e = .returned (.bool false) ∧ w' = w := by
  go_enter Try.func58, Try.ntmps58
  go_wp2
  go_ret
  exact ⟨rfl, rfl⟩
theorem next_nil (w : World) : Calls Try.prog 27 #[.pointer none] w fun e w' => e = .returned (.int .i64 0) ∧ w' = w := by
  go_enter Try.func27, Try.ntmps27
  go_wp2
  go_ret
  exact ⟨rfl, rfl⟩
theorem log_nil (k : Int) (w : World) : Calls Try.prog 41 #[.pointer none, .int .i64 k] w fun e w' => e = .returned (.slice none 0 0) ∧ w' = w := by
  go_enter Try.func41, Try.ntmps41
  go_wp2
  go_ret
  exact ⟨rfl, rfl⟩
theorem trim_nil (k : Int) (w : World) : Calls Try.prog 38 #[.pointer none, .int .i64 k] w fun e w' => e = .returned (.int .i64 0) ∧ w' = w := by
  go_enter Try.func38, Try.ntmps38
  go_wp2
  go_ret
  exact ⟨rfl, rfl⟩
theorem base_nil (w : World) : Calls Try.prog 40 #[.pointer none] w fun e w' => e = .returned (.int .i64 0) ∧ w' = w := by
  go_enter Try.func40, Try.ntmps40
  go_wp2
  go_ret
  exact ⟨rfl, rfl⟩
theorem _root_.Go.Proofs.Ytfjlanhekheecaa.AtL.getT {w : World} {a : Option Addr} {l : List ByteArray} (h : AtL tl w a l) (j : Nat) (hj : j < l.length) : ∃ b off, a = some ⟨b, off, none⟩ ∧ w.cell? ⟨b, off + j, none⟩ = some (.string l[j]) := by
  obtain ⟨b, off, e, h0⟩ := h j hj
  have := h0 0 (by decide)
  rw [show off + j * tl.n + 0 = off + j from by show off + j * 1 + 0 = off + j; omega] at this
  exact ⟨b, off, e, this⟩
set_option maxRecDepth 100000 in
set_option maxHeartbeats 1000000 in
theorem texts_any (a : Option Addr) (ca : Nat) (b : Option Addr) (cb : Nat) (l : List ByteArray) (w : World) (hl : l.length ≤ 1000000) (ha : AtL tl w a l) (hb : AtL tl w b l) :
    Calls Try.prog 23 #[.slice a l.length ca, .slice b l.length cb] w fun e w' => e = .returned (.bool true) ∧ Below w.heap.size w w' := by
  go_enter Try.func23, Try.ntmps23
  go_wp2
  go_loopw [5] (fun i wr => ∃ k : Nat, k ≤ l.length ∧ i = .int .i64 k ∧ Below w.heap.size w wr) (fun i _ => l.length - (intOf i).toNat)
  case atStart => exact ⟨0, by omega, rfl, Below.refl _ _⟩
  case round =>
    obtain ⟨k, hk, rfl, hbel⟩ := hrel
    by_cases hlt : k < l.length
    · obtain ⟨b1, o1, rfl, c1⟩ := (ha.keep hbel).getT k hlt
      obtain ⟨b2, o2, rfl, c2⟩ := (hb.keep hbel).getT k hlt
      have hki : (k : Int) < (l.length : Int) := by omega
      generalize l[k] = x at *
      have HB : Hid (∀ n, Below w.heap.size w (wr.drewN n)) := fun n => below_drewN hbel n
      clear ha hb hbel
      go_wp2_with fail
      go_quiet (fail)
      go_wp2
      go_roundw
      case rel => exact ⟨k + 1, by omega, by go_num, HB.out _⟩
      case measure => simp [intOf]; omega
    · have hkn : k = l.length := by omega
      subst hkn
      go_wp2
      go_ret
      exact ⟨rfl, hbel⟩

end Go.Proofs.Ytfjlanhekheecaa.Nl
