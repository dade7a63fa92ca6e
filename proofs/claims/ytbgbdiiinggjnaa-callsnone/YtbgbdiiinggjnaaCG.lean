/-
  Calls that are due, half done.
-/
import Derived.Test.YtbgbdiiinggjnaaCB
import Derived.Test.YtbgbdiiinggjnaaCC
import Derived.Test.YtbgbdiiinggjnaaCN
namespace Go.Proofs.Ytbgbdiiinggjnaa
open Go.RowKit
set_option linter.unusedVariables false
open M (E)
open Cl (K W Ms fup Rel)

/-- So far: j of the ids are done, u holds what is sent. -/
structure DL (w0 : World) (F0 : Nat → Prop) (base b bt m : Nat) (me next now : Int) (ids : List Int) (a : Option Addr) (L0 : List K) (j : Nat) (wr : World) (u vt vo : Value) (n : Nat) (O : List W) (P : List E) (f : Int → Option (Int × ByteArray)) (L : List K) (out : List Ms) : Prop where
  ci : CI wr base b bt m vt vo n me next O P f
  rel : Rel me next O P f n L (ids.drop j)
  fr : Fr w0 F0 wr (fpc b bt m vt vo)
  own : OwnL ml 32 wr w0.heap.size u out
  at' : AtI wr a ids
  su : ∀ k, u.ownBlock = some k → ¬ fpc b bt m vt vo k
  sa : ∀ k, blk a k → ¬ fpc b bt m vt vo k ∧ u.ownBlock ≠ some k ∧ k < wr.heap.size
  run : Cl.run me now ids L0 [] = Cl.run me now (ids.drop j) L out
  nd : ids.Nodup
  len : out.length ≤ j
section
variable {w0 : World} {F0 : Nat → Prop} {base b bt m : Nat} {me next now : Int} {ids : List Int} {a : Option Addr} {L0 : List K} {j : Nat} {wr w' : World} {u vt vo vt' vo' : Value} {n : Nat} {O : List W} {P : List E} {f : Int → Option (Int × ByteArray)} {L : List K} {out : List Ms}
theorem DL.keep (h : DL w0 F0 base b bt m me next now ids a L0 j wr u vt vo n O P f L out) (hb : Below wr.heap.size wr w') : DL w0 F0 base b bt m me next now ids a L0 j w' u vt vo n O P f L out :=
  ⟨h.ci.keep hb, h.rel, h.fr.up hb, h.own.keep hb, h.at'.keep hb, h.su, fun k hk => ⟨(h.sa k hk).1, (h.sa k hk).2.1, Nat.lt_of_lt_of_le (h.sa k hk).2.2 hb.size⟩, h.run, h.nd, h.len⟩
/-- A change of the calls alone. -/
theorem DL.sep (h : DL w0 F0 base b bt m me next now ids a L0 j wr u vt vo n O P f L out) (hF : Fr wr (fpc b bt m vt vo) w' (fpc b bt m vt' vo')) :
    Fr w0 F0 w' (fpc b bt m vt' vo') ∧ OwnL ml 32 w' w0.heap.size u out ∧ AtI w' a ids ∧ (∀ k, u.ownBlock = some k → ¬ fpc b bt m vt' vo' k) ∧ ∀ k, blk a k → ¬ fpc b bt m vt' vo' k ∧ u.ownBlock ≠ some k ∧ k < w'.heap.size := by
  refine ⟨h.fr.trans hF, h.own.keepBut fun k hk hu => hF.block k hk (h.su k hu), h.at'.keepBut fun k hk hk' => hF.block k hk (h.sa k hk').1, fun k hu hf => ?_, fun k hk => ⟨fun hf => ?_, (h.sa k hk).2.1, Nat.lt_of_lt_of_le (h.sa k hk).2.2 hF.size⟩⟩
  · rcases hF.n k hf with h' | h'
    · exact h.su k hu h'
    · have := (h.own.lt hu).2; omega
  · rcases hF.n k hf with h' | h'
    · exact (h.sa k hk).1 h'
    · have := (h.sa k hk).2.2; omega
/-- The call that is next. -/
theorem DL.whose (h : DL w0 F0 base b bt m me next now ids a L0 j wr u vt vo n O P f L out) (hj : j < ids.length) {r : Nat} {bb : Bool} (hs : SrW O ids[j] r bb) : bb = true ∧ ∃ hr : r < O.length, ∃ k, O[r].id = ids[j] ∧ Cl.get L ids[j] = some k ∧ O[r] = Cl.wt me k ∧ Cl.KOk next k ∧ k.st = 1 := by
  have hin : ids[j] ∈ ids.drop j := by rw [Cl.drop_at hj]; exact List.mem_cons_self
  obtain ⟨k, hk, hki⟩ := h.rel.r _ hin
  obtain ⟨r', hr', he⟩ := h.rel.place hk
  have hbb : bb = true := by
    cases bb with
    | true => rfl
    | false => exact absurd (he.trans hki) (hs.no rfl _ (List.getElem_mem hr'))
  obtain ⟨hr, hid⟩ := hs.yes hbb
  obtain ⟨k', h1, h2, h3, h4, h5, h6, _⟩ := h.rel.found hr hid
  exact ⟨hbb, hr, k', hid, h1, h4, h5, h6⟩
/-- Given up. -/
theorem DL.gone (h : DL w0 F0 base b bt m me next now ids a L0 j wr u vt vo n O P f L out) (hj : j < ids.length) {r : Nat} (hr : r < O.length) (hid : O[r].id = ids[j]) {k : K} (hk : Cl.get L ids[j] = some k) (hst : k.st = 1) (hok : Cl.KOk next k) (hs : 8 ≤ k.sent)
    (hX : CI w' base b bt m vt' vo' (n + 1) me next (O.take r ++ O.drop (r + 1)) (M.stop P ids[j]) (fup f ids[j] (some (3, ⟨#[]⟩)))) (hF : Fr wr (fpc b bt m vt vo) w' (fpc b bt m vt' vo')) :
    DL w0 F0 base b bt m me next now ids a L0 (j + 1) w' u vt' vo' (n + 1) (O.take r ++ O.drop (r + 1)) (M.stop P ids[j]) (fup f ids[j] (some (3, ⟨#[]⟩))) (Cl.upd L ids[j] (Cl.stepK now)) out := by
  obtain ⟨s1, s2, s3, s4, s5⟩ := h.sep hF
  obtain ⟨t1, t2⟩ := Cl.step_gone h.rel.l.s hk hs (now := now) me
  have hr0 := h.rel.shut hr hid (ids.drop (j + 1)) (Cl.drop_mem h.nd hj) (g := Cl.goneK) (fun _ => rfl) (fun _ => by simp [Cl.goneK]) (fun k' hk' => by rw [hk] at hk'; cases hk'; exact Cl.goneK_ok hok hst) hk
  have he : ((Cl.goneK k).st, (Cl.goneK k).reply) = ((3 : Int), (⟨#[]⟩ : ByteArray)) := by
    simp only [Cl.goneK]
    rw [hok.e (by omega)]
  rw [he] at hr0
  refine ⟨hX, by rw [t1]; exact hr0, s1, s2, s3, s4, s5, ?_, h.nd, by have := h.len; omega⟩
  rw [h.run, Cl.drop_at hj, Cl.run_cons, t2, List.append_nil]
/-- Sent: what is sent is told, the timer is set, the count is raised. -/
theorem DL.sent (h : DL w0 F0 base b bt m me next now ids a L0 j wr u vt vo n O P f L out) (hj : j < ids.length) (hn : 0 ≤ now ∧ now ≤ 1099511626776) {r : Nat} (hr : r < O.length) (hid : O[r].id = ids[j]) {k : K} (hk : Cl.get L ids[j] = some k) (hs : k.sent < 8)
    {u' : Value} (hu : OwnL ml 32 w' w0.heap.size u' (out ++ [Cl.msg me k])) (hsu : ∀ q, u'.ownBlock = some q → ¬ fpc b bt m vt' vo q) (hsa : ∀ q, blk a q → ¬ fpc b bt m vt' vo q ∧ u'.ownBlock ≠ some q ∧ q < w'.heap.size) (hat : AtI w' a ids)
    (hX : CI w' base b bt m vt' vo n me next (O.set r (Cl.wt me (Cl.sendK now k))) (M.setL P ids[j] (now + Cl.wait k.sent)) f) (hF : Fr w0 F0 w' (fpc b bt m vt' vo)) :
    DL w0 F0 base b bt m me next now ids a L0 (j + 1) w' u' vt' vo n (O.set r (Cl.wt me (Cl.sendK now k))) (M.setL P ids[j] (now + Cl.wait k.sent)) f (Cl.upd L ids[j] (Cl.stepK now)) (out ++ [Cl.msg me k]) := by
  obtain ⟨t1, t2⟩ := Cl.step_send h.rel.l.s hk hs (now := now) me
  have hin : ids[j] ∈ ids.drop j := by rw [Cl.drop_at hj]; exact List.mem_cons_self
  have hr0 := h.rel.sent h.ci.tm.g hr hid hin (ids.drop (j + 1)) (Cl.drop_mem h.nd hj) hn hk hs
  refine ⟨hX, by rw [t1]; exact hr0, hF, hu, hat, hsu, hsa, ?_, h.nd, by have := h.len; simp; omega⟩
  rw [h.run, Cl.drop_at hj, Cl.run_cons, t2]
end
/-- What Due leaves. -/
def DuOut (w : World) (base b bt m : Nat) (vt vo : Value) (n : Nat) (me next now : Int) (L L' : List K) (out : List Ms) (e : Ending) (w' : World) : Prop :=
  ∃ u vt' vo' n' O' P' f', e = .returned u ∧ OwnL ml 32 w' w.heap.size u out ∧ CI w' base b bt m vt' vo' n' me next O' P' f' ∧ Rel me next O' P' f' n' L' [] ∧ Fr w (fpc b bt m vt vo) w' (fpc b bt m vt' vo') ∧ ∀ k, u.ownBlock = some k → ¬ fpc b bt m vt' vo' k
end Go.Proofs.Ytbgbdiiinggjnaa
