/-
  Rows of keys of one's own; all keys; room is made.
-/
import Derived.Test.YtpfmdchmgaaakaaF
import Derived.Deep.AppendLies
namespace Go.Proofs.Ytpfmdchmgaaakaa
open Go.RowKit Go.Maps
set_option linter.unusedVariables false
open M (K)

/-- A row of ints of one's own. -/
def OwnI (w : World) (base : Nat) (v : Value) (l : List Int) : Prop := w.ownsRow base 3 1 v l.length (l.map (Value.int .i64))
theorem hi3 : Try.prog.info? 3 = some Try.t3 := rfl
theorem hz3 : Try.t3.zero = some (.int .i64 0) := rfl
theorem hs3 : Try.t3.size = 1 := rfl
theorem hb3 : Try.t3.bytes = 8 := rfl
theorem OwnI.nil (w : World) (base : Nat) : OwnI w base (.slice none 0 0) [] := World.ownsRow_nil _ _ _ _
theorem OwnI.keepBut {w w1 : World} {base : Nat} {v : Value} {l : List Int} (h : OwnI w base v l) (hos : w1.os = w.os) (ht : w1.tape = w.tape) (ho : w1.output = w.output) (hs : w.heap.size ≤ w1.heap.size) (hb : ∀ k, k < w.heap.size → v.ownBlock = some k → w1.heap[k]? = w.heap[k]?) : OwnI w1 base v l := by
  refine ⟨h.1, ?_⟩
  rcases h.2 with h' | ⟨g, cap, cur, hv, hg, hh, rest⟩
  · exact .inl h'
  · refine .inr ⟨g, cap, cur, hv, hg, ?_, rest⟩
    rw [hb g (Array.getElem?_eq_some_iff.1 hh).1 (by rw [hv]; rfl)]
    exact hh
theorem OwnI.keep {w w1 : World} {base : Nat} {v : Value} {l : List Int} (h : OwnI w base v l) (hb : Below w.heap.size w w1) : OwnI w1 base v l := h.keepBut hb.os hb.tape hb.output hb.size fun k hk _ => hb.block k hk
theorem OwnI.low {w : World} {base base' : Nat} {v : Value} {l : List Int} (h : OwnI w base v l) (hb : base' ≤ base) : OwnI w base' v l := by
  refine ⟨h.1, ?_⟩
  rcases h.2 with h' | ⟨g, cap, cur, hv, hg, rest⟩
  · exact .inl h'
  · exact .inr ⟨g, cap, cur, hv, Nat.le_trans hb hg, rest⟩
theorem OwnI.slice {w : World} {base : Nat} {v : Value} {l : List Int} (h : OwnI w base v l) : ∃ a cap, v = .slice a l.length cap := by
  rcases h.2 with ⟨rfl, h0⟩ | ⟨g, cap, cur, rfl, _⟩
  · exact ⟨none, 0, by rw [h0]⟩
  · exact ⟨_, cap, rfl⟩
theorem cell_one (w : World) (B : Nat) (v0 : Value) (t : TypeId) (h : w.heap[B]? = some (.cells #[v0] t (0, 0))) : ∀ (j : Nat) (x : Value), [v0][j]? = some x → w.cell? ((⟨B, 0, none⟩ : Addr).add j) = some x := by
  intro j x hx
  have hadd : (⟨B, 0, none⟩ : Addr).add j = ⟨B, j, none⟩ := by unfold Addr.add; split <;> simp_all
  rw [hadd, cell_of_row _ _ j _ _ _ h]
  simpa using hx
/-- What has become of a row: nothing else has changed; it lies where it lay, or in new memory. -/
structure Rw (w : World) (v : Value) (w' : World) (v' : Value) : Prop where
  g : w.grownBy w' v.ownBlock
  n : ∀ k, v'.ownBlock = some k → v.ownBlock = some k ∨ w.heap.size ≤ k
theorem rw_lies {w w3 : World} {v : Value} {g n cp H : Nat} (hgrow : w.grownBy w3 v.ownBlock) (hat : v.ownBlock = some g ∨ g = H) (hH : w.heap.size = H) : Rw w v w3 (.slice (some ⟨g, 0, none⟩) n cp) := by
  refine ⟨hgrow, fun k hk => ?_⟩
  simp only [Value.ownBlock, Option.some.injEq] at hk
  subst hk
  rcases hat with h | h
  · exact .inl h
  · exact .inr (by omega)
theorem Rw.below {B : Nat} {w w1 : World} {v v1 : Value} (h : Rw w v w1 v1) (hv : ∀ k, v.ownBlock = some k → B ≤ k) (hB : B ≤ w.heap.size) : Below B w w1 :=
  ⟨h.g.os, h.g.tape, h.g.output, h.g.size, fun k hk => h.g.block k (by omega) (fun e => by have := hv k e.symm; omega)⟩
def sl (v : Value) : Nat := match v with | .slice _ n _ => n | _ => 0
/-- A row of ints that a call returns: new. -/
def KyOut (w : World) (l : List Int) (e : Ending) (w' : World) : Prop := ∃ v, e = .returned v ∧ OwnI w' w.heap.size v l ∧ Below w.heap.size w w'
set_option maxRecDepth 100000 in
set_option maxHeartbeats 2000000 in
theorem keys_any (c m n : Nat) (most : Int) (L : List (Nat × K)) (w : World) (h : CI w c m n most L) (hl : L.length ≤ 1000000) :
    Calls Try.prog 20 #[.pointer (some ⟨c, 0, none⟩)] w (KyOut w ((ks L).map (·.key))) := by
  obtain ⟨⟨c0, c1, c2, c3, c4⟩, cf⟩ := row5 h.row
  have HL : Hid (∀ w', Below w.heap.size w w' → Lk w' none L none) := fun w' hb => h.lk.keep fun b hb' => hb.block b (h.lk.lt b hb')
  clear h cf c0 c1 c2 c4
  generalize hp : ptr (hd L none) = pv at *
  have hp' : pv = .pointer none ∨ ∃ b, pv = .pointer (some ⟨b, 0, none⟩) := by
    rw [← hp]
    cases hd L none with
    | none => exact .inl rfl
    | some b => exact .inr ⟨b, rfl⟩
  have HP := Hid_of hp
  clear hp
  have HLP : Hid (∀ (A B : List (Nat × K)) (x : Value), x = ptr (hd B none) → x = .pointer none ∨ ∃ b, x = .pointer (some ⟨b, 0, none⟩)) := fun A B x hx => by
    rw [hx]
    cases hd B none with
    | none => exact .inl rfl
    | some b => exact .inr ⟨b, rfl⟩
  go_enter Try.func20, Try.ntmps20
  go_wp2
  go_loopw [3, 4] (fun x p wr => ∃ A B, L = A ++ B ∧ p = ptr (hd B none) ∧ OwnI wr w.heap.size x ((ks A).map (·.key)) ∧ Below w.heap.size w wr) (fun x _ _ => L.length - sl x)
  case atStart => exact ⟨[], L, rfl, HP.out.symm, OwnI.nil _ _, Below.refl _ _⟩
  case round =>
    obtain ⟨A, B, hL, rfl, hown, hbel⟩ := hrel
    cases B with
    | nil =>
      rw [List.append_nil] at hL
      have HK : Hid (KyOut w ((ks L).map (·.key)) (.returned u3) wr) := ⟨u3, rfl, by rw [hL]; exact hown, hbel⟩
      clear hown hbel HL HP HLP hp' c3
      simp only [hd, ptr]
      go_wp2
      go_ret
      exact HK.out
    | cons y B =>
      have hlk := HL.out wr hbel
      rw [hL] at hlk
      obtain ⟨⟨y0, y1, y2, y3, y4⟩, yf⟩ := row5 hlk.at
      obtain ⟨ax, cx, rfl⟩ := hown.slice
      have hlen : ((ks A).map (·.key)).length = A.length := by simp [ks]
      have hAL : A.length < L.length := by rw [hL]; simp
      rw [hlen] at hown ⊢
      have HO : Hid (wr.ownsRow w.heap.size 3 1 (.slice ax A.length cx) A.length (((ks A).map (·.key)).map (Value.int .i64))) := by
        have := hown
        unfold OwnI at this
        rw [hlen] at this
        exact this
      have hsz := hbel.size
      have HB := Hid_of hbel
      have HE : Hid (((ks (A ++ [y])).map (·.key)).map (Value.int .i64) = ((ks A).map (·.key)).map (Value.int .i64) ++ [.int .i64 y.2.key]) := by
        show _ = _
        rw [ks_app]
        simp [ks]
      have HLL : Hid (L = A ++ [y] ++ B) := by show _ = _; rw [hL]; simp
      have HY : Hid (∀ W, Below w.heap.size w W → W.cell? ⟨y.1, 4, none⟩ = some (ptr (hd B none))) := fun W hW => by
        have := HL.out W hW
        rw [hL] at this
        exact (row5 this.at).1.2.2.2.2
      clear hown hbel hlk yf y1 y2 y3 y4 hlen hL HL HP hp' c3
      generalize hq : ptr (hd B none) = pq at *
      have HQ := Hid_of hq
      have hpq := HLP.out A B pq hq.symm
      clear hq
      simp only [hd, ptr]
      obtain ⟨yb, yk, yv, yp⟩ := y
      simp only at *
      rcases hpq with rfl | ⟨nb, rfl⟩
      all_goals
        go_wp2_with (at_builtin; refine wpList_append_lies _ rfl _ _ 33 rfl w.heap.size 3 Try.t3 _ 1 8 Try.underlying33 hi3 hz3 hs3 hb3 rfl (by decide) _ _ _ rfl (HO.out.alloc _) ⟨wr.heap.size, 0, none⟩ 1 1 [.int .i64 yk] rfl rfl (cell_one _ _ _ _ (heap_alloc_last _ _)) (by simp; rfl) (by decide) (by unfold maxLen; omega) (by omega) (by simp; omega) _ rfl ?_; intro g3 cp w3 hown3 hgrow hat hlt3; have hrw := rw_lies (v := .slice ax A.length cx) (n := A.length + 1) (cp := cp) hgrow hat rfl; have HB5 : Hid (Below w.heap.size w w3) := (HB.out.alloc hsz _).trans (hrw.below (fun k hk => (World.ownsRow.lt HO.out k hk).1) (by simp; omega)); have z4 := HY.out w3 HB5.out; clear hrw hgrow hat)
        go_roundw
        case rel =>
          refine ⟨A ++ [_], B, HLL.out, HQ.out.symm, ?_, HB5.out⟩
          unfold OwnI
          rw [HE.out, show ((ks (A ++ [_])).map (·.key)).length = A.length + 1 by simp [ks]]
          exact hown3
        case measure => simp [sl]; omega
end Go.Proofs.Ytpfmdchmgaaakaa
