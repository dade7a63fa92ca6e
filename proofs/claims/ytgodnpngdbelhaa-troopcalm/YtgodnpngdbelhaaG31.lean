/-
  Nodes are made.
-/
import Derived.Test.YtgodnpngdbelhaaG30
import Derived.Test.YtgodnpngdbelhaaG28
import Derived.SliceStrings
import Derived.ChangeOld
import Derived.OpenShut
import Derived.ShutString
import Derived.ProofKit
import Derived.SizedLaws
namespace Go.Proofs.Ytgodnpngdbelhaa
open Go.RowKit Go.Maps
set_option linter.unusedVariables false
open M (E V)
open Rm (NT R)
open Tm (T)
/-- So many nodes are made. -/
structure NL (w wr : World) (b n j : Nat) (v : Value) (F : Nat → Nat → Prop) (bs : Nat → Nat) : Prop where
  row : wr.heap[b]? = some (.cells #[v, .slice none 0 0] 46 (0, 0))
  own : OwnL pl 47 wr w.heap.size v ((List.range j).map bs)
  rs : ∀ i, i < j → RS w wr (F i) (bs i) (Rm.r0 n i)
  ap : ∀ i l, i < j → l < j → i ≠ l → ∀ k, F i k → ¬ F l k
  nb : ∀ i, i < j → ¬ F i b
  vn : ∀ k, v.ownBlock = some k → k ≠ b ∧ ∀ i, i < j → ¬ F i k
  lo : w.heap.size ≤ b
  bel : Below w.heap.size w wr
section
variable {w wr w2 w' : World} {b n j : Nat} {v v' : Value} {F : Nat → Nat → Prop} {bs : Nat → Nat} {G : Nat → Prop}
theorem NL.lt (h : NL w wr b n j v F bs) : b < wr.heap.size := (Array.getElem?_eq_some_iff.1 h.row).1
theorem NL.keep (h : NL w wr b n j v F bs) (hb : Below wr.heap.size wr w') : NL w w' b n j v F bs :=
  ⟨bel_row h.row hb, h.own.keep hb, fun i hi => (h.rs i hi).keep hb, h.ap, h.nb, h.vn, h.lo, bel_up h.bel hb (Nat.le_refl _)⟩
def upB (bs : Nat → Nat) (i b : Nat) : Nat → Nat := fun l => if l = i then b else bs l
theorem map_upB (bs : Nat → Nat) (j b : Nat) : (List.range (j + 1)).map (upB bs j b) = (List.range j).map bs ++ [b] := by
  rw [List.range_succ, List.map_append]
  congr 1
  · apply List.map_congr_left
    intro i hi
    have := List.mem_range.1 hi
    unfold upB
    rw [if_neg (by omega)]
  · simp [upB]
/-- One more. -/
theorem NL.more (h : NL w wr b n j v F bs) {b' : Nat} (hr : RS w wr G b' (Rm.r0 n j)) (hG : ∀ i, i < j → ∀ k, F i k → ¬ G k) (hGb : ¬ G b) (hGv : ∀ k, v.ownBlock = some k → ¬ G k) (ho : OwnL pl 47 w' w.heap.size v' ((List.range j).map bs ++ [b'])) (hrw : Rw wr v w' v') :
    NL w (w'.setCell ⟨b, 0, none⟩ v') b n (j + 1) v' (upF F j G) (upB bs j b') := by
  have hf := rw_fr hrw
  have hfo := fr_one w' b 0 v'
  have hlo : ∀ k, v.ownBlock = some k → w.heap.size ≤ k := fun k hk => (h.own.lt hk).1
  have hbl : ∀ k, k = b → w.heap.size ≤ k := fun k e => by have := h.lo; omega
  have hrow : w'.heap[b]? = some (.cells #[v, .slice none 0 0] 46 (0, 0)) := (hf.block b h.lt (fun e => (h.vn b e).1 rfl)).trans h.row
  have hv' : ∀ k, v'.ownBlock = some k → v.ownBlock = some k ∨ wr.heap.size ≤ k := hrw.n
  have hv1 : ∀ k, v'.ownBlock = some k → k ≠ b := fun k hk e => by
    rcases hv' k hk with h' | h'
    · exact (h.vn k h').1 e
    · have := h.lt; omega
  refine ⟨?_, ?_, fun i hi => ?_, fun i l hi hl hil k => ?_, fun i hi => ?_, fun k hk => ⟨hv1 k hk, fun i hi e => ?_⟩, h.lo, ?_⟩
  · rw [heap_setCell_same w' b 0 _ _ _ hrow]; rfl
  · rw [map_upB]
    exact ho.keepBut fun k hk hk2 => hfo.block k hk (fun e => hv1 k hk2 e)
  · by_cases hij : i = j
    · subst hij
      rw [upF_same, show upB bs i b' i = b' from if_pos rfl]
      exact (hr.step hf (fun k hk e => hGv k e hk) hlo).step hfo (fun k hk e => hGb (e ▸ hk)) hbl
    · have hi' : i < j := by omega
      rw [upF_other _ _ hij, show upB bs j b' i = bs i from if_neg hij]
      exact ((h.rs i hi').step hf (fun k hk e => (h.vn k e).2 i hi' hk) hlo).step hfo (fun k hk e => h.nb i hi' (e ▸ hk)) hbl
  · by_cases h1 : i = j
    · subst h1
      by_cases h2 : l = i
      · exact absurd h2.symm hil
      · rw [upF_same, upF_other _ _ h2]
        exact fun hk e => hG l (by omega) k e hk
    · by_cases h2 : l = j
      · subst h2
        rw [upF_same, upF_other _ _ h1]
        exact hG i (by omega) k
      · rw [upF_other _ _ h1, upF_other _ _ h2]
        exact h.ap i l (by omega) (by omega) hil k
  · by_cases h1 : i = j
    · subst h1
      rw [upF_same]
      exact hGb
    · rw [upF_other _ _ h1]
      exact h.nb i (by omega)
  · by_cases h1 : i = j
    · subst h1
      rw [upF_same] at e
      rcases hv' k hk with h' | h'
      · exact hGv k h' e
      · have := (hr.mine k e).2; omega
    · rw [upF_other _ _ h1] at e
      rcases hv' k hk with h' | h'
      · exact (h.vn k h').2 i (by omega) e
      · have := ((h.rs i (by omega)).mine k e).2; omega
  · exact (h.bel.trans (hf.below hlo h.bel.size)).trans (hfo.below hbl (Nat.le_trans h.bel.size hf.size))
theorem NL.fin (h : NL w wr b n n v F bs) (hn : 1 ≤ n ∧ n ≤ 7) : ∃ G, TO w wr G b (Tm.t0 n) := by
  obtain ⟨ad, cc, hv, hx, hbk⟩ := h.own.at
  rcases h.own.2 with ⟨-, e⟩ | ⟨g, cap, cur, hv2, hb, hh, -⟩
  · rw [List.length_map, List.length_range] at e; omega
  · have hl : ((List.range n).map bs).length = n := by simp
    rw [hl] at hv hv2
    rw [hv2] at hv
    simp only [Value.slice.injEq, true_and] at hv
    obtain ⟨e1, e2⟩ := hv
    subst e1 e2
    have hgo : v.ownBlock = some g := (hbk g ⟨0, none, rfl⟩).2.1
    subst hv2
    have hg := h.vn g hgo
    exact ⟨_, g, cap, F, bs, .slice none 0 0, [], rfl, ⟨hn, h.row, hx, (hbk g ⟨0, none, rfl⟩).2.2, h.rs, h.ap, h.nb, fun e => by
      rcases e with e | ⟨i, hi, e⟩
      · exact hg.1 e
      · exact hg.2 i hi e, by simp [Value.ownBlock], ⟨OW.nil _ _, fun k hk => by simp [Value.ownBlock] at hk, fun y hy => (by cases hy)⟩, rfl, h.lo, hb⟩⟩
end
theorem new_yes (w0 w : World) (hb : Below w0.heap.size w0 w) (n me : Int) (h : Np.M.nde n me = true) : Calls Try.prog 24 #[.int .i64 n, .int .i64 me] w fun e w' => ∃ b G, e = .returned (ptr b) ∧ RS w0 w' G b (Rm.r0 n me) ∧ Below w.heap.size w w' ∧ ∀ k, G k → w.heap.size ≤ k := by
  refine (new_any w0 w hb n me).mono fun e w' hn => ?_
  rcases hn with ⟨hx, -⟩ | ⟨-, hx⟩
  · rw [h] at hx; cases hx
  · exact hx
/-- What New leaves. -/
def NewT (w : World) (n : Int) (e : Ending) (w' : World) : Prop :=
  (¬ (1 ≤ n ∧ n ≤ 7) ∧ e = .returned (.pointer none) ∧ w' = w) ∨ ((1 ≤ n ∧ n ≤ 7) ∧ ∃ b G, e = .returned (ptr b) ∧ TO w w' G b (Tm.t0 n.toNat) ∧ Below w.heap.size w w')
set_option maxRecDepth 100000 in
set_option maxHeartbeats 1000000 in
theorem newT_any (n : Int) (w : World) : Calls Try.prog 10 #[.int .i64 n] w (NewT w n) := by
  by_cases h0 : n < 1
  · have hd : decide (n < 1) = true := decide_eq_true h0
    have HK : Hid (NewT w n (.returned (.pointer none)) w) := .inl ⟨by omega, rfl, rfl⟩
    go_enter Try.func10, Try.ntmps10
    go_wp2
    go_ret
    exact HK.out
  · have hd : decide (n < 1) = false := decide_eq_false h0
    by_cases h1 : 7 < n
    · have hd : decide (7 < n) = true := decide_eq_true h1
      have HK : Hid (NewT w n (.returned (.pointer none)) w) := .inl ⟨by omega, rfl, rfl⟩
      go_enter Try.func10, Try.ntmps10
      go_wp2
      go_ret
      exact HK.out
    · have hd : decide (7 < n) = false := decide_eq_false h1
      obtain ⟨m, rfl⟩ : ∃ m : Nat, n = (m : Int) := ⟨n.toNat, by omega⟩
      have HM := Hid_of (show 1 ≤ m ∧ m ≤ 7 by omega)
      obtain ⟨W1, HW1⟩ : ∃ W1, Hid (w.alloc (.cells #[.slice none 0 0, .slice none 0 0] 46) = W1) := ⟨_, Hid_of rfl⟩
      have hb1 : Below w.heap.size w W1 := by rw [← HW1.out]; exact bel1 w _
      have hz1 : W1.heap[w.heap.size]? = some (.cells #[.slice none 0 0, .slice none 0 0] 46 (0, 0)) := by rw [← HW1.out]; exact heap_alloc_last w _
      obtain ⟨gz, hgz⟩ : ∃ gz, w.heap.size = gz := ⟨_, rfl⟩
      rw [hgz] at hz1
      have HL0 : Hid (NL w W1 gz m 0 (.slice none 0 0) (fun _ _ => False) (fun _ => 0)) := ⟨hz1, OwnL.nil _ _ _, fun i hi => (by omega), fun i l hi => (by omega), fun i hi => (by omega), fun k hk => (by simp [Value.ownBlock] at hk), by omega, hb1⟩
      have HGZ := Hid_of hgz
      clear hb1 hz1 hgz
      go_enter Try.func10, Try.ntmps10
      go_upto_region 4 with fail
      rw [HW1.out, HGZ.out]
      clear HW1
      go_wp2_with fail
      go_loopw [14] (fun i wr => ∃ (j : Nat) (v : Value) (F : Nat → Nat → Prop) (bs : Nat → Nat), j ≤ m ∧ i = .int .i64 j ∧ NL w wr gz m j v F bs) (fun i _ => m - (intOf i).toNat)
      case atStart => exact ⟨0, _, _, _, Nat.zero_le _, rfl, HL0.out⟩
      case round =>
        clear HL0
        obtain ⟨j, v, F, bs, hj, rfl, hn⟩ := hrel
        by_cases hlt : j < m
        · have hji : (j : Int) < (m : Int) := by omega
          obtain ⟨ad, cc, hv, -, -⟩ := hn.own.at
          rw [List.length_map, List.length_range] at hv
          subst hv
          have hnd : Np.M.nde (m : Int) (j : Int) = true := by
            have := HM.out
            unfold Np.M.nde
            simp only [Bool.and_eq_true, decide_eq_true_eq]
            omega
          have HN := Hid_of hn
          have HND := Hid_of hnd
          have HW : Hid (∀ w2 b' G, RS w w2 G b' (Rm.r0 m j) → Below wr.heap.size wr w2 → (∀ k, G k → wr.heap.size ≤ k) → w2.cell? ⟨gz, 0, none⟩ = some (.slice ad j cc) ∧ (w2.alloc (.cells #[ptr b'] 47)).cell? ⟨gz, 0, none⟩ = some (.slice ad j cc) ∧
              ∃ a' c' w3, (∀ ty, (Builtin.append_ #[43, 43] ty #[.slice ad j cc, .slice (some ⟨w2.heap.size, 0, none⟩) 1 1]).run Try.prog (w2.alloc (.cells #[ptr b'] 47)) = .ok (.slice a' (j + 1) c') w3) ∧
                (w3.cell? ⟨gz, 0, none⟩ = some (.slice ad j cc) ∧ w3.frozen? ⟨gz, 0, none⟩ = false) ∧
                ∀ W, W = w3.setCell ⟨gz, 0, none⟩ (.slice a' (j + 1) c') → ∃ v F bs, NL w W gz m (j + 1) v F bs) := by
            intro w2 b' G hrs hb2 hG
            have h2 := HN.out.keep hb2
            have h3 := h2.keep (bel1 w2 (.cells #[ptr b'] 47))
            obtain ⟨⟨k1, _⟩, _⟩ := row2 h2.row
            obtain ⟨⟨k2, _⟩, _⟩ := row2 h3.row
            refine ⟨k1, k2, ?_⟩
            have hml := HM.out
            obtain ⟨a', c', w3, hrun, ho, hrw⟩ := run_appL_ty tiP (w2.alloc (.cells #[ptr b'] 47)) w.heap.size (.slice ad j cc) ((List.range j).map bs) [b'] w2.heap.size 0 1 1 h3.own (atL_one (Y := pl) (t := 47) (heap_alloc_last w2 _)) rfl h3.bel.size (by simp; omega)
            have hl : ((List.range j).map bs).length + [b'].length = j + 1 := by simp
            rw [hl] at hrun ho hrw
            have hrow3 : w3.heap[gz]? = some (.cells #[.slice ad j cc, .slice none 0 0] 46 (0, 0)) := ((rw_fr hrw).block gz h3.lt (fun e => (h3.vn gz e).1 rfl)).trans h3.row
            refine ⟨a', c', w3, hrun, ⟨(row2 hrow3).1.1, (row2 hrow3).2 0⟩, ?_⟩
            rintro W rfl
            exact ⟨_, _, _, h3.more (hrs.keep (bel1 w2 _)) (fun i hi k hk e => by have := ((HN.out.rs i hi).mine k hk).2; have := hG k e; omega) (fun e => by have := HN.out.lt; have := hG _ e; omega) (fun k hk e => by have := (HN.out.own.lt hk).2; have := hG k e; omega) ho hrw⟩
          obtain ⟨⟨c0, _⟩, _⟩ := row2 hn.row
          clear hn hnd
          go_upto_region 7 with fail
          go_region_law (first
            | (go_simp; go_at_call 24; refine (new_yes w _ (Below.trans HN.out.bel ((Below.drew (Below.refl _ _)).mono HN.out.bel.size)) m j HND.out).mono ?_; rintro e w2 ⟨b', G, rfl, hrs, hb2, hG⟩; obtain ⟨k1, k2, a', c', w3, hrun, ⟨m1, m2⟩, hfin⟩ := HW.out w2 b' G hrs (Below.trans (Below.drew (Below.refl _ _)) hb2) hG; have HF := Hid_of hfin; clear hfin hb2 hrs hG; go_simp)
            | (refine Na.step_append_run rfl (.tmp 21) (.tmp 25) 43 rfl _ _ (by simp [Act.eval]) (by simp [Act.eval]) _ _ (hrun _) ?_))
          all_goals
            obtain ⟨v', F', bs', hnl⟩ := HF.out _ rfl
            have HNL := Hid_of hnl
            clear hnl HF
            go_wp2_with fail
            go_roundw
            case rel => exact ⟨j + 1, v', F', bs', by omega, by go_num, HNL.out⟩
            case measure => simp [intOf]; omega
        · obtain rfl : j = m := by omega
          have HK : Hid (NewT w (j : Int) (.returned (ptr gz)) wr) := by
            obtain ⟨G, hto⟩ := hn.fin HM.out
            exact .inr ⟨by have := HM.out; omega, gz, G, rfl, hto, hn.bel⟩
          clear hn
          go_wp2
          go_ret
          exact HK.out
end Go.Proofs.Ytgodnpngdbelhaa
namespace Go.Proofs.Ytgodnpngdbelhaa
open Go.ChangeShapes Go.WideShapes Go.ChangeAt Go.RowKit
set_option linter.unusedVariables false
open M (E V)

/-- A deed. -/
structure D where
  k : Int
  a : Int
  b : Int
  v : ByteArray
def D.ok (d : D) : Prop := (Lit.int .i64 d.k).wf = true ∧ (Lit.int .i64 d.a).wf = true ∧ (Lit.int .i64 d.b).wf = true ∧ d.v.size ≤ maxLen
def dl : Ly D := ⟨4, fun d => [.int .i64 d.k, .int .i64 d.a, .int .i64 d.b, .string d.v], fun _ => rfl, fun x v h => by simp at h; rcases h with rfl | rfl | rfl | rfl <;> rfl, by decide⟩
theorem AtL.getD {w : World} {a : Option Addr} {l : List D} (h : AtL dl w a l) (j : Nat) (hj : j < l.length) : ∃ b off, a = some ⟨b, off, none⟩ ∧ w.cell? ⟨b, off + j * 4, none⟩ = some (.int .i64 l[j].k) ∧ w.cell? ⟨b, off + j * 4 + 1, none⟩ = some (.int .i64 l[j].a) ∧ w.cell? ⟨b, off + j * 4 + 2, none⟩ = some (.int .i64 l[j].b) ∧ w.cell? ⟨b, off + j * 4 + 3, none⟩ = some (.string l[j].v) := by
  obtain ⟨b, off, e, h0⟩ := h j hj
  exact ⟨b, off, e, h0 0 (by decide), h0 1 (by decide), h0 2 (by decide), h0 3 (by decide)⟩
theorem AtL.getT' {w : World} {a : Option Addr} {l : List ByteArray} (h : AtL Nl.tl w a l) (j : Nat) (hj : j < l.length) : ∃ b off, a = some ⟨b, off, none⟩ ∧ w.cell? ⟨b, off + j * 1, none⟩ = some (.string l[j]) := by
  obtain ⟨b, off, e, h0⟩ := h j hj
  exact ⟨b, off, e, h0 0 (by decide)⟩
theorem Try.cells3 : Try.prog.cellsOf 3 = 1 := by kernel_rfl
theorem Try.cells9 : Try.prog.cellsOf 9 = 1 := by kernel_rfl
theorem Try.cells31 : Try.prog.cellsOf 31 = 4 := by kernel_rfl
theorem spot_of {w : World} {a : Addr} {v : Value} (h : w.cell? (a.add 0) = some v) : a.spot = none := by
  have hs := World.cell?_spot h
  simpa [Addr.add] using hs
section
variable {H : Type} {enc : TypeId × Value → H} {w : World} {base : Nat} {spare : Nat → Bool} {held : Bool} {fuel : Nat}
set_option maxRecDepth 100000 in
theorem open_deed {cs : List Value} {x : DataW H × List MemPlace} (h : DataW.trod enc Try.prog w base spare held fuel 31 cs = some x) : ∃ d : D, cs = dl.cs d ∧ d.ok := by
  obtain ⟨xs, n, rfl, hx, hl, hxs, hf⟩ := DataW.trod_struct Try.underlying31 h
  rw [Try.cells31] at hl
  obtain ⟨c0, c1, c2, c3, rfl⟩ : ∃ c0 c1 c2 c3, cs = [c0, c1, c2, c3] := by
    match cs, hl with
    | [a, b, c, d], _ => exact ⟨a, b, c, d, rfl⟩
  have hxs3 : xs.length = 4 := hxs
  obtain ⟨x0, x1, x2, x3, rfl⟩ : ∃ x0 x1 x2 x3, xs = [x0, x1, x2, x3] := by
    match xs, hxs3 with
    | [a, b, c, d], _ => exact ⟨a, b, c, d, rfl⟩
  have f0 : DataW.trod enc Try.prog w base spare held n 3 [c0] = some x0 := by have := hf 0 _ rfl; simpa [Try.cells3] using this
  have f1 : DataW.trod enc Try.prog w base spare held n 3 [c1] = some x1 := by have := hf 1 _ rfl; simpa [Try.cells3] using this
  have f2 : DataW.trod enc Try.prog w base spare held n 3 [c2] = some x2 := by have := hf 2 _ rfl; simpa [Try.cells3] using this
  have f3 : DataW.trod enc Try.prog w base spare held n 9 [c3] = some x3 := by have := hf 3 _ rfl; simpa [Try.cells9] using this
  obtain ⟨n0, e0, _, w0⟩ := DataW.trod_int Try.underlying3 f0
  obtain ⟨n1, e1, _, w1⟩ := DataW.trod_int Try.underlying3 f1
  obtain ⟨n2, e2, _, w2⟩ := DataW.trod_int Try.underlying3 f2
  obtain ⟨s3, e3, _, w3⟩ := DataW.trod_string Try.underlying9 f3
  simp only [List.cons.injEq, and_true] at e0 e1 e2 e3
  subst e0 e1 e2 e3
  exact ⟨⟨n0, n1, n2, s3⟩, rfl, w0, w1, w2, w3⟩
/-- The cells of a slice that came in, element by element. -/
theorem open_row {α : Type} {Y : Ly α} {T t : TypeId} {ok : α → Prop} (z : α) (hu : Try.prog.underlying T = some (.slice t)) (hc : Try.prog.cellsOf t = Y.n) (hop : ∀ (n : Nat) (cs : List Value) (x : DataW H × List MemPlace) (h : Bool) (sp : Nat → Bool), DataW.trod enc Try.prog w base sp h n t cs = some x → ∃ d : α, cs = Y.cs d ∧ ok d)
    {cs : List Value} {x : DataW H × List MemPlace} (h : DataW.trod enc Try.prog w base spare held fuel T cs = some x) :
    ∃ a len cap, ∃ l : List α, cs = [.slice a len cap] ∧ len = l.length ∧ AtL Y w a l ∧ l.length ≤ maxLen ∧ (∀ d ∈ l, ok d) := by
  rcases DataW.trod_slice hu h with ⟨hcs, _⟩ | ⟨a, len, cap, elems, rest, n, _, hcs, _, hb, hl, hm, hlen, hel, hsp, hns⟩
  · exact ⟨none, 0, 0, [], hcs, rfl, AtL.nil _ _, Nat.zero_le _, by simp⟩
  · have each : ∀ i, i < len → ∃ d : α, (∀ o (ho : o < Y.n), w.cell? ((a.add (i * Y.n)).add o) = some ((Y.cs d)[o]'(by rw [Y.len]; exact ho))) ∧ ok d := by
      intro i hi
      have he := hel i hi
      rw [List.getElem?_eq_getElem (by omega), Option.bind_eq_some_iff, hc] at he
      obtain ⟨cs', hcs', ht⟩ := he
      obtain ⟨d, rfl, hok⟩ := hop _ _ _ _ _ ht
      obtain ⟨_, _, hcc⟩ := World.cells?_some hcs'
      refine ⟨d, fun o ho => ?_, hok⟩
      have k0 := hcc o ho
      rw [List.getElem?_eq_getElem (by rw [Y.len]; exact ho)] at k0
      exact k0
    have ⟨f, hf⟩ : ∃ f : Nat → α, ∀ i, i < len → (∀ o (ho : o < Y.n), w.cell? ((a.add (i * Y.n)).add o) = some ((Y.cs (f i))[o]'(by rw [Y.len]; exact ho))) ∧ ok (f i) := by
      refine ⟨fun i => if h : i < len then Classical.choose (each i h) else z, fun i hi => ?_⟩
      have hs := Classical.choose_spec (each i hi)
      simp only [dif_pos hi]
      exact hs
    refine ⟨some a, len, cap, (List.range len).map f, hcs, by simp, fun j hj => ?_, by simp; omega, fun d hd => ?_⟩
    · rw [List.length_map, List.length_range] at hj
      have hsp : a.spot = none := by
        have q := (hf 0 (by omega)).1 0 Y.pos
        rw [Nat.zero_mul, Addr.add_add] at q
        exact spot_of (by simpa using q)
      obtain ⟨b, off, sp⟩ := a
      simp only at hsp
      subst hsp
      refine ⟨b, off, rfl, fun o ho => ?_⟩
      have q := (hf j hj).1 o ho
      rw [add_n, add_n] at q
      simp only [List.getElem_map, List.getElem_range]
      exact q
    · obtain ⟨i, hi, rfl⟩ := List.mem_map.1 hd
      exact (hf i (List.mem_range.1 hi)).2
theorem open_deeds {cs : List Value} {x : DataW H × List MemPlace} (h : DataW.trod enc Try.prog w base spare held fuel 22 cs = some x) :
    ∃ a len cap, ∃ l : List D, cs = [.slice a len cap] ∧ len = l.length ∧ AtL dl w a l ∧ l.length ≤ maxLen ∧ ∀ d ∈ l, d.ok :=
  open_row ⟨0, 0, 0, ⟨#[]⟩⟩ Try.underlying22 Try.cells31 (fun _ _ _ _ _ h => open_deed h) h
theorem open_text {cs : List Value} {x : DataW H × List MemPlace} (h : DataW.trod enc Try.prog w base spare held fuel 9 cs = some x) : ∃ d : ByteArray, cs = Nl.tl.cs d ∧ d.size ≤ maxLen := by
  obtain ⟨s, e, _, hs⟩ := DataW.trod_string Try.underlying9 h
  exact ⟨s, e, hs⟩
theorem open_texts {cs : List Value} {x : DataW H × List MemPlace} (h : DataW.trod enc Try.prog w base spare held fuel 28 cs = some x) :
    ∃ a len cap, ∃ l : List ByteArray, cs = [.slice a len cap] ∧ len = l.length ∧ AtL Nl.tl w a l ∧ l.length ≤ maxLen ∧ ∀ d ∈ l, d.size ≤ maxLen :=
  open_row ⟨#[]⟩ Try.underlying28 Try.cells9 (fun _ _ _ _ _ h => open_text h) h
end
theorem own : ownKnob Try.prog.godebug = none := by kernel_rfl
theorem laidOut : laidOutB Try.prog = true := by kernel_rfl
/-- Are deeds not too many, and too long? -/
def Few (l : List D) : Prop := l.length ≤ 200 ∧ ∀ d ∈ l, d.v.size ≤ 100
set_option maxRecDepth 100000 in
set_option maxHeartbeats 1000000 in
theorem few_any (a : Option Addr) (cap : Nat) (l : List D) (w : World) (hl : l.length ≤ maxLen) (hd : AtL dl w a l) (hok : ∀ d ∈ l, d.ok) :
    Calls Try.prog 7 #[.slice a l.length cap] w fun e w' => ∃ b, e = .returned (.bool b) ∧ (b = true → Few l) ∧ w' = w := by
  by_cases h80 : 200 < l.length
  · go_enter Try.func7, Try.ntmps7
    go_wp2
    go_ret
    exact ⟨false, rfl, (fun h => by cases h), rfl⟩
  · have HOK := Hid_of hok
    clear hok
    go_enter Try.func7, Try.ntmps7
    go_wp2
    go_loopw [3] (fun i wr => ∃ k : Nat, k ≤ l.length ∧ i = .int .i64 k ∧ wr = w ∧ Hid (∀ j (h : j < l.length), j < k → l[j].v.size ≤ 100)) (fun i _ => l.length - (intOf i).toNat)
    case atStart => exact ⟨0, by omega, rfl, rfl, fun j h hj => by omega⟩
    case round =>
      obtain ⟨k, hk, rfl, rfl, HF⟩ := hrel
      by_cases hlt : k < l.length
      · obtain ⟨b, off, rfl, c0, c1, c2, c3⟩ := AtL.getD hd k hlt
        have hsz : l[k].v.size ≤ 9223372036854775807 := by have := (HOK.out l[k] (List.getElem_mem hlt)).2.2.2; unfold maxLen at this; omega
        have HN : Hid (l[k].v.size ≤ 100 → ∀ j (h : j < l.length), j < k + 1 → l[j].v.size ≤ 100) := fun h j hj hjk => by
          rcases Nat.lt_or_ge j k with h' | h'
          · exact HF.out j hj h'
          · obtain rfl : j = k := by omega
            exact h
        clear hd HOK HF
        generalize l[k].v = s at *
        generalize l[k].k = dk at *
        generalize l[k].a = da at *
        generalize l[k].b = db at *
        by_cases h7 : 100 < s.size
        · have hdd : decide ((100 : Int) < (s.size : Int)) = true := by simp; omega
          go_wp2
          go_ret
          exact ⟨false, rfl, (fun h => by cases h), rfl⟩
        · have hdd : decide ((100 : Int) < (s.size : Int)) = false := by simp; omega
          have HN2 := Hid_of (HN.out (by omega))
          clear HN
          go_wp2
          go_roundw
          case rel => exact ⟨k + 1, by omega, by go_num, by first | rfl | trivial, HN2.out⟩
          case measure => simp [intOf]; omega
      · obtain rfl : k = l.length := by omega
        clear hd HOK
        have HFIN : Hid (Few l) := ⟨by omega, fun d hd => by
          obtain ⟨j, hj, rfl⟩ := List.getElem_of_mem hd
          exact HF.out j hj hj⟩
        clear HF
        go_wp2
        go_ret
        exact ⟨true, rfl, fun _ => HFIN.out, rfl⟩
end Go.Proofs.Ytgodnpngdbelhaa
namespace Go.Proofs.Ytgodnpngdbelhaa
open Go.RowKit Go.Maps
set_option linter.unusedVariables false
open M (E V)
open Rm (NT R)
open Tm (T)
section
variable {w0 w w' : World} {G : Nat → Prop} {b : Nat} {t : T} {D : ByteArray → Prop} {long : List ByteArray} {m : Nat}
theorem TO.keep (h : TO w0 w G b t) (hb : Below w.heap.size w w') : TO w0 w' G b t := by
  obtain ⟨g, c, F, bs, u, ys, rfl, hp⟩ := h
  exact (hp.keep hb).to
theorem TO.mine (h : TO w0 w G b t) : ∀ k, G k → w0.heap.size ≤ k ∧ k < w.heap.size := by
  obtain ⟨g, c, F, bs, u, ys, rfl, hp⟩ := h
  exact hp.mineU
/-- Something beside them has changed. -/
theorem TO.step (h : TO w0 w G b t) {H H' : Nat → Prop} (hf : Fr w H w' H') (hH : ∀ k, H k → ¬ G k ∧ w0.heap.size ≤ k) : TO w0 w' G b t := by
  obtain ⟨g, c, F, bs, u, ys, rfl, hp⟩ := h
  exact (hp.step hf fun k hk => ⟨fun e => (hH k hk).1 (.inl e), (hH k hk).2, fun e => (hH k hk).1 (.inr (.inl e)), fun y hy e => (hH k hk).1 (.inr (.inr ⟨y, hy, e⟩))⟩).to
theorem TO.bel (h : TO w0 w G b t) : Below w0.heap.size w0 w := by
  obtain ⟨g, c, F, bs, u, ys, rfl, hp⟩ := h
  exact hp.bel
theorem TO.log (h : TO w0 w G b t) (i : Int) : Calls Try.prog 12 #[ptr b, .int .i64 i] w fun e w' => ∃ ad c, e = .returned (.slice ad (Tm.logT t i).length c) ∧ XL Nl.tl w' ad c (Tm.logT t i) ∧ (∀ j, blk ad j → w.heap.size ≤ j ∧ j < w'.heap.size) ∧ Below w.heap.size w w' := by
  obtain ⟨g, c, F, bs, u, ys, rfl, hp⟩ := h
  exact hp.log i
theorem TO.leads (h : TO w0 w G b t) (i : Int) : Calls Try.prog 23 #[ptr b, .int .i64 i] w fun e w' => e = .returned (.bool (leadT t i)) ∧ w' = w := by
  obtain ⟨g, c, F, bs, u, ys, rfl, hp⟩ := h
  exact hp.leads i
theorem TO.waiting (h : TO w0 w G b t) : Calls Try.prog 17 #[ptr b] w fun e w' => e = .returned (.int .i64 t.way.length) ∧ w' = w := by
  obtain ⟨g, c, F, bs, u, ys, rfl, hp⟩ := h
  exact hp.waiting
theorem wf_slot {s : Int} (h : 0 ≤ s ∧ s < 1024) : (Lit.int .i64 s).wf = true := wf_few h.1 (by omega)
/-- What holds of nodes at each time lets a note arrive. -/
theorem rdy_of (h : Tm.Wel t D long) (hb : Tm.Bd t m) (hm : m ≤ 800) (k : Int) : Rdy t k := by
  obtain ⟨P, H, A, L, hs, -⟩ := h
  have hd : t.way.length ≠ 0 → Tm.isT t (Tm.atT t k).t = true := fun h0 => by
    have := (hs.nt _ (Tm.atT_mem (k := k) h0)).t
    unfold Tm.isT
    simp only [Bool.and_eq_true, decide_eq_true_eq]
    exact this
  refine ⟨hb.len, hd, fun h0 x hx => wf_slot ((hb.way _ (Tm.atT_mem h0)).2 x hx), fun h0 => ?_, fun h0 => ?_⟩
  · have h1 := (hb.way _ (Tm.atT_mem (k := k) h0)).1
    have h2 := hb.c _ (Tm.isT_yes (hd h0))
    omega
  · have h1 := (Tm.tk_nb (hs.nd _ (Tm.isT_yes (hd h0))) hs.hn (Tm.atT t k)).2
    omega
theorem Bd_le {m' : Nat} (h : Tm.Bd t m) (hm : m ≤ m') : Tm.Bd t m' := ⟨h.way, h.len, fun i hi => by have := h.c i hi; omega⟩
end
/-- A deed. -/
abbrev dV (d : D) : Value := .agg #[.int .i64 d.k, .int .i64 d.a, .int .i64 d.b, .string d.v]
set_option maxRecDepth 100000
set_option maxHeartbeats 1000000
section
variable {w0 w w' : World} {G : Nat → Prop} {b : Nat} {t : T}
theorem MO.conv {W : World} {r r' : Value} {t1 t2 : T} {e : Ending} (hb : Below w.heap.size w W) (hr : r = r') (ht : t1 = t2) (h : MO w0 W G b r t1 e w') : e = .returned r ∧ MO w0 w G b r' t2 (.returned r') w' := by
  obtain ⟨G', rfl, k1, k2⟩ := h
  subst hr ht
  exact ⟨rfl, G', rfl, k1, (Fr.ofBelow hb).trans k2⟩
theorem TO.do0 (h : TO w0 w G b t) (d : D) (hk : d.k = 0) (hr : d.k = 0 → Rdy t d.a) : Calls Try.prog 11 #[ptr b, dV d] w (MO w0 w G b (.bool (Tm.ddb t d.k d.a d.b d.v)) (Tm.ddT t d.k d.a d.b d.v)) := by
  obtain ⟨k, a, z, v⟩ := d
  simp only at hk
  subst hk
  simp only
  obtain ⟨W1, HW1⟩ : ∃ W1, Hid (w.alloc (.cells #[.int .i64 0, .int .i64 a, .int .i64 z, .string v] 31) = W1) := ⟨_, Hid_of rfl⟩
  have hb1 : Below w.heap.size w W1 := by rw [← HW1.out]; exact bel1 w _
  have hz1 : W1.heap[w.heap.size]? = some (.cells #[.int .i64 0, .int .i64 a, .int .i64 z, .string v] 31 (0, 0)) := by rw [← HW1.out]; exact heap_alloc_last w _
  obtain ⟨gz, hgz⟩ : ∃ gz, w.heap.size = gz := ⟨_, rfl⟩
  rw [hgz] at hz1
  obtain ⟨⟨c0, c1, c2, c3⟩, _⟩ := row4 hz1
  have cl := (h.keep hb1).deliver a (hr rfl)
  have HF : Hid (∀ e w', MO w0 W1 G b (.bool (!(t.way.length == 0))) (Tm.dlT t a) e w' → e = .returned (.bool (!(t.way.length == 0))) ∧ MO w0 w G b (.bool (Tm.ddb t 0 a z v)) (Tm.ddT t 0 a z v) (.returned (.bool (!(t.way.length == 0)))) w') := fun e w' hm => hm.conv hb1 rfl rfl
  have HGZ := Hid_of hgz
  clear h hb1 hz1 hgz
  generalize Tm.ddb t 0 a z v = bo at *
  generalize Tm.ddT t 0 a z v = tt at *
  generalize Tm.dlT t a = t2 at *
  obtain ⟨bx, hbx⟩ : ∃ bx, (!(t.way.length == 0)) = bx := ⟨_, rfl⟩
  rw [hbx] at cl HF
  clear hbx
  go_enter Try.func11, Try.ntmps11
  go_upto_region 1 with fail
  rw [HW1.out, HGZ.out]
  clear HW1
  go_wp2_with fail
  refine cl.mono ?_
  clear cl
  rintro e w1 hmo
  obtain ⟨rfl, hm⟩ := HF.out e w1 hmo
  have HM := Hid_of hm
  clear hmo hm HF
  go_wp2
  go_ret
  exact HM.out
theorem TO.do1 (h : TO w0 w G b t) (d : D) (hk : d.k = 1) (hm : t.way.length ≤ 1024) : Calls Try.prog 11 #[ptr b, dV d] w (MO w0 w G b (.bool (Tm.ddb t d.k d.a d.b d.v)) (Tm.ddT t d.k d.a d.b d.v)) := by
  obtain ⟨k, a, z, v⟩ := d
  simp only at hk
  subst hk
  simp only
  obtain ⟨W1, HW1⟩ : ∃ W1, Hid (w.alloc (.cells #[.int .i64 1, .int .i64 a, .int .i64 z, .string v] 31) = W1) := ⟨_, Hid_of rfl⟩
  have hb1 : Below w.heap.size w W1 := by rw [← HW1.out]; exact bel1 w _
  have hz1 : W1.heap[w.heap.size]? = some (.cells #[.int .i64 1, .int .i64 a, .int .i64 z, .string v] 31 (0, 0)) := by rw [← HW1.out]; exact heap_alloc_last w _
  obtain ⟨gz, hgz⟩ : ∃ gz, w.heap.size = gz := ⟨_, rfl⟩
  rw [hgz] at hz1
  obtain ⟨⟨c0, c1, c2, c3⟩, _⟩ := row4 hz1
  have cl := (h.keep hb1).drop a hm
  have HF : Hid (∀ e w', MO w0 W1 G b (.bool (!(t.way.length == 0))) (Tm.drT t a) e w' → e = .returned (.bool (!(t.way.length == 0))) ∧ MO w0 w G b (.bool (Tm.ddb t 1 a z v)) (Tm.ddT t 1 a z v) (.returned (.bool (!(t.way.length == 0)))) w') := fun e w' hm => hm.conv hb1 rfl rfl
  have HGZ := Hid_of hgz
  clear h hb1 hz1 hgz
  generalize Tm.ddb t 1 a z v = bo at *
  generalize Tm.ddT t 1 a z v = tt at *
  generalize Tm.drT t a = t2 at *
  obtain ⟨bx, hbx⟩ : ∃ bx, (!(t.way.length == 0)) = bx := ⟨_, rfl⟩
  rw [hbx] at cl HF
  clear hbx
  go_enter Try.func11, Try.ntmps11
  go_upto_region 1 with fail
  rw [HW1.out, HGZ.out]
  clear HW1
  go_wp2_with fail
  refine cl.mono ?_
  clear cl
  rintro e w1 hmo
  obtain ⟨rfl, hm⟩ := HF.out e w1 hmo
  have HM := Hid_of hm
  clear hmo hm HF
  go_wp2
  go_ret
  exact HM.out
theorem TO.do2 (h : TO w0 w G b t) (d : D) (hk : d.k = 2) (hm : t.way.length ≤ 1024) : Calls Try.prog 11 #[ptr b, dV d] w (MO w0 w G b (.bool (Tm.ddb t d.k d.a d.b d.v)) (Tm.ddT t d.k d.a d.b d.v)) := by
  obtain ⟨k, a, z, v⟩ := d
  simp only at hk
  subst hk
  simp only
  obtain ⟨W1, HW1⟩ : ∃ W1, Hid (w.alloc (.cells #[.int .i64 2, .int .i64 a, .int .i64 z, .string v] 31) = W1) := ⟨_, Hid_of rfl⟩
  have hb1 : Below w.heap.size w W1 := by rw [← HW1.out]; exact bel1 w _
  have hz1 : W1.heap[w.heap.size]? = some (.cells #[.int .i64 2, .int .i64 a, .int .i64 z, .string v] 31 (0, 0)) := by rw [← HW1.out]; exact heap_alloc_last w _
  obtain ⟨gz, hgz⟩ : ∃ gz, w.heap.size = gz := ⟨_, rfl⟩
  rw [hgz] at hz1
  obtain ⟨⟨c0, c1, c2, c3⟩, _⟩ := row4 hz1
  have cl := (h.keep hb1).double a hm
  have HF : Hid (∀ e w', MO w0 W1 G b (.bool (!(t.way.length == 0) && decide (t.way.length < 1024))) (Tm.dbT t a) e w' → e = .returned (.bool (!(t.way.length == 0) && decide (t.way.length < 1024))) ∧ MO w0 w G b (.bool (Tm.ddb t 2 a z v)) (Tm.ddT t 2 a z v) (.returned (.bool (!(t.way.length == 0) && decide (t.way.length < 1024)))) w') := fun e w' hm => hm.conv hb1 rfl rfl
  have HGZ := Hid_of hgz
  clear h hb1 hz1 hgz
  generalize Tm.ddb t 2 a z v = bo at *
  generalize Tm.ddT t 2 a z v = tt at *
  generalize Tm.dbT t a = t2 at *
  obtain ⟨bx, hbx⟩ : ∃ bx, (!(t.way.length == 0) && decide (t.way.length < 1024)) = bx := ⟨_, rfl⟩
  rw [hbx] at cl HF
  clear hbx
  go_enter Try.func11, Try.ntmps11
  go_upto_region 1 with fail
  rw [HW1.out, HGZ.out]
  clear HW1
  go_wp2_with fail
  refine cl.mono ?_
  clear cl
  rintro e w1 hmo
  obtain ⟨rfl, hm⟩ := HF.out e w1 hmo
  have HM := Hid_of hm
  clear hmo hm HF
  go_wp2
  go_ret
  exact HM.out
theorem TO.do3 (h : TO w0 w G b t) (d : D) (hk : d.k = 3) : Calls Try.prog 11 #[ptr b, dV d] w (MO w0 w G b (.bool (Tm.ddb t d.k d.a d.b d.v)) (Tm.ddT t d.k d.a d.b d.v)) := by
  obtain ⟨k, a, z, v⟩ := d
  simp only at hk
  subst hk
  simp only
  obtain ⟨W1, HW1⟩ : ∃ W1, Hid (w.alloc (.cells #[.int .i64 3, .int .i64 a, .int .i64 z, .string v] 31) = W1) := ⟨_, Hid_of rfl⟩
  have hb1 : Below w.heap.size w W1 := by rw [← HW1.out]; exact bel1 w _
  have hz1 : W1.heap[w.heap.size]? = some (.cells #[.int .i64 3, .int .i64 a, .int .i64 z, .string v] 31 (0, 0)) := by rw [← HW1.out]; exact heap_alloc_last w _
  obtain ⟨gz, hgz⟩ : ∃ gz, w.heap.size = gz := ⟨_, rfl⟩
  rw [hgz] at hz1
  obtain ⟨⟨c0, c1, c2, c3⟩, _⟩ := row4 hz1
  have cl := (h.keep hb1).lead a
  have HF : Hid (∀ e w', MO w0 W1 G b (.bool (Tm.isT t a)) (Tm.ldT t a) e w' → e = .returned (.bool (Tm.isT t a)) ∧ MO w0 w G b (.bool (Tm.ddb t 3 a z v)) (Tm.ddT t 3 a z v) (.returned (.bool (Tm.isT t a))) w') := fun e w' hm => hm.conv hb1 rfl rfl
  have HGZ := Hid_of hgz
  clear h hb1 hz1 hgz
  generalize Tm.ddb t 3 a z v = bo at *
  generalize Tm.ddT t 3 a z v = tt at *
  generalize Tm.ldT t a = t2 at *
  obtain ⟨bx, hbx⟩ : ∃ bx, (Tm.isT t a) = bx := ⟨_, rfl⟩
  rw [hbx] at cl HF
  clear hbx
  go_enter Try.func11, Try.ntmps11
  go_upto_region 1 with fail
  rw [HW1.out, HGZ.out]
  clear HW1
  go_wp2_with fail
  refine cl.mono ?_
  clear cl
  rintro e w1 hmo
  obtain ⟨rfl, hm⟩ := HF.out e w1 hmo
  have HM := Hid_of hm
  clear hmo hm HF
  go_wp2
  go_ret
  exact HM.out
theorem TO.do4 (h : TO w0 w G b t) (d : D) (hk : d.k = 4) : Calls Try.prog 11 #[ptr b, dV d] w (MO w0 w G b (.bool (Tm.ddb t d.k d.a d.b d.v)) (Tm.ddT t d.k d.a d.b d.v)) := by
  obtain ⟨k, a, z, v⟩ := d
  simp only at hk
  subst hk
  simp only
  obtain ⟨W1, HW1⟩ : ∃ W1, Hid (w.alloc (.cells #[.int .i64 4, .int .i64 a, .int .i64 z, .string v] 31) = W1) := ⟨_, Hid_of rfl⟩
  have hb1 : Below w.heap.size w W1 := by rw [← HW1.out]; exact bel1 w _
  have hz1 : W1.heap[w.heap.size]? = some (.cells #[.int .i64 4, .int .i64 a, .int .i64 z, .string v] 31 (0, 0)) := by rw [← HW1.out]; exact heap_alloc_last w _
  obtain ⟨gz, hgz⟩ : ∃ gz, w.heap.size = gz := ⟨_, rfl⟩
  rw [hgz] at hz1
  obtain ⟨⟨c0, c1, c2, c3⟩, _⟩ := row4 hz1
  have cl := (h.keep hb1).propose a v
  have HF : Hid (∀ e w', MO w0 W1 G b (.int .i64 (Tm.ppcT t a v)) (Tm.ppT t a v) e w' → e = .returned (.int .i64 (Tm.ppcT t a v)) ∧ MO w0 w G b (.bool (Tm.ppcT t a v == 0)) (Tm.ddT t 4 a z v) (.returned (.bool (Tm.ppcT t a v == 0))) w') := fun e w' hm => by
    obtain ⟨G', rfl, k1, k2⟩ := hm
    exact ⟨rfl, G', rfl, k1, (Fr.ofBelow hb1).trans k2⟩
  have HGZ := Hid_of hgz
  have HBO : Tm.ddb t 4 a z v = (Tm.ppcT t a v == 0) := rfl
  rw [HBO]
  clear h hb1 hz1 hgz HBO
  generalize Tm.ddT t 4 a z v = tt at *
  generalize Tm.ppT t a v = t2 at *
  obtain ⟨bx, hbx⟩ : ∃ bx, Tm.ppcT t a v = bx := ⟨_, rfl⟩
  rw [hbx] at cl HF ⊢
  clear hbx
  go_enter Try.func11, Try.ntmps11
  go_upto_region 1 with fail
  rw [HW1.out, HGZ.out]
  clear HW1
  go_wp2_with fail
  refine cl.mono ?_
  clear cl
  rintro e w1 hmo
  obtain ⟨rfl, hm⟩ := HF.out e w1 hmo
  have HM := Hid_of hm
  clear hmo hm HF
  go_wp2
  go_ret
  exact HM.out
theorem TO.do5 (h : TO w0 w G b t) (d : D) (hk : d.k = 5) : Calls Try.prog 11 #[ptr b, dV d] w (MO w0 w G b (.bool (Tm.ddb t d.k d.a d.b d.v)) (Tm.ddT t d.k d.a d.b d.v)) := by
  obtain ⟨k, a, z, v⟩ := d
  simp only at hk
  subst hk
  simp only
  obtain ⟨W1, HW1⟩ : ∃ W1, Hid (w.alloc (.cells #[.int .i64 5, .int .i64 a, .int .i64 z, .string v] 31) = W1) := ⟨_, Hid_of rfl⟩
  have hb1 : Below w.heap.size w W1 := by rw [← HW1.out]; exact bel1 w _
  have hz1 : W1.heap[w.heap.size]? = some (.cells #[.int .i64 5, .int .i64 a, .int .i64 z, .string v] 31 (0, 0)) := by rw [← HW1.out]; exact heap_alloc_last w _
  obtain ⟨gz, hgz⟩ : ∃ gz, w.heap.size = gz := ⟨_, rfl⟩
  rw [hgz] at hz1
  obtain ⟨⟨c0, c1, c2, c3⟩, _⟩ := row4 hz1
  have cl := (h.keep hb1).ask a z
  have HF : Hid (∀ e w', MO w0 W1 G b (.bool (Tm.isT t a && Tm.isT t z)) (akD t a z) e w' → e = .returned (.bool (Tm.isT t a && Tm.isT t z)) ∧ MO w0 w G b (.bool (Tm.ddb t 5 a z v)) (Tm.ddT t 5 a z v) (.returned (.bool (Tm.isT t a && Tm.isT t z))) w') := fun e w' hm => hm.conv hb1 rfl rfl
  have HGZ := Hid_of hgz
  clear h hb1 hz1 hgz
  generalize Tm.ddb t 5 a z v = bo at *
  generalize Tm.ddT t 5 a z v = tt at *
  generalize akD t a z = t2 at *
  obtain ⟨bx, hbx⟩ : ∃ bx, (Tm.isT t a && Tm.isT t z) = bx := ⟨_, rfl⟩
  rw [hbx] at cl HF
  clear hbx
  go_enter Try.func11, Try.ntmps11
  go_upto_region 1 with fail
  rw [HW1.out, HGZ.out]
  clear HW1
  go_wp2_with fail
  refine cl.mono ?_
  clear cl
  rintro e w1 hmo
  obtain ⟨rfl, hm⟩ := HF.out e w1 hmo
  have HM := Hid_of hm
  clear hmo hm HF
  go_wp2
  go_ret
  exact HM.out
theorem TO.do6 (h : TO w0 w G b t) (d : D) (hk : d.k = 6) : Calls Try.prog 11 #[ptr b, dV d] w (MO w0 w G b (.bool (Tm.ddb t d.k d.a d.b d.v)) (Tm.ddT t d.k d.a d.b d.v)) := by
  obtain ⟨k, a, z, v⟩ := d
  simp only at hk
  subst hk
  simp only
  obtain ⟨W1, HW1⟩ : ∃ W1, Hid (w.alloc (.cells #[.int .i64 6, .int .i64 a, .int .i64 z, .string v] 31) = W1) := ⟨_, Hid_of rfl⟩
  have hb1 : Below w.heap.size w W1 := by rw [← HW1.out]; exact bel1 w _
  have hz1 : W1.heap[w.heap.size]? = some (.cells #[.int .i64 6, .int .i64 a, .int .i64 z, .string v] 31 (0, 0)) := by rw [← HW1.out]; exact heap_alloc_last w _
  obtain ⟨gz, hgz⟩ : ∃ gz, w.heap.size = gz := ⟨_, rfl⟩
  rw [hgz] at hz1
  obtain ⟨⟨c0, c1, c2, c3⟩, _⟩ := row4 hz1
  have cl := (h.keep hb1).crash a
  have HF : Hid (∀ e w', MO w0 W1 G b (.bool (Tm.isT t a)) (Tm.crT t a) e w' → e = .returned (.bool (Tm.isT t a)) ∧ MO w0 w G b (.bool (Tm.ddb t 6 a z v)) (Tm.ddT t 6 a z v) (.returned (.bool (Tm.isT t a))) w') := fun e w' hm => hm.conv hb1 rfl rfl
  have HGZ := Hid_of hgz
  clear h hb1 hz1 hgz
  generalize Tm.ddb t 6 a z v = bo at *
  generalize Tm.ddT t 6 a z v = tt at *
  generalize Tm.crT t a = t2 at *
  obtain ⟨bx, hbx⟩ : ∃ bx, (Tm.isT t a) = bx := ⟨_, rfl⟩
  rw [hbx] at cl HF
  clear hbx
  go_enter Try.func11, Try.ntmps11
  go_upto_region 1 with fail
  rw [HW1.out, HGZ.out]
  clear HW1
  go_wp2_with fail
  refine cl.mono ?_
  clear cl
  rintro e w1 hmo
  obtain ⟨rfl, hm⟩ := HF.out e w1 hmo
  have HM := Hid_of hm
  clear hmo hm HF
  go_wp2
  go_ret
  exact HM.out
theorem TO.do_any (h : TO w0 w G b t) (d : D) (hr : d.k = 0 → Rdy t d.a) (hm : t.way.length ≤ 1024) : Calls Try.prog 11 #[ptr b, dV d] w (MO w0 w G b (.bool (Tm.ddb t d.k d.a d.b d.v)) (Tm.ddT t d.k d.a d.b d.v)) := by
  by_cases h0 : d.k = 0
  · exact h.do0 d h0 hr
  by_cases h1 : d.k = 1
  · exact h.do1 d h1 hm
  by_cases h2 : d.k = 2
  · exact h.do2 d h2 hm
  by_cases h3 : d.k = 3
  · exact h.do3 d h3
  by_cases h4 : d.k = 4
  · exact h.do4 d h4
  by_cases h5 : d.k = 5
  · exact h.do5 d h5
  by_cases h6 : d.k = 6
  · exact h.do6 d h6
  obtain ⟨k, a, z, v⟩ := d
  simp only at h0 h1 h2 h3 h4 h5 h6 ⊢
  have hd : Tm.ddT t k a z v = t := by unfold Tm.ddT; rw [if_neg h0, if_neg h1, if_neg h2, if_neg h3, if_neg h4, if_neg h5, if_neg h6]
  have hb : Tm.ddb t k a z v = false := by unfold Tm.ddb; rw [if_neg h0, if_neg h1, if_neg h2, if_neg h3, if_neg h4, if_neg h5, if_neg h6]
  rw [hd, hb]
  obtain ⟨W1, HW1⟩ : ∃ W1, Hid (w.alloc (.cells #[.int .i64 k, .int .i64 a, .int .i64 z, .string v] 31) = W1) := ⟨_, Hid_of rfl⟩
  have hb1 : Below w.heap.size w W1 := by rw [← HW1.out]; exact bel1 w _
  have hz1 : W1.heap[w.heap.size]? = some (.cells #[.int .i64 k, .int .i64 a, .int .i64 z, .string v] 31 (0, 0)) := by rw [← HW1.out]; exact heap_alloc_last w _
  obtain ⟨gz, hgz⟩ : ∃ gz, w.heap.size = gz := ⟨_, rfl⟩
  rw [hgz] at hz1
  obtain ⟨⟨c0, c1, c2, c3⟩, _⟩ := row4 hz1
  have HM : Hid (MO w0 w G b (.bool false) t (.returned (.bool false)) W1) := ⟨G, rfl, h.keep hb1, Fr.ofBelow hb1⟩
  have HGZ := Hid_of hgz
  clear h hr hm hb1 hz1 hgz hd hb
  go_enter Try.func11, Try.ntmps11
  go_upto_region 1 with fail
  rw [HW1.out, HGZ.out]
  clear HW1
  go_wp2
  go_ret
  exact HM.out
end
end Go.Proofs.Ytgodnpngdbelhaa
