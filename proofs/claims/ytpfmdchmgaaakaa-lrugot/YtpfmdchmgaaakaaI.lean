/-
  Room is made.
-/
import Derived.Test.YtpfmdchmgaaakaaH
namespace Go.Proofs.Ytpfmdchmgaaakaa
open Go.RowKit Go.Maps
set_option linter.unusedVariables false
open M (K)

/-- How many entries follow a pointer. -/
def chain (w : World) : Nat → Value → Nat
  | 0, _ => 0
  | f + 1, v => match v with
    | .pointer (some a) => (match w.cell? ⟨a.block, 4, none⟩ with | some u => chain w f u + 1 | none => 0)
    | _ => 0
theorem chain_eq {w : World} : ∀ {p : Option Nat} {B : List (Nat × K)} {f : Nat}, Lk w p B none → B.length ≤ f → chain w f (ptr (hd B none)) = B.length
  | p, [], 0, _, _ => rfl
  | p, [], f + 1, _, _ => rfl
  | p, x :: r, 0, _, h => by simp at h
  | p, x :: r, f + 1, hl, h => by
    have := chain_eq hl.2 (f := f) (by simpa using h)
    have c := (row5 hl.1).1.2.2.2.2
    simp only [hd, ptr, chain]
    rw [c]
    simp only [List.length_cons]
    rw [← this]
/-- Where making room has come to: of the row A stays, B is to be looked at. -/
structure MR (w wr : World) (c m n : Nat) (most lm : Int) (L A B : List (Nat × K)) (gone : List Int) (x : Value) : Prop where
  own : OwnI wr w.heap.size x gone
  ci : CI wr c m n most (A ++ B)
  fr : Fr w c m L wr (A ++ B)
  sub : ∀ b ∈ bs (A ++ B), b ∈ bs L
  wl : M.wlk lm (ks L) (M.bytes (ks L)) = (ks A ++ (M.wlk lm (ks B) (M.bytes (ks (A ++ B)))).1, gone ++ (M.wlk lm (ks B) (M.bytes (ks (A ++ B)))).2)
  len : gone.length + (A ++ B).length ≤ L.length
theorem MR.keep {w wr w' : World} {c m n : Nat} {most lm : Int} {L A B : List (Nat × K)} {gone : List Int} {x : Value} (h : MR w wr c m n most lm L A B gone x) (hb : Below wr.heap.size wr w') : MR w w' c m n most lm L A B gone x :=
  ⟨h.own.keep hb, h.ci.keep hb, h.fr.trans (Fr.ofBelow hb), h.sub, h.wl, h.len⟩
def MrOut (w : World) (c m n : Nat) (most lm : Int) (L : List (Nat × K)) (e : Ending) (w' : World) : Prop :=
  ∃ v L', e = .returned v ∧ CI w' c m n most L' ∧ ks L' = (M.wlk lm (ks L) (M.bytes (ks L))).1 ∧ OwnI w' w.heap.size v (M.wlk lm (ks L) (M.bytes (ks L))).2 ∧ Fr w c m L w' L' ∧ ∀ b ∈ bs L', b ∈ bs L
theorem MR.done {w wr : World} {c m n : Nat} {most lm : Int} {L A B : List (Nat × K)} {gone : List Int} {x : Value} (h : MR w wr c m n most lm L A B gone x) (hB : M.wlk lm (ks B) (M.bytes (ks (A ++ B))) = (ks B, [])) : MrOut w c m n most lm L (.returned x) wr := by
  have hw := h.wl
  rw [hB, List.append_nil] at hw
  exact ⟨x, A ++ B, rfl, h.ci, by rw [hw, ks_app], by rw [hw]; exact h.own, h.fr, h.sub⟩
theorem MR.pinned {w wr : World} {c m n : Nat} {most lm : Int} {L A B : List (Nat × K)} {y : Nat × K} {gone : List Int} {x : Value} (h : MR w wr c m n most lm L A (y :: B) gone x) (hr : ¬ (M.bytes (ks (A ++ y :: B)) : Int) ≤ lm) (hp : y.2.pin = true) : MR w wr c m n most lm L (A ++ [y]) B gone x := by
  have e : A ++ [y] ++ B = A ++ y :: B := by simp
  refine ⟨h.own, by rw [e]; exact h.ci, by rw [e]; exact h.fr, by rw [e]; exact h.sub, ?_, by rw [e]; exact h.len⟩
  have hw := h.wl
  rw [show ks (y :: B) = y.2 :: ks B from rfl, M.wlk_pin _ _ _ _ hr hp] at hw
  rw [e, ks_app A [y], show ks [y] = [y.2] from rfl, List.append_assoc]
  exact hw
/-- An entry that is not pinned has gone, and its key is told. -/
theorem MR.gone {w wr w2 w3 : World} {c m n : Nat} {most lm : Int} {L A B : List (Nat × K)} {y : Nat × K} {gone : List Int} {x x3 : Value} (h : MR w wr c m n most lm L A (y :: B) gone x) (hr : ¬ (M.bytes (ks (A ++ y :: B)) : Int) ≤ lm) (hp : y.2.pin = false)
    (h2 : RmOut wr c m n most A B y (.returned (.tuple #[])) w2) (h3 : Below w.heap.size w2 w3) (ho : OwnI w3 w.heap.size x3 (gone ++ [y.2.key])) (hlt : ∀ b ∈ bs L, b < w.heap.size) (hc : c < w.heap.size) (hm : m < w.heap.size) : MR w w3 c m n most lm L A B (gone ++ [y.2.key]) x3 := by
  obtain ⟨-, q1, q2, q3, q4⟩ := h2
  have hsub : ∀ b ∈ bs (A ++ B), b ∈ bs L := fun b hb => h.sub b (by rw [bs_mid]; rw [bs_app] at hb; simp only [List.mem_append, List.mem_cons] at hb ⊢; rcases hb with h | h; exact .inl h; exact .inr (.inr h))
  have hs0 := h.fr.size
  refine ⟨ho, ⟨(h3.block c hc).trans q1.row, q1.lk.keep fun b hb => h3.block b (hlt b (hsub b hb)), q1.mi.keep (h3.block m hm), q1.nd, q1.nc, q1.g, q1.lo, q1.hi, q1.wf⟩, ?_, hsub, ?_, ?_⟩
  · have f2 := h.fr.trans q4
    exact ⟨h3.os.trans f2.os, h3.tape.trans f2.tape, h3.output.trans f2.output, Nat.le_trans f2.size h3.size, fun k hk a1 a2 a3 => (h3.block k hk).trans (f2.block k hk a1 a2 a3), f2.new⟩
  · have hw := h.wl
    have hb : (M.bytes (ks (A ++ y :: B)) : Int) - y.2.val.size = M.bytes (ks (A ++ B)) := by rw [ks_mid, M.bytes_mid, ks_app]; omega
    rw [show ks (y :: B) = y.2 :: ks B from rfl, M.wlk_go _ _ _ _ hr hp, hb] at hw
    rw [hw]
    simp
  · have := h.len
    simp at this ⊢
    omega
set_option maxRecDepth 100000 in
set_option maxHeartbeats 4000000 in
theorem makeRoom_any (c m n : Nat) (most : Int) (L : List (Nat × K)) (k : Int) (w : World) (h : CI w c m n most L) (hl : L.length ≤ 1000000) :
    Calls Try.prog 28 #[.pointer (some ⟨c, 0, none⟩), .int .i64 k] w (MrOut w c m n most (most - k) L) := by
  obtain ⟨⟨c0, c1, c2, c3, c4⟩, cf⟩ := row5 h.row
  have hlt := h.lk.lt
  have hc := h.lt
  have hm := h.mi.lt
  have HCL : Hid (c < w.heap.size ∧ m < w.heap.size ∧ ∀ b ∈ bs L, b < w.heap.size) := ⟨hc, hm, hlt⟩
  have H0 : Hid (MR w w c m n most (most - k) L [] L [] (.slice none 0 0)) := ⟨OwnI.nil _ _, h, Fr.refl _ _ _ _, fun b hb => hb, rfl, by simp⟩
  clear h cf c0 c1 c2 c4 hlt hc hm
  generalize hp : ptr (hd L none) = pv at *
  have HP := Hid_of hp
  clear hp
  go_enter Try.func28, Try.ntmps28
  go_wp2
  go_loopw [5, 6] (fun x p wr => ∃ A B gone, p = ptr (hd B none) ∧ MR w wr c m n most (most - k) L A B gone x) (fun _ p wr => chain wr L.length p)
  case atStart => exact ⟨[], L, [], HP.out.symm, H0.out⟩
  case round =>
    obtain ⟨A, B, gone, rfl, R⟩ := hrel
    clear H0 HP c3
    cases B with
    | nil =>
      have HK : Hid (MrOut w c m n most (most - k) L (.returned u5) wr) := R.done rfl
      clear R
      simp only [hd, ptr]
      go_wp2
      go_ret
      exact HK.out
    | cons y B =>
      have hroom := hasRoom_any c m most _ _ _ k wr R.ci.row R.ci.lo R.ci.hi (by omega) R.ci.b0
      have HME : Hid (chain wr L.length (.pointer (some ⟨y.1, 0, none⟩)) = B.length + 1) := by
        have := R.ci.lk
        rw [Lk_app] at this
        exact chain_eq (f := L.length) this.2 (by have := R.len; simp at this ⊢; omega)
      have HR := Hid_of R
      obtain ⟨ax, cx, rfl⟩ := R.own.slice
      clear R
      simp only [hd, ptr]
      by_cases hrm : k ≤ most - (M.bytes (ks (A ++ y :: B)) : Int)
      · have hd : decide (k ≤ most - (M.bytes (ks (A ++ y :: B)) : Int)) = true := by simpa using hrm
        rw [hd] at hroom
        have HK : Hid (∀ j, MrOut w c m n most (most - k) L (.returned (.slice ax gone.length cx)) (wr.drewN j)) := fun j => (HR.out.keep (below_drewN (Below.refl _ _) j)).done (M.wlk_room _ _ _ (by omega))
        clear HR hd hrm HCL
        go_wp2_with fail
        refine hroom.mono ?_
        rintro e w1 ⟨rfl, j, rfl⟩
        go_wp2
        go_ret
        exact HK.out j
      · have hd : decide (k ≤ most - (M.bytes (ks (A ++ y :: B)) : Int)) = false := by simpa using hrm
        rw [hd] at hroom
        have HNR : Hid (¬ (M.bytes (ks (A ++ y :: B)) : Int) ≤ most - k) := by show ¬ _; omega
        clear hd hrm
        go_wp2_with fail
        refine hroom.mono ?_
        rintro e w1 ⟨rfl, j, hj⟩
        have hbj : Below wr.heap.size wr w1 := by rw [hj]; exact below_drewN (Below.refl _ _) j
        have HR1 := Hid_of (HR.out.keep hbj)
        clear hj hroom HR hbj
        obtain ⟨⟨y0, y1, y2, y3, y4⟩, yf⟩ := row5 HR1.out.ci.lk.at
        clear y1 y3 yf
        have HCH : Hid (∀ W A' gone' x', MR w W c m n most (most - k) L A' B gone' x' → chain W L.length (ptr (hd B none)) = B.length) := by
          intro W A' gone' x' R'
          have := R'.ci.lk
          rw [Lk_app] at this
          exact chain_eq (f := L.length) this.2 (by have := R'.len; simp at this ⊢; omega)
        cases hpin : y.2.pin
        · have hrem := remove_any c m n most A B y w1 HR1.out.ci
          have HRG : Hid (∀ w2 w3 x3, RmOut w1 c m n most A B y (.returned (.tuple #[])) w2 → Below w.heap.size w2 w3 → OwnI w3 w.heap.size x3 (gone ++ [y.2.key]) → MR w w3 c m n most (most - k) L A B (gone ++ [y.2.key]) x3) := fun w2 w3 x3 h2 h3 ho => HR1.out.gone (by have := HNR.out; omega) hpin h2 h3 ho HCL.out.2.2 HCL.out.1 HCL.out.2.1
          have HOW : Hid (∀ w2, RmOut w1 c m n most A B y (.returned (.tuple #[])) w2 → w2.ownsRow w.heap.size 3 1 (.slice ax gone.length cx) gone.length (gone.map (Value.int .i64))) := by
            intro w2 h2
            have f2 := h2.2.2.2.2
            refine (HR1.out.own.keepBut f2.os f2.tape f2.output f2.size fun q hq hv => ?_)
            have hge := (World.ownsRow.lt HR1.out.own q hv).1
            obtain ⟨a1, a2, a3⟩ := HCL.out
            refine f2.block q hq (by omega) (by omega) (fun e => ?_)
            have := a3 q (HR1.out.sub q e)
            omega
          have HYY : Hid (∀ w2, RmOut w1 c m n most A B y (.returned (.tuple #[])) w2 → w2.cell? ⟨y.1, 0, none⟩ = some (.int .i64 y.2.key)) := fun w2 h2 => (row5 (h2.2.2.1.trans HR1.out.ci.lk.at)).1.1
          have HY4 : Hid (∀ w2 w3, RmOut w1 c m n most A B y (.returned (.tuple #[])) w2 → Below w.heap.size w2 w3 → w3.cell? ⟨y.1, 4, none⟩ = some (ptr (hd B none))) := by
            intro w2 w3 h2 h3
            have hyl := HCL.out.2.2 y.1 (HR1.out.sub y.1 (by rw [bs_mid]; simp))
            exact (row5 ((h3.block y.1 hyl).trans (h2.2.2.1.trans HR1.out.ci.lk.at))).1.2.2.2.2
          have HSZ : Hid (∀ w2, RmOut w1 c m n most A B y (.returned (.tuple #[])) w2 → w.heap.size ≤ w2.heap.size) := fun w2 h2 => by show _ ≤ _; rw [h2.2.2.2.1]; exact HR1.out.fr.size
          have hgl : gone.length ≤ 1000000 := by have := HR1.out.len; omega
          have HEQ : Hid ((gone ++ [y.2.key]).map (Value.int .i64) = gone.map (Value.int .i64) ++ [.int .i64 y.2.key] ∧ (gone ++ [y.2.key]).length = gone.length + 1) := ⟨by simp, by simp⟩
          rw [hpin] at y2
          clear HR1 HNR hpin HCL
          go_wp2_with fail
          refine hrem.mono ?_
          rintro e w2 h2
          have he := h2.1
          subst he
          have y0' := HYY.out w2 h2
          have hsz2 := HSZ.out w2 h2
          have HO2 := Hid_of (HOW.out w2 h2)
          have H2 := Hid_of h2
          clear h2 hrem HYY HOW HSZ y0 y2 y4
          have HPQ : Hid (ptr (hd B none) = .pointer none ∨ ∃ b, ptr (hd B none) = .pointer (some ⟨b, 0, none⟩)) := by
            cases hd B none with
            | none => exact .inl rfl
            | some b => exact .inr ⟨b, rfl⟩
          generalize hq : ptr (hd B none) = pq at *
          have HQ := Hid_of hq
          clear hq
          have hpq := HPQ.out
          clear HPQ
          obtain ⟨yb, yk, yv, yp⟩ := y
          simp only at *
          rcases hpq with rfl | ⟨nb, rfl⟩
          all_goals
            go_wp2_with (at_builtin; refine wpList_append_lies _ rfl _ _ 33 rfl w.heap.size 3 Try.t3 _ 1 8 Try.underlying33 hi3 hz3 hs3 hb3 rfl (by decide) _ _ _ rfl (HO2.out.alloc _) ⟨w2.heap.size, 0, none⟩ 1 1 [.int .i64 yk] rfl rfl (cell_one _ _ _ _ (heap_alloc_last _ _)) (by simp; rfl) (by decide) (by unfold maxLen; omega) (by omega) (by simp; omega) _ rfl ?_; intro g3 cp w3 hown3 hgrow hat hlt3; have hrw := rw_lies (v := .slice ax gone.length cx) (n := gone.length + 1) (cp := cp) hgrow hat rfl; have HB5 : Hid (Below w.heap.size w2 w3) := ((Below.refl _ w2).alloc hsz2 _).trans (hrw.below (fun k hk => (World.ownsRow.lt HO2.out k hk).1) (by simp; omega)); have z4 := HY4.out w2 w3 H2.out HB5.out; clear hrw hgrow hat)
            have HR3 : Hid (MR w w3 c m n most (most - k) L A B (gone ++ [yk]) (.slice (some ⟨g3, 0, none⟩) (gone.length + 1) cp)) := by
              refine HRG.out w2 w3 _ H2.out HB5.out ?_
              unfold OwnI
              rw [HEQ.out.1, HEQ.out.2]
              exact hown3
            have HM3 := Hid_of (HCH.out w3 A _ _ HR3.out)
            go_roundw
            case rel => exact ⟨A, B, _, HQ.out.symm, HR3.out⟩
            case measure => rw [HM3.out, HME.out]; exact Nat.lt_succ_self _
        · have HR2 := Hid_of (HR1.out.pinned (by have := HNR.out; omega) hpin)
          have HM2 := Hid_of (HCH.out w1 _ _ _ HR2.out)
          rw [hpin] at y2
          clear HR1 HNR hpin HCL HCH
          have HPQ : Hid (ptr (hd B none) = .pointer none ∨ ∃ b, ptr (hd B none) = .pointer (some ⟨b, 0, none⟩)) := by
            cases hd B none with
            | none => exact .inl rfl
            | some b => exact .inr ⟨b, rfl⟩
          generalize hq : ptr (hd B none) = pq at *
          have HQ := Hid_of hq
          clear hq
          have hpq := HPQ.out
          clear HPQ
          obtain ⟨yb, yk, yv, yp⟩ := y
          simp only at *
          rcases hpq with rfl | ⟨nb, rfl⟩
          all_goals
            go_wp2
            go_roundw
            case rel => exact ⟨_, B, gone, HQ.out.symm, HR2.out⟩
            case measure => rw [HM2.out, HME.out]; exact Nat.lt_succ_self _
end Go.Proofs.Ytpfmdchmgaaakaa
