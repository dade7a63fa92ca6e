/-
  The document's Stop, and its Due.
-/
import Derived.Test.YtcjibgpbfcedlaaA
namespace Go.Proofs.Ytcjibgpbfcedlaa
open Go.RowKit
set_option linter.unusedVariables false
open M (E)

theorem take_succ' {l : List E} {q : Nat} (h : q < l.length) : l.take (q + 1) = l.take q ++ [l[q]] := by rw [List.take_succ_eq_append_getElem h]
theorem stop_step {l : List E} {q : Nat} {k : Int} (h : q < l.length) : (l[q].i = k → M.stop (l.take (q + 1)) k = M.stop (l.take q) k) ∧ (l[q].i ≠ k → M.stop (l.take (q + 1)) k = M.stop (l.take q) k ++ [l[q]]) := by
  rw [take_succ' h]
  unfold M.stop
  rw [List.filter_append]
  constructor
  · intro e; simp [e]
  · intro e; simp [e]
def RsOut (w : World) (l : List E) (k : Int) (e : Ending) (w' : World) : Prop := ∃ v', e = .returned (.tuple #[v', .bool (decide ((M.stop l k).length < l.length))]) ∧ Own w' w.heap.size v' (M.stop l k) ∧ Below w.heap.size w w'
set_option maxRecDepth 100000 in
set_option maxHeartbeats 2000000 in
theorem rstop_any (a : Option Addr) (cap : Nat) (l : List E) (k : Int) (w : World) (hl : l.length ≤ 1000) (ha : AtE w a l) :
    Calls Try.prog 11 #[.slice a l.length cap, .int .i64 k] w (RsOut w l k) := by
  go_enter Try.func11, Try.ntmps11
  go_wp2
  go_loopw [6, 7] (fun x i wr => ∃ q : Nat, q ≤ l.length ∧ i = .int .i64 q ∧ Hid (Own wr w.heap.size x (M.stop (l.take q) k)) ∧ Below w.heap.size w wr) (fun _ i _ => l.length - (intOf i).toNat)
  case atStart => exact ⟨0, by omega, rfl, Own.nil _ _, Below.refl _ _⟩
  case round =>
    obtain ⟨q, hq, rfl, HO, hbel⟩ := hrel
    by_cases hlt : q < l.length
    · obtain ⟨b, off, rfl, c0, c1⟩ := (ha.keep hbel) q hlt
      obtain ⟨s1, s2⟩ := stop_step (k := k) hlt
      have HBb := Hid_of hbel
      have hsz := hbel.size
      by_cases he : l[q].i = k
      · have hd : (l[q].i == k) = true := by simpa using he
        have HN := Hid_of (s1 he)
        clear s1 s2 he hbel
        generalize l[q].i = x at *
        generalize l[q].t = y at *
        go_wp2
        go_roundw
        case rel => exact ⟨q + 1, by omega, by go_num, by rw [HN.out]; exact HO.out, HBb.out⟩
        case measure => simp [intOf]; omega
      · have hd : (l[q].i == k) = false := by simpa using he
        have HN := Hid_of (s2 he)
        have hle : (M.stop (l.take q) k).length ≤ 1000 := by have := M.stop_le (l.take q) k; rw [List.length_take] at this; omega
        have HE : Hid (EC (M.stop (l.take (q + 1)) k) = EC (M.stop (l.take q) k) ++ [.int .i64 l[q].i, .int .i64 l[q].t] ∧ (M.stop (l.take (q + 1)) k).length = (M.stop (l.take q) k).length + 1) := by
          rw [HN.out]
          exact ⟨by rw [EC_app]; rfl, by simp⟩
        obtain ⟨ax, cx, rfl, _⟩ := HO.out.at
        have HO' : Hid (wr.ownsRow w.heap.size 42 2 (.slice ax (M.stop (l.take q) k).length cx) (M.stop (l.take q) k).length (EC (M.stop (l.take q) k))) := HO.out
        clear s1 s2 he hbel HO HN
        generalize l[q].i = x at *
        generalize l[q].t = y at *
        generalize (M.stop (l.take q) k).length = n at *
        generalize EC (M.stop (l.take q) k) = xs at *
        go_wp2_with (at_builtin; refine wpList_append_lies _ rfl _ _ 26 rfl w.heap.size 42 Try.t42 _ 2 16 Try.underlying26 hi42 hz42 hs42 hb42 rfl (by decide) _ _ _ rfl (HO'.out.alloc _) ⟨wr.heap.size, 0, none⟩ 1 1 [.int .i64 x, .int .i64 y] rfl rfl (cell_two _ _ _ _ _ (heap_alloc_last _ _)) (by simp; exact ⟨rfl, rfl⟩) (by decide) (by unfold maxLen; omega) (by omega) (by simp; omega) _ rfl ?_; intro g3 cp w3 hown3 hgrow hat hlt3; have hrw := rw_lies (v := .slice ax n cx) (n := n + 1) (cp := cp) hgrow hat rfl; have HB5 : Hid (Below w.heap.size w w3) := (HBb.out.alloc hsz _).trans (hrw.below (fun k hk => (World.ownsRow.lt HO'.out k hk).1) (by simp; omega)); clear hrw hgrow hat)
        go_roundw
        case rel =>
          refine ⟨q + 1, by omega, by go_num, ?_, HB5.out⟩
          show Own _ _ _ _
          unfold Own
          rw [HE.out.1, HE.out.2]
          exact hown3
        case measure => simp [intOf]; omega
    · have hqn : q = l.length := by omega
      subst hqn
      have HO2 := HO
      rw [List.take_length] at HO2
      obtain ⟨ax, cx, rfl, _⟩ := HO2.out.at
      have HK : Hid (RsOut w l k (.returned (.tuple #[.slice ax (M.stop l k).length cx, .bool (decide ((M.stop l k).length < l.length))])) wr) := ⟨_, rfl, HO2.out, hbel⟩
      clear HO HO2 hbel
      go_wp2
      go_ret2
      have hcast : decide (((M.stop l k).length : Int) < (l.length : Int)) = decide ((M.stop l k).length < l.length) := by simp
      first
        | exact HK.out
        | (rw [← hcast] at HK; exact HK.out)
theorem due_step {l : List E} {q : Nat} {now : Int} (h : q < l.length) : (l[q].t ≤ now → M.dueI (l.take (q + 1)) now = M.dueI (l.take q) now ++ [l[q].i] ∧ M.dueL (l.take (q + 1)) now = M.dueL (l.take q) now) ∧ (¬ l[q].t ≤ now → M.dueI (l.take (q + 1)) now = M.dueI (l.take q) now ∧ M.dueL (l.take (q + 1)) now = M.dueL (l.take q) now ++ [l[q]]) := by
  rw [take_succ' h, M.dueI_app, M.dueL_app]
  unfold M.dueI M.dueL
  constructor
  · intro e; simp [e]
  · intro e
    have e' : now < l[q].t := by omega
    simp [e']
def RdOut (w : World) (l : List E) (now : Int) (e : Ending) (w' : World) : Prop := ∃ v' u, e = .returned (.tuple #[v', u]) ∧ Own w' w.heap.size v' (M.dueL l now) ∧ OwnI w' w.heap.size u (M.dueI l now) ∧ Below w.heap.size w w'
structure RD (w wr : World) (l : List E) (now : Int) (q : Nat) (x y : Value) : Prop where
  ox : Own wr w.heap.size x (M.dueL (l.take q) now)
  oy : OwnI wr w.heap.size y (M.dueI (l.take q) now)
  a : ∀ k, x.ownBlock = some k → y.ownBlock ≠ some k
  b : Below w.heap.size w wr
theorem RD.n {w wr : World} {l : List E} {now : Int} {q : Nat} {x y : Value} (h : RD w wr l now q x y) (hq : q ≤ l.length) : (M.dueL (l.take q) now).length ≤ q ∧ (M.dueI (l.take q) now).length ≤ q := by
  have h1 : (M.dueL (l.take q) now).length ≤ (l.take q).length := List.length_filter_le _ _
  have h2 := M.dueI_len (l.take q) now
  rw [List.length_take] at h1 h2
  omega
theorem grown_keep {w wr w3 : World} {o : Obj} {v : Value} (hb : Below w.heap.size w wr) (hv : ∀ k, v.ownBlock = some k → w.heap.size ≤ k) (hg : (wr.alloc o).grownBy w3 v.ownBlock) : Below w.heap.size w w3 ∧ (∀ k, k < wr.heap.size → v.ownBlock ≠ some k → w3.heap[k]? = wr.heap[k]?) ∧ wr.heap.size < w3.heap.size := by
  have hs := hb.size
  have hs2 := hg.size
  simp at hs2
  have hk : ∀ k, k < wr.heap.size → v.ownBlock ≠ some k → w3.heap[k]? = wr.heap[k]? := fun k hk hv => by
    rw [hg.block k (by simp; omega) (fun e => hv e.symm)]
    exact Below.heap_alloc wr _ _ hk
  exact ⟨⟨by rw [hg.os]; exact hb.os, by rw [hg.tape]; exact hb.tape, by rw [hg.output]; exact hb.output, by omega, fun k hkk => by rw [hk k (by omega) (fun e => by have := hv k e; omega)]; exact hb.block k hkk⟩, hk, by omega⟩
theorem RD.appX {w wr w3 : World} {l : List E} {now : Int} {q : Nat} {x y : Value} {g3 cp n : Nat} {o : Obj} (h : RD w wr l now q x y) (hlt : q < l.length) (hno : ¬ l[q].t ≤ now) (hn : (M.dueL (l.take q) now).length = n)
    (ho : w3.ownsRow w.heap.size 42 2 (.slice (some ⟨g3, 0, none⟩) (n + 1) cp) (n + 1) (EC (M.dueL (l.take q) now) ++ [.int .i64 l[q].i, .int .i64 l[q].t]))
    (hg : (wr.alloc o).grownBy w3 x.ownBlock) (hat : x.ownBlock = some g3 ∨ g3 = (wr.alloc o).heap.size) : RD w w3 l now (q + 1) (.slice (some ⟨g3, 0, none⟩) (n + 1) cp) y := by
  obtain ⟨e1, e2⟩ := (due_step hlt).2 hno
  obtain ⟨B3, hk, hsz⟩ := grown_keep h.b (fun k e => (World.ownsRow.lt h.ox k e).1) hg
  refine ⟨?_, ?_, fun k e e' => ?_, B3⟩
  · unfold Own
    rw [e2, EC_app, List.length_append, List.length_singleton, hn]
    exact ho
  · rw [e1]
    exact h.oy.keepBut fun k hkk e => hk k hkk (fun e' => h.a k e' e)
  · simp only [Value.ownBlock, Option.some.injEq] at e
    subst e
    rcases hat with h' | h'
    · exact h.a _ h' e'
    · have := (World.ownsRow.lt h.oy _ e').2
      simp at h'
      omega
theorem RD.appY {w wr w3 : World} {l : List E} {now : Int} {q : Nat} {x y : Value} {g3 cp n : Nat} {o : Obj} (h : RD w wr l now q x y) (hlt : q < l.length) (hno : l[q].t ≤ now) (hn : (M.dueI (l.take q) now).length = n)
    (ho : w3.ownsRow w.heap.size 3 1 (.slice (some ⟨g3, 0, none⟩) (n + 1) cp) (n + 1) ((M.dueI (l.take q) now).map (Value.int .i64) ++ [.int .i64 l[q].i]))
    (hg : (wr.alloc o).grownBy w3 y.ownBlock) (hat : y.ownBlock = some g3 ∨ g3 = (wr.alloc o).heap.size) : RD w w3 l now (q + 1) x (.slice (some ⟨g3, 0, none⟩) (n + 1) cp) := by
  obtain ⟨e1, e2⟩ := (due_step hlt).1 hno
  obtain ⟨B3, hk, hsz⟩ := grown_keep h.b (fun k e => (World.ownsRow.lt h.oy k e).1) hg
  refine ⟨?_, ?_, fun k e e' => ?_, B3⟩
  · rw [e2]
    exact h.ox.keepBut fun k hkk e => hk k hkk (fun e' => h.a k e e')
  · unfold OwnI
    rw [e1, List.map_append, List.length_append, List.length_singleton, hn]
    exact ho
  · simp only [Value.ownBlock, Option.some.injEq] at e'
    subst e'
    rcases hat with h' | h'
    · exact h.a _ e h'
    · have := (World.ownsRow.lt h.ox _ e).2
      simp at h'
      omega
set_option maxRecDepth 100000 in
set_option maxHeartbeats 2000000 in
theorem rdue_any (a : Option Addr) (cap : Nat) (l : List E) (now : Int) (w : World) (hl : l.length ≤ 1000) (ha : AtE w a l) :
    Calls Try.prog 13 #[.slice a l.length cap, .int .i64 now] w (RdOut w l now) := by
  go_enter Try.func13, Try.ntmps13
  go_wp2
  go_loopw [6, 7, 8] (fun x y i wr => ∃ q : Nat, q ≤ l.length ∧ i = .int .i64 q ∧ Hid (RD w wr l now q x y)) (fun _ _ i _ => l.length - (intOf i).toNat)
  case atStart => exact ⟨0, by omega, rfl, Own.nil _ _, OwnI.nil _ _, by simp [Value.ownBlock], Below.refl _ _⟩
  case round =>
    obtain ⟨q, hq, rfl, HD⟩ := hrel
    by_cases hlt : q < l.length
    · obtain ⟨b, off, rfl, c0, c1⟩ := (ha.keep HD.out.b) q hlt
      obtain ⟨hn1, hn2⟩ := HD.out.n hq
      have hsz := HD.out.b.size
      by_cases he : l[q].t ≤ now
      · have hd : decide (l[q].t ≤ now) = true := by simpa using he
        obtain ⟨ax, cx, rfl, _⟩ := HD.out.oy.at
        have HO : Hid (wr.ownsRow w.heap.size 3 1 (.slice ax (M.dueI (l.take q) now).length cx) (M.dueI (l.take q) now).length ((M.dueI (l.take q) now).map (Value.int .i64))) := HD.out.oy
        have HAPP : Hid (∀ w3 g3 cp, w3.ownsRow w.heap.size 3 1 (.slice (some ⟨g3, 0, none⟩) ((M.dueI (l.take q) now).length + 1) cp) ((M.dueI (l.take q) now).length + 1) ((M.dueI (l.take q) now).map (Value.int .i64) ++ [.int .i64 l[q].i]) → (wr.alloc (.cells #[.int .i64 l[q].i] 3)).grownBy w3 (Value.slice ax (M.dueI (l.take q) now).length cx).ownBlock → ((Value.slice ax (M.dueI (l.take q) now).length cx).ownBlock = some g3 ∨ g3 = (wr.alloc (.cells #[.int .i64 l[q].i] 3)).heap.size) → RD w w3 l now (q + 1) u6 (.slice (some ⟨g3, 0, none⟩) ((M.dueI (l.take q) now).length + 1) cp)) := fun w3 g3 cp h1 h2 h3 => HD.out.appY hlt he rfl h1 h2 h3
        clear HD he hn1
        generalize l[q].i = x at *
        generalize l[q].t = y at *
        generalize (M.dueI (l.take q) now).map (Value.int .i64) = xs at *
        generalize (M.dueI (l.take q) now).length = n at *
        go_wp2_with (at_builtin; refine wpList_append_lies _ rfl _ _ 36 rfl w.heap.size 3 Try.t3 _ 1 8 Try.underlying36 hi3 hz3 hs3 hb3 rfl (by decide) _ _ _ rfl (HO.out.alloc _) ⟨wr.heap.size, 0, none⟩ 1 1 [.int .i64 x] rfl rfl (cell_one _ _ _ _ (heap_alloc_last _ _)) (by simp; rfl) (by decide) (by unfold maxLen; omega) (by omega) (by simp; omega) _ rfl ?_; intro g3 cp w3 hown3 hgrow hat hlt3; have HN := Hid_of (HAPP.out w3 g3 cp hown3 hgrow hat); clear hown3 hgrow hat hlt3 HAPP HO)
        go_roundw
        case rel => exact ⟨q + 1, by omega, by go_num, HN⟩
        case measure => simp [intOf]; omega
      · have hd : decide (l[q].t ≤ now) = false := by simpa using he
        obtain ⟨ax, cx, rfl, _⟩ := HD.out.ox.at
        have HO : Hid (wr.ownsRow w.heap.size 42 2 (.slice ax (M.dueL (l.take q) now).length cx) (M.dueL (l.take q) now).length (EC (M.dueL (l.take q) now))) := HD.out.ox
        have HAPP : Hid (∀ w3 g3 cp, w3.ownsRow w.heap.size 42 2 (.slice (some ⟨g3, 0, none⟩) ((M.dueL (l.take q) now).length + 1) cp) ((M.dueL (l.take q) now).length + 1) (EC (M.dueL (l.take q) now) ++ [.int .i64 l[q].i, .int .i64 l[q].t]) → (wr.alloc (.cells #[.int .i64 l[q].i, .int .i64 l[q].t] 42)).grownBy w3 (Value.slice ax (M.dueL (l.take q) now).length cx).ownBlock → ((Value.slice ax (M.dueL (l.take q) now).length cx).ownBlock = some g3 ∨ g3 = (wr.alloc (.cells #[.int .i64 l[q].i, .int .i64 l[q].t] 42)).heap.size) → RD w w3 l now (q + 1) (.slice (some ⟨g3, 0, none⟩) ((M.dueL (l.take q) now).length + 1) cp) u7) := fun w3 g3 cp h1 h2 h3 => HD.out.appX hlt he rfl h1 h2 h3
        clear HD he hn2
        generalize l[q].i = x at *
        generalize l[q].t = y at *
        generalize EC (M.dueL (l.take q) now) = xs at *
        generalize (M.dueL (l.take q) now).length = n at *
        go_wp2_with (at_builtin; refine wpList_append_lies _ rfl _ _ 26 rfl w.heap.size 42 Try.t42 _ 2 16 Try.underlying26 hi42 hz42 hs42 hb42 rfl (by decide) _ _ _ rfl (HO.out.alloc _) ⟨wr.heap.size, 0, none⟩ 1 1 [.int .i64 x, .int .i64 y] rfl rfl (cell_two _ _ _ _ _ (heap_alloc_last _ _)) (by simp; exact ⟨rfl, rfl⟩) (by decide) (by unfold maxLen; omega) (by omega) (by simp; omega) _ rfl ?_; intro g3 cp w3 hown3 hgrow hat hlt3; have HN := Hid_of (HAPP.out w3 g3 cp hown3 hgrow hat); clear hown3 hgrow hat hlt3 HAPP HO)
        go_roundw
        case rel => exact ⟨q + 1, by omega, by go_num, HN⟩
        case measure => simp [intOf]; omega
    · have hqn : q = l.length := by omega
      subst hqn
      have HK : Hid (RdOut w l now (.returned (.tuple #[u6, u7])) wr) := by
        have h1 := HD.out.ox
        have h2 := HD.out.oy
        rw [List.take_length] at h1 h2
        exact ⟨_, _, rfl, h1, h2, HD.out.b⟩
      clear HD
      go_wp2
      go_ret2
      exact HK.out
end Go.Proofs.Ytcjibgpbfcedlaa
