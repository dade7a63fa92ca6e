/-
  Keys that are pinned: a row without one; is one in it?
-/
import Derived.Test.YtpfmdchmgaaakaaK
namespace Go.Proofs.Ytpfmdchmgaaakaa
open Go.RowKit Go.Maps
set_option linter.unusedVariables false
open M (K)

set_option maxRecDepth 100000 in
set_option maxHeartbeats 1000000 in
theorem in_no (a : Option Addr) (ca : Nat) (l : List Int) (key : Int) (w : World) (hl : l.length ≤ 1000000) (ha : AtI w a l) (hno : ∀ j ∈ l, j ≠ key) :
    Calls Try.prog 25 #[.slice a l.length ca, .int .i64 key] w fun e w' => e = .returned (.bool false) ∧ w' = w := by
  have HN := Hid_of hno
  clear hno
  go_enter Try.func25, Try.ntmps25
  go_wp2
  go_loopw [5] (fun i wr => ∃ k : Nat, k ≤ l.length ∧ i = .int .i64 k ∧ wr = w) (fun i _ => l.length - (intOf i).toNat)
  case atStart => exact ⟨0, by omega, rfl, rfl⟩
  case round =>
    obtain ⟨k, hk, rfl, rfl⟩ := hrel
    by_cases hlt : k < l.length
    · obtain ⟨b1, o1, rfl, c1⟩ := ha k hlt
      have hne : (l[k] == key) = false := by simpa using HN.out l[k] (List.getElem_mem hlt)
      generalize l[k] = x at *
      clear ha HN
      go_wp2
      go_roundw
      case rel => exact ⟨k + 1, by omega, by go_num, by first | rfl | trivial⟩
      case measure => simp [intOf]; omega
    · have hkn : k = l.length := by omega
      subst hkn
      go_wp2
      go_ret
      exact ⟨rfl, rfl⟩
set_option maxRecDepth 100000 in
set_option maxHeartbeats 1000000 in
theorem lwithout_any (a : Option Addr) (ca : Nat) (l : List Int) (key : Int) (w : World) (hl : l.length ≤ 1000000) (ha : AtI w a l) :
    Calls Try.prog 24 #[.slice a l.length ca, .int .i64 key] w (KyOut w (l.filter (fun j => j != key))) := by
  go_enter Try.func24, Try.ntmps24
  go_wp2
  go_loopw [5, 6] (fun x i wr => ∃ k : Nat, k ≤ l.length ∧ i = .int .i64 k ∧ OwnI wr w.heap.size x ((l.take k).filter (fun j => j != key)) ∧ Below w.heap.size w wr) (fun _ i _ => l.length - (intOf i).toNat)
  case atStart => exact ⟨0, by omega, rfl, OwnI.nil _ _, Below.refl _ _⟩
  case round =>
    obtain ⟨k, hk, rfl, hown, hbel⟩ := hrel
    by_cases hlt : k < l.length
    · obtain ⟨b1, o1, rfl, c1⟩ := (ha.keep hbel) k hlt
      have htk : l.take (k + 1) = l.take k ++ [l[k]] := by rw [List.take_succ_eq_append_getElem hlt]
      obtain ⟨ax, cx, rfl⟩ := hown.slice
      have hlf : ((l.take k).filter (fun j => j != key)).length ≤ 1000000 := by
        have h1 := List.length_filter_le (fun j => j != key) (l.take k)
        simp only [List.length_take] at h1
        omega
      have HB := Hid_of hbel
      have hsz := hbel.size
      by_cases hx : l[k] = key
      · have hne : (l[k] == key) = true := by simpa using hx
        have HF : Hid ((l.take (k + 1)).filter (fun j => j != key) = (l.take k).filter (fun j => j != key)) := by show _ = _; rw [htk, List.filter_append]; simp [hx]
        have HO := Hid_of hown
        generalize l[k] = x at *
        clear ha htk hown hbel hx
        go_wp2
        go_roundw
        case rel => exact ⟨k + 1, by omega, by go_num, by rw [HF.out]; exact HO.out, HB.out⟩
        case measure => simp [intOf]; omega
      · have hne : (l[k] == key) = false := by simpa using hx
        have HF : Hid (((l.take (k + 1)).filter (fun j => j != key)).map (Value.int .i64) = ((l.take k).filter (fun j => j != key)).map (Value.int .i64) ++ [.int .i64 l[k]] ∧ ((l.take (k + 1)).filter (fun j => j != key)).length = ((l.take k).filter (fun j => j != key)).length + 1) := by
          rw [htk, List.filter_append]
          have : [l[k]].filter (fun j => j != key) = [l[k]] := by simp [hx]
          rw [this]
          exact ⟨by simp, by simp⟩
        have HO : Hid (wr.ownsRow w.heap.size 3 1 (.slice ax ((l.take k).filter (fun j => j != key)).length cx) ((l.take k).filter (fun j => j != key)).length (((l.take k).filter (fun j => j != key)).map (Value.int .i64))) := hown
        generalize l[k] = x at *
        clear ha htk hown hbel hx
        generalize hfl : (l.take k).filter (fun j => j != key) = fl at *
        clear hfl
        go_wp2_with (at_builtin; refine wpList_append_lies _ rfl _ _ 33 rfl w.heap.size 3 Try.t3 _ 1 8 Try.underlying33 hi3 hz3 hs3 hb3 rfl (by decide) _ _ _ rfl (HO.out.alloc _) ⟨wr.heap.size, 0, none⟩ 1 1 [.int .i64 x] rfl rfl (cell_one _ _ _ _ (heap_alloc_last _ _)) (by simp; rfl) (by decide) (by unfold maxLen; omega) (by omega) (by simp; omega) _ rfl ?_; intro g3 cp w3 hown3 hgrow hat hlt3; have hrw := rw_lies (v := .slice ax fl.length cx) (n := fl.length + 1) (cp := cp) hgrow hat rfl; have HB5 : Hid (Below w.heap.size w w3) := (HB.out.alloc hsz _).trans (hrw.below (fun k hk => (World.ownsRow.lt HO.out k hk).1) (by simp; omega)); clear hrw hgrow hat)
        go_roundw
        case rel =>
          refine ⟨k + 1, by omega, by go_num, ?_, HB5.out⟩
          unfold OwnI
          rw [HF.out.1, HF.out.2]
          exact hown3
        case measure => simp [intOf]; omega
    · have hkn : k = l.length := by omega
      subst hkn
      have HK : Hid (KyOut w (l.filter (fun j => j != key)) (.returned u5) wr) := ⟨u5, rfl, by rw [List.take_length] at hown; exact hown, hbel⟩
      clear hown hbel
      go_wp2
      go_ret
      exact HK.out
end Go.Proofs.Ytpfmdchmgaaakaa
