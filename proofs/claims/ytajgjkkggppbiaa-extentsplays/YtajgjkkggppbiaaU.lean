/-
  The document's pieces.
-/
import Derived.Test.YtajgjkkggppbiaaT
namespace Go.Proofs.Ytajgjkkggppbiaa
open Go.RowKit
set_option linter.unusedVariables false
open M (E)

theorem row2 {w : World} {k : Nat} {v0 v1 : Value} {t : TypeId} (h : w.heap[k]? = some (.cells #[v0, v1] t (0, 0))) : w.cell? ⟨k, 0, none⟩ = some v0 ∧ w.cell? ⟨k, 1, none⟩ = some v1 :=
  ⟨by rw [cell_of_row w k 0 _ _ _ h]; rfl, by rw [cell_of_row w k 1 _ _ _ h]; rfl⟩
/-- What the document's Look returns. -/
def LookR (w : World) (l : List E) (x : Ending) (w' : World) : Prop := ∃ v', x = .returned v' ∧ Own w' w.heap.size v' l ∧ Below w.heap.size w w'
set_option maxRecDepth 100000 in
set_option maxHeartbeats 8000000 in
theorem refLook_any (L : List (Int × Int)) (a : Option Addr) (cap : Nat) (at' n : Int) (w : World) (hl : L.length ≤ 16384) (ha : AtB w a L) (hn : n ≤ 9223372036854775807) (hg : ∀ k, k ≤ L.length → M.G (M.lk L (fun j => inn j at' n) k)) :
    Calls Try.prog 18 #[.agg #[.slice a L.length cap], .int .i64 at', .int .i64 n] w (LookR w (M.lk L (fun j => inn j at' n) L.length)) := by
  obtain ⟨W1, HW1⟩ : ∃ W1, Hid (w.alloc (.cells #[.slice a L.length cap] 28) = W1) := ⟨_, rfl⟩
  have HB1 : Hid (Below w.heap.size w W1) := by rw [← HW1.out]; exact bel1 w _
  have hs1 : W1.heap.size = w.heap.size + 1 := by rw [← HW1.out]; simp
  have HA : Hid (AtB W1 a L) := ha.keep HB1.out
  have HC : Hid (∀ w', Below W1.heap.size W1 w' → w'.cell? ⟨w.heap.size, 0, none⟩ = some (.slice a L.length cap)) := by
    intro w' hb'
    have e : w'.heap[w.heap.size]? = some (.cells #[.slice a L.length cap] 28 (0, 0)) := (hb'.block _ (by omega)).trans (by rw [← HW1.out]; exact heap_alloc_last w _)
    rw [cell_of_row w' _ 0 _ _ _ e]; rfl
  have HG : Hid (∀ k, k ≤ L.length → M.G (M.lk L (fun j => inn j at' n) k)) := hg
  obtain ⟨t, ht⟩ : ∃ t : Nat → Bool, (fun j => inn (j : Nat) at' n) = t := ⟨_, rfl⟩
  have HT : Hid (∀ j : Nat, t j = inn j at' n) := fun j => by rw [← ht]
  rw [ht] at HG ⊢
  have hin := fun (k : Nat) (w' : World) (hk : k < L.length) => in_any (k : Int) at' n w' (by omega) (by omega) hn
  clear ha ht hg hn
  go_enter Try.func18, Try.ntmps18
  go_wp2
  rw [HW1.out]
  clear HW1
  go_loopw [7, 8] (fun x i wr => ∃ k : Nat, k ≤ L.length ∧ i = .int .i64 k ∧ Own wr W1.heap.size x (M.lk L t k) ∧ Below W1.heap.size W1 wr) (fun x i _ => L.length - (intOf i).toNat)
  case atStart => exact ⟨0, by omega, rfl, World.ownsRow_nil _ _ _ _, Below.refl _ _⟩
  case round =>
    obtain ⟨k, hk, rfl, hown, hbel⟩ := hrel
    have c0 := HC.out wr hbel
    by_cases hlt : k < L.length
    · obtain ⟨bb, off, rfl, d0, d1⟩ := (HA.out.keep hbel) k hlt
      have HLK : Hid (M.lk L t (k + 1) = if L[k].1 < 0 ∨ t k = false then M.lk L t k else M.addp (M.lk L t k) ⟨k, 1, L[k].1, L[k].2⟩) := by
        show _ = _
        rw [M.lk, getD_in L k hlt]
      have hsz := hbel.size
      have HBA : Hid (Below W1.heap.size W1 (wr.alloc (.cells #[.int .i64 L[k].1, .int .i64 L[k].2] 62))) := hbel.alloc hsz _
      have HOA : Hid (Own (wr.alloc (.cells #[.int .i64 L[k].1, .int .i64 L[k].2] 62)) W1.heap.size u7 (M.lk L t k)) := hown.keep (bel1 wr _)
      have hink := hin k (wr.alloc (.cells #[.int .i64 L[k].1, .int .i64 L[k].2] 62)) hlt
      rw [← HT.out] at hink
      have hG := HG.out k hk
      have hGl := M.G_len hG
      have HSM : Hid (∀ p ∈ M.lk L t k, M.Ok p) := hG.1
      obtain ⟨ax, cx, hax, _, _, _⟩ := owns_atE hown
      clear hin hown hbel HA hG
      generalize L[k].1 = d at *
      generalize L[k].2 = f at *
      generalize hlk : M.lk L t k = Q at *
      clear hlk
      subst hax
      have hsz1 : W1.heap.size ≤ wr.heap.size := hsz
      by_cases hdn : d < 0
      · have hdd : decide (d < 0) = true := by simpa using hdn
        rw [if_pos (.inl hdn)] at HLK
        clear hink hdn
        go_wp2
        go_roundw
        case rel => exact ⟨k + 1, by omega, by go_num, by rw [HLK.out]; exact HOA.out, HBA.out⟩
        case measure => simp [intOf]; omega
      · have hdd : decide (d < 0) = false := by simpa using hdn
        cases htk : t k
        · rw [if_pos (.inr htk)] at HLK
          rw [htk] at hink
          clear hdn htk
          go_wp2_with fail
          refine hink.mono ?_
          rintro x w2 ⟨rfl, rfl⟩
          clear hink
          go_wp2
          go_roundw
          case rel => exact ⟨k + 1, by omega, by go_num, by rw [HLK.out]; exact HOA.out, HBA.out⟩
          case measure => simp [intOf]; omega
        · rw [if_neg (by simp [hdn, htk])] at HLK
          rw [htk] at hink
          obtain ⟨W2, HW2⟩ : ∃ W2, Hid (wr.alloc (.cells #[.int .i64 d, .int .i64 f] 62) = W2) := ⟨_, rfl⟩
          rw [HW2.out] at HBA HOA hink
          have hrow2 : W2.heap[wr.heap.size]? = some (.cells #[.int .i64 d, .int .i64 f] 62 (0, 0)) := by rw [← HW2.out]; exact heap_alloc_last wr _
          obtain ⟨y0, y1⟩ := row2 hrow2
          clear hdn htk hrow2
          go_wp2_with fail
          rw [HW2.out]
          refine hink.mono ?_
          rintro x w2 ⟨rfl, rfl⟩
          clear hink HW2 d0 d1 c0
          rcases List.eq_nil_or_concat Q with rfl | ⟨dd, p, rfl⟩
          · rw [M.addp_nil _ (by simp)] at HLK
            simp only [List.length_nil] at HOA ⊢
            go_wp2_with fail
            go_quiet (fail)
            have HO2 : Hid ((w2.drewN nq).ownsRow W1.heap.size 32 4 (.slice ax 0 cx) 0 []) := HOA.out
            have HBq : Hid (Below W1.heap.size W1 (w2.drewN nq)) := below_drewN HBA.out nq
            obtain ⟨W3, hW3⟩ : ∃ W3, W3 = w2.drewN nq := ⟨_, rfl⟩
            have z0 : W3.cell? ⟨wr.heap.size, 0, none⟩ = some (.int .i64 d) := by rw [hW3]; exact y0
            have z1 : W3.cell? ⟨wr.heap.size, 1, none⟩ = some (.int .i64 f) := by rw [hW3]; exact y1
            rw [← hW3] at HO2 HBq ⊢
            clear hW3 y0 y1 HOA HBA
            have hsz3 := HBq.out.size
            go_wp2_with (at_builtin; refine wpList_append_lies _ rfl _ _ 40 rfl W1.heap.size 32 Try.t32 _ 4 32 Try.underlying40 hi32 hz32 hs32 hb32 rfl (by decide) _ _ _ rfl (HO2.out.alloc _) ⟨W3.heap.size, 0, none⟩ 1 1 [.int .i64 k, .int .i64 1, .int .i64 d, .int .i64 f] rfl rfl (cell_four _ _ _ _ _ _ _ (heap_alloc_last _ _)) (by simp; exact ⟨rfl, rfl, rfl, rfl⟩) (by decide) (by unfold maxLen; omega) (by omega) (by simp; omega) _ rfl ?_; intro g3 cp w5 hown5 hgrow hat5 hlt5)
            have hrw := rw_lies (v := .slice ax 0 cx) (n := 0 + 1) (cp := cp) hgrow hat5 rfl
            have HB5 : Hid (Below W1.heap.size W1 w5) := by
              have b0 : Below W1.heap.size W1 (W3.alloc (.cells #[.int .i64 k, .int .i64 1, .int .i64 d, .int .i64 f] 32)) := HBq.out.alloc hsz3 _
              exact b0.trans (hrw.below (fun k hk => (World.ownsRow.lt HO2.out k hk).1) (by simp; omega))
            clear hrw hgrow hat5 HBq HO2
            go_roundw
            case rel => exact ⟨k + 1, by omega, by go_num, by rw [HLK.out]; exact hown5, HB5.out⟩
            case measure => simp [intOf]; omega
          · rw [List.concat_eq_append] at *
            have hpok := HSM.out p (by simp)
            obtain ⟨o1, o2, o3, o4, o5, o6⟩ := hpok
            obtain ⟨g, cap', hv, hbg, hgw, ⟨b0, b1, b2, b3⟩, bf, hset⟩ := own_last HOA.out
            have hlq : (dd ++ [p]).length = dd.length + 1 := by simp
            have HLQ := Hid_of hlq
            simp only [hlq] at hv HOA hGl hset ⊢
            simp only [Value.slice.injEq, true_and] at hv
            obtain ⟨rfl, rfl⟩ := hv
            have hw1 : IntKind.i64.wrap (p.a + p.n) = p.a + p.n := by rw [IntKind.wrap_i64]; omega
            have hw2 : IntKind.i64.wrap (p.f + p.n) = p.f + p.n := by rw [IntKind.wrap_i64]; omega
            have hw3 : IntKind.i64.wrap (p.n + 1) = p.n + 1 := by rw [IntKind.wrap_i64]; omega
            have hii : (dd.length : Int) < (dd.length : Int) + 1 := by omega
            have HSET : Hid (Own (w2.setCell ⟨g, dd.length * 4 + 1, none⟩ (.int .i64 (p.n + 1))) W1.heap.size (.slice (some ⟨g, 0, none⟩) (dd.length + 1) cx) (dd ++ [⟨p.a, p.n + 1, p.d, p.f⟩])) := hset _
            have HOW : Hid (w2.ownsRow W1.heap.size 32 4 (.slice (some ⟨g, 0, none⟩) (dd.length + 1) cx) (dd ++ [p]).length (EC (dd ++ [p]))) := HOA.out
            have HNF : Hid (¬ M.Fol p ⟨k, 1, d, f⟩ → M.lk L t (k + 1) = dd ++ [p] ++ [⟨k, 1, d, f⟩]) := fun h => by rw [HLK.out, M.addp_new dd p _ (by simp) h]
            have HF : Hid (M.Fol p ⟨k, 1, d, f⟩ → M.lk L t (k + 1) = dd ++ [⟨p.a, p.n + 1, p.d, p.f⟩]) := fun h => by rw [HLK.out, M.addp_fol dd p _ (by simp) h]
            have HFD : Hid (M.Fol p ⟨k, 1, d, f⟩ ↔ (p.d = d ∧ p.a + p.n = (k : Int) ∧ p.f + p.n = f)) := Iff.rfl
            have HEC : Hid (EC (dd ++ [p] ++ [⟨k, 1, d, f⟩]) = EC (dd ++ [p]) ++ [.int .i64 k, .int .i64 1, .int .i64 d, .int .i64 f]) := EC_app _ _
            have hddl : dd.length ≤ 16384 := by omega
            clear hset HOA HLK HSM o1 o2 o3 o4 o5 o6 hGl hlq
            generalize p.a = pa at *
            generalize p.n = pn at *
            generalize p.d = pd at *
            generalize p.f = pf at *
            by_cases hall : pd = d ∧ pa + pn = (k : Int) ∧ pf + pn = f
            · have e1 : (pa + pn == (k : Int)) = true := by simpa using hall.2.1
              have e2 : (pd == d) = true := by simpa using hall.1
              have e3 : (pf + pn == f) = true := by simpa using hall.2.2
              have HL2 := Hid_of (HF.out (HFD.out.2 hall))
              clear hall HF HNF HFD HOW
              have HBS : Hid (∀ m, Below W1.heap.size W1 ((w2.drewN m).setCell ⟨g, dd.length * 4 + 1, none⟩ (.int .i64 (pn + 1)))) := fun m => (below_drewN HBA.out m).setCell hbg _
              have HSQ : Hid (∀ m, Own ((w2.drewN m).setCell ⟨g, dd.length * 4 + 1, none⟩ (.int .i64 (pn + 1))) W1.heap.size (.slice (some ⟨g, 0, none⟩) (dd.length + 1) cx) (dd ++ [⟨pa, pn + 1, pd, pf⟩])) := fun m => HSET.out
              clear HSET HBA
              go_wp2_with fail
              go_quiet (fail)
              go_wp2
              go_roundw
              case rel => exact ⟨k + 1, by omega, by go_num, by rw [HL2.out]; exact HSQ.out _, HBS.out _⟩
              case measure => simp [intOf]; omega
            · have HL2 := Hid_of (HNF.out (fun h => hall (HFD.out.1 h)))
              have hsplit : (pa + pn == (k : Int)) = false ∨ ((pa + pn == (k : Int)) = true ∧ (pd == d) = false) ∨ ((pa + pn == (k : Int)) = true ∧ (pd == d) = true ∧ (pf + pn == f) = false) := by
                by_cases h1 : pa + pn = (k : Int)
                · by_cases h2 : pd = d
                  · have h3 : ¬ pf + pn = f := fun h => hall ⟨h2, h1, h⟩
                    exact .inr (.inr ⟨by simpa using h1, by simpa using h2, by simpa using h3⟩)
                  · exact .inr (.inl ⟨by simpa using h1, by simpa using h2⟩)
                · exact .inl (by simpa using h1)
              clear hall HF HNF HFD HSET
              rcases hsplit with e1 | ⟨e1, e2⟩ | ⟨e1, e2, e3⟩
              all_goals
                go_wp2_with fail
                go_quiet (fail)
                have HO2 : Hid ((w2.drewN nq).ownsRow W1.heap.size 32 4 (.slice (some ⟨g, 0, none⟩) (dd.length + 1) cx) (dd ++ [p]).length (EC (dd ++ [p]))) := HOW.out
                have HBq : Hid (Below W1.heap.size W1 (w2.drewN nq)) := below_drewN HBA.out nq
                obtain ⟨W3, hW3⟩ : ∃ W3, W3 = w2.drewN nq := ⟨_, rfl⟩
                have z0 : W3.cell? ⟨wr.heap.size, 0, none⟩ = some (.int .i64 d) := by rw [hW3]; exact y0
                have z1 : W3.cell? ⟨wr.heap.size, 1, none⟩ = some (.int .i64 f) := by rw [hW3]; exact y1
                rw [← hW3] at HO2 HBq ⊢
                clear hW3 y0 y1 HOW HBA
                have hsz3 := HBq.out.size
                go_wp2_with (at_builtin; refine wpList_append_lies _ rfl _ _ 40 rfl W1.heap.size 32 Try.t32 _ 4 32 Try.underlying40 hi32 hz32 hs32 hb32 rfl (by decide) _ _ _ rfl (HO2.out.alloc _) ⟨W3.heap.size, 0, none⟩ 1 1 [.int .i64 k, .int .i64 1, .int .i64 d, .int .i64 f] rfl rfl (cell_four _ _ _ _ _ _ _ (heap_alloc_last _ _)) (by simp; exact ⟨rfl, rfl, rfl, rfl⟩) (by decide) (by unfold maxLen; simp; omega) (by simp; omega) (by simp; omega) _ rfl ?_; intro g3 cp w5 hown5 hgrow hat5 hlt5)
                have hrw := rw_lies (v := .slice (some ⟨g, 0, none⟩) (dd.length + 1) cx) (n := dd.length + 2) (cp := cp) hgrow hat5 rfl
                have HB5 : Hid (Below W1.heap.size W1 w5) := by
                  have b0 : Below W1.heap.size W1 (W3.alloc (.cells #[.int .i64 k, .int .i64 1, .int .i64 d, .int .i64 f] 32)) := HBq.out.alloc hsz3 _
                  exact b0.trans (hrw.below (fun k hk => (World.ownsRow.lt HO2.out k hk).1) (by simp; omega))
                clear hrw hgrow hat5 HBq HO2
                go_roundw
                case rel =>
                  refine ⟨k + 1, by omega, by go_num, ?_, HB5.out⟩
                  rw [HL2.out]
                  unfold Own
                  rw [HEC.out, List.length_append, HLQ.out]
                  rw [HLQ.out] at hown5
                  exact hown5
                case measure => simp [intOf]; omega
    · have hkn : k = L.length := by omega
      subst hkn
      go_wp2
      go_ret
      exact ⟨_, rfl, hown.low (by omega), bel_up HB1.out hbel (Nat.le_refl _)⟩

set_option maxRecDepth 100000 in
set_option maxHeartbeats 1000000 in
theorem refAll_any (L : List (Int × Int)) (a : Option Addr) (cap : Nat) (w : World) (hl : L.length ≤ 16384) (ha : AtB w a L) (hg : ∀ k, k ≤ L.length → M.G (M.lk L (fun j => inn j 0 16384) k)) :
    Calls Try.prog 16 #[.agg #[.slice a L.length cap]] w (LookR w (M.lk L (fun j => inn j 0 16384) L.length)) := by
  have c0 := boxB (w := w) (a := a) (n := L.length) (cap := cap)
  have hb := bel1 w (.cells #[.slice a L.length cap] 28)
  have hlk := refLook_any L a cap 0 16384 (w.alloc (.cells #[.slice a L.length cap] 28)) hl (ha.keep hb) (by decide) hg
  have HB := Hid_of hb
  clear ha hb hg
  generalize M.lk L (fun j => inn j 0 16384) L.length = Q at *
  go_enter Try.func16, Try.ntmps16
  go_wp2_with fail
  refine hlk.mono ?_
  rintro x w1 hx
  obtain ⟨v', rfl, o1, b1⟩ := hx
  have HK : Hid (LookR w Q (.returned v') w1) := ⟨v', rfl, o1.low (by simp), bel_up HB.out b1 (Nat.le_refl _)⟩
  clear o1 b1 hlk
  go_wp2
  go_ret
  exact HK.out
end Go.Proofs.Ytajgjkkggppbiaa
