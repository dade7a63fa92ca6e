/-
  Slots that are told go; the values from a slot on.
-/
import Derived.Test.YtfjlanhekheecaaLLA
namespace Go.Proofs.Ytfjlanhekheecaa.Nl
open Go.RowKit Go.Maps
set_option linter.unusedVariables false
open Go.Proofs.Ytfjlanhekheecaa.M (E V)
open Go.Proofs.Ytfjlanhekheecaa.Nl.M (W fup)

/-- A row of texts. -/
def tl : Ly ByteArray := ⟨1, fun x => [.string x], fun _ => rfl, fun x v h => by simp at h; subst h; rfl, by decide⟩
theorem tiT : Ti tl 49 9 := ⟨Try.underlying49, Try.t9, .string ⟨#[]⟩, by kernel_rfl, rfl, rfl, by decide, rfl⟩
/-- One more, appended. -/
theorem app1 {w : World} {base : Nat} {v : Value} {l : List ByteArray} (x : ByteArray) (ho : OwnL tl 9 w base v l) (hb : base ≤ w.heap.size) (hl : l.length + 1 ≤ 1000000) :
    ∃ a' c' w', (∀ ty, (Builtin.append_ #[49, 49] ty #[v, .slice (some ⟨w.heap.size, 0, none⟩) 1 1]).run Try.prog (w.alloc (.cells #[.string x] 9)) = .ok (.slice a' (l.length + 1) c') w') ∧ OwnL tl 9 w' base (.slice a' (l.length + 1) c') (l ++ [x]) ∧ Rw w v w' (.slice a' (l.length + 1) c') := by
  obtain ⟨a', c', w4, hrun, ho4, hr4⟩ := run_appL_ty tiT (w.alloc (.cells #[.string x] 9)) base v l [x] w.heap.size 0 1 1 (ho.keep (bel1 w _)) (atL_one (Y := tl) (t := 9) (heap_alloc_last w _)) rfl (by simp; omega) (by simp; omega)
  exact ⟨a', c', w4, hrun, ho4, (Rw.ofBelow _ (bel1 w _)).trans hr4⟩
section
variable {w : World} {base b m : Nat} {s : M.S} {f : Int → Option K}
/-- What Log leaves. -/
def LgOut (w : World) (s : M.S) (fr : Int) (e : Ending) (w' : World) : Prop := ∃ u, e = .returned u ∧ OwnL tl 9 w' w.heap.size u (M.lgs s fr) ∧ Below w.heap.size w w'
set_option maxRecDepth 100000 in
set_option maxHeartbeats 1000000 in
theorem log_any (h : LI w base b m s f) (ok : M.Ok s) (fr : Int) : Calls Try.prog 41 #[.pointer (some ⟨b, 0, none⟩), .int .i64 fr] w (LgOut w s fr) := by
  have cn := next_any h ok
  obtain ⟨⟨c0, c1, c2⟩, _⟩ := row3 h.row
  obtain ⟨n1, n2, n3, n4⟩ := ok.nx
  have hB := ok.base
  have HP := Hid_of h
  have HOK := Hid_of ok
  have HL : Hid (M.lgs s fr = M.lg s.td (max fr s.base) (M.lgn s fr)) := rfl
  have HN : Hid (M.lgn s fr = (M.nx s - max fr s.base).toNat) := rfl
  have hle : s.base ≤ max fr s.base := by omega
  generalize M.nx s = N at *
  generalize M.lgn s fr = n at *
  obtain ⟨B, HBB⟩ : ∃ B, Hid (max fr s.base = B) := ⟨_, Hid_of rfl⟩
  rw [HBB.out] at HL HN hle
  have hn := HN.out
  clear h ok n1 n2
  go_enter Try.func41, Try.ntmps41
  go_wp2_with fail
  refine cn.mono ?_
  rintro e w1 ⟨rfl, rfl⟩
  clear cn
  go_wp2_with fail
  rw [HBB.out]
  go_loopw [5, 7] (fun v i wr => ∃ j : Nat, j ≤ n ∧ i = .int .i64 (B + j) ∧ OwnL tl 9 wr w1.heap.size v (M.lg s.td B j) ∧ Below w1.heap.size w1 wr) (fun v i _ => (N - intOf i).toNat)
  case atStart => exact ⟨0, Nat.zero_le _, by simp, OwnL.nil _ _ _, Below.refl _ _⟩
  case round =>
    obtain ⟨j, hj, rfl, ho, hbl⟩ := hrel
    have hpr := HP.out.keep hbl
    obtain ⟨⟨p0, p1, p2⟩, pf⟩ := row3 hpr.row
    have hlen := M.lg_len s.td B j
    by_cases hlt : B + j < N
    · have hl := hpr.look (B + j) (wf_small (by omega) (by omega))
      have hvv := hpr.val (B + j)
      have hsz : ((s.td (B + j)).getD ⟨#[]⟩).size ≤ 4096 := by
        cases hf : s.td (B + j) with
        | none => show (0 : Nat) ≤ 4096; omega
        | some u => exact (HOK.out.td _ u hf).2.2
      have HS1 : Hid (M.lg s.td B (j + 1) = M.lg s.td B j ++ [(s.td (B + j)).getD ⟨#[]⟩]) := rfl
      obtain ⟨⟨t, u, a⟩, HU⟩ : ∃ p, Hid ((f (B + j)).getD k0 = p) := ⟨_, Hid_of rfl⟩
      rw [HU.out] at hl hvv
      simp only at hvv
      rw [← hvv] at hsz HS1
      have hadd : IntKind.i64.wrap (B + j + 1) = B + j + 1 := by rw [IntKind.wrap_i64]; omega
      have hk1 : B + ((j + 1 : Nat) : Int) = B + j + 1 := by omega
      have cv := fun w => sclone_any u w (by omega)
      have HO4 := Hid_of ho
      have HB4 := Hid_of hbl
      obtain ⟨a1, c1', hv1, -⟩ := ho.at
      rw [hlen] at hv1
      subst hv1
      replace hl : (Instr.lookup 82 (.map (some m)) (.int .i64 (B + j)) false).run Try.prog wr = .ok (.agg #[.bool t, .string u, svV a]) wr := hl
      generalize svV a = sa at *
      have fb := field87b t u sa
      clear HU hvv pf hpr ho hbl c0 c1 c2
      go_wp2_with fail
      refine (cv _).mono ?_
      clear cv hl fb p0 p1 p2
      rintro e w2 ⟨rfl, hb2⟩
      have ho2 := HO4.out.keep hb2
      obtain ⟨a', c', w4, hrun, ho4, hr4⟩ := app1 u ho2 (by have := HB4.out.size; have := hb2.size; omega) (by rw [hlen]; omega)
      rw [hlen] at hrun ho4 hr4
      have hr6 : Rw wr (.slice a1 j c1') w4 (.slice a' (j + 1) c') := (Rw.ofBelow _ hb2).trans hr4
      have HB5 : Hid (Below w1.heap.size w1 w4) := HB4.out.trans (hr6.below (fun q hq => (HO4.out.lt hq).1) HB4.out.size)
      have HO5 := Hid_of ho4
      clear ho2 ho4 hr4 hr6 hb2 HO4 HB4
      go_wp2_with (at_builtin; refine wpList_append_known rfl _ _ 49 rfl _ _ rfl rfl _ _ (hrun _) ?_)
      go_roundw
      case rel => exact ⟨j + 1, by omega, by rw [hk1], by rw [HS1.out]; exact HO5.out, HB5.out⟩
      case measure => simp [intOf]; omega
    · obtain rfl : j = n := by omega
      have hnl : decide (B + (j : Int) < N) = false := decide_eq_false hlt
      have HQ : Hid (LgOut w1 s fr (.returned u5) wr) := ⟨u5, rfl, by rw [HL.out]; exact ho, hbl⟩
      clear ho hbl hpr pf c0 c1 c2
      go_wp2
      go_ret
      exact HQ.out
/-- What Trim leaves. -/
def TrOut (w : World) (base b m : Nat) (s : M.S) (f : Int → Option K) (u : Int) (e : Ending) (w' : World) : Prop := ∃ f', e = .returned (.int .i64 (M.tb s u - s.base)) ∧ LI w' base b m (M.tr s u) f' ∧ Fr w (fpl b m f) w' (fpl b m f')
set_option maxRecDepth 100000 in
set_option maxHeartbeats 1000000 in
theorem trim_any (h : LI w base b m s f) (ok : M.Ok s) (u : Int) : Calls Try.prog 38 #[.pointer (some ⟨b, 0, none⟩), .int .i64 u] w (TrOut w base b m s f u) := by
  have cn := next_any h ok
  obtain ⟨⟨c0, c1, c2⟩, cf⟩ := row3 h.row
  have f1 := cf 1
  obtain ⟨n1, n2, n3, n4⟩ := ok.nx
  have hB := ok.base
  have HTB : Hid (max s.base (min u (M.nx s)) = M.tb s u) := rfl
  have hle : s.base ≤ M.tb s u ∧ M.tb s u ≤ 1024 := by unfold M.tb; omega
  have hrow := heap_setCell_same w b 1 _ _ (.int .i64 (M.tb s u)) h.row
  obtain ⟨W2, HW2⟩ : ∃ W2, Hid (w.setCell ⟨b, 1, none⟩ (.int .i64 (M.tb s u)) = W2) := ⟨_, Hid_of rfl⟩
  rw [HW2.out] at hrow
  have hoth : ∀ j, j < w.heap.size → j ≠ b → W2.heap[j]? = w.heap[j]? := fun j _ hj => by rw [← HW2.out]; exact heap_setCell_other w ⟨b, 1, none⟩ j _ hj
  have hsame : W2.os = w.os ∧ W2.tape = w.tape ∧ W2.output = w.output ∧ w.heap.size ≤ W2.heap.size := by rw [← HW2.out]; exact ⟨rfl, rfl, rfl, by simp⟩
  have HFIN : Hid (∀ w', MI w' m s.c (cutf f s.base (M.tb s u)) → MT W2 m w' → TrOut w base b m s f u (.returned (.int .i64 (M.tb s u - s.base))) w') := fun w' hm ht => by
    obtain ⟨h1, h2⟩ := h.trim ok u (w1 := W2) (by rw [hrow]; rfl) hsame.1 hsame.2.1 hsame.2.2.1 hsame.2.2.2 hoth hm ht
    exact ⟨_, rfl, h1, h2⟩
  have HM0 : Hid (MI W2 m s.c (cutf f s.base s.base)) := by
    rw [cutf_nil]
    exact Hid_of (h.mi.keep (hoth m h.mi.lt h.bm.symm))
  have HR2 : Hid (W2.heap[b]? = some (.cells #[.int .i64 s.n, .int .i64 (M.tb s u), .map (some m)] 84 (0, 0))) := Hid_of (by rw [hrow]; rfl)
  have hbm := Hid_of h.bm
  generalize M.tb s u = B at *
  generalize M.nx s = N at *
  clear h ok n1 n2 cf hrow hoth hsame
  go_enter Try.func38, Try.ntmps38
  go_wp2_with fail
  refine cn.mono ?_
  rintro e w1 ⟨rfl, rfl⟩
  clear cn
  go_upto_region 5 with fail
  rw [HTB.out, HW2.out]
  clear HW2 HTB c0 c1 c2 f1
  go_wp2_with fail
  go_loopw [6] (fun i wr => ∃ k : Int, s.base ≤ k ∧ k ≤ B ∧ i = .int .i64 k ∧ Hid (MI wr m s.c (cutf f s.base k)) ∧ Hid (MT W2 m wr)) (fun i _ => (B - intOf i).toNat)
  case atStart => exact ⟨s.base, by omega, by omega, rfl, HM0, MT.refl _ _⟩
  case round =>
    obtain ⟨k, hk1, hk2, rfl, HM, HT⟩ := hrel
    obtain ⟨⟨d0, d1, d2⟩, -⟩ := row3 ((HT.out.block b hbm.out).trans HR2.out)
    by_cases hlt : k < B
    · obtain ⟨w3, hdel, hm3, ht3⟩ := HM.out.del k (wf_small (by omega) (by omega)) 0
      have HM3 : Hid (MI w3 m s.c (cutf f s.base (k + 1))) := Hid_of (by rw [← cutf_step f hk1]; exact hm3)
      have HT3 := Hid_of (HT.out.trans ht3)
      clear hm3 ht3 HM HT
      go_wp2
      go_roundw
      case rel => exact ⟨k + 1, by omega, by omega, by go_num, HM3, HT3⟩
      case measure => simp [intOf]; omega
    · obtain rfl : k = B := by omega
      have HQ := Hid_of (HFIN.out wr HM.out HT.out)
      clear HM HT HFIN HM0
      go_wp2
      go_ret
      exact HQ.out
end
end Go.Proofs.Ytfjlanhekheecaa.Nl
