/-
  Slots that are told go; the values from a slot on.
-/
import Derived.Test.YtgodnpngdbelhaaG10
import Derived.Test.YtgodnpngdbelhaaG12
namespace Go.Proofs.Ytgodnpngdbelhaa.Nl
open Go.RowKit Go.Maps
set_option linter.unusedVariables false
open Go.Proofs.Ytgodnpngdbelhaa.M (E V)
open Go.Proofs.Ytgodnpngdbelhaa.Nl.M (W fup)

/-- A row of texts. -/
def tl : Ly ByteArray := ⟨1, fun x => [.string x], fun _ => rfl, fun x v h => by simp at h; subst h; rfl, by decide⟩
theorem tiT : Ti tl 28 9 := ⟨Try.underlying28, Try.t9, .string ⟨#[]⟩, by kernel_rfl, rfl, rfl, by decide, rfl⟩
/-- One more, appended. -/
theorem app1 {w : World} {base : Nat} {v : Value} {l : List ByteArray} (x : ByteArray) (ho : OwnL tl 9 w base v l) (hb : base ≤ w.heap.size) (hl : l.length + 1 ≤ 1000000) :
    ∃ a' c' w', (∀ ty, (Builtin.append_ #[28, 28] ty #[v, .slice (some ⟨w.heap.size, 0, none⟩) 1 1]).run Try.prog (w.alloc (.cells #[.string x] 9)) = .ok (.slice a' (l.length + 1) c') w') ∧ OwnL tl 9 w' base (.slice a' (l.length + 1) c') (l ++ [x]) ∧ Rw w v w' (.slice a' (l.length + 1) c') := by
  obtain ⟨a', c', w4, hrun, ho4, hr4⟩ := run_appL_ty tiT (w.alloc (.cells #[.string x] 9)) base v l [x] w.heap.size 0 1 1 (ho.keep (bel1 w _)) (atL_one (Y := tl) (t := 9) (heap_alloc_last w _)) rfl (by simp; omega) (by simp; omega)
  exact ⟨a', c', w4, hrun, ho4, (Rw.ofBelow _ (bel1 w _)).trans hr4⟩
section
variable {w : World} {base b m : Nat} {s : M.S} {f : Int → Option K}
/-- What Log leaves. -/
def LgOut (w : World) (s : M.S) (fr : Int) (e : Ending) (w' : World) : Prop := ∃ u, e = .returned u ∧ OwnL tl 9 w' w.heap.size u (M.lgs s fr) ∧ Below w.heap.size w w'
set_option maxRecDepth 100000 in
set_option maxHeartbeats 1000000 in
theorem log_any (h : LI w base b m s f) (ok : M.Ok s) (fr : Int) : Calls Try.prog 45 #[.pointer (some ⟨b, 0, none⟩), .int .i64 fr] w (LgOut w s fr) := by
  have cn := next_any h ok
  obtain ⟨⟨c0, c1, c2⟩, _⟩ := row3 h.row
  obtain ⟨n1, n2, n3, n4⟩ := ok.nx
  have hB := ok.base
  have HP := Hid_of h
  have HOK := Hid_of ok
  have HL : Hid (M.lgs s fr = M.lg s.td (max fr s.base) (M.lgn s fr)) := rfl
  have HN : Hid (M.lgn s fr = (M.nx s - max fr s.base).toNat) := rfl
  have hle : s.base ≤ max fr s.base := by omega
  generalize M.nx s = N at *
  generalize M.lgn s fr = n at *
  obtain ⟨B, HBB⟩ : ∃ B, Hid (max fr s.base = B) := ⟨_, Hid_of rfl⟩
  rw [HBB.out] at HL HN hle
  have hn := HN.out
  clear h ok n1 n2
  go_enter Try.func45, Try.ntmps45
  go_wp2_with fail
  refine cn.mono ?_
  rintro e w1 ⟨rfl, rfl⟩
  clear cn
  go_wp2_with fail
  rw [HBB.out]
  go_loopw [5, 7] (fun v i wr => ∃ j : Nat, j ≤ n ∧ i = .int .i64 (B + j) ∧ OwnL tl 9 wr w1.heap.size v (M.lg s.td B j) ∧ Below w1.heap.size w1 wr) (fun v i _ => (N - intOf i).toNat)
  case atStart => exact ⟨0, Nat.zero_le _, by simp, OwnL.nil _ _ _, Below.refl _ _⟩
  case round =>
    obtain ⟨j, hj, rfl, ho, hbl⟩ := hrel
    have hpr := HP.out.keep hbl
    obtain ⟨⟨p0, p1, p2⟩, pf⟩ := row3 hpr.row
    have hlen := M.lg_len s.td B j
    by_cases hlt : B + j < N
    · have hl := hpr.look (B + j) (wf_small (by omega) (by omega))
      have hvv := hpr.val (B + j)
      have hsz : ((s.td (B + j)).getD ⟨#[]⟩).size ≤ 4096 := by
        cases hf : s.td (B + j) with
        | none => show (0 : Nat) ≤ 4096; omega
        | some u => exact (HOK.out.td _ u hf).2.2
      have HS1 : Hid (M.lg s.td B (j + 1) = M.lg s.td B j ++ [(s.td (B + j)).getD ⟨#[]⟩]) := rfl
      obtain ⟨⟨t, u, a⟩, HU⟩ : ∃ p, Hid ((f (B + j)).getD k0 = p) := ⟨_, Hid_of rfl⟩
      rw [HU.out] at hl hvv
      simp only at hvv
      rw [← hvv] at hsz HS1
      have hadd : IntKind.i64.wrap (B + j + 1) = B + j + 1 := by rw [IntKind.wrap_i64]; omega
      have hk1 : B + ((j + 1 : Nat) : Int) = B + j + 1 := by omega
      have cv := fun w => sclone_any u w (by omega)
      have HO4 := Hid_of ho
      have HB4 := Hid_of hbl
      obtain ⟨a1, c1', hv1, -⟩ := ho.at
      rw [hlen] at hv1
      subst hv1
      replace hl : (Instr.lookup 98 (.map (some m)) (.int .i64 (B + j)) false).run Try.prog wr = .ok (.agg #[.bool t, .string u, svV a]) wr := hl
      generalize svV a = sa at *
      have fb := field104b t u sa
      clear HU hvv pf hpr ho hbl c0 c1 c2
      go_wp2_with fail
      refine (cv _).mono ?_
      clear cv hl fb p0 p1 p2
      rintro e w2 ⟨rfl, hb2⟩
      have ho2 := HO4.out.keep hb2
      obtain ⟨a', c', w4, hrun, ho4, hr4⟩ := app1 u ho2 (by have := HB4.out.size; have := hb2.size; omega) (by rw [hlen]; omega)
      rw [hlen] at hrun ho4 hr4
      have hr6 : Rw wr (.slice a1 j c1') w4 (.slice a' (j + 1) c') := (Rw.ofBelow _ hb2).trans hr4
      have HB5 : Hid (Below w1.heap.size w1 w4) := HB4.out.trans (hr6.below (fun q hq => (HO4.out.lt hq).1) HB4.out.size)
      have HO5 := Hid_of ho4
      clear ho2 ho4 hr4 hr6 hb2 HO4 HB4
      go_wp2_with (at_builtin; refine wpList_append_known rfl _ _ 28 rfl _ _ rfl rfl _ _ (hrun _) ?_)
      go_roundw
      case rel => exact ⟨j + 1, by omega, by rw [hk1], by rw [HS1.out]; exact HO5.out, HB5.out⟩
      case measure => simp [intOf]; omega
    · obtain rfl : j = n := by omega
      have hnl : decide (B + (j : Int) < N) = false := decide_eq_false hlt
      have HQ : Hid (LgOut w1 s fr (.returned u5) wr) := ⟨u5, rfl, by rw [HL.out]; exact ho, hbl⟩
      clear ho hbl hpr pf c0 c1 c2
      go_wp2
      go_ret
      exact HQ.out
/-- What Trim leaves. -/
def TrOut (w : World) (base b m : Nat) (s : M.S) (f : Int → Option K) (u : Int) (e : Ending) (w' : World) : Prop := ∃ f', e = .returned (.int .i64 (M.tb s u - s.base)) ∧ LI w' base b m (M.tr s u) f' ∧ Fr w (fpl b m f) w' (fpl b m f')
set_option maxRecDepth 100000 in
set_option maxHeartbeats 1000000 in
theorem trim_any (h : LI w base b m s f) (ok : M.Ok s) (u : Int) : Calls Try.prog 76 #[.pointer (some ⟨b, 0, none⟩), .int .i64 u] w (TrOut w base b m s f u) := by
  have cn := next_any h ok
  obtain ⟨⟨c0, c1, c2⟩, cf⟩ := row3 h.row
  have f1 := cf 1
  obtain ⟨n1, n2, n3, n4⟩ := ok.nx
  have hB := ok.base
  have HTB : Hid (max s.base (min u (M.nx s)) = M.tb s u) := rfl
  have hle : s.base ≤ M.tb s u ∧ M.tb s u ≤ 1024 := by unfold M.tb; omega
  have hrow := heap_setCell_same w b 1 _ _ (.int .i64 (M.tb s u)) h.row
  obtain ⟨W2, HW2⟩ : ∃ W2, Hid (w.setCell ⟨b, 1, none⟩ (.int .i64 (M.tb s u)) = W2) := ⟨_, Hid_of rfl⟩
  rw [HW2.out] at hrow
  have hoth : ∀ j, j < w.heap.size → j ≠ b → W2.heap[j]? = w.heap[j]? := fun j _ hj => by rw [← HW2.out]; exact heap_setCell_other w ⟨b, 1, none⟩ j _ hj
  have hsame : W2.os = w.os ∧ W2.tape = w.tape ∧ W2.output = w.output ∧ w.heap.size ≤ W2.heap.size := by rw [← HW2.out]; exact ⟨rfl, rfl, rfl, by simp⟩
  have HFIN : Hid (∀ w', MI w' m s.c (cutf f s.base (M.tb s u)) → MT W2 m w' → TrOut w base b m s f u (.returned (.int .i64 (M.tb s u - s.base))) w') := fun w' hm ht => by
    obtain ⟨h1, h2⟩ := h.trim ok u (w1 := W2) (by rw [hrow]; rfl) hsame.1 hsame.2.1 hsame.2.2.1 hsame.2.2.2 hoth hm ht
    exact ⟨_, rfl, h1, h2⟩
  have HM0 : Hid (MI W2 m s.c (cutf f s.base s.base)) := by
    rw [cutf_nil]
    exact Hid_of (h.mi.keep (hoth m h.mi.lt h.bm.symm))
  have HR2 : Hid (W2.heap[b]? = some (.cells #[.int .i64 s.n, .int .i64 (M.tb s u), .map (some m)] 100 (0, 0))) := Hid_of (by rw [hrow]; rfl)
  have hbm := Hid_of h.bm
  generalize M.tb s u = B at *
  generalize M.nx s = N at *
  clear h ok n1 n2 cf hrow hoth hsame
  go_enter Try.func76, Try.ntmps76
  go_wp2_with fail
  refine cn.mono ?_
  rintro e w1 ⟨rfl, rfl⟩
  clear cn
  go_upto_region 5 with fail
  rw [HTB.out, HW2.out]
  clear HW2 HTB c0 c1 c2 f1
  go_wp2_with fail
  go_loopw [6] (fun i wr => ∃ k : Int, s.base ≤ k ∧ k ≤ B ∧ i = .int .i64 k ∧ Hid (MI wr m s.c (cutf f s.base k)) ∧ Hid (MT W2 m wr)) (fun i _ => (B - intOf i).toNat)
  case atStart => exact ⟨s.base, by omega, by omega, rfl, HM0, MT.refl _ _⟩
  case round =>
    obtain ⟨k, hk1, hk2, rfl, HM, HT⟩ := hrel
    obtain ⟨⟨d0, d1, d2⟩, -⟩ := row3 ((HT.out.block b hbm.out).trans HR2.out)
    by_cases hlt : k < B
    · obtain ⟨w3, hdel, hm3, ht3⟩ := HM.out.del k (wf_small (by omega) (by omega)) 0
      have HM3 : Hid (MI w3 m s.c (cutf f s.base (k + 1))) := Hid_of (by rw [← cutf_step f hk1]; exact hm3)
      have HT3 := Hid_of (HT.out.trans ht3)
      clear hm3 ht3 HM HT
      go_wp2
      go_roundw
      case rel => exact ⟨k + 1, by omega, by omega, by go_num, HM3, HT3⟩
      case measure => simp [intOf]; omega
    · obtain rfl : k = B := by omega
      have HQ := Hid_of (HFIN.out wr HM.out HT.out)
      clear HM HT HFIN HM0
      go_wp2
      go_ret
      exact HQ.out
end
end Go.Proofs.Ytgodnpngdbelhaa.Nl
namespace Go.Proofs.Ytgodnpngdbelhaa.Nl
open Go.RowKit Go.Maps
set_option linter.unusedVariables false
open Go.Proofs.Ytgodnpngdbelhaa.M (E V)
open Go.Proofs.Ytgodnpngdbelhaa.Nl.M (W fup)

theorem LI.low {w : World} {base base' b m : Nat} {s : M.S} {f : Int → Option K} (h : LI w base b m s f) (hb : base' ≤ base) : LI w base' b m s f :=
  ⟨h.row, h.mi, h.td, h.un, fun k h1 h2 => by
    obtain ⟨g, e1, e2, e3⟩ := h.vo k h1 h2
    exact ⟨g, e1, e2, Nat.le_trans hb e3⟩, h.ap, Nat.le_trans hb h.lo.1, Nat.le_trans hb h.lo.2⟩
/-- A learner, new since w0, at block b; F: its own. -/
structure LS (w0 w : World) (F : Nat → Prop) (b : Nat) (s : M.S) : Prop where
  li : ∃ m f, F = fpl b m f ∧ LI w w0.heap.size b m s f
  bel : Below w0.heap.size w0 w
  ok : M.Ok s
section
variable {w0 w w' : World} {F G G' : Nat → Prop} {b : Nat} {s : M.S}
theorem LS.keep (h : LS w0 w F b s) (hb : Below w.heap.size w w') : LS w0 w' F b s := by
  obtain ⟨m, f, hF, hX⟩ := h.li
  exact ⟨⟨m, f, hF, hX.keep hb⟩, bel_up h.bel hb (Nat.le_refl _), h.ok⟩
theorem LS.mine (h : LS w0 w F b s) : ∀ k, F k → w0.heap.size ≤ k ∧ k < w.heap.size := by
  obtain ⟨m, f, rfl, hX⟩ := h.li
  exact hX.mine
theorem LS.fr (h : LS w0 w F b s) (hF : Fr w F w' G) : Below w0.heap.size w0 w' := h.bel.trans (hF.below (fun k hk => (h.mine k hk).1) h.bel.size)
/-- What New leaves. -/
def NwOut (w0 w : World) (n : Int) (e : Ending) (w' : World) : Prop :=
  (M.nde n = false ∧ e = .returned (.pointer none) ∧ w' = w) ∨ (M.nde n = true ∧ ∃ b F, e = .returned (.pointer (some ⟨b, 0, none⟩)) ∧ LS w0 w' F b (M.s0 n) ∧ Below w.heap.size w w' ∧ ∀ k, F k → w.heap.size ≤ k)
theorem newS_any (w0 w : World) (hb : Below w0.heap.size w0 w) (n : Int) : Calls Try.prog 44 #[.int .i64 n] w (NwOut w0 w n) :=
  (new_any n w).mono fun e w' h => by
    rcases h with h | ⟨h0, b, m, h1, h2, h3⟩
    · exact .inl h
    · exact .inr ⟨h0, b, _, h1, ⟨⟨m, _, rfl, h2.low hb.size⟩, bel_up hb h3 (Nat.le_refl _), M.Ok.zero h0⟩, h3, fun k hk => (h2.mine k hk).1⟩
theorem LS.hear (h : LS w0 w F b s) (fr : Int) (x : V) (hk : (Lit.int .i64 x.s).wf = true) (hc : s.c ≤ 900000) : Calls Try.prog 73 #[.pointer (some ⟨b, 0, none⟩), .int .i64 fr, vV x] w fun e w' => ∃ G, e = .returned (.bool (M.hb s fr x)) ∧ LS w0 w' G b (M.hs s fr x) ∧ Fr w F w' G := by
  have h0 := h
  obtain ⟨m, f, rfl, hX⟩ := h.li
  refine (hear_any hX h.ok fr x hk hc).mono ?_
  rintro e w' ⟨f', h1, h2, h3⟩
  exact ⟨_, h1, ⟨⟨m, f', rfl, h2⟩, h0.fr h3, h.ok.hs fr x⟩, h3⟩
theorem LS.tell (h : LS w0 w F b s) (k : Int) (v : ByteArray) (hk : (Lit.int .i64 k).wf = true) (hc : s.c ≤ 900000) : Calls Try.prog 75 #[.pointer (some ⟨b, 0, none⟩), .int .i64 k, .string v] w fun e w' => ∃ G, e = .returned (.bool (M.may s k v)) ∧ LS w0 w' G b (M.ts s k v) ∧ Fr w F w' G := by
  have h0 := h
  obtain ⟨m, f, rfl, hX⟩ := h.li
  refine (tell_any hX h.ok k hk v hc).mono ?_
  rintro e w' ⟨f', h1, h2, h3⟩
  exact ⟨_, h1, ⟨⟨m, f', rfl, h2⟩, h0.fr h3, h.ok.ts k v⟩, h3⟩
theorem LS.trim (h : LS w0 w F b s) (u : Int) : Calls Try.prog 76 #[.pointer (some ⟨b, 0, none⟩), .int .i64 u] w fun e w' => ∃ G, e = .returned (.int .i64 (M.tb s u - s.base)) ∧ LS w0 w' G b (M.tr s u) ∧ Fr w F w' G := by
  have h0 := h
  obtain ⟨m, f, rfl, hX⟩ := h.li
  refine (trim_any hX h.ok u).mono ?_
  rintro e w' ⟨f', h1, h2, h3⟩
  exact ⟨_, h1, ⟨⟨m, f', rfl, h2⟩, h0.fr h3, h.ok.tr u⟩, h3⟩
theorem LS.next (h : LS w0 w F b s) : Calls Try.prog 47 #[.pointer (some ⟨b, 0, none⟩)] w fun e w' => e = .returned (.int .i64 (M.nx s)) ∧ w' = w := by
  obtain ⟨m, f, rfl, hX⟩ := h.li
  exact next_any hX h.ok
theorem LS.base (h : LS w0 w F b s) : Calls Try.prog 46 #[.pointer (some ⟨b, 0, none⟩)] w fun e w' => e = .returned (.int .i64 s.base) ∧ w' = w := by
  obtain ⟨m, f, rfl, hX⟩ := h.li
  exact base_any hX
theorem LS.log (h : LS w0 w F b s) (fr : Int) : Calls Try.prog 45 #[.pointer (some ⟨b, 0, none⟩), .int .i64 fr] w fun e w' => ∃ ad c, e = .returned (.slice ad (M.lgs s fr).length c) ∧ XL tl w' ad c (M.lgs s fr) ∧ (∀ j, blk ad j → w.heap.size ≤ j ∧ j < w'.heap.size) ∧ Below w.heap.size w w' := by
  obtain ⟨m, f, rfl, hX⟩ := h.li
  refine (log_any hX h.ok fr).mono ?_
  rintro e w' ⟨u, rfl, ho, hb⟩
  obtain ⟨ad, c, rfl, hx, hbk⟩ := ho.at
  exact ⟨ad, c, rfl, hx, fun j hj => ⟨(hbk j hj).1, (hbk j hj).2.2⟩, hb⟩
end
theorem hear_nil (fr : Int) (x : V) (w : World) : Calls Try.prog 73 #[.pointer none, .int .i64 fr, vV x] w fun e w' => e = .returned (.bool false) ∧ Below w.heap.size w w' := by
  obtain ⟨W1, HW1⟩ : ∃ W1, Hid (w.alloc (.cells #[.int .i64 x.s, .int .i64 x.b.i, .int .i64 x.b.t, .string x.v] 84) = W1) := ⟨_, Hid_of rfl⟩
  have hb1 : Below w.heap.size w W1 := by rw [← HW1.out]; exact bel1 w _
  have hr1 : W1.heap[w.heap.size]? = some (.cells #[.int .i64 x.s, .int .i64 x.b.i, .int .i64 x.b.t, .string x.v] 84 (0, 0)) := by rw [← HW1.out]; exact heap_alloc_last w _
  have HB1 := Hid_of hb1
  clear hb1 hr1
  go_enter Try.func73, Try.ntmps73
  go_upto_region 1 with fail
  rw [HW1.out]
  clear HW1
  go_wp2
  go_ret
  exact ⟨rfl, HB1.out⟩
theorem tell_nil (k : Int) (v : ByteArray) (w : World) : Calls Try.prog 75 #[.pointer none, .int .i64 k, .string v] w fun e w' => e = .returned (.bool false) ∧ w' = w := by
  go_enter Try.func75, Try.ntmps75
  go_wp2
  go_ret
  exact ⟨rfl, rfl⟩
theorem next_nil (w : World) : Calls Try.prog 47 #[.pointer none] w fun e w' => e = .returned (.int .i64 0) ∧ w' = w := by
  go_enter Try.func47, Try.ntmps47
  go_wp2
  go_ret
  exact ⟨rfl, rfl⟩
theorem log_nil (k : Int) (w : World) : Calls Try.prog 45 #[.pointer none, .int .i64 k] w fun e w' => e = .returned (.slice none 0 0) ∧ w' = w := by
  go_enter Try.func45, Try.ntmps45
  go_wp2
  go_ret
  exact ⟨rfl, rfl⟩
theorem trim_nil (k : Int) (w : World) : Calls Try.prog 76 #[.pointer none, .int .i64 k] w fun e w' => e = .returned (.int .i64 0) ∧ w' = w := by
  go_enter Try.func76, Try.ntmps76
  go_wp2
  go_ret
  exact ⟨rfl, rfl⟩
theorem base_nil (w : World) : Calls Try.prog 46 #[.pointer none] w fun e w' => e = .returned (.int .i64 0) ∧ w' = w := by
  go_enter Try.func46, Try.ntmps46
  go_wp2
  go_ret
  exact ⟨rfl, rfl⟩
theorem _root_.Go.Proofs.Ytgodnpngdbelhaa.AtL.getT {w : World} {a : Option Addr} {l : List ByteArray} (h : AtL tl w a l) (j : Nat) (hj : j < l.length) : ∃ b off, a = some ⟨b, off, none⟩ ∧ w.cell? ⟨b, off + j, none⟩ = some (.string l[j]) := by
  obtain ⟨b, off, e, h0⟩ := h j hj
  have := h0 0 (by decide)
  rw [show off + j * tl.n + 0 = off + j from by show off + j * 1 + 0 = off + j; omega] at this
  exact ⟨b, off, e, this⟩
set_option maxRecDepth 100000 in
set_option maxHeartbeats 1000000 in
theorem texts_any (a : Option Addr) (ca : Nat) (b : Option Addr) (cb : Nat) (l : List ByteArray) (w : World) (hl : l.length ≤ 1000000) (ha : AtL tl w a l) (hb : AtL tl w b l) :
    Calls Try.prog 13 #[.slice a l.length ca, .slice b l.length cb] w fun e w' => e = .returned (.bool true) ∧ Below w.heap.size w w' := by
  go_enter Try.func13, Try.ntmps13
  go_wp2
  go_loopw [5] (fun i wr => ∃ k : Nat, k ≤ l.length ∧ i = .int .i64 k ∧ Below w.heap.size w wr) (fun i _ => l.length - (intOf i).toNat)
  case atStart => exact ⟨0, by omega, rfl, Below.refl _ _⟩
  case round =>
    obtain ⟨k, hk, rfl, hbel⟩ := hrel
    by_cases hlt : k < l.length
    · obtain ⟨b1, o1, rfl, c1⟩ := (ha.keep hbel).getT k hlt
      obtain ⟨b2, o2, rfl, c2⟩ := (hb.keep hbel).getT k hlt
      have hki : (k : Int) < (l.length : Int) := by omega
      generalize l[k] = x at *
      have HB : Hid (∀ n, Below w.heap.size w (wr.drewN n)) := fun n => below_drewN hbel n
      clear ha hb hbel
      go_wp2_with fail
      go_quiet (fail)
      go_wp2
      go_roundw
      case rel => exact ⟨k + 1, by omega, by go_num, HB.out _⟩
      case measure => simp [intOf]; omega
    · have hkn : k = l.length := by omega
      subst hkn
      go_wp2
      go_ret
      exact ⟨rfl, hbel⟩

end Go.Proofs.Ytgodnpngdbelhaa.Nl
