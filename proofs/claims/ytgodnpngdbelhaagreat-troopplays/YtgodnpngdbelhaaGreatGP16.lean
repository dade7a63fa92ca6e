import Derived.Test.YtgodnpngdbelhaaGreatGP15
import Derived.Test.YtgodnpngdbelhaaGreatGP12
import Derived.Test.YtgodnpngdbelhaaGreatGP03
set_option maxRecDepth 100000
set_option maxHeartbeats 8000000
set_option linter.unusedVariables false
set_option linter.unusedSimpArgs false
open Go.Proofs.Tryz
namespace Go.Proofs.YtgodnpngdbelhaaGreat.Nl
open Go.RowKit Go.Maps
open Go.Proofs.YtgodnpngdbelhaaGreat.M (E V)
open Go.Proofs.YtgodnpngdbelhaaGreat.Nl.M (W fup)
def tl : Ly ByteArray := ⟨1, fun x => [.string x], fun _ => rfl, fun x v h => by simp at h; subst h; rfl, by decide⟩
theorem tiT : Ti tl 38 9 := ⟨underlying38, Tryz.t9, .string ⟨#[]⟩, by kernel_rfl, rfl, rfl, by decide, rfl⟩
theorem app1 {w : World} {base : Nat} {v : Value} {l : List ByteArray} (x : ByteArray) (ho : OwnL tl 9 w base v l) (hb : base ≤ w.heap.size) (hl : l.length + 1 ≤ 1000000) :
  ∃ a' c' w', (∀ ty, (Builtin.append_ #[38, 38] ty #[v, .slice (some ⟨w.heap.size, 0, none⟩) 1 1]).run prog (w.alloc (.cells #[.string x] 9)) = .ok (.slice a' (l.length + 1) c') w') ∧ OwnL tl 9 w' base (.slice a' (l.length + 1) c') (l ++ [x]) ∧ Rw w v w' (.slice a' (l.length + 1) c') := by
 obtain ⟨a', c', w4, hrun, ho4, hr4⟩ := run_appL_ty tiT (w.alloc (.cells #[.string x] 9)) base v l [x] w.heap.size 0 1 1 (ho.keep (bel1 w _)) (atL_one (Y := tl) (t := 9) (heap_alloc_last w _)) rfl (by simp; omega) (by simp; omega); exact ⟨a', c', w4, hrun, ho4, (Rw.ofBelow _ (bel1 w _)).trans hr4⟩
section
variable {w : World} {base b m : Nat} {s : M.S} {f : Int → Option K}
def LgOut (w : World) (s : M.S) (fr : Int) (e : Ending) (w' : World) : Prop := ∃ u, e = .returned u ∧ OwnL tl 9 w' w.heap.size u (M.lgs s fr) ∧ Bl w w'
theorem log_any (h : LI w base b m s f) (ok : M.Ok s) (fr : Int) : Calls prog 66 #[.pointer (some ⟨b, 0, none⟩), .int .i64 fr] w (LgOut w s fr) := by
 have cn := next_any h ok; obtain ⟨c0, _⟩ := row3 h.row; obtain ⟨n1, n2, n3, n4⟩ := ok.nx; have hB := ok.base; have HP := Hf h; have HOK := Hf ok; have HL : Hid (M.lgs s fr = M.lg s.td (max fr s.base) (M.lgn s fr)) := rfl; have HN : Hid (M.lgn s fr = (M.nx s - max fr s.base).toNat) := rfl; have hle : s.base ≤ max fr s.base := by omega
 generalize M.nx s = N at *; generalize M.lgn s fr = n at *; obtain ⟨B, HBB⟩ := Nh (max fr s.base); rw [HBB.out] at HL HN hle; have hn := HN.out; clear h ok n1 n2; go_enter func66, ntmps66; go_wp2_with fail; refine cn.mono ?_; rintro e w1 ⟨rfl, rfl⟩; clear cn; go_wp2_with fail; rw [HBB.out]; go_loopw [5, 7] (fun v i wr => ∃ j : Nat, j ≤ n ∧ i = .int .i64 (B + j) ∧ OwnL tl 9 wr w1.heap.size v (M.lg s.td B j) ∧ Bl w1 wr) (fun v i _ => (N - intOf i).toNat)
 case atStart => exact ⟨0, Nat.zero_le _, by simp, OwnL.nil _ _ _, Below.refl _ _⟩
 case round =>
  obtain ⟨j, hj, rfl, ho, hbl⟩ := hrel; have hpr := HP.out.keep hbl; obtain ⟨p0, pf⟩ := row3 hpr.row; have hlen := M.lg_len s.td B j; by_cases hlt : B + j < N
  ·have hl := hpr.look (B + j) (wf_small (by omega) (by omega)); have hvv := hpr.val (B + j); have hsz : ((s.td (B + j)).getD ⟨#[]⟩).size ≤ 4096 := by
    cases hf : s.td (B + j) with
    | none => show (0 : Nat) ≤ 4096; omega
    | some u => exact (HOK.out.td _ u hf).2.2
   have HS1 : Hid (M.lg s.td B (j + 1) = M.lg s.td B j ++ [(s.td (B + j)).getD ⟨#[]⟩]) := rfl; obtain ⟨⟨t, u, a⟩, HU⟩ : ∃ p, Hid ((f (B + j)).getD k0 = p) := ⟨_, Hf rfl⟩; rw [HU.out] at hl hvv; simp only at hvv; rw [← hvv] at hsz HS1; have hadd : IntKind.i64.wrap (B + j + 1) = B + j + 1 := by rw [IntKind.wrap_i64]; omega
   have hk1 : B + ((j + 1 : Nat) : Int) = B + j + 1 := by omega
   have cv := fun w => sclone_any u w (by omega); have HO4 := Hf ho; have HB4 := Hf hbl; obtain ⟨a1, c1', hv1, -⟩ := ho.at; rw [hlen] at hv1; subst hv1
   replace hl : (Instr.lookup 138 (.map (some m)) (.int .i64 (B + j)) false).run prog wr = .ok (.agg #[.bool t, .string u, svV a]) wr := hl
   generalize svV a = sa at *; have fb := field104b t u sa; clear HU hvv pf hpr ho hbl c0; go_wp2_with fail; refine (cv _).mono ?_; clear cv hl fb p0; rintro e w2 ⟨rfl, hb2⟩; have ho2 := HO4.out.keep hb2; obtain ⟨a', c', w4, hrun, ho4, hr4⟩ := app1 u ho2 (by have := HB4.out.size; have := hb2.size; omega) (by rw [hlen]; omega); rw [hlen] at hrun ho4 hr4; have hr6 : Rw wr (.slice a1 j c1') w4 (.slice a' (j + 1) c') := (Rw.ofBelow _ hb2).trans hr4; have HB5 : Hid (Bl w1 w4) := HB4.out.trans (hr6.below (fun q hq => (HO4.out.lt hq).1) HB4.out.size); have HO5 := Hf ho4; clear ho2 ho4 hr4 hr6 hb2 HO4 HB4; go_wp2_with (at_builtin; refine wpList_append_known rfl _ _ 38 rfl _ _ rfl rfl _ _ (hrun _) ?_); go_roundw
   case rel => exact ⟨j + 1, by omega, by rw [hk1], by rw [HS1.out]; exact HO5.out, HB5.out⟩
   case measure => simp [intOf]; omega
  ·obtain rfl : j = n := by omega
   have hnl : decide (B + (j : Int) < N) = false := decide_eq_false hlt; have HQ : Hid (LgOut w1 s fr (.returned u5) wr) := ⟨u5, rfl, by rw [HL.out]; exact ho, hbl⟩; clear ho hbl hpr pf c0; go_wp2; go_ret; exact HQ.out
def TrOut (w : World) (base b m : Nat) (s : M.S) (f : Int → Option K) (u : Int) (e : Ending) (w' : World) : Prop := ∃ f', e = .returned (.int .i64 (M.tb s u - s.base)) ∧ LI w' base b m (M.tr s u) f' ∧ Fr w (fpl b m f) w' (fpl b m f')
theorem trim_any (h : LI w base b m s f) (ok : M.Ok s) (u : Int) : Calls prog 119 #[.pointer (some ⟨b, 0, none⟩), .int .i64 u] w (TrOut w base b m s f u) := by
 have cn := next_any h ok; obtain ⟨c0, cf⟩ := row3 h.row; have f1 := cf 1; obtain ⟨n1, n2, n3, n4⟩ := ok.nx; have hB := ok.base; have HTB : Hid (max s.base (min u (M.nx s)) = M.tb s u) := rfl; have hle : s.base ≤ M.tb s u ∧ M.tb s u ≤ 1024 := by unfold M.tb; omega
 have hrow := heap_setCell_same w b 1 _ _ (.int .i64 (M.tb s u)) h.row; obtain ⟨W2, HW2⟩ := Nh (w.setCell ⟨b, 1, none⟩ (.int .i64 (M.tb s u))); rw [HW2.out] at hrow; have hoth : ∀ j, j < w.heap.size → j ≠ b → W2.heap[j]? = w.heap[j]? := fun j _ hj => by rw [← HW2.out]; exact heap_setCell_other w ⟨b, 1, none⟩ j _ hj
 have hsame : W2.os = w.os ∧ W2.tape = w.tape ∧ W2.output = w.output ∧ w.heap.size ≤ W2.heap.size := by rw [← HW2.out]; exact ⟨rfl, rfl, rfl, by simp⟩
 have HFIN : Hid (∀ w', MI w' m s.c (cutf f s.base (M.tb s u)) → MT W2 m w' → TrOut w base b m s f u (.returned (.int .i64 (M.tb s u - s.base))) w') := fun w' hm ht => by
  obtain ⟨h1, h2⟩ := h.trim ok u (w1 := W2) (by rw [hrow]; rfl) hsame.1 hsame.2.1 hsame.2.2.1 hsame.2.2.2 hoth hm ht
  exact ⟨_, rfl, h1, h2⟩
 have HM0 : Hid (MI W2 m s.c (cutf f s.base s.base)) := by
  rw [cutf_nil]; exact Hf (h.mi.keep (hoth m h.mi.lt h.bm.symm))
 have HR2 : Hid (W2.heap[b]? = some (.cells #[.int .i64 s.n, .int .i64 (M.tb s u), .map (some m)] 140 (0, 0))) := Hf (by rw [hrow]; rfl); have hbm := Hf h.bm; generalize M.tb s u = B at *; generalize M.nx s = N at *; clear h ok n1 n2 cf hrow hoth hsame; go_enter func119, ntmps119; go_wp2_with fail; refine cn.mono ?_; rintro e w1 ⟨rfl, rfl⟩; clear cn; go_upto_region 5 with fail
 rw [HTB.out, HW2.out]; clear HW2 HTB c0 f1; go_wp2_with fail; go_loopw [6] (fun i wr => ∃ k : Int, s.base ≤ k ∧ k ≤ B ∧ i = .int .i64 k ∧ Hid (MI wr m s.c (cutf f s.base k)) ∧ Hid (MT W2 m wr)) (fun i _ => (B - intOf i).toNat)
 case atStart => exact ⟨s.base, by omega, by omega, rfl, HM0, MT.refl _ _⟩
 case round =>
  obtain ⟨k, hk1, hk2, rfl, HM, HT⟩ := hrel; obtain ⟨d0, -⟩ := row3 ((HT.out.block b hbm.out).trans HR2.out); by_cases hlt : k < B
  ·obtain ⟨w3, hdel, hm3, ht3⟩ := HM.out.del k (wf_small (by omega) (by omega)) 0; have HM3 : Hid (MI w3 m s.c (cutf f s.base (k + 1))) := Hf (by rw [← cutf_step f hk1]; exact hm3); have HT3 := Hf (HT.out.trans ht3); clear hm3 ht3 HM HT; go_wp2; go_roundw
   case rel => exact ⟨k + 1, by omega, by omega, by go_num, HM3, HT3⟩
   case measure => simp [intOf]; omega
  ·obtain rfl : k = B := by omega
   have HQ := Hf (HFIN.out wr HM.out HT.out); clear HM HT HFIN HM0; go_wp2; go_ret; exact HQ.out
end
theorem LI.low {w : World} {base base' b m : Nat} {s : M.S} {f : Int → Option K} (h : LI w base b m s f) (hb : base' ≤ base) : LI w base' b m s f :=
 ⟨h.row, h.mi, h.td, h.un, fun k h1 h2 => by
  obtain ⟨g, e1, e2, e3⟩ := h.vo k h1 h2; exact ⟨g, e1, e2, Nat.le_trans hb e3⟩, h.ap, Nat.le_trans hb h.lo.1, Nat.le_trans hb h.lo.2⟩
structure LS (w0 w : World) (F : Nat → Prop) (b : Nat) (s : M.S) : Prop where
 li : ∃ m f, F = fpl b m f ∧ LI w w0.heap.size b m s f
 bel : Bl w0 w
 ok : M.Ok s
section
variable {w0 w w' : World} {F G G' : Nat → Prop} {b : Nat} {s : M.S}
theorem LS.keep (h : LS w0 w F b s) (hb : Bl w w') : LS w0 w' F b s := by
 obtain ⟨m, f, hF, hX⟩ := h.li; exact ⟨⟨m, f, hF, hX.keep hb⟩, Bu h.bel hb Lr, h.ok⟩
theorem LS.mine (h : LS w0 w F b s) : ∀ k, F k → w0.heap.size ≤ k ∧ k < w.heap.size := by
 obtain ⟨m, f, rfl, hX⟩ := h.li; exact hX.mine
theorem LS.fr (h : LS w0 w F b s) (hF : Fr w F w' G) : Bl w0 w' := h.bel.trans (hF.below (fun k hk => (h.mine k hk).1) h.bel.size)
def NwOut (w0 w : World) (n : Int) (e : Ending) (w' : World) : Prop :=
 (M.nde n = false ∧ e = .returned (.pointer none) ∧ w' = w) ∨ (M.nde n = true ∧ ∃ b F, e = .returned (.pointer (some ⟨b, 0, none⟩)) ∧ LS w0 w' F b (M.s0 n) ∧ Bl w w' ∧ ∀ k, F k → w.heap.size ≤ k)
theorem newS_any (w0 w : World) (hb : Bl w0 w) (n : Int) : Calls prog 48 #[.int .i64 n] w (NwOut w0 w n) :=
 (new_any n w).mono fun e w' h => by
  rcases h with h | ⟨h0, b, m, h1, h2, h3⟩
  ·exact .inl h
  ·exact .inr ⟨h0, b, _, h1, ⟨⟨m, _, rfl, h2.low hb.size⟩, Bu hb h3 Lr, M.Ok.zero h0⟩, h3, fun k hk => (h2.mine k hk).1⟩
theorem LS.hear (h : LS w0 w F b s) (fr : Int) (x : V) (hk : (Lit.int .i64 x.s).wf = true) (hc : s.c ≤ 900000) : Calls prog 106 #[.pointer (some ⟨b, 0, none⟩), .int .i64 fr, vV x] w fun e w' => ∃ G, e = .returned (.bool (M.hb s fr x)) ∧ LS w0 w' G b (M.hs s fr x) ∧ Fr w F w' G := by
 have h0 := h; obtain ⟨m, f, rfl, hX⟩ := h.li; refine (hear_any hX h.ok fr x hk hc).mono ?_; rintro e w' ⟨f', h1, h2, h3⟩; exact ⟨_, h1, ⟨⟨m, f', rfl, h2⟩, h0.fr h3, h.ok.hs fr x⟩, h3⟩
theorem LS.tell (h : LS w0 w F b s) (k : Int) (v : ByteArray) (hk : (Lit.int .i64 k).wf = true) (hc : s.c ≤ 900000) : Calls prog 108 #[.pointer (some ⟨b, 0, none⟩), .int .i64 k, .string v] w fun e w' => ∃ G, e = .returned (.bool (M.may s k v)) ∧ LS w0 w' G b (M.ts s k v) ∧ Fr w F w' G := by
 have h0 := h; obtain ⟨m, f, rfl, hX⟩ := h.li; refine (tell_any hX h.ok k hk v hc).mono ?_; rintro e w' ⟨f', h1, h2, h3⟩; exact ⟨_, h1, ⟨⟨m, f', rfl, h2⟩, h0.fr h3, h.ok.ts k v⟩, h3⟩
theorem LS.trim (h : LS w0 w F b s) (u : Int) : Calls prog 119 #[.pointer (some ⟨b, 0, none⟩), .int .i64 u] w fun e w' => ∃ G, e = .returned (.int .i64 (M.tb s u - s.base)) ∧ LS w0 w' G b (M.tr s u) ∧ Fr w F w' G := by
 have h0 := h; obtain ⟨m, f, rfl, hX⟩ := h.li; refine (trim_any hX h.ok u).mono ?_; rintro e w' ⟨f', h1, h2, h3⟩; exact ⟨_, h1, ⟨⟨m, f', rfl, h2⟩, h0.fr h3, h.ok.tr u⟩, h3⟩
theorem LS.next (h : LS w0 w F b s) : Calls prog 69 #[.pointer (some ⟨b, 0, none⟩)] w fun e w' => e = .returned (.int .i64 (M.nx s)) ∧ w' = w := by
 obtain ⟨m, f, rfl, hX⟩ := h.li; exact next_any hX h.ok
theorem LS.base (h : LS w0 w F b s) : Calls prog 67 #[.pointer (some ⟨b, 0, none⟩)] w fun e w' => e = .returned (.int .i64 s.base) ∧ w' = w := by
 obtain ⟨m, f, rfl, hX⟩ := h.li; exact base_any hX
theorem LS.log (h : LS w0 w F b s) (fr : Int) : Calls prog 66 #[.pointer (some ⟨b, 0, none⟩), .int .i64 fr] w fun e w' => ∃ ad c, e = .returned (.slice ad (M.lgs s fr).length c) ∧ XL tl w' ad c (M.lgs s fr) ∧ (∀ j, blk ad j → w.heap.size ≤ j ∧ j < w'.heap.size) ∧ Bl w w' := by
 obtain ⟨m, f, rfl, hX⟩ := h.li; refine (log_any hX h.ok fr).mono ?_; rintro e w' ⟨u, rfl, ho, hb⟩; obtain ⟨ad, c, rfl, hx, hbk⟩ := ho.at; exact ⟨ad, c, rfl, hx, fun j hj => ⟨(hbk j hj).1, (hbk j hj).2.2⟩, hb⟩
end
theorem _root_.Go.Proofs.YtgodnpngdbelhaaGreat.AtL.getT {w : World} {a : Option Addr} {l : List ByteArray} (h : AtL tl w a l) (j : Nat) (hj : j < l.length) : ∃ b off, a = some ⟨b, off, none⟩ ∧ w.cell? ⟨b, off + j, none⟩ = some (.string l[j]) := by
 obtain ⟨b, off, e, h0⟩ := h j hj; have := h0 0 (by decide); rw [show off + j * tl.n + 0 = off + j from by show off + j * 1 + 0 = off + j; omega] at this; exact ⟨b, off, e, this⟩
theorem texts_any (a : Option Addr) (ca : Nat) (b : Option Addr) (cb : Nat) (l : List ByteArray) (w : World) (hl : l.length ≤ 1000000) (ha : AtL tl w a l) (hb : AtL tl w b l) :
  Calls prog 13 #[.slice a l.length ca, .slice b l.length cb] w fun e w' => e = .returned (.bool true) ∧ Bl w w' := by
 go_enter func13, ntmps13; go_wp2; go_loopw [5] (fun i wr => ∃ k : Nat, k ≤ l.length ∧ i = .int .i64 k ∧ Bl w wr) (fun i _ => l.length - (intOf i).toNat)
 case atStart => exact ⟨0, by omega, rfl, Below.refl _ _⟩
 case round =>
  obtain ⟨k, hk, rfl, hbel⟩ := hrel; by_cases hlt : k < l.length
  ·obtain ⟨b1, o1, rfl, c1⟩ := (ha.keep hbel).getT k hlt; obtain ⟨b2, o2, rfl, c2⟩ := (hb.keep hbel).getT k hlt; have hki : (k : Int) < (l.length : Int) := by omega
   generalize l[k] = x at *; have HB : Hid (∀ n, Below w.heap.size w (wr.drewN n)) := fun n => below_drewN hbel n; clear ha hb hbel; go_wp2_with fail; go_quiet (fail); go_wp2; go_roundw
   case rel => exact ⟨k + 1, by omega, by go_num, HB.out _⟩
   case measure => simp [intOf]; omega
  ·have hkn : k = l.length := by omega
   subst hkn; go_wp2; go_ret; exact ⟨rfl, hbel⟩
end Go.Proofs.YtgodnpngdbelhaaGreat.Nl
namespace Go.Proofs.YtgodnpngdbelhaaGreat
open Go.RowKit Go.Maps
open M (E V)
open Rm (NT R)
theorem row5 {w : World} {k : Nat} {v0 v1 v2 v3 v4 : Value} {t : TypeId} (h : w.heap[k]? = some (.cells #[v0, v1, v2, v3, v4] t (0, 0))) :
  (w.cell? ⟨k, 0, none⟩ = some v0 ∧ w.cell? ⟨k, 1, none⟩ = some v1 ∧ w.cell? ⟨k, 2, none⟩ = some v2 ∧ w.cell? ⟨k, 3, none⟩ = some v3 ∧ w.cell? ⟨k, 4, none⟩ = some v4) ∧ ∀ j, w.frozen? ⟨k, j, none⟩ = false :=
 ⟨⟨by rw [cell_of_row w k 0 _ _ _ h]; rfl, by rw [cell_of_row w k 1 _ _ _ h]; rfl, by rw [cell_of_row w k 2 _ _ _ h]; rfl, by rw [cell_of_row w k 3 _ _ _ h]; rfl, by rw [cell_of_row w k 4 _ _ _ h]; rfl⟩, fun j => frozen_of_row w k j _ _ h⟩
theorem row7 {w : World} {k : Nat} {v0 v1 v2 v3 v4 v5 v6 : Value} {t : TypeId} (h : w.heap[k]? = some (.cells #[v0, v1, v2, v3, v4, v5, v6] t (0, 0))) :
  (w.cell? ⟨k, 0, none⟩ = some v0 ∧ w.cell? ⟨k, 1, none⟩ = some v1 ∧ w.cell? ⟨k, 2, none⟩ = some v2 ∧ w.cell? ⟨k, 3, none⟩ = some v3 ∧ w.cell? ⟨k, 4, none⟩ = some v4 ∧ w.cell? ⟨k, 5, none⟩ = some v5 ∧ w.cell? ⟨k, 6, none⟩ = some v6) ∧ ∀ j, w.frozen? ⟨k, j, none⟩ = false :=
 ⟨⟨by rw [cell_of_row w k 0 _ _ _ h]; rfl, by rw [cell_of_row w k 1 _ _ _ h]; rfl, by rw [cell_of_row w k 2 _ _ _ h]; rfl, by rw [cell_of_row w k 3 _ _ _ h]; rfl, by rw [cell_of_row w k 4 _ _ _ h]; rfl, by rw [cell_of_row w k 5 _ _ _ h]; rfl, by rw [cell_of_row w k 6 _ _ _ h]; rfl⟩, fun j => frozen_of_row w k j _ _ h⟩
theorem ls_step {w0 w w' : World} {F G G' : Nat → Prop} {b : Nat} {s : Nl.M.S} (h : Nl.LS w0 w F b s) (hF : Fr w G w' G') (hap : ∀ k, F k → ¬ G k) (hG : ∀ k, G k → w0.heap.size ≤ k) : Nl.LS w0 w' F b s ∧ ∀ k, F k → ¬ G' k := by
 have hm := h.mine; obtain ⟨m, f, e, hX⟩ := h.li; refine ⟨⟨⟨m, f, e, hX.keepBut (fun k hk hk2 => hF.block k hk (hap k (by rw [e]; exact hk2)))⟩, h.bel.trans (hF.below hG h.bel.size), h.ok⟩, fun k hk hg => ?_⟩; rcases hF.n k hg with h' | h'
 ·exact hap k hk h'
 ·have := (hm k hk).2; omega
abbrev bV (x : E) : Value := .agg #[.int .i64 x.i, .int .i64 x.t]
abbrev vV (x : V) : Value := .agg #[.int .i64 x.s, .int .i64 x.b.i, .int .i64 x.b.t, .string x.v]
abbrev ptr (b : Nat) : Value := .pointer (some ⟨b, 0, none⟩)
abbrev rrow (r : R) (ba bp bl : Nat) : Obj := .cells #[.int .i64 r.n, .int .i64 r.me, ptr ba, ptr bp, ptr bl] 99 (0, 0)
def uni (b : Nat) (Fa Fp Fl : Nat → Prop) (k : Nat) : Prop := k = b ∨ Fa k ∨ Fp k ∨ Fl k
structure RP (w0 w : World) (b ba bp bl : Nat) (Fa Fp Fl : Nat → Prop) (r : R) : Prop where
 row : w.heap[b]? = some (rrow r ba bp bl)
 ac : Na.AS w0 w Fa ba r.a
 ps : Np.PS w0 w Fp bp r.p
 ls : Nl.LS w0 w Fl bl r.l
 ap : ∀ k, Fa k → ¬ Fp k
 al : ∀ k, Fa k → ¬ Fl k
 pl : ∀ k, Fp k → ¬ Fl k
 nb : ¬ Fa b ∧ ¬ Fp b ∧ ¬ Fl b
 lo : w0.heap.size ≤ b
 nm : Np.M.nde r.n r.me = true
section
variable {w0 w w' w1 : World} {b ba bp bl : Nat} {Fa Fp Fl Ga Gp Gl : Nat → Prop} {r : R}
theorem RP.lt (h : RP w0 w b ba bp bl Fa Fp Fl r) : b < w.heap.size := (Array.getElem?_eq_some_iff.1 h.row).1
theorem RP.bel (h : RP w0 w b ba bp bl Fa Fp Fl r) : Bl w0 w := h.ac.bel
theorem RP.mine (h : RP w0 w b ba bp bl Fa Fp Fl r) : ∀ k, uni b Fa Fp Fl k → w0.heap.size ≤ k ∧ k < w.heap.size := by
 rintro k (rfl | hk | hk | hk)
 ·exact ⟨h.lo, h.lt⟩
 ·exact h.ac.mine k hk
 ·exact h.ps.mine k hk
 ·exact h.ls.mine k hk
theorem RP.keep (h : RP w0 w b ba bp bl Fa Fp Fl r) (hb : Bl w w') : RP w0 w' b ba bp bl Fa Fp Fl r :=
 ⟨Br h.row hb, h.ac.keep hb, h.ps.keep hb, h.ls.keep hb, h.ap, h.al, h.pl, h.nb, h.lo, h.nm⟩
theorem not_n {F G : Nat → Prop} (hf : Fr w F w' G) {k : Nat} (h : ¬ F k) (hk : k < w.heap.size) : ¬ G k := fun hg => by
 rcases hf.n k hg with h' | h'
 ·exact h h'
 ·omega
theorem RP.setA (h : RP w0 w b ba bp bl Fa Fp Fl r) {a' : Na.M.S} (ha : Na.AS w0 w' Ga ba a') (hf : Fr w Fa w' Ga) : RP w0 w' b ba bp bl Ga Fp Fl { r with a := a' } ∧ Fr w (uni b Fa Fp Fl) w' (uni b Ga Fp Fl) := by
 have hm : ∀ k, Fa k → w0.heap.size ≤ k := fun k hk => (h.ac.mine k hk).1; obtain ⟨p1, p2⟩ := h.ps.step hf (fun k hk hk2 => h.ap k hk2 hk) hm; obtain ⟨l1, l2⟩ := ls_step h.ls hf (fun k hk hk2 => h.al k hk2 hk) hm; refine ⟨⟨(hf.block b h.lt h.nb.1).trans h.row, ha, p1, l1, fun k hk hk2 => p2 k hk2 hk, fun k hk hk2 => l2 k hk2 hk, h.pl, ⟨not_n hf h.nb.1 h.lt, h.nb.2⟩, h.lo, h.nm⟩, hf.os, hf.tape, hf.output, hf.size, fun k hk hn => hf.block k hk (fun e => hn (.inr (.inl e))), ?_⟩; rintro k (e | e | e)
 ·exact .inl (.inl e)
 ·exact (hf.n k e).imp (fun e => .inr (.inl e)) id
 ·exact .inl (.inr (.inr e))
theorem RP.setP (h : RP w0 w b ba bp bl Fa Fp Fl r) {p' : Np.M.S} (hp : Np.PS w0 w' Gp bp p') (hf : Fr w Fp w' Gp) : RP w0 w' b ba bp bl Fa Gp Fl { r with p := p' } ∧ Fr w (uni b Fa Fp Fl) w' (uni b Fa Gp Fl) := by
 have hm : ∀ k, Fp k → w0.heap.size ≤ k := fun k hk => (h.ps.mine k hk).1; obtain ⟨p1, p2⟩ := h.ac.step hf h.ap hm; obtain ⟨l1, l2⟩ := ls_step h.ls hf (fun k hk hk2 => h.pl k hk2 hk) hm; refine ⟨⟨(hf.block b h.lt h.nb.2.1).trans h.row, p1, hp, l1, p2, h.al, fun k hk hk2 => l2 k hk2 hk, ⟨h.nb.1, not_n hf h.nb.2.1 h.lt, h.nb.2.2⟩, h.lo, h.nm⟩, hf.os, hf.tape, hf.output, hf.size, fun k hk hn => hf.block k hk (fun e => hn (.inr (.inr (.inl e)))), ?_⟩; rintro k (e | e | e | e)
 ·exact .inl (.inl e)
 ·exact .inl (.inr (.inl e))
 ·exact (hf.n k e).imp (fun e => .inr (.inr (.inl e))) id
 ·exact .inl (.inr (.inr (.inr e)))
theorem RP.setL (h : RP w0 w b ba bp bl Fa Fp Fl r) {l' : Nl.M.S} (hl : Nl.LS w0 w' Gl bl l') (hf : Fr w Fl w' Gl) : RP w0 w' b ba bp bl Fa Fp Gl { r with l := l' } ∧ Fr w (uni b Fa Fp Fl) w' (uni b Fa Fp Gl) := by
 have hm : ∀ k, Fl k → w0.heap.size ≤ k := fun k hk => (h.ls.mine k hk).1; obtain ⟨p1, p2⟩ := h.ac.step hf h.al hm; obtain ⟨l1, l2⟩ := h.ps.step hf h.pl hm; refine ⟨⟨(hf.block b h.lt h.nb.2.2).trans h.row, p1, l1, hl, h.ap, p2, l2, ⟨h.nb.1, h.nb.2.1, not_n hf h.nb.2.2 h.lt⟩, h.lo, h.nm⟩, hf.os, hf.tape, hf.output, hf.size, fun k hk hn => hf.block k hk (fun e => hn (.inr (.inr (.inr e)))), ?_⟩; rintro k (e | e | e | e)
 ·exact .inl (.inl e)
 ·exact .inl (.inr (.inl e))
 ·exact .inl (.inr (.inr (.inl e)))
 ·exact (hf.n k e).imp (fun e => .inr (.inr (.inr e))) id
theorem fr_one (w : World) (b o : Nat) (v : Value) : Fr w (· = b) (w.setCell ⟨b, o, none⟩ v) (· = b) :=
 ⟨rfl, rfl, rfl, by simp, fun k _ hk => heap_setCell_other w ⟨b, o, none⟩ k _ hk, fun k h => .inl h⟩
theorem Ae {w W : World} {g i : Nat} {v : Value} (h : Hid (w.setCell ⟨g, i, none⟩ v = W)) : Fr w (· = g) W (· = g) := by rw [← h.out]; exact fr_one _ _ _ _
theorem fr_uni (w : World) (b o : Nat) (v : Value) (Fa Fp Fl : Nat → Prop) : Fr w (uni b Fa Fp Fl) (w.setCell ⟨b, o, none⟩ v) (uni b Fa Fp Fl) :=
 ⟨rfl, rfl, rfl, by simp, fun k _ hk => heap_setCell_other w ⟨b, o, none⟩ k _ (fun e => hk (.inl e)), fun k h => .inl h⟩
theorem RP.aside (h : RP w0 w b ba bp bl Fa Fp Fl r) {g : Nat} (hg : ¬ uni b Fa Fp Fl g) (hlo : w0.heap.size ≤ g) (o : Nat) (v : Value) : RP w0 (w.setCell ⟨g, o, none⟩ v) b ba bp bl Fa Fp Fl r := by
 have hfo := fr_one w g o v; have hl : ∀ k, k = g → w0.heap.size ≤ k := fun k e => by omega
 exact ⟨(heap_setCell_other w ⟨g, o, none⟩ b _ (fun e => hg (.inl e.symm))).trans h.row, (h.ac.step hfo (fun k hk e => hg (.inr (.inl (e ▸ hk)))) hl).1, (h.ps.step hfo (fun k hk e => hg (.inr (.inr (.inl (e ▸ hk))))) hl).1, (ls_step h.ls hfo (fun k hk e => hg (.inr (.inr (.inr (e ▸ hk))))) hl).1, h.ap, h.al, h.pl, h.nb, h.lo, h.nm⟩
theorem RP.n17 (h : RP w0 w b ba bp bl Fa Fp Fl r) : 1 ≤ r.n ∧ r.n ≤ 7 := by
 have := h.nm; unfold Np.M.nde at this; simp only [Bool.and_eq_true, decide_eq_true_eq] at this; exact this.1.1
theorem RP.newP (h : RP w0 w b ba bp bl Fa Fp Fl r) {q : Nat} {p' : Np.M.S} (hp : Np.PS w0 w1 Gp q p') (hb : Bl w w1) (hn : ∀ k, Gp k → w.heap.size ≤ k) :
  RP w0 (w1.setCell ⟨b, 3, none⟩ (ptr q)) b ba q bl Fa Gp Fl { r with p := p' } ∧ Fr w (uni b Fa Fp Fl) (w1.setCell ⟨b, 3, none⟩ (ptr q)) (uni b Fa Gp Fl) := by
 have h1 := h.keep hb; have hlt := h.lt; have hfo := fr_one w1 b 3 (ptr q); have hlo : ∀ k, k = b → w0.heap.size ≤ k := fun k e => by have := h.lo; omega
 have hg : ∀ k, Gp k → ¬ k = b := fun k hk e => by have := hn k hk; omega
 refine ⟨⟨?_, (h1.ac.step hfo (fun k hk e => h.nb.1 (e ▸ hk)) hlo).1, (hp.step hfo hg hlo).1, (ls_step h1.ls hfo (fun k hk e => h.nb.2.2 (e ▸ hk)) hlo).1, fun k hk hk2 => ?_, h.al, fun k hk hk2 => ?_, ⟨h.nb.1, fun e => hg b e rfl, h.nb.2.2⟩, h.lo, h.nm⟩, ?_⟩
 ·rw [heap_setCell_same w1 b 3 _ _ _ h1.row]; rfl
 ·have := (h.ac.mine k hk).2; have := hn k hk2; omega
 ·have := (h.ls.mine k hk2).2; have := hn k hk; omega
 ·have f1 : Fr w (uni b Fa Fp Fl) w1 (uni b Fa Gp Fl) := ⟨hb.os, hb.tape, hb.output, hb.size, fun k hk _ => hb.block k hk, by
   rintro k (e | e | e | e)
   ·exact .inl (.inl e)
   ·exact .inl (.inr (.inl e))
   ·exact .inr (hn k e)
   ·exact .inl (.inr (.inr (.inr e)))⟩
  exact f1.trans (fr_uni w1 b 3 _ _ _ _)
theorem RP.newL (h : RP w0 w b ba bp bl Fa Fp Fl r) {q : Nat} {l' : Nl.M.S} (hp : Nl.LS w0 w1 Gl q l') (hb : Bl w w1) (hn : ∀ k, Gl k → w.heap.size ≤ k) :
  RP w0 (w1.setCell ⟨b, 4, none⟩ (ptr q)) b ba bp q Fa Fp Gl { r with l := l' } ∧ Fr w (uni b Fa Fp Fl) (w1.setCell ⟨b, 4, none⟩ (ptr q)) (uni b Fa Fp Gl) := by
 have h1 := h.keep hb; have hlt := h.lt; have hfo := fr_one w1 b 4 (ptr q); have hlo : ∀ k, k = b → w0.heap.size ≤ k := fun k e => by have := h.lo; omega
 have hg : ∀ k, Gl k → ¬ k = b := fun k hk e => by have := hn k hk; omega
 refine ⟨⟨?_, (h1.ac.step hfo (fun k hk e => h.nb.1 (e ▸ hk)) hlo).1, (h1.ps.step hfo (fun k hk e => h.nb.2.1 (e ▸ hk)) hlo).1, (ls_step hp hfo hg hlo).1, h.ap, fun k hk hk2 => ?_, fun k hk hk2 => ?_, ⟨h.nb.1, h.nb.2.1, fun e => hg b e rfl⟩, h.lo, h.nm⟩, ?_⟩
 ·rw [heap_setCell_same w1 b 4 _ _ _ h1.row]; rfl
 ·have := (h.ac.mine k hk).2; have := hn k hk2; omega
 ·have := (h.ps.mine k hk).2; have := hn k hk2; omega
 ·have f1 : Fr w (uni b Fa Fp Fl) w1 (uni b Fa Fp Gl) := ⟨hb.os, hb.tape, hb.output, hb.size, fun k hk _ => hb.block k hk, by
   rintro k (e | e | e | e)
   ·exact .inl (.inl e)
   ·exact .inl (.inr (.inl e))
   ·exact .inl (.inr (.inr (.inl e)))
   ·exact .inr (hn k e)⟩
  exact f1.trans (fr_uni w1 b 4 _ _ _ _)
end
def RS (w0 w : World) (F : Nat → Prop) (b : Nat) (r : R) : Prop := ∃ ba bp bl Fa Fp Fl, F = uni b Fa Fp Fl ∧ RP w0 w b ba bp bl Fa Fp Fl r
theorem RP.rs {w0 w : World} {b ba bp bl : Nat} {Fa Fp Fl : Nat → Prop} {r : R} (h : RP w0 w b ba bp bl Fa Fp Fl r) : RS w0 w (uni b Fa Fp Fl) b r := ⟨_, _, _, _, _, _, rfl, h⟩
structure RN where
 x : NT
 ad : Option Addr
 c : Nat
def nl : Ly RN := ⟨7, fun y => [.int .i64 y.x.k, .int .i64 y.x.f, .int .i64 y.x.t, .int .i64 y.x.s, .int .i64 y.x.b.i, .int .i64 y.x.b.t, .slice y.ad y.x.v.length y.c], fun _ => rfl, fun x v h => by simp at h; rcases h with rfl | rfl | rfl | rfl | rfl | rfl | rfl <;> rfl, by decide⟩
theorem tiN : Ti nl 28 72 := ⟨underlying28, Tryz.t72, .agg #[.int .i64 0, .int .i64 0, .int .i64 0, .int .i64 0, .int .i64 0, .int .i64 0, .slice none 0 0], by kernel_rfl, rfl, rfl, by decide, rfl⟩
abbrev nV (y : RN) : Value := .agg #[.int .i64 y.x.k, .int .i64 y.x.f, .int .i64 y.x.t, .int .i64 y.x.s, .int .i64 y.x.b.i, .int .i64 y.x.b.t, .slice y.ad y.x.v.length y.c]
structure XN (w : World) (P : Nat → Prop) (y : RN) : Prop where
 xl : XL vl w y.ad y.c y.x.v
 blk : ∀ k, blk y.ad k → k < w.heap.size ∧ P k
structure XS (w : World) (P : Nat → Prop) (ad : Option Addr) (c : Nat) (ys : List RN) : Prop where
 xl : XL nl w ad c ys
 blk : ∀ k, blk ad k → k < w.heap.size ∧ P k
 all : ∀ y ∈ ys, XN w P y
theorem XN.keepBut {w w' : World} {P : Nat → Prop} {y : RN} (h : XN w P y) (hs : w.heap.size ≤ w'.heap.size) (hb : ∀ k, k < w.heap.size → P k → w'.heap[k]? = w.heap[k]?) : XN w' P y :=
 ⟨h.xl.keepBut fun k hk hk2 => hb k hk (h.blk k hk2).2, fun k hk => ⟨Nat.lt_of_lt_of_le (h.blk k hk).1 hs, (h.blk k hk).2⟩⟩
theorem XN.keep {w w' : World} {P : Nat → Prop} {y : RN} (h : XN w P y) (hb : Bl w w') : XN w' P y := h.keepBut hb.size fun k hk _ => hb.block k hk
theorem XN.imp {w : World} {P Q : Nat → Prop} {y : RN} (h : XN w P y) (hi : ∀ k, k < w.heap.size → P k → Q k) : XN w Q y := ⟨h.xl, fun k hk => ⟨(h.blk k hk).1, hi k (h.blk k hk).1 (h.blk k hk).2⟩⟩
theorem XS.keepBut {w w' : World} {P : Nat → Prop} {ad : Option Addr} {c : Nat} {ys : List RN} (h : XS w P ad c ys) (hs : w.heap.size ≤ w'.heap.size) (hb : ∀ k, k < w.heap.size → P k → w'.heap[k]? = w.heap[k]?) : XS w' P ad c ys :=
 ⟨h.xl.keepBut fun k hk hk2 => hb k hk (h.blk k hk2).2, fun k hk => ⟨Nat.lt_of_lt_of_le (h.blk k hk).1 hs, (h.blk k hk).2⟩, fun y hy => (h.all y hy).keepBut hs hb⟩
theorem XS.keep {w w' : World} {P : Nat → Prop} {ad : Option Addr} {c : Nat} {ys : List RN} (h : XS w P ad c ys) (hb : Bl w w') : XS w' P ad c ys := h.keepBut hb.size fun k hk _ => hb.block k hk
theorem XS.imp {w : World} {P Q : Nat → Prop} {ad : Option Addr} {c : Nat} {ys : List RN} (h : XS w P ad c ys) (hi : ∀ k, k < w.heap.size → P k → Q k) : XS w Q ad c ys :=
 ⟨h.xl, fun k hk => ⟨(h.blk k hk).1, hi k (h.blk k hk).1 (h.blk k hk).2⟩, fun y hy => (h.all y hy).imp hi⟩
structure OW (w : World) (base : Nat) (v : Value) (ys : List RN) : Prop where
 own : OwnL nl 72 w base v ys
 all : ∀ y ∈ ys, XN w (fun q => base ≤ q ∧ v.ownBlock ≠ some q) y
theorem OW.nil (w : World) (base : Nat) : OW w base (.slice none 0 0) [] := ⟨OwnL.nil _ _ _, fun y hy => (by cases hy)⟩
theorem OW.keep {w w' : World} {base : Nat} {v : Value} {ys : List RN} (h : OW w base v ys) (hb : Bl w w') : OW w' base v ys := ⟨h.own.keep hb, fun y hy => (h.all y hy).keep hb⟩
theorem OW.keepBut {w w' : World} {base : Nat} {v : Value} {ys : List RN} (h : OW w base v ys) (hs : w.heap.size ≤ w'.heap.size) (hb : ∀ k, k < w.heap.size → base ≤ k → w'.heap[k]? = w.heap[k]?) : OW w' base v ys :=
 ⟨h.own.keepBut fun k hk hk2 => hb k hk (h.own.lt hk2).1, fun y hy => (h.all y hy).keepBut hs fun k hk hp => hb k hk hp.1⟩
theorem OW.low {w : World} {base base' : Nat} {v : Value} {ys : List RN} (h : OW w base v ys) (hb : base' ≤ base) : OW w base' v ys := ⟨h.own.low hb, fun y hy => (h.all y hy).imp fun k _ hk => ⟨Nat.le_trans hb hk.1, hk.2⟩⟩
theorem OW.at {w : World} {base : Nat} {v : Value} {ys : List RN} (h : OW w base v ys) : ∃ ad c, v = .slice ad ys.length c ∧ XS w (fun q => base ≤ q) ad c ys := by
 obtain ⟨ad, c, rfl, hx, hbk⟩ := h.own.at; exact ⟨ad, c, rfl, hx, fun k hk => ⟨(hbk k hk).2.2, (hbk k hk).1⟩, fun y hy => (h.all y hy).imp fun k _ hk => hk.1⟩
theorem OW.rw {w w' : World} {base : Nat} {v v' : Value} {ys l : List RN} (h : OW w base v ys) (ho : OwnL nl 72 w' base v' l) (hr : Rw w v w' v') (hl : ∀ y ∈ l, y ∈ ys ∨ XN w (fun q => base ≤ q ∧ v.ownBlock ≠ some q) y) : OW w' base v' l := by
 refine ⟨ho, fun y hy => ?_⟩; have hy1 : XN w (fun q => base ≤ q ∧ v.ownBlock ≠ some q) y := by
  rcases hl y hy with h1 | h1
  ·exact h.all y h1
  ·exact h1
 have hy2 := hy1.keepBut hr.g.size (fun k hk hp => hr.g.block k hk (fun e => hp.2 e.symm)); refine ⟨hy2.xl, fun k hk => ⟨(hy2.blk k hk).1, (hy2.blk k hk).2.1, fun e => ?_⟩⟩; rcases hr.n k e with h' | h'
 ·exact (hy2.blk k hk).2.2 h'
 ·have := (hy1.blk k hk).1; omega
theorem OW.app1 {w : World} {base : Nat} {v : Value} {ys : List RN} (h : OW w base v ys) (y : RN) (hy : XN w (fun q => base ≤ q ∧ v.ownBlock ≠ some q) y) (hb : base ≤ w.heap.size) (hl : ys.length + 1 ≤ 1000000) :
  ∃ a' c' w', (∀ ty, (Builtin.append_ #[28, 28] ty #[v, .slice (some ⟨w.heap.size, 0, none⟩) 1 1]).run prog (w.alloc (.cells (nl.cs y).toArray 72)) = .ok (.slice a' (ys.length + 1) c') w') ∧ OW w' base (.slice a' (ys.length + 1) c') (ys ++ [y]) ∧ Rw w v w' (.slice a' (ys.length + 1) c') := by
 obtain ⟨a', c', w4, hrun, ho4, hr4⟩ := run_appL_ty tiN (w.alloc (.cells (nl.cs y).toArray 72)) base v ys [y] w.heap.size 0 1 1 (h.own.keep (bel1 w _)) (atL_one (Y := nl) (t := 72) (heap_alloc_last w _)) rfl (by simp; omega) (by simp; omega); exact ⟨a', c', w4, hrun, (h.keep (bel1 w _)).rw ho4 hr4 (fun z hz => by
  rcases List.mem_append.1 hz with hz | hz
  ·exact .inl hz
  ·obtain rfl := List.mem_singleton.1 hz; exact .inr (hy.keep (bel1 w _))), (Rw.ofBelow _ (bel1 w _)).trans hr4⟩
theorem append_none {inf : TypeInfo} (hi : prog.info? 72 = some inf) (ad a1 : Option Addr) (n c1 c : Nat) (w : World) (ty : TypeId) (hle : n ≤ c1) : (Builtin.append_ #[28, 28] ty #[.slice a1 n c1, .slice ad 0 c]).run prog w = .ok (.slice a1 n c1) w := by
 cases ad with
 | none => cases a1 <;> simp [Builtin.append_, run_underlying underlying28, sizeOf, typeInfo, hi, Builtin.lenOf, Builtin.firstCells, hle, storeCells]
 | some ad =>
  have hl := run_loadCells_list (P := prog) w ad [] (by simp); simp at hl; cases a1 <;> simp [Builtin.append_, run_underlying underlying28, sizeOf, typeInfo, hi, Builtin.lenOf, Builtin.firstCells, hl, hle, storeCells]
theorem OW.appL {w : World} {base : Nat} {v : Value} {ys zs : List RN} {ad : Option Addr} {c : Nat} (h : OW w base v ys) (hz : XS w (fun q => base ≤ q ∧ v.ownBlock ≠ some q) ad c zs) (hb : base ≤ w.heap.size) (hl : ys.length + zs.length ≤ 1000000) :
  ∃ a' c' w', (∀ ty, (Builtin.append_ #[28, 28] ty #[v, .slice ad zs.length c]).run prog w = .ok (.slice a' (ys.length + zs.length) c') w') ∧ OW w' base (.slice a' (ys.length + zs.length) c') (ys ++ zs) ∧ Rw w v w' (.slice a' (ys.length + zs.length) c') := by
 obtain ⟨inf, z, hi, hz0, hsz, hby, hzs⟩ := tiN.i; have hbytes : (ys.length + zs.length) * inf.bytes ≤ 140737488355328 := Nat.le_trans (Nat.mul_le_mul hl hby) (by omega); cases zs with
 | nil =>
  obtain ⟨a1, c1, rfl, hx1⟩ := h.at; have hle := hx1.xl.le; refine ⟨a1, c1, w, fun ty => ?_, ?_, ?_⟩
  ·exact append_none hi ad a1 ys.length c1 c w ty hle
  ·simpa using h
  ·exact Rw.refl _ _
 | cons y0 zs =>
  obtain ⟨b, off, rfl, _⟩ := hz.xl.at' 0 (by simp); obtain ⟨a', c', w4, hrun, ho4, hr4⟩ := run_appL_ty tiN w base v ys (y0 :: zs) b off c _ h.own hz.xl.at' rfl hb hl; exact ⟨a', c', w4, hrun, h.rw ho4 hr4 (fun z hm => by
   rcases List.mem_append.1 hm with hm | hm
   ·exact .inl hm
   ·exact .inr (hz.all z hm)), hr4⟩
def NO (w : World) (G : Nat → Prop) (u : Value) (w' : World) (l : List NT) : Prop := ∃ ys, OW w' w.heap.size u ys ∧ ys.map RN.x = l ∧ (∀ k, u.ownBlock = some k → ¬ G k) ∧ ∀ y ∈ ys, ∀ k, blk y.ad k → ¬ G k
theorem NO.nil (w : World) (G : Nat → Prop) (w' : World) : NO w G (.slice none 0 0) w' [] := ⟨[], OW.nil _ _, rfl, fun k hk => (by cases hk), fun y hy => (by cases hy)⟩
theorem NO.of {w w' : World} {G : Nat → Prop} {u : Value} {l : List NT} {ys : List RN} {base : Nat} (h : OW w' base u ys) (hb : w.heap.size ≤ base) (hG : ∀ k, G k → k < base) (hm : ys.map RN.x = l) : NO w G u w' l :=
 ⟨ys, h.low hb, hm, fun k hk e => by have := (h.own.lt hk).1; have := hG k e; omega, fun y hy k hk e => by have := ((h.all y hy).blk k hk).2.1; have := hG k e; omega⟩
theorem NO.at {w w' : World} {G : Nat → Prop} {u : Value} {l : List NT} (h : NO w G u w' l) : ∃ ad c ys, u = .slice ad l.length c ∧ ys.map RN.x = l ∧ XS w' (fun k => w.heap.size ≤ k ∧ ¬ G k) ad c ys := by
 obtain ⟨ys, h1, h2, h3, h4⟩ := h; obtain ⟨ad, c, rfl, hx, hbk⟩ := h1.own.at; have hlen : ys.length = l.length := by rw [← h2, List.length_map]
 rw [hlen]; exact ⟨ad, c, ys, rfl, h2, hx, fun k hk => ⟨(hbk k hk).2.2, (hbk k hk).1, h3 k (by obtain ⟨o, z, rfl⟩ := hk; rfl)⟩, fun y hy => ⟨(h1.all y hy).xl, fun k hk => ⟨((h1.all y hy).blk k hk).1, ((h1.all y hy).blk k hk).2.1, h4 y hy k hk⟩⟩⟩
theorem NO.one {w w' : World} {G : Nat → Prop} {gv : Nat} {y : RN} (hrv : w'.heap[gv]? = some (.cells (nl.cs y).toArray 72 (0, 0))) (hg : w.heap.size ≤ gv) (hG : ¬ G gv) (hy : XN w' (fun k => w.heap.size ≤ k ∧ ¬ G k ∧ k ≠ gv) y) : NO w G (.slice (some ⟨gv, 0, none⟩) 1 1) w' [y.x] := by
 refine ⟨[y], ⟨?_, fun z hz => ?_⟩, rfl, fun k hk e => ?_, fun z hz k hk => ?_⟩
 ·refine ⟨by rw [nl.clen], .inr ⟨gv, 1, _, rfl, hg, hrv, Nat.le_refl _, (show 1 ≤ maxLen by decide), ?_, ?_⟩⟩
  ·simp [nl.len]
  ·simp only [Ly.cells, List.append_nil, List.length_cons, List.length_nil, Nat.zero_add, Nat.one_mul]; rw [List.take_of_length_le (by simp [nl.len])]
 ·obtain rfl := List.mem_singleton.1 hz; exact hy.imp fun k _ hk => ⟨hk.1, fun e => hk.2.2 (by simp [Value.ownBlock] at e; exact e.symm)⟩
 ·simp [Value.ownBlock] at hk; subst hk; exact hG e
 ·obtain rfl := List.mem_singleton.1 hz; exact (hy.blk k hk).2.2.1
theorem XN.emp {y : RN} (w : World) (P : Nat → Prop) (h1 : y.x.v = []) (h2 : y.ad = none) (h3 : y.c = 0) : XN w P y := by
 obtain ⟨x, ad, c⟩ := y; simp only at h1 h2 h3; subst h2 h3; exact ⟨by rw [h1]; exact XL.emp _, fun k hk => by obtain ⟨o, z, e⟩ := hk; cases e⟩
def OutN (w0 w : World) (F : Nat → Prop) (b : Nat) (r' : R) (l : List NT) (e : Ending) (w' : World) : Prop := ∃ u G, e = .returned u ∧ NO w G u w' l ∧ RS w0 w' G b r' ∧ Fr w F w' G
theorem NO.keep {w : World} {G : Nat → Prop} {u : Value} {w' w2 : World} {l : List NT} (h : NO w G u w' l) (hb : Bl w' w2) : NO w G u w2 l := by
 obtain ⟨ys, h1, h2⟩ := h; exact ⟨ys, h1.keep hb, h2⟩
end Go.Proofs.YtgodnpngdbelhaaGreat
