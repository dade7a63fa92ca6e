import Derived.Test.YtgodnpngdbelhaaGreatGP26
set_option maxRecDepth 100000
set_option maxHeartbeats 8000000
set_option linter.unusedVariables false
set_option linter.unusedSimpArgs false
open Go.Proofs.Tryz
namespace Go.Proofs.YtgodnpngdbelhaaGreat
open Go.RowKit Go.Maps
open M (E V)
open Dl (X)
open Np (put4 put4_row put4_bel put4_oth)
theorem Tryz.size52 : (prog.info? 52).map (·.size) = some 4 := by kernel_rfl
theorem res52 {fn : Func} {p u : Tmp} (h : fn.results = #[.cell p 52, .tmp u]) (tmps : Array Value) (w : World) (g : Nat) (v0 v1 v2 v3 : Value) (hp : tmps.getD p undef = .pointer (some ⟨g, 0, none⟩)) (hg : w.heap[g]? = some (.cells #[v0, v1, v2, v3] 52 (0, 0))) :
  (results fn tmps).run prog w = .ok (.tuple #[.agg #[v0, v1, v2, v3], tmps.getD u undef]) w := by
 have hp' : tmps[p]?.getD undef = .pointer (some ⟨g, 0, none⟩) := by simpa using hp
 rw [results_cell_tmp h]; simp [asAddr, hp', run_loadVar_row w g 52 52 #[v0, v1, v2, v3] (0, 0) _ hg underlying52 rfl Tryz.size52]
theorem alloc2 (w : World) (o1 o2 : Obj) : ∃ W, (w.alloc o1).alloc o2 = W ∧ Bl w W ∧ W.heap[w.heap.size]? = some o1 ∧ W.heap[w.heap.size + 1]? = some o2 ∧ W.heap.size = w.heap.size + 2 :=
 ⟨_, rfl, Bu (bel1 w o1) (bel1 _ o2) Lr, Br (heap_alloc_last w o1) (bel1 _ o2), (by have := heap_alloc_last (w.alloc o1) o2; simpa using this), by simp⟩
theorem aH2 (w : World) (o1 o2 : Obj) : ∃ W gz, Hid ((w.alloc o1).alloc o2 = W) ∧ Hid (Bl w W) ∧ Hid (w.heap.size = gz) ∧ Hid (W.heap[gz]? = some o1) ∧ Hid (W.heap[gz + 1]? = some o2) ∧ Hid (W.heap.size = gz + 2) := by
 obtain ⟨W, h0, h1, k0, k1, h2⟩ := alloc2 w o1 o2; exact ⟨W, _, h0, h1, rfl, k0, k1, h2⟩
section
variable {w w' : World} {x : X} {a : LA}
theorem f82_res : Tryz.f82.results = #[.cell 6 52, .tmp 7] := rfl
def TlO (w : World) (x : X) (a : LA) (k : Int) (v : ByteArray) (e : Ending) (w' : World) : Prop := ∃ a', e = .returned (.tuple #[lV (Dl.tell x k v) a', .bool (Dl.may x k v)]) ∧ LL w' (Dl.tell x k v) a' ∧ Bl w w' ∧ LNew w a a' ∧ a'.va = a.va
theorem rltell_any (h : LL w x a) (k : Int) (v : ByteArray) (hv : v.size ≤ 9223372036854775807) (hlen : x.td.length ≤ 900000) : Calls prog 82 #[lV x a, .int .i64 k, .string v] w (TlO w x a k v) := by
 obtain ⟨W1, hW1, hb1, hz1, hz2, hs1⟩ := alloc2 w (lC x a) (.cells #[.int .i64 0, .int .i64 0, .slice none 0 0, .slice none 0 0] 52); have HW1 := Hf hW1; obtain ⟨gz, hgz⟩ := Nq (w.heap.size); have HB1 := Hf hb1; have HGZ := Hf hgz; rw [hgz] at hz1 hz2 hs1; have HZ1 := Hf hz1; have HZ2 := Hf hz2; have HS1 := Hf hs1; have HL := Hf h; have cm := rlmay_any (h.keep hb1) k v hv (by omega); obtain ⟨c0, _⟩ := row4 hz1; have HLEN := Hf hlen; clear h hz1 hz2 hgz hb1 hW1 hs1 hlen; cases hm : Dl.may x k v with
 | false =>
  have hT : Dl.tell x k v = x := by unfold Dl.tell; rw [hm]; rfl
  rw [hm] at cm; have HF : Hid (∀ w', Bl w w' → TlO w x a k v (.returned (.tuple #[lV x a, .bool false])) w') := fun w' hb => ⟨a, by rw [hT, hm], by rw [hT]; exact HL.out.keep hb, hb, LNew.refl _ _, rfl⟩; clear hm hT; go_enter func82, ntmps82; go_upto_region 1 with fail
  rw [HW1.out, HGZ.out]; go_wp2_with fail; refine cm.mono ?_; clear cm; rintro e w2 ⟨rfl, hb2⟩; obtain ⟨d0, _⟩ := row4 (Br HZ1.out hb2); have hz := Br HZ2.out hb2; obtain ⟨z0, zf⟩ := row4 hz; have HZ := Hf hz; have zf0 := zf 0; have zf1 := zf 1; have zf2 := zf 2; have zf3 := zf 3; have HB2 := Hf hb2; clear hb2 hz zf; go_wp2; refine bodyPost_ret (v := .tuple #[lV x a, .bool false]) ?_ rfl (HF.out _ (put4_bel (Bu HB1.out HB2.out Lr) (by have := HGZ.out; omega) _ _ _ _)); exact res52 f82_res _ _ (gz + 1) _ _ _ _ rfl (put4_row HZ.out _ _ _ _)
 | true =>
  have hT : Dl.tell x k v = { x with td := x.td ++ [(k, v)] } := by unfold Dl.tell; rw [hm]; rfl
  rw [hm] at cm; have HF : Hid (∀ w' a5 c5, XL tdl w' a5 c5 (x.td ++ [(k, v)]) → (∀ q, blk a5 q → w.heap.size ≤ q ∧ q < w'.heap.size) → Bl w w' → TlO w x a k v (.returned (.tuple #[.agg #[.int .i64 x.n, .int .i64 x.base, .slice a5 (x.td.length + 1) c5, .slice a.va x.vs.length a.vc], .bool true])) w') := fun w' a5 c5 hx hq hb => by
   refine ⟨⟨a5, c5, a.va, a.vc⟩, ?_, ?_, hb, fun q h => h.elim (fun h => .inr (hq q h).1) (fun h => .inl (.inr h)), rfl⟩
   ·rw [hT, hm]; simp only [lV, List.length_append, List.length_cons, List.length_nil, Nat.zero_add]
   ·rw [hT]; exact ⟨hx, HL.out.v.keep hb, fun q h => h.elim (fun h => (hq q h).2) (fun h => (HL.out.keep hb).lt q (.inr h))⟩
  clear hm hT; go_enter func82, ntmps82; go_upto_region 1 with fail
  rw [HW1.out, HGZ.out]; clear HW1; go_wp2_with fail; refine cm.mono ?_; clear cm; rintro e w2 ⟨rfl, hb2⟩; have hB2 := Bu HB1.out hb2 Lr; have hrow2 := Br HZ1.out hb2; obtain ⟨d0, _⟩ := row4 hrow2; have hlen := HLEN.out; obtain ⟨a3, c3', w3, hrun3, ho3, hb3⟩ := run_copyL tiTd w2 0 a.ta a.tc x.td (HL.out.t.keep hB2) (by omega); have hr3 : ∀ ty, (Builtin.append_ #[49, 49] ty #[.slice none 0 0, .slice a.ta x.td.length a.tc]).run prog w2 = .ok (.slice a3 x.td.length c3') w3 := fun ty => (append_ty (T := 49) _ _ _ ty 0).trans hrun3; obtain ⟨W4, HW4⟩ := Nh (w3.alloc (.cells #[.int .i64 k, .string v] 156)); have hb4 := Ab HW4; have hz4 := Ac HW4; obtain ⟨a5, c5, w5, hrun5, ho5, hrw5⟩ := run_appL_ty tiTd W4 w2.heap.size (.slice a3 x.td.length c3') x.td [(k, v)] w3.heap.size 0 1 1 (ho3.keep hb4) (atL_one (Y := tdl) (t := 156) hz4) rfl (Nat.le_trans hb3.size hb4.size) (by simp; omega); have hl1 : x.td.length + [(k, v)].length = x.td.length + 1 := rfl; rw [hl1] at hrun5 ho5 hrw5; have hB5 : Bl w2 w5 := (Bu hb3 hb4 Lr).trans (hrw5.below (B := w2.heap.size) (fun q hq => ((ho3.keep hb4).lt hq).1) (Nat.le_trans hb3.size hb4.size)); have hrow5 := Br hrow2 hB5; have hz5 := Br (Br HZ2.out hb2) hB5; obtain ⟨ao, co, ho, hxo, -⟩ := ho5.at; have hl2 : (x.td ++ [(k, v)]).length = x.td.length + 1 := by simp
  rw [hl2] at ho; simp only [Value.slice.injEq, true_and] at ho; obtain ⟨e1, e2⟩ := ho; subst e1 e2; obtain ⟨⟨e0, e1, e2, e3⟩, ef⟩ := row4 hrow5; have ef2 := ef 2; have HX5 : Hid (∀ w', Bl w5 w' ∨ True → True) := fun _ _ => trivial; have hfo := fr_one w5 gz 2 (.slice a5 (x.td.length + 1) c5); have hrow6 : (w5.setCell ⟨gz, 2, none⟩ (.slice a5 (x.td.length + 1) c5)).heap[gz]? = some (.cells #[.int .i64 x.n, .int .i64 x.base, .slice a5 (x.td.length + 1) c5, .slice a.va x.vs.length a.vc] 52 (0, 0)) := by rw [heap_setCell_same w5 gz 2 _ _ _ hrow5]; rfl
  have hz6 : (w5.setCell ⟨gz, 2, none⟩ (.slice a5 (x.td.length + 1) c5)).heap[gz + 1]? = _ := (heap_setCell_other w5 ⟨gz, 2, none⟩ (gz + 1) _ (by simp)).trans hz5; have hg2 : gz + 1 < w2.heap.size := (Array.getElem?_eq_some_iff.1 (Br HZ2.out hb2)).1; have HFX : Hid (∀ v0 v1 v2 v3, TlO w x a k v (.returned (.tuple #[.agg #[.int .i64 x.n, .int .i64 x.base, .slice a5 (x.td.length + 1) c5, .slice a.va x.vs.length a.vc], .bool true])) (put4 (w5.setCell ⟨gz, 2, none⟩ (.slice a5 (x.td.length + 1) c5)) (gz + 1) v0 v1 v2 v3)) := fun v0 v1 v2 v3 => by
   have hbs : Below w.heap.size w (w5.setCell ⟨gz, 2, none⟩ (.slice a5 (x.td.length + 1) c5)) := (hB2.trans (hB5.mono hB2.size)).setCell (by show w.heap.size ≤ gz; have := HGZ.out; omega) _; obtain ⟨ao, co, ho, hxo2, hbko⟩ := ho5.at; rw [hl2] at ho; simp only [Value.slice.injEq, true_and] at ho; obtain ⟨e1, e2⟩ := ho; subst e1 e2; have hne : ∀ q, blk a5 q → q ≠ gz + 1 ∧ q ≠ gz := fun q hq => by have := (hbko q hq).1; omega
   refine HF.out _ a5 c5 ?_ ?_ (put4_bel hbs (by have := HGZ.out; omega) _ _ _ _)
   ·refine (hxo2.keepBut (w' := w5.setCell ⟨gz, 2, none⟩ (.slice a5 (x.td.length + 1) c5)) fun q hq hq2 => hfo.block q hq (hne q hq2).2).keepBut fun q hq hq2 => put4_oth (hne q hq2).1 _ _ _ _
   ·exact fun q hq => by have h1 := hbko q hq; have := hB2.size; exact ⟨by omega, by simp [put4]; omega⟩
  obtain ⟨z0, zf⟩ := row4 hz6; have HZ6 := Hf hz6; obtain ⟨g0, _⟩ := row4 hrow6; have zf0 := zf 0; have zf1 := zf 1; have zf2 := zf 2; have zf3 := zf 3; clear HF HX5 hfo hrow5 hrow6 hz5 hz6 hg2 ho5 hrw5 hl1 hl2 hxo hB5 hz4 hb4 ho3 hb3 hrun3 hB2 hrow2 hb2 hlen ef zf; go_upto_region 3 with fail
  go_wp2_with (first | (rw [HW4.out]) | (at_builtin; refine wpList_append_known rfl _ _ 49 rfl (.slice none 0 0) (.slice a.ta x.td.length a.tc) rfl rfl _ _ (hr3 _) ?_) | (at_builtin; refine wpList_append_known rfl _ _ 49 rfl (.slice a3 x.td.length c3') (.slice (some ⟨w3.heap.size, 0, none⟩) 1 1) rfl rfl _ _ (hrun5 _) ?_)); refine bodyPost_ret (v := .tuple #[.agg #[.int .i64 x.n, .int .i64 x.base, .slice a5 (x.td.length + 1) c5, .slice a.va x.vs.length a.vc], .bool true]) ?_ rfl (HFX.out _ _ _ _); exact res52 f82_res _ _ (gz + 1) _ _ _ _ rfl (put4_row HZ6.out _ _ _ _)
end
end Go.Proofs.YtgodnpngdbelhaaGreat
namespace Go.Proofs.YtgodnpngdbelhaaGreat.Np
open Go.RowKit
open Go.Proofs.YtgodnpngdbelhaaGreat.M (E V)
theorem f116_res : Tryz.f116.results = #[.cell 2 42] := rfl
theorem rmax_any (a : Option Addr) (cap : Nat) (l : List E) (w : World) (hat : AtL bl w a l) (hl : l.length ≤ 1000000) :
  Calls prog 116 #[.slice a l.length cap] w fun e w' => e = .returned (.agg #[.int .i64 (M.bx l l.length).i, .int .i64 (M.bx l l.length).t]) ∧ Bl w w' := by
 have HW0 : Hid (Below w.heap.size w ((w.alloc (.cells #[.int .i64 0, .int .i64 0] 42)).alloc (.cells #[.int .i64 0, .int .i64 0] 42)) ∧ ((w.alloc (.cells #[.int .i64 0, .int .i64 0] 42)).alloc (.cells #[.int .i64 0, .int .i64 0] 42)).heap[w.heap.size]? = some (.cells #[.int .i64 0, .int .i64 0] 42 (0, 0)) ∧ ((w.alloc (.cells #[.int .i64 0, .int .i64 0] 42)).alloc (.cells #[.int .i64 0, .int .i64 0] 42)).heap[w.heap.size + 1]? = some (.cells #[.int .i64 0, .int .i64 0] 42 (0, 0))) := ⟨Bu (bel1 w _) (bel1 _ _) Lr, heap_alloc2_old w _ _, heap_alloc2_new w _ _⟩; go_enter func116, ntmps116; go_wp2; go_loopw [4] (fun i wr => ∃ k : Nat, k ≤ l.length ∧ i = .int .i64 k ∧ Bl w wr ∧ wr.heap[w.heap.size]? = some (.cells #[.int .i64 0, .int .i64 0] 42 (0, 0)) ∧ wr.heap[w.heap.size + 1]? = some (.cells #[.int .i64 (M.bx l k).i, .int .i64 (M.bx l k).t] 42 (0, 0))) (fun i _ => l.length - (intOf i).toNat)
 case atStart => exact ⟨0, by omega, rfl, HW0.out.1, HW0.out.2.1, HW0.out.2.2⟩
 case round =>
  obtain ⟨k, hk, rfl, hb, hr0, hr1⟩ := hrel; have HB := Hf hb; have HR0 := Hf hr0; have HR1 := Hf hr1; by_cases hlt : k < l.length
  ·have hki : (k : Int) < (l.length : Int) := by omega
   obtain ⟨x, HX⟩ := Nh (l[k]); obtain ⟨y, HY⟩ := Nh (M.bx l k); obtain ⟨r, HR⟩ := Nh (M.cmpE x y); have hst := M.bx_step l k hlt; rw [HY.out] at hst hr1; rw [HX.out, HR.out] at hst; obtain ⟨b, off, rfl, -, -⟩ := hat.getB k hlt; have HK : Hid (∀ w', Bl wr w' → (w'.cell? ⟨b, off + k * 2, none⟩ = some (.int .i64 x.i) ∧ w'.cell? ⟨b, off + k * 2 + 1, none⟩ = some (.int .i64 x.t)) ∧ (w'.cell? ⟨w.heap.size + 1, 0, none⟩ = some (.int .i64 y.i) ∧ w'.cell? ⟨w.heap.size + 1, 1, none⟩ = some (.int .i64 y.t)) ∧ w'.heap[w.heap.size]? = some (.cells #[.int .i64 0, .int .i64 0] 42 (0, 0)) ∧ w'.heap[w.heap.size + 1]? = some (.cells #[.int .i64 y.i, .int .i64 y.t] 42 (0, 0))) := fun w' hw' => by
    obtain ⟨b', off', e, y0, y1⟩ := (hat.keep (Bu HB.out hw' Lr)).getB k hlt; cases e; rw [HX.out] at y0 y1; exact ⟨⟨y0, y1⟩, (row2 (Br hr1 hw')).1, Br hr0 hw', Br hr1 hw'⟩
   have HS : Hid (∀ w', Bl wr w' → (w'.cell? ⟨b, off + k * 2, none⟩ = some (.int .i64 x.i) ∧ w'.cell? ⟨b, off + k * 2 + 1, none⟩ = some (.int .i64 x.t)) ∧ (w'.cell? ⟨w.heap.size + 1, 0, none⟩ = some (.int .i64 y.i) ∧ w'.cell? ⟨w.heap.size + 1, 1, none⟩ = some (.int .i64 y.t))) := fun w' hw' => ⟨(HK.out w' hw').1, (HK.out w' hw').2.1⟩; have HST := Hf hst; clear hat hb hr0 hr1 HX hst HY HR0 HR1; rcases Nat.eq_zero_or_pos k with h0 | h0
   ·subst h0; have HE := Hf (HST.out.1 (.inl rfl)); simp only [Nat.zero_mul, Nat.add_zero] at HK HS; clear HST HW0; go_upto_region 5 with fail
    refine wp_region_held_drew (S := fun wq => Below (wr).heap.size (wr) wq) (by kernel_rfl) (Below.drew (Below.refl _ _)) fun Hl => ?_; refine Tm 0 Hl ?_; simp only [Act.put, Pz]; refine Tm 1 Hl ?_; simp only [Act.put, Pz]; refine Tm 2 Hl ?_; simp only [Act.put, Pz]; refine Ts 3 Hl ?_; simp only [Act.put, Pz]; refine Ts 4 Hl ?_; simp only [Act.put, Pz]; refine Ts 5 Hl ?_; simp only [Act.put, Pz]; refine Ts 6 Hl ?_; simp only [Act.put, Pz]; refine Ts 7 Hl ?_; simp only [Act.put, Pz]; refine Ts 8 Hl ?_; simp only [Act.put, Pz]; refine Ts 9 Hl ?_; simp only [Act.put, Pz]; refine Tm 10 Hl ?_; simp only [Act.put, Pz]; refine Wd ?_; generalize wr.drew = wq at *; obtain ⟨hx, hy, hR, hB⟩ := HK.out _ Hl; obtain ⟨⟨y0, y1⟩, yf⟩ := row2 hB; have f0 := yf 0; have f1 := yf 1; have HBq := Hf (Bu HB.out Hl Lr); have HRq := Hf ((put2_oth (show w.heap.size ≠ w.heap.size + 1 by omega) (.int .i64 x.i) (.int .i64 x.t)).trans hR); have HBB := Hf (put2_row hB (.int .i64 x.i) (.int .i64 x.t)); obtain ⟨x0, x1⟩ := hx; clear hy hR hB yf; go_wp2; go_roundw
    case rel => exact ⟨1, by omega, by go_num, put2_bel HBq.out (by omega) _ _, HRq.out, by rw [HE.out]; exact HBB.out⟩
    case measure => simp [intOf]; omega
   ·have hk0 : ((k : Int) == 0) = false := by simp; omega
    by_cases hr : 0 < r
    ·have HE := Hf (HST.out.1 (.inr hr)); have dr : decide (0 < r) = true := decide_eq_true hr; clear HST hr HW0; go_upto_region 5 with fail
     refine wp_region_held_drew (S := fun wq => Below (wr).heap.size (wr) wq) (by kernel_rfl) (Below.drew (Below.refl _ _)) fun Hl => ?_; refine Tm 0 Hl ?_; simp only [Act.put, Pz]; refine Tm 1 Hl ?_; simp only [Act.put, Pz]; refine Tm 2 Hl ?_; simp only [Act.put, Pz]; refine Tm 3 Hl ?_; simp only [Act.put, Pz]; refine Tm 4 Hl ?_; simp only [Act.put, Pz]; refine Tm 5 Hl ?_; simp only [Act.put, Pz]; refine Tj 6 Hl ?_; simp only [Act.put, Pz]; refine Tj 7 Hl ?_; simp only [Act.put, Pz]; refine Rd 8 ?pT ?sT; intro K hK; go_simp; have cc := rcmp_any x y; rw [HR.out] at cc; refine (cc _).mono ?_; clear cc; rintro e w3 ⟨rfl, hb3⟩; have B3 : Bl wr w3 := Hl.trans (hb3.mono Hl.size); clear hb3; refine hK.out _ _ B3 fun Hl => ?_; refine Tm 9 Hl ?_; simp only [Act.put, Pz]; refine Tm 10 Hl ?_; simp only [Act.put, Pz]; refine Wd ?_; obtain ⟨hx, hy, hR, hB⟩ := HK.out _ Hl; obtain ⟨⟨y0, y1⟩, yf⟩ := row2 hB; have f0 := yf 0; have f1 := yf 1; have HBq := Hf (Bu HB.out Hl Lr); have HRq := Hf ((put2_oth (show w.heap.size ≠ w.heap.size + 1 by omega) (.int .i64 x.i) (.int .i64 x.t)).trans hR); have HBB := Hf (put2_row hB (.int .i64 x.i) (.int .i64 x.t)); obtain ⟨x0, x1⟩ := hx; clear hy hR hB yf; go_wp2; go_roundw
     case rel => exact ⟨k + 1, by omega, by go_num, put2_bel HBq.out (by omega) _ _, HRq.out, by rw [HE.out]; exact HBB.out⟩
     case measure => simp [intOf]; omega
    ·have HE := Hf (HST.out.2 h0 hr); have dr : decide (0 < r) = false := decide_eq_false hr; clear HST hr HW0; go_upto_region 5 with fail
     refine wp_region_held_drew (S := fun wq => Below (wr).heap.size (wr) wq) (by kernel_rfl) (Below.drew (Below.refl _ _)) fun Hl => ?_; refine Tm 0 Hl ?_; simp only [Act.put, Pz]; refine Tm 1 Hl ?_; simp only [Act.put, Pz]; refine Tm 2 Hl ?_; simp only [Act.put, Pz]; refine Tm 3 Hl ?_; simp only [Act.put, Pz]; refine Tm 4 Hl ?_; simp only [Act.put, Pz]; refine Tm 5 Hl ?_; simp only [Act.put, Pz]; refine Tj 6 Hl ?_; simp only [Act.put, Pz]; refine Tj 7 Hl ?_; simp only [Act.put, Pz]; refine Rd 8 ?pe ?se; intro K hK; go_simp; have cc := rcmp_any x y; rw [HR.out] at cc; refine (cc _).mono ?_; clear cc; rintro e w3 ⟨rfl, hb3⟩; have B3 : Bl wr w3 := Hl.trans (hb3.mono Hl.size); clear hb3; refine hK.out _ _ B3 fun Hl => ?_; refine Tm 9 Hl ?_; simp only [Act.put, Pz]; refine Tm 10 Hl ?_; simp only [Act.put, Pz]; refine Wd ?_; obtain ⟨hx, hy, hR, hB⟩ := HK.out _ Hl; have HBq := Hf (Bu HB.out Hl Lr); have HRq := Hf hR; have HBB := Hf hB; clear hx hy hR hB; go_wp2; go_roundw
     case rel => exact ⟨k + 1, by omega, by go_num, HBq.out, HRq.out, by rw [HE.out]; exact HBB.out⟩
     case measure => simp [intOf]; omega
  ·obtain rfl : k = l.length := by omega
   obtain ⟨⟨x0, x1⟩, xf⟩ := row2 hr0; obtain ⟨⟨y0, y1⟩, -⟩ := row2 hr1; have f0 := xf 0; have f1 := xf 1; obtain ⟨y, HY⟩ := Nh (M.bx l l.length); rw [HY.out] at y0 y1; clear hat HW0 hr0 hr1 xf; go_wp2; refine bodyPost_ret (v := .agg #[.int .i64 y.i, .int .i64 y.t]) ?_ rfl ⟨by rw [HY.out], put2_bel HB.out Lr _ _⟩; exact results_cell_row f116_res _ _ w.heap.size 42 _ (0, 0) _ rfl (put2_row HR0.out _ _) underlying42 rfl Tryz.size42
theorem f132_res : Tryz.f132.results = #[.cell 2 126, .tmp 3] := rfl
theorem rpick_any (a : Option Addr) (cap : Nat) (l : List V) (w : World) (hat : AtL vl w a l) (hl : l.length ≤ 1000000) :
  Calls prog 132 #[.slice a l.length cap] w fun e w' => e = .returned (.tuple #[.agg #[.int .i64 (M.vx l l.length).s, .int .i64 (M.vx l l.length).b.i, .int .i64 (M.vx l l.length).b.t, .string (M.vx l l.length).v], .bool (decide (0 < l.length))]) ∧ Bl w w' := by
 have HW0 : Hid (Below w.heap.size w ((w.alloc (.cells #[.int .i64 0, .int .i64 0, .int .i64 0, .string ⟨#[]⟩] 126)).alloc (.cells #[.int .i64 0, .int .i64 0, .int .i64 0, .string ⟨#[]⟩] 126)) ∧ ((w.alloc (.cells #[.int .i64 0, .int .i64 0, .int .i64 0, .string ⟨#[]⟩] 126)).alloc (.cells #[.int .i64 0, .int .i64 0, .int .i64 0, .string ⟨#[]⟩] 126)).heap[w.heap.size]? = some (.cells #[.int .i64 0, .int .i64 0, .int .i64 0, .string ⟨#[]⟩] 126 (0, 0)) ∧ ((w.alloc (.cells #[.int .i64 0, .int .i64 0, .int .i64 0, .string ⟨#[]⟩] 126)).alloc (.cells #[.int .i64 0, .int .i64 0, .int .i64 0, .string ⟨#[]⟩] 126)).heap[w.heap.size + 1]? = some (.cells #[.int .i64 0, .int .i64 0, .int .i64 0, .string ⟨#[]⟩] 126 (0, 0))) := ⟨Bu (bel1 w _) (bel1 _ _) Lr, heap_alloc2_old w _ _, heap_alloc2_new w _ _⟩; go_enter func132, ntmps132; go_wp2; go_loopw [5] (fun i wr => ∃ k : Nat, k ≤ l.length ∧ i = .int .i64 k ∧ Bl w wr ∧ wr.heap[w.heap.size]? = some (.cells #[.int .i64 0, .int .i64 0, .int .i64 0, .string ⟨#[]⟩] 126 (0, 0)) ∧ wr.heap[w.heap.size + 1]? = some (.cells #[.int .i64 (M.vx l k).s, .int .i64 (M.vx l k).b.i, .int .i64 (M.vx l k).b.t, .string (M.vx l k).v] 126 (0, 0))) (fun i _ => l.length - (intOf i).toNat)
 case atStart => exact ⟨0, by omega, rfl, HW0.out.1, HW0.out.2.1, HW0.out.2.2⟩
 case round =>
  obtain ⟨k, hk, rfl, hb, hr0, hr1⟩ := hrel; have HB := Hf hb; have HR0 := Hf hr0; have HR1 := Hf hr1; by_cases hlt : k < l.length
  ·have hki : (k : Int) < (l.length : Int) := by omega
   obtain ⟨x, HX⟩ := Nh (l[k]); obtain ⟨y, HY⟩ := Nh (M.vx l k); obtain ⟨r, HR⟩ := Nh (M.cmpE x.b y.b); have hst := M.vx_step l k hlt; rw [HY.out] at hst hr1; rw [HX.out, HR.out] at hst; obtain ⟨b, off, rfl, -, -, -, -⟩ := hat.getV k hlt; have HK : Hid (∀ w', Bl wr w' → (w'.cell? ⟨b, off + k * 4, none⟩ = some (.int .i64 x.s) ∧ w'.cell? ⟨b, off + k * 4 + 1, none⟩ = some (.int .i64 x.b.i) ∧ w'.cell? ⟨b, off + k * 4 + 2, none⟩ = some (.int .i64 x.b.t) ∧ w'.cell? ⟨b, off + k * 4 + 3, none⟩ = some (.string x.v)) ∧ (w'.cell? ⟨w.heap.size + 1, 0, none⟩ = some (.int .i64 y.s) ∧ w'.cell? ⟨w.heap.size + 1, 1, none⟩ = some (.int .i64 y.b.i) ∧ w'.cell? ⟨w.heap.size + 1, 2, none⟩ = some (.int .i64 y.b.t) ∧ w'.cell? ⟨w.heap.size + 1, 3, none⟩ = some (.string y.v)) ∧ w'.heap[w.heap.size]? = some (.cells #[.int .i64 0, .int .i64 0, .int .i64 0, .string ⟨#[]⟩] 126 (0, 0)) ∧ w'.heap[w.heap.size + 1]? = some (.cells #[.int .i64 y.s, .int .i64 y.b.i, .int .i64 y.b.t, .string y.v] 126 (0, 0))) := fun w' hw' => by
    obtain ⟨b', off', e, y0, y1, y2, y3⟩ := (hat.keep (Bu HB.out hw' Lr)).getV k hlt; cases e; rw [HX.out] at y0 y1 y2 y3; exact ⟨⟨y0, y1, y2, y3⟩, (row4 (Br hr1 hw')).1, Br hr0 hw', Br hr1 hw'⟩
   have HS : Hid (∀ w', Bl wr w' → (w'.cell? ⟨b, off + k * 4, none⟩ = some (.int .i64 x.s) ∧ w'.cell? ⟨b, off + k * 4 + 1, none⟩ = some (.int .i64 x.b.i) ∧ w'.cell? ⟨b, off + k * 4 + 2, none⟩ = some (.int .i64 x.b.t) ∧ w'.cell? ⟨b, off + k * 4 + 3, none⟩ = some (.string x.v)) ∧ (w'.cell? ⟨w.heap.size + 1, 0, none⟩ = some (.int .i64 y.s) ∧ w'.cell? ⟨w.heap.size + 1, 1, none⟩ = some (.int .i64 y.b.i) ∧ w'.cell? ⟨w.heap.size + 1, 2, none⟩ = some (.int .i64 y.b.t) ∧ w'.cell? ⟨w.heap.size + 1, 3, none⟩ = some (.string y.v))) := fun w' hw' => ⟨(HK.out w' hw').1, (HK.out w' hw').2.1⟩; have HST := Hf hst; clear hat hb hr0 hr1 HX hst HY HR0 HR1; rcases Nat.eq_zero_or_pos k with h0 | h0
   ·subst h0; have HE := Hf (HST.out.1 (.inl rfl)); simp only [Nat.zero_mul, Nat.add_zero] at HK HS; clear HST HW0; go_upto_region 5 with fail
    refine wp_region_held_drew (S := fun wq => Below (wr).heap.size (wr) wq) (by kernel_rfl) (Below.drew (Below.refl _ _)) fun Hl => ?_; refine Tm 0 Hl ?_; simp only [Act.put, Pz]; refine Tm 1 Hl ?_; simp only [Act.put, Pz]; refine Tm 2 Hl ?_; simp only [Act.put, Pz]; refine Ts 3 Hl ?_; simp only [Act.put, Pz]; refine Ts 4 Hl ?_; simp only [Act.put, Pz]; refine Ts 5 Hl ?_; simp only [Act.put, Pz]; refine Ts 6 Hl ?_; simp only [Act.put, Pz]; refine Ts 7 Hl ?_; simp only [Act.put, Pz]; refine Ts 8 Hl ?_; simp only [Act.put, Pz]; refine Ts 9 Hl ?_; simp only [Act.put, Pz]; refine Ts 10 Hl ?_; simp only [Act.put, Pz]; refine Ts 11 Hl ?_; simp only [Act.put, Pz]; refine Tm 12 Hl ?_; simp only [Act.put, Pz]; refine Wd ?_; generalize wr.drew = wq at *; obtain ⟨hx, hy, hR, hB⟩ := HK.out _ Hl; obtain ⟨⟨y0, y1, y2, y3⟩, yf⟩ := row4 hB; have f0 := yf 0; have f1 := yf 1; have f2 := yf 2; have f3 := yf 3; have HBq := Hf (Bu HB.out Hl Lr); have HRq := Hf ((put4_oth (show w.heap.size ≠ w.heap.size + 1 by omega) (.int .i64 x.s) (.int .i64 x.b.i) (.int .i64 x.b.t) (.string x.v)).trans hR); have HBB := Hf (put4_row hB (.int .i64 x.s) (.int .i64 x.b.i) (.int .i64 x.b.t) (.string x.v)); obtain ⟨x0, x1, x2, x3⟩ := hx; clear hy hR hB yf; go_wp2; go_roundw
    case rel => exact ⟨1, by omega, by go_num, put4_bel HBq.out (by omega) _ _ _ _, HRq.out, by rw [HE.out]; exact HBB.out⟩
    case measure => simp [intOf]; omega
   ·have hk0 : ((k : Int) == 0) = false := by simp; omega
    by_cases hr : 0 < r
    ·have HE := Hf (HST.out.1 (.inr hr)); have dr : decide (0 < r) = true := decide_eq_true hr; clear HST hr HW0; go_upto_region 5 with fail
     refine wp_region_held_drew (S := fun wq => Below (wr).heap.size (wr) wq) (by kernel_rfl) (Below.drew (Below.refl _ _)) fun Hl => ?_; refine Tm 0 Hl ?_; simp only [Act.put, Pz]; refine Tm 1 Hl ?_; simp only [Act.put, Pz]; refine Tm 2 Hl ?_; simp only [Act.put, Pz]; refine Tm 3 Hl ?_; simp only [Act.put, Pz]; refine Tm 4 Hl ?_; simp only [Act.put, Pz]; refine Tm 5 Hl ?_; simp only [Act.put, Pz]; refine Tm 6 Hl ?_; simp only [Act.put, Pz]; refine Tj 7 Hl ?_; simp only [Act.put, Pz]; refine Tm 8 Hl ?_; simp only [Act.put, Pz]; refine Tj 9 Hl ?_; simp only [Act.put, Pz]; refine Rd 10 ?pV ?sV; intro K hK; go_simp; have cc := rcmp_any x.b y.b; rw [HR.out] at cc; refine (cc _).mono ?_; clear cc; rintro e w3 ⟨rfl, hb3⟩; have B3 : Bl wr w3 := Hl.trans (hb3.mono Hl.size); clear hb3; refine hK.out _ _ B3 fun Hl => ?_; refine Tm 11 Hl ?_; simp only [Act.put, Pz]; refine Tm 12 Hl ?_; simp only [Act.put, Pz]; refine Wd ?_; obtain ⟨hx, hy, hR, hB⟩ := HK.out _ Hl; obtain ⟨⟨y0, y1, y2, y3⟩, yf⟩ := row4 hB; have f0 := yf 0; have f1 := yf 1; have f2 := yf 2; have f3 := yf 3; have HBq := Hf (Bu HB.out Hl Lr); have HRq := Hf ((put4_oth (show w.heap.size ≠ w.heap.size + 1 by omega) (.int .i64 x.s) (.int .i64 x.b.i) (.int .i64 x.b.t) (.string x.v)).trans hR); have HBB := Hf (put4_row hB (.int .i64 x.s) (.int .i64 x.b.i) (.int .i64 x.b.t) (.string x.v)); obtain ⟨x0, x1, x2, x3⟩ := hx; clear hy hR hB yf; go_wp2; go_roundw
     case rel => exact ⟨k + 1, by omega, by go_num, put4_bel HBq.out (by omega) _ _ _ _, HRq.out, by rw [HE.out]; exact HBB.out⟩
     case measure => simp [intOf]; omega
    ·have HE := Hf (HST.out.2 h0 hr); have dr : decide (0 < r) = false := decide_eq_false hr; clear HST hr HW0; go_upto_region 5 with fail
     refine wp_region_held_drew (S := fun wq => Below (wr).heap.size (wr) wq) (by kernel_rfl) (Below.drew (Below.refl _ _)) fun Hl => ?_; refine Tm 0 Hl ?_; simp only [Act.put, Pz]; refine Tm 1 Hl ?_; simp only [Act.put, Pz]; refine Tm 2 Hl ?_; simp only [Act.put, Pz]; refine Tm 3 Hl ?_; simp only [Act.put, Pz]; refine Tm 4 Hl ?_; simp only [Act.put, Pz]; refine Tm 5 Hl ?_; simp only [Act.put, Pz]; refine Tm 6 Hl ?_; simp only [Act.put, Pz]; refine Tj 7 Hl ?_; simp only [Act.put, Pz]; refine Tm 8 Hl ?_; simp only [Act.put, Pz]; refine Tj 9 Hl ?_; simp only [Act.put, Pz]; refine Rd 10 ?pg ?sg; intro K hK; go_simp; have cc := rcmp_any x.b y.b; rw [HR.out] at cc; refine (cc _).mono ?_; clear cc; rintro e w3 ⟨rfl, hb3⟩; have B3 : Bl wr w3 := Hl.trans (hb3.mono Hl.size); clear hb3; refine hK.out _ _ B3 fun Hl => ?_; refine Tm 11 Hl ?_; simp only [Act.put, Pz]; refine Tm 12 Hl ?_; simp only [Act.put, Pz]; refine Wd ?_; obtain ⟨hx, hy, hR, hB⟩ := HK.out _ Hl; have HBq := Hf (Bu HB.out Hl Lr); have HRq := Hf hR; have HBB := Hf hB; clear hx hy hR hB; go_wp2; go_roundw
     case rel => exact ⟨k + 1, by omega, by go_num, HBq.out, HRq.out, by rw [HE.out]; exact HBB.out⟩
     case measure => simp [intOf]; omega
  ·obtain rfl : k = l.length := by omega
   obtain ⟨⟨x0, x1, x2, x3⟩, xf⟩ := row4 hr0; obtain ⟨⟨y0, y1, y2, y3⟩, -⟩ := row4 hr1; have f0 := xf 0; have f1 := xf 1; have f2 := xf 2; have f3 := xf 3; obtain ⟨y, HY⟩ := Nh (M.vx l l.length); rw [HY.out] at y0 y1 y2 y3; obtain ⟨nz, HNZ⟩ := Nh (decide (0 < l.length)); have hnz : decide ((0 : Int) < (l.length : Int)) = nz := by rw [← HNZ.out]; simp
   have hnz' : decide (0 < l.length) = nz := HNZ.out; clear hat HW0 hr0 hr1 xf; go_wp2; refine bodyPost_ret (v := .tuple #[.agg #[.int .i64 y.s, .int .i64 y.b.i, .int .i64 y.b.t, .string y.v], .bool nz]) ?_ rfl ⟨by rw [HY.out, HNZ.out], put4_bel HB.out Lr _ _ _ _⟩; exact res4 f132_res _ _ w.heap.size _ _ _ _ rfl (put4_row HR0.out _ _ _ _)
end Go.Proofs.YtgodnpngdbelhaaGreat.Np
namespace Go.Proofs.YtgodnpngdbelhaaGreat.Np
open Go.RowKit Go.Maps
open Go.Proofs.YtgodnpngdbelhaaGreat.M (E V)
open Go.Proofs.YtgodnpngdbelhaaGreat.Np.M (fup)
def V17 (v0 v1 v2 v3 v4 v5 v6 v7 v8 v9 v10 v11 v12 v13 v14 v15 v16 : Value) : Array Value := #[v0, v1, v2, v3, v4, v5, v6, v7, v8, v9, v10, v11, v12, v13, v14, v15, v16]
section
variable {v0 v1 v2 v3 v4 v5 v6 v7 v8 v9 v10 v11 v12 v13 v14 v15 v16 : Value} {w : World} {b : Nat}
@[simp] theorem V17_size : (V17 v0 v1 v2 v3 v4 v5 v6 v7 v8 v9 v10 v11 v12 v13 v14 v15 v16).size = 17 := rfl
theorem row17 (h : w.heap[b]? = some (.cells (V17 v0 v1 v2 v3 v4 v5 v6 v7 v8 v9 v10 v11 v12 v13 v14 v15 v16) 48 (0, 0))) : (w.cell? ⟨b, 0, none⟩ = some v0 ∧ w.cell? ⟨b, 1, none⟩ = some v1 ∧ w.cell? ⟨b, 2, none⟩ = some v2 ∧ w.cell? ⟨b, 3, none⟩ = some v3 ∧ w.cell? ⟨b, 4, none⟩ = some v4 ∧ w.cell? ⟨b, 5, none⟩ = some v5 ∧ w.cell? ⟨b, 6, none⟩ = some v6 ∧ w.cell? ⟨b, 7, none⟩ = some v7 ∧ w.cell? ⟨b, 8, none⟩ = some v8 ∧ w.cell? ⟨b, 9, none⟩ = some v9 ∧ w.cell? ⟨b, 10, none⟩ = some v10 ∧ w.cell? ⟨b, 11, none⟩ = some v11 ∧ w.cell? ⟨b, 12, none⟩ = some v12 ∧ w.cell? ⟨b, 13, none⟩ = some v13 ∧ w.cell? ⟨b, 14, none⟩ = some v14 ∧ w.cell? ⟨b, 15, none⟩ = some v15 ∧ w.cell? ⟨b, 16, none⟩ = some v16) ∧ ∀ j, w.frozen? ⟨b, j, none⟩ = false :=
 ⟨⟨by rw [cell_of_row w b 0 _ _ _ h]; rfl, by rw [cell_of_row w b 1 _ _ _ h]; rfl, by rw [cell_of_row w b 2 _ _ _ h]; rfl, by rw [cell_of_row w b 3 _ _ _ h]; rfl, by rw [cell_of_row w b 4 _ _ _ h]; rfl, by rw [cell_of_row w b 5 _ _ _ h]; rfl, by rw [cell_of_row w b 6 _ _ _ h]; rfl, by rw [cell_of_row w b 7 _ _ _ h]; rfl, by rw [cell_of_row w b 8 _ _ _ h]; rfl, by rw [cell_of_row w b 9 _ _ _ h]; rfl, by rw [cell_of_row w b 10 _ _ _ h]; rfl, by rw [cell_of_row w b 11 _ _ _ h]; rfl, by rw [cell_of_row w b 12 _ _ _ h]; rfl, by rw [cell_of_row w b 13 _ _ _ h]; rfl, by rw [cell_of_row w b 14 _ _ _ h]; rfl, by rw [cell_of_row w b 15 _ _ _ h]; rfl, by rw [cell_of_row w b 16 _ _ _ h]; rfl⟩, fun j => frozen_of_row w b j _ _ h⟩
end
abbrev Z17 : Array Value := V17 (.int .i64 0) (.int .i64 0) (.int .i64 0) (.int .i64 0) (.int .i64 0) (.int .i64 0) (.bool false) (.bool false) (.bool false) (.bool false) (.bool false) (.bool false) (.bool false) (.bool false) (.bool false) (.bool false) (.slice none 0 0)
theorem zero48 (w : World) : (zeroValue 48).run prog w = .ok (.agg Z17) w := Tryz.zeroValue48 w
def ld32 (a : Addr) : Sem (Array Value) := loadCellsFrom a 0 17 #[]
def st32 (a : Addr) (c : Array Value) : Sem Unit := storeCells a c.toList 0
def sz32 (w : World) : Result Nat := .ok 17 w
def ti32 (P : Program) (t : TypeId) (w : World) := (typeInfo t).run P w
theorem sz32_eq (w : World) : sz32 w = .ok 17 w := rfl
@[simp] theorem sz32_of (t : TypeId) (w : World) (h : t = 48) : (sizeOf t).run prog w = sz32 w := by subst h; exact Tryz.sizeOf48 w
@[simp] theorem ti32_of (t : TypeId) (w : World) (h : t = 48) : (typeInfo t).run prog w = ti32 prog 48 w := by subst h; rfl
@[simp] theorem zero32_of (t : TypeId) (w : World) (h : t = 48) : (zeroValue t).run prog w = .ok (.agg Z17) w := by subst h; exact zero48 w
@[simp] theorem sz_ld32 {β : Type} (w : World) (A : Addr) (F : Array Value → World → Result β) :
  ((sz32 w).andThen fun a w' => ((loadCellsFrom A 0 a #[]).run prog w').andThen F) = ((ld32 A).run prog w).andThen F := by
 rw [sz32_eq]; rfl
@[simp] theorem sz_st32 {β : Type} (w : World) (A : Addr) (c : Array Value) (F : Unit → World → Result β) (X : World → Result β) :
  ((sz32 w).andThen fun a w' => if 17 = a then ((storeCells A c.toList).run prog w').andThen F else X w') = ((st32 A c).run prog w).andThen F := by
 rw [sz32_eq]; rfl
@[simp] theorem sz_fld32 {β : Type} (w : World) (X Y : World → Result β) : ((sz32 w).andThen fun a w' => if a = 0 then X w' else Y w') = Y w := by
 rw [sz32_eq]; rfl
@[simp] theorem sz_any32 {β : Type} (w : World) (G : World → Result β) : ((sz32 w).andThen fun _ w' => G w') = G w := by
 rw [sz32_eq]; rfl
def dvv (a : Option Addr) (c : Nat) (x : M.R) : Array Value := V17 (.int .i64 x.n) (.int .i64 x.me) (.int .i64 x.fr) (.int .i64 x.nx) (.int .i64 x.b.i) (.int .i64 x.b.t) (.bool x.ak) (.bool x.ld) (.bool x.fd) (.bool (x.who 0)) (.bool (x.who 1)) (.bool (x.who 2)) (.bool (x.who 3)) (.bool (x.who 4)) (.bool (x.who 5)) (.bool (x.who 6)) (.slice a x.l.length c)
@[simp] theorem dvv_size (a : Option Addr) (c : Nat) (x : M.R) : (dvv a c x).size = 17 := rfl
theorem dvv_one (a : Option Addr) (c : Nat) (x : M.R) : ∀ v ∈ (dvv a c x).toList, v.oneCell' = true := by
 intro v hv; simp [dvv, V17] at hv; rcases hv with rfl | rfl | rfl | rfl | rfl | rfl | rfl | rfl | rfl | rfl | rfl | rfl | rfl | rfl | rfl | rfl | rfl <;> rfl
theorem load32_row {w : World} {b : Nat} {a : Option Addr} {c : Nat} {x : M.R} (hb : w.heap[b]? = some (.cells (dvv a c x) 48 (0, 0))) : (ld32 ⟨b, 0, none⟩).run prog w = .ok (dvv a c x) w := by
 have := run_loadCells_list (P := prog) w ⟨b, 0, none⟩ (dvv a c x).toList (fun j v hv => by
  have hadd : (⟨b, 0, none⟩ : Addr).add j = ⟨b, j, none⟩ := by unfold Addr.add; split <;> simp_all
  rw [hadd, cell_of_row w b j _ _ _ hb]; simpa using hv)
 simpa [loadCells, dvv_size, ld32] using this
theorem store32_row {w : World} {b : Nat} {cs : Array Value} (hz : cs.size = 17) (a : Option Addr) (c : Nat) (x : M.R) (hb : w.heap[b]? = some (.cells cs 48 (0, 0))) : (st32 ⟨b, 0, none⟩ (dvv a c x)).run prog w = .ok () (w.setRow b (dvv a c x)) := by
 have := run_storeCells_from (P := prog) b 48 (dvv a c x).toList 0 _ w hb (by simp [hz]) (dvv_one a c x); simpa [st32, hz] using this
theorem size32 (a : Option Addr) (c : Nat) (x : M.R) : (prog.info? 48).map (·.size) = some (dvv a c x).size := by rw [dvv_size]; kernel_rfl
theorem res32 {fn : Func} {p u : Tmp} (h : fn.results = #[.cell p 48, .tmp u]) (tmps : Array Value) (w : World) (g : Nat) (a : Option Addr) (c : Nat) (x : M.R) (hp : tmps.getD p undef = .pointer (some ⟨g, 0, none⟩)) (hg : w.heap[g]? = some (.cells (dvv a c x) 48 (0, 0))) :
  (results fn tmps).run prog w = .ok (.tuple #[.agg (dvv a c x), tmps.getD u undef]) w := by
 have hp' : tmps[p]?.getD undef = .pointer (some ⟨g, 0, none⟩) := by simpa using hp
 rw [results_cell_tmp h]; simp [asAddr, hp', run_loadVar_row w g 48 48 (dvv a c x) (0, 0) _ hg underlying48 rfl (size32 a c x)]
theorem res32v {fn : Func} {p u : Tmp} (h : fn.results = #[.cell p 48, .tmp u]) (tmps : Array Value) (w : World) (g : Nat) (dd : Array Value) (hp : tmps.getD p undef = .pointer (some ⟨g, 0, none⟩)) (hg : w.heap[g]? = some (.cells dd 48 (0, 0))) (hs : dd.size = 17) :
  (results fn tmps).run prog w = .ok (.tuple #[.agg dd, tmps.getD u undef]) w := by
 have hp' : tmps[p]?.getD undef = .pointer (some ⟨g, 0, none⟩) := by simpa using hp
 have hz : (prog.info? 48).map (·.size) = some dd.size := by rw [hs]; kernel_rfl
 rw [results_cell_tmp h]; simp [asAddr, hp', run_loadVar_row w g 48 48 dd (0, 0) _ hg underlying48 rfl hz]
theorem r0_eq (n me : Int) : (Z17.setIfInBounds 0 (.int .i64 n)).setIfInBounds 1 (.int .i64 me) = dvv none 0 (M.r0 n me) := rfl
theorem M.nde_quo (n me : Int) : M.nde n me = (decide (0 < M.quo n) && decide (0 ≤ me) && decide (me < n)) := by
 unfold M.nde M.quo; by_cases h : n < 1 ∨ 7 < n
 ·rw [if_pos h]; rcases h with h | h
  ·rw [decide_eq_false (show ¬ 1 ≤ n by omega)]; simp
  ·rw [decide_eq_false (show ¬ n ≤ 7 by omega)]; simp
 ·rw [if_neg h, decide_eq_true (show 1 ≤ n by omega), decide_eq_true (show n ≤ 7 by omega), decide_eq_true (show 0 < n / 2 + 1 by omega)]; rfl
structure XX (w : World) (a : Option Addr) (c : Nat) (x : M.R) : Prop where
 xl : XL vl w a c x.l
 lt : ∀ k, blk a k → k < w.heap.size
section
variable {w w' : World} {a : Option Addr} {c : Nat} {x : M.R}
theorem XX.keepBut (h : XX w a c x) (hb : ∀ k, k < w.heap.size → blk a k → w'.heap[k]? = w.heap[k]?) (hs : w.heap.size ≤ w'.heap.size) : XX w' a c x := ⟨h.xl.keepBut hb, fun k hk => Nat.lt_of_lt_of_le (h.lt k hk) hs⟩
theorem XX.keep (h : XX w a c x) (hb : Bl w w') : XX w' a c x := h.keepBut (fun k hk _ => hb.block k hk) hb.size
theorem XX.of {y : M.R} (h : XX w a c x) (e : y.l = x.l) : XX w a c y := ⟨by rw [e]; exact h.xl, h.lt⟩
theorem XX.emp (w : World) {y : M.R} (e : y.l = []) : XX w none 0 y := ⟨by rw [e]; exact XL.emp w, fun k hk => by obtain ⟨_, _, h⟩ := hk; cases h⟩
end
def New (w : World) (a a' : Option Addr) : Prop := ∀ k, blk a' k → blk a k ∨ w.heap.size ≤ k
theorem New.refl (w : World) (a : Option Addr) : New w a a := fun k hk => .inl hk
theorem New.none (w : World) (a : Option Addr) : New w a none := fun k hk => by obtain ⟨_, _, h⟩ := hk; cases h
theorem bel_setRow {B : Nat} {w0 w : World} {g : Nat} (h : Below B w0 w) (hg : B ≤ g) (cs : Array Value) : Below B w0 (w.setRow g cs) :=
 ⟨h.os, h.tape, h.output, by have := h.size; simp [World.setRow]; omega, fun k hk => (setRow_other _ _ _ _ (by omega)).trans (h.block k hk)⟩
theorem setRow32 {w : World} {g : Nat} {cs : Array Value} (h : w.heap[g]? = some (.cells cs 48 (0, 0))) (ds : Array Value) : (w.setRow g ds).heap[g]? = some (.cells ds 48 (0, 0)) := setRow_heap _ _ cs _ 48 (0, 0) h
theorem f49_res : Tryz.f49.results = #[.cell 4 48, .tmp 5] := rfl
theorem rnew_any (n me : Int) (w : World) : Calls prog 49 #[.int .i64 n, .int .i64 me] w fun e w' => e = .returned (.tuple #[.agg (dvv none 0 (M.r0 n me)), .bool (M.nde n me)]) ∧ Bl w w' := by
 obtain ⟨W1, HW1⟩ := Nh (w.alloc (.cells Z17 48)); have hb1 := Ab HW1; have hr1 := Ac HW1; have HB1 := Hf hb1; have HR1 := Hf hr1; have st := store32_row (w := W1) (b := w.heap.size) (cs := Z17) rfl none 0 (M.r0 n me) hr1; have cq := rquorum_any n W1; have HZ : Hid ((dvv none 0 (M.r0 n me)).size = 17) := Hf rfl; obtain ⟨dd, HDD⟩ := Nh (dvv none 0 (M.r0 n me)); obtain ⟨nd, HND⟩ := Nh (M.nde n me); rw [HDD.out] at st HZ ⊢; rw [HND.out]; clear hb1 hr1; go_enter func49, ntmps49; go_upto_region 1 with fail
 rw [HW1.out]; clear HW1; go_wp2_with fail; refine cq.mono ?_; clear cq; rintro e w1 ⟨rfl, hw1⟩; obtain rfl := hw1.symm; clear hw1; rw [r0_eq n me, HDD.out]; have HK := Hf (bel_setRow HB1.out Lr dd); have HG := Hf (setRow32 HR1.out dd); have hq := M.nde_quo n me; rw [HND.out] at hq; have hz := HZ.out; by_cases h0 : 0 < M.quo n
 ·have d0 : decide (0 < M.quo n) = true := decide_eq_true h0; rw [d0] at hq; generalize M.quo n = qn at *; by_cases h1 : 0 ≤ me
  ·have d1 : decide (0 ≤ me) = true := decide_eq_true h1; rw [d1, Bool.true_and, Bool.true_and] at hq; obtain rfl := hq; clear h0 h1; go_wp2; refine bodyPost_ret (v := .tuple #[.agg dd, .bool (decide (me < n))]) ?_ rfl ⟨rfl, HK.out⟩; exact res32v f49_res _ _ w.heap.size _ rfl HG.out HZ.out
  ·have d1 : decide (0 ≤ me) = false := decide_eq_false h1; rw [d1, Bool.and_false, Bool.false_and] at hq; obtain rfl := hq; clear h0 h1; go_wp2; refine bodyPost_ret (v := .tuple #[.agg dd, .bool false]) ?_ rfl ⟨rfl, HK.out⟩; exact res32v f49_res _ _ w.heap.size _ rfl HG.out HZ.out
 ·have d0 : decide (0 < M.quo n) = false := decide_eq_false h0; rw [d0, Bool.false_and, Bool.false_and] at hq; obtain rfl := hq; generalize M.quo n = qn at *; clear h0; go_wp2; refine bodyPost_ret (v := .tuple #[.agg dd, .bool false]) ?_ rfl ⟨rfl, HK.out⟩; exact res32v f49_res _ _ w.heap.size _ rfl HG.out HZ.out
end Go.Proofs.YtgodnpngdbelhaaGreat.Np
