import Derived.Test.YtlnedgjikkhplaaGreatGP14
import Derived.Shelf.Strings.Repeat
import Derived.Lib.Zigzag
set_option maxRecDepth 100000
set_option maxHeartbeats 8000000
set_option linter.unusedVariables false
set_option linter.unusedSimpArgs false
namespace Go.Proofs.YtlnedgjikkhplaaGreat.Du
open Go.RowKit
open Na (Fr AS XL vl bV vV Hf bel1 bel2 Bu Br row2 row4 blk OwnL AtL)
open Na.M (E V S S0)
structure X where
 ar : Nat
 ep : Nat
 n : Nat
 us : Nat
 cut : Bool
 a : S
theorem row7 {w : World} {k : Nat} {v0 v1 v2 v3 v4 v5 v6 : Value} {t : TypeId} (h : w.heap[k]? = some (.cells #[v0, v1, v2, v3, v4, v5, v6] t (0, 0))) :
  (w.cell? ⟨k, 0, none⟩ = some v0 ∧ w.cell? ⟨k, 1, none⟩ = some v1 ∧ w.cell? ⟨k, 2, none⟩ = some v2 ∧ w.cell? ⟨k, 3, none⟩ = some v3 ∧ w.cell? ⟨k, 4, none⟩ = some v4 ∧ w.cell? ⟨k, 5, none⟩ = some v5 ∧ w.cell? ⟨k, 6, none⟩ = some v6) ∧ ∀ j, w.frozen? ⟨k, j, none⟩ = false :=
 ⟨⟨by rw [cell_of_row w k 0 _ _ _ h]; rfl, by rw [cell_of_row w k 1 _ _ _ h]; rfl, by rw [cell_of_row w k 2 _ _ _ h]; rfl, by rw [cell_of_row w k 3 _ _ _ h]; rfl, by rw [cell_of_row w k 4 _ _ _ h]; rfl, by rw [cell_of_row w k 5 _ _ _ h]; rfl, by rw [cell_of_row w k 6 _ _ _ h]; rfl⟩, fun j => frozen_of_row w k j _ _ h⟩
theorem Fr.ofCh {w w' : World} {F G : Nat → Prop} (h : Ns.Ch w F w' G) : Fr w F w' G := ⟨h.os, h.tape, h.output, h.size, h.block, h.n⟩
abbrev ptr (b : Nat) : Value := .pointer (some ⟨b, 0, none⟩)
abbrev xrow (ab db : Nat) (x : X) : Array Value := #[ptr ab, ptr db, .int .i64 x.ar, .int .i64 x.ep, .int .i64 x.n, .int .i64 x.us, .bool x.cut]
def fpd (b : Nat) (FA FD : Nat → Prop) (k : Nat) : Prop := k = b ∨ FA k ∨ FD k
structure DU (w0 w : World) (FA FD : Nat → Prop) (b ab db n : Nat) (P : List Ns.M.Pl) (x : X) : Prop where
 row : w.heap[b]? = some (.cells (xrow ab db x) 90 (0, 0))
 a : AS w0 w FA ab x.a
 d : Ns.DS w0 w db FD n P false
 ap : ∀ k, FA k → ¬ FD k
 na : ¬ FA b
 nd : ¬ FD b
 lo : w0.heap.size ≤ b
section
variable {w0 w w' : World} {FA FD FA' FD' : Nat → Prop} {b ab db n : Nat} {P P' : List Ns.M.Pl} {x x' : X}
theorem DU.lt (h : DU w0 w FA FD b ab db n P x) : b < w.heap.size := (Array.getElem?_eq_some_iff.1 h.row).1
theorem DU.keep (h : DU w0 w FA FD b ab db n P x) (hb : Below w.heap.size w w') : DU w0 w' FA FD b ab db n P x :=
 ⟨Br h.row hb, h.a.keep hb, h.d.keep hb, h.ap, h.na, h.nd, h.lo⟩
theorem DU.mine (h : DU w0 w FA FD b ab db n P x) : ∀ k, fpd b FA FD k → w0.heap.size ≤ k ∧ k < w.heap.size := by
 rintro k (rfl | hk | hk)
 ·exact ⟨h.lo, h.lt⟩
 ·exact h.a.mine k hk
 ·exact h.d.own k hk
theorem sectors_any (b : Nat) (n : Nat) (v1 v2 v3 : Value) (w : World) (h : w.heap[b]? = some (.cells #[.int .i64 n, v1, v2, v3] 84 (0, 0))) : Calls Tryz.prog 32 #[ptr b] w fun e w' => e = .returned (.int .i64 n) ∧ w' = w := by
 obtain ⟨⟨c0, _⟩, _⟩ := row4 h
 clear h
 go_enter Tryz.func32, Tryz.ntmps32
 go_wp2
 go_ret
 exact ⟨rfl, rfl⟩
def hf (n : Nat) : Nat := (n - 8) / 2
theorem DU.width (h : DU w0 w FA FD b ab db n P x) (h8 : 8 ≤ n) : Calls Tryz.prog 37 #[ptr b] w fun e w' => e = .returned (.int .i64 (hf n : Nat)) ∧ w' = w := by
 obtain ⟨⟨_, c1, _⟩, _⟩ := row7 h.row
 obtain ⟨v1, v2, hr⟩ := h.d.row
 have hn := h.d.n1
 have hs := sectors_any db n v1 v2 _ w hr
 have e : ((hf n : Nat) : Int) = ((n : Int) - 8) / 2 := by unfold hf; omega
 have HE : Hid (∀ v : Value, v = .int .i64 (((n : Int) - 8) / 2) → v = .int .i64 (hf n : Nat)) := fun v hv => by rw [hv, e]
 clear h hr
 go_enter Tryz.func37, Tryz.ntmps37
 go_wp2_with fail
 refine hs.mono ?_; rintro e w1 ⟨rfl, rfl⟩
 clear hs; go_wp2
 go_ret
 refine ⟨congrArg Ending.returned (HE.out _ ?_), rfl⟩
 congr 1
theorem DU.firstOf (h : DU w0 w FA FD b ab db n P x) (h8 : 8 ≤ n) (k : Nat) (hk : k ≤ 1) : Calls Tryz.prog 36 #[ptr b, .int .i64 k] w fun e w' => e = .returned (.int .i64 ((8 + k * hf n : Nat) : Int)) ∧ w' = w := by
 have hw := h.width h8
 have hn := h.d.n1
 have hh : hf n ≤ 4096 := by unfold hf; omega
 have hm : k * hf n ≤ 4096 := by rcases (show k = 0 ∨ k = 1 by omega) with rfl | rfl <;> omega
 have e : ((8 + k * hf n : Nat) : Int) = 8 + (k : Int) * ((hf n : Nat) : Int) := by rw [Int.natCast_add, Int.natCast_mul]; rfl
 rw [e]
 have hm' : (k : Int) * ((hf n : Nat) : Int) ≤ 4096 := by rw [← Int.natCast_mul]; omega
 have hm0 : 0 ≤ (k : Int) * ((hf n : Nat) : Int) := by rw [← Int.natCast_mul]; omega
 generalize (hf n) = z at *
 clear h e
 go_enter Tryz.func36, Tryz.ntmps36
 go_wp2_with fail
 refine hw.mono ?_; rintro e w1 ⟨rfl, rfl⟩
 clear hw; go_wp2
 go_ret
 exact ⟨rfl, rfl⟩
def rfs (c : Bool) : Int := bif c then 16 else 0
theorem DU.refused (h : DU w0 w FA FD b ab db n P x) : Calls Tryz.prog 55 #[ptr b] w fun e w' => e = .returned (.int .i64 (rfs x.cut)) ∧ w' = w := by
 obtain ⟨⟨_, _, _, _, _, _, c6⟩, _⟩ := row7 h.row
 clear h
 cases hc : x.cut with
 | false =>
  rw [hc] at c6
  go_enter Tryz.func55, Tryz.ntmps55
  go_wp2
  go_ret
  exact ⟨rfl, rfl⟩
 | true =>
  rw [hc] at c6
  go_enter Tryz.func55, Tryz.ntmps55
  go_wp2
  go_ret
  exact ⟨rfl, rfl⟩
theorem DU.base (h : DU w0 w FA FD b ab db n P x) : Calls Tryz.prog 17 #[ptr b] w fun e w' => e = .returned (.int .i64 x.a.base) ∧ w' = w := by
 obtain ⟨⟨c0, _⟩, _⟩ := row7 h.row
 have hb := h.a.base
 clear h
 go_enter Tryz.func17, Tryz.ntmps17
 go_wp2_with fail
 refine hb.mono ?_; rintro e w1 ⟨rfl, rfl⟩
 clear hb; go_wp2
 go_ret
 exact ⟨rfl, rfl⟩
theorem DU.votes (h : DU w0 w FA FD b ab db n P x) (k : Int) : Calls Tryz.prog 21 #[ptr b, .int .i64 k] w fun e w' => ∃ ad c, e = .returned (.slice ad (Na.M.vts x.a.l k).length c) ∧ XL vl w' ad c (Na.M.vts x.a.l k) ∧ (∀ j, blk ad j → w.heap.size ≤ j ∧ j < w'.heap.size) ∧ Below w.heap.size w w' := by
 obtain ⟨⟨c0, _⟩, _⟩ := row7 h.row
 have hb := h.a.votes k
 clear h
 go_enter Tryz.func21, Tryz.ntmps21
 go_wp2_with fail
 refine hb.mono ?_; rintro e w1 ⟨ad, c, rfl, h1⟩
 have H1 := Hf h1
 clear hb h1; go_wp2
 go_ret
 exact ⟨ad, c, rfl, H1.out⟩
theorem DU.room (h : DU w0 w FA FD b ab db n P x) (h8 : 8 ≤ n) (hu : x.us ≤ hf n) : Calls Tryz.prog 18 #[ptr b] w fun e w' => e = .returned (.int .i64 ((hf n - x.us : Nat) : Int)) ∧ Below w.heap.size w w' := by
 have HC : Hid (∀ w', Below w.heap.size w w' → Calls Tryz.prog 37 #[ptr b] w' fun e w'' => e = .returned (.int .i64 (hf n : Nat)) ∧ w'' = w') := fun w' hb => (h.keep hb).width h8
 have HS : Hid (∀ w', Below w.heap.size w w' → w'.cell? ⟨b, 5, none⟩ = some (.int .i64 x.us)) := fun w' hb => (row7 (h.keep hb).row).1.2.2.2.2.2.1
 have hn := h.d.n1
 have hh : hf n ≤ 4096 := by unfold hf; omega
 rw [show ((hf n - x.us : Nat) : Int) = ((hf n : Nat) : Int) - (x.us : Int) by omega]
 generalize hf n = z at *
 generalize x.us = u at *
 have hwr : IntKind.i64.wrap ((z : Int) - (u : Int)) = (z : Int) - (u : Int) := by rw [IntKind.wrap_i64]; omega
 clear h
 go_enter Tryz.func18, Tryz.ntmps18
 go_upto_region 3 with fail
 refine wp_region_held_drew (S := fun wq => Below (w).heap.size (w) wq) (by kernel_rfl) (Below.drew (Below.refl _ _)) fun Hl => ?_
 refine Tm 0 ?pA ?vA Hl ?rA
 refine Tm 2 ?pB ?vB Hl ?rB
 refine Tm 3 ?pC ?vC Hl ?rC
 refine Tm 4 ?pD ?vD Hl ?rD
 refine Tk 5 ?pE ?vE ?yE Hl ?rE
 case yE => intro q h; obtain z5 := HS.out q h; go_simp; try with_reducible rfl
 simp only [Act.put, Pa, Pb, Pc]
 refine Rd 1 ?pF ?sF
 intro K hK; go_simp
 refine (HC.out _ Hl).mono ?_; rintro e v1 ⟨rfl, rfl⟩
 refine hK.out _ _ Hl fun Hl => ?_; clear hK K
 refine Tm 6 ?pG ?vG Hl ?rG
 refine Tm 7 ?pH ?vH Hl ?rH
 simp only [Act.put, Pa, Pb, Pc]
 refine wpAnyH_done (by kernel_rfl) ?_ _
 go_wp2
 go_ret
 exact ⟨rfl, Hl⟩
theorem f16_res : Tryz.f16.results = #[.cell 2 36] := rfl
theorem DU.promised (h : DU w0 w FA FD b ab db n P x) : Calls Tryz.prog 16 #[ptr b] w fun e w' => e = .returned (bV x.a.p) ∧ Below w.heap.size w w' := by
 obtain ⟨W1, HW1⟩ := Nh (w.alloc (.cells #[.int .i64 0, .int .i64 0] 36))
 have hb1 : Below w.heap.size w W1 := by rw [← HW1.out]; exact bel1 w _
 have hr : W1.heap[w.heap.size]? = some (.cells #[.int .i64 0, .int .i64 0] 36 (0, 0)) := by rw [← HW1.out]; exact heap_alloc_last w _
 obtain ⟨⟨c0, _⟩, _⟩ := row7 (h.keep hb1).row
 have hp := (h.keep hb1).a.promised
 have HB1 := Hf hb1
 have HR := Hf hr
 clear h hb1 hr
 go_enter Tryz.func16, Tryz.ntmps16
 go_upto_region 1 with fail
 rw [HW1.out]; clear HW1
 go_wp2_with fail
 refine hp.mono ?_; rintro e w2 ⟨rfl, hb2⟩
 have hr2 := Br HR.out hb2
 obtain ⟨⟨d0, d1⟩, df⟩ := row2 hr2
 have f0 := df 0
 have f1 := df 1
 have HB2 := Hf (Bu HB1.out hb2 Lr)
 have HR2 := Hf hr2
 clear hp hb2 HR hr2 df; go_wp2
 refine bodyPost_ret (v := bV x.a.p) ?_ rfl ⟨rfl, (HB2.out.setCell Lr _).setCell Lr _⟩
 exact results_cell_row f16_res _ _ w.heap.size 36 _ (0, 0) _ rfl (heap_setCell_same _ w.heap.size 1 _ _ _ (heap_setCell_same w2 w.heap.size 0 _ _ _ HR2.out)) Tryz.underlying36 rfl Na.Tryz.size36
end
end Go.Proofs.YtlnedgjikkhplaaGreat.Du
namespace Go.Proofs.YtlnedgjikkhplaaGreat.Ns
open Go.Shelf
def Tryz.lays105_ren : Go.Shelf.Ren := ⟨fun | 105 => 121 | 212 => 82 | 99 => 159 | 165 => 85 | 166 => 86 | 170 => 160 | 169 => 88 | 263 => 129 | 264 => 130 | 206 => 193 | 240 => 132 | 241 => 133 | 276 => 166 | 277 => 167 | n => n, fun | 9 => 9 | 3 => 3 | 4 => 4 | 20 => 20 | 0 => 0 | 46 => 115 | 109 => 139 | 5 => 5 | 72 => 148 | 76 => 152 | 51 => 196 | 146 => 197 | 53 => 51 | 148 => 199 | 70 => 146 | 37 => 138 | 75 => 151 | 127 => 206 | 164 => 227 | 80 => 154 | n => n, fun | n => n⟩
theorem Tryz.lays105 : Go.Proofs.Lays.n105 Tryz.prog Tryz.lays105_ren := {
 mixed := by kernel_rfl
 f99 := Tryz.func159.trans (congrArg some (by kernel_rfl))
 f105 := Tryz.func121.trans (congrArg some (by kernel_rfl))
 f165 := Tryz.func85.trans (congrArg some (by kernel_rfl))
 f166 := Tryz.func86.trans (congrArg some (by kernel_rfl))
 f169 := Tryz.func88.trans (congrArg some (by kernel_rfl))
 f170 := Tryz.func160.trans (congrArg some (by kernel_rfl))
 f206 := Tryz.func193.trans (congrArg some (by kernel_rfl))
 f212 := Tryz.func82.trans (congrArg some (by kernel_rfl))
 f240 := Tryz.func132.trans (congrArg some (by kernel_rfl))
 f241 := Tryz.func133.trans (congrArg some (by kernel_rfl))
 f263 := Tryz.func129.trans (congrArg some (by kernel_rfl))
 f264 := Tryz.func130.trans (congrArg some (by kernel_rfl))
 f276 := Tryz.func166.trans (congrArg some (by kernel_rfl))
 f277 := Tryz.func167.trans (congrArg some (by kernel_rfl))
 t0 := Tryz.underlying0
 a0 := Tryz.isAgg0
 z0 := Tryz.sizeOf0
 v0 := Tryz.zeroValue0
 t3 := Tryz.underlying3
 a3 := Tryz.isAgg3
 z3 := Tryz.sizeOf3
 v3 := Tryz.zeroValue3
 t4 := Tryz.underlying4
 a4 := Tryz.isAgg4
 z4 := Tryz.sizeOf4
 v4 := Tryz.zeroValue4
 t5 := Tryz.underlying5
 a5 := Tryz.isAgg5
 z5 := Tryz.sizeOf5
 v5 := Tryz.zeroValue5
 t9 := Tryz.underlying9
 a9 := Tryz.isAgg9
 z9 := Tryz.sizeOf9
 v9 := Tryz.zeroValue9
 t20 := Tryz.underlying20
 a20 := Tryz.isAgg20
 z20 := Tryz.sizeOf20
 v20 := Tryz.zeroValue20
 t37 := Tryz.underlying138
 a37 := Tryz.isAgg138
 z37 := Tryz.sizeOf138
 v37 := Tryz.zeroValue138
 t46 := Tryz.underlying115
 a46 := Tryz.isAgg115
 z46 := Tryz.sizeOf115
 v46 := Tryz.zeroValue115
 t51 := Tryz.underlying196
 a51 := Tryz.isAgg196
 z51 := Tryz.sizeOf196
 v51 := Tryz.zeroValue196
 t53 := Tryz.underlying51
 a53 := Tryz.isAgg51
 z53 := Tryz.sizeOf51
 v53 := Tryz.zeroValue51
 t70 := Tryz.underlying146
 a70 := Tryz.isAgg146
 z70 := Tryz.sizeOf146
 v70 := Tryz.zeroValue146
 t72 := Tryz.underlying148
 a72 := Tryz.isAgg148
 z72 := Tryz.sizeOf148
 v72 := Tryz.zeroValue148
 t75 := Tryz.underlying151
 a75 := Tryz.isAgg151
 z75 := Tryz.sizeOf151
 v75 := Tryz.zeroValue151
 t76 := Tryz.underlying152
 a76 := Tryz.isAgg152
 z76 := Tryz.sizeOf152
 v76 := Tryz.zeroValue152
 t109 := Tryz.underlying139
 a109 := Tryz.isAgg139
 z109 := Tryz.sizeOf139
 v109 := Tryz.zeroValue139
 t127 := Tryz.underlying206
 a127 := Tryz.isAgg206
 z127 := Tryz.sizeOf206
 v127 := Tryz.zeroValue206
 t146 := Tryz.underlying197
 a146 := Tryz.isAgg197
 z146 := Tryz.sizeOf197
 v146 := Tryz.zeroValue197
 t148 := Tryz.underlying199
 a148 := Tryz.isAgg199
 z148 := Tryz.sizeOf199
 v148 := Tryz.zeroValue199
 t164 := Tryz.underlying227
 a164 := Tryz.isAgg227
 z164 := Tryz.sizeOf227
 v164 := Tryz.zeroValue227 }
theorem Tryz.Builder_Extra_105 : Builder.Extra Tryz.prog Tryz.lays105_ren := {
 sizeBuilder := by kernel_rfl
 liesBuilder := by kernel_rfl
 t5 := Tryz.underlying5
 a5 := Tryz.isAgg5
 z5 := Tryz.sizeOf5
 v5 := Tryz.zeroValue5
 infoByte := by kernel_rfl
 cellsByte := by kernel_rfl
 sizeByte := by kernel_rfl
 neB5 := by decide }
open Go.RowKit Go.Lib in
theorem Tryz.strings_Repeat (s : ByteArray) (c : Nat) (w : World) (hc : c ≤ 9223372036854775807) (hlen : s.size * c ≤ 140737488355328) :
  Calls Tryz.prog 121 #[.string s, .int .i64 c] w fun e w' => e = .returned (.string ⟨(Lib.repeatL s.data.toList c).toArray⟩) ∧ Below w.heap.size w w' := Any.strings_Repeat Tryz.lays105 Tryz.Builder_Extra_105 s c w hc hlen
end Go.Proofs.YtlnedgjikkhplaaGreat.Ns
namespace Go.Proofs.YtlnedgjikkhplaaGreat.Nc
open Go.RowKit
def ofL (l : List UInt8) : ByteArray := ⟨l.toArray⟩
theorem ofL_data (l : List UInt8) : (ofL l).data.toList = l := by simp [ofL]
theorem ofL_size (l : List UInt8) : (ofL l).size = l.length := by simp [ofL, ByteArray.size]
theorem ofL_of (s : ByteArray) : ofL s.data.toList = s := by simp [ofL]
theorem len_data (s : ByteArray) : s.data.toList.length = s.size := Array.length_toList
theorem ofL_app (a b : List UInt8) : ofL a ++ ofL b = ofL (a ++ b) := by apply ByteArray.ext; simp [ofL]
theorem ofL_drop (l : List UInt8) (n m : Nat) (h : l.length ≤ m) : (ofL l).extract n m = ofL (l.drop n) := by
 apply ByteArray.ext
 apply Array.ext'
 simp [ofL, ByteArray.data_extract]
 rw [List.take_of_length_le (by simp; omega)]
theorem ofL_take (l : List UInt8) (n : Nat) : (ofL l).extract 0 n = ofL (l.take n) := by
 apply ByteArray.ext
 apply Array.ext'
 simp [ofL, ByteArray.data_extract]
def RIs (w : World) (b : Nat) (l : List UInt8) (e : Int) : Prop := w.heap[b]? = some (.cells #[.string (ofL l), .int .i64 e] 208 (0, 0))
theorem RIs.lt {w : World} {b : Nat} {l : List UInt8} {e : Int} (h : RIs w b l e) : b < w.heap.size := by
 rcases Nat.lt_or_ge b w.heap.size with h' | h'
 ·exact h'
 ·rw [RIs, Array.getElem?_eq_none h'] at h; cases h
theorem RIs.c0 {w : World} {b : Nat} {l : List UInt8} {e : Int} (h : RIs w b l e) : w.cell? ⟨b, 0, none⟩ = some (.string (ofL l)) := by
 rw [cell_of_row w b 0 _ _ _ h]; rfl
theorem RIs.c1 {w : World} {b : Nat} {l : List UInt8} {e : Int} (h : RIs w b l e) : w.cell? ⟨b, 1, none⟩ = some (.int .i64 e) := by
 rw [cell_of_row w b 1 _ _ _ h]; rfl
theorem RIs.free {w : World} {b : Nat} {l : List UInt8} {e : Int} (h : RIs w b l e) (j : Nat) : w.frozen? ⟨b, j, none⟩ = false := frozen_of_row w b j _ _ h
theorem RIs.set0 {w : World} {b : Nat} {l : List UInt8} {e : Int} (h : RIs w b l e) (r : List UInt8) : RIs (w.setCell ⟨b, 0, none⟩ (.string (ofL r))) b r e := by
 unfold RIs
 exact heap_setCell_same w b 0 _ _ _ h
theorem RIs.set1 {w : World} {b : Nat} {l : List UInt8} {e : Int} (h : RIs w b l e) (k : Int) : RIs (w.setCell ⟨b, 1, none⟩ (.int .i64 k)) b l k := by
 unfold RIs
 exact heap_setCell_same w b 1 _ _ _ h
theorem RIs.keep {w w' : World} {b : Nat} {l : List UInt8} {e : Int} (h : RIs w b l e) (hb : w'.heap[b]? = w.heap[b]?) : RIs w' b l e := by
 unfold RIs; rw [hb]; exact h
theorem grown_set (w : World) (g j : Nat) (u : Value) : w.grownBy (w.setCell ⟨g, j, none⟩ u) (some g) :=
 ⟨rfl, rfl, rfl, by simp, fun k _ hk => heap_setCell_other w ⟨g, j, none⟩ k u (fun e => hk (by simp [e]))⟩
theorem grown_trans {a b c : World} {r : Option Nat} (h : a.grownBy b r) (k : b.grownBy c r) : a.grownBy c r :=
 ⟨k.os.trans h.os, k.tape.trans h.tape, k.output.trans h.output, Nat.le_trans h.size k.size, fun i hi hr => (k.block i (Nat.lt_of_lt_of_le hi h.size) hr).trans (h.block i hi hr)⟩
theorem grown_drew {a b : World} {r : Option Nat} (h : a.grownBy b r) : a.grownBy b.drew r := ⟨h.os, h.tape, h.output, h.size, h.block⟩
theorem grown_below {a b : World} {r : Option Nat} (h : Below a.heap.size a b) : a.grownBy b r := ⟨h.os, h.tape, h.output, h.size, fun k hk _ => h.block k hk⟩
theorem below_grown {B : Nat} {a b : World} {r : Option Nat} (h : a.grownBy b r) (hB : B ≤ a.heap.size) (hr : ∀ k, r = some k → B ≤ k) : Below B a b := (Below.refl B a).grown h hB hr
abbrev ptr (b : Nat) : Value := .pointer (some ⟨b, 0, none⟩)
theorem left_any (b : Nat) (l : List UInt8) (e : Int) (w : World) (hr : RIs w b l e) :
  Calls Tryz.prog 91 #[.pointer (some ⟨b, 0, none⟩)] w fun x w' => x = .returned (.int .i64 l.length) ∧ w' = w := by
 have h0 := hr.c0
 go_enter Tryz.func91, Tryz.ntmps91
 go_wp2
 go_ret
 rw [ofL_size]
 exact ⟨rfl, rfl⟩
theorem fail_any (b : Nat) (l : List UInt8) (e : Int) (w : World) (hr : RIs w b l e) :
  Calls Tryz.prog 171 #[.pointer (some ⟨b, 0, none⟩)] w fun x w' => x = .returned (.tuple #[]) ∧ RIs w' b [] 3 ∧ w.grownBy w' (some b) := by
 have h0 := hr.c0
 have h1 := hr.c1
 have f0 := hr.free 0
 have f1 := hr.free 1
 have R := (hr.set1 3).set0 []
 have G := grown_trans (grown_set w b 1 (.int .i64 3)) (grown_set _ b 0 (.string (ofL [])))
 go_enter Tryz.func171, Tryz.ntmps171
 go_wp2
 go_end0
 exact ⟨rfl, R, G⟩
theorem take_any (b : Nat) (l : List UInt8) (e : Int) (n : Nat) (w : World) (hr : RIs w b l e) (hn : n ≤ l.length) (hl : l.length ≤ 140737488351232) :
  Calls Tryz.prog 169 #[.pointer (some ⟨b, 0, none⟩), .int .i64 n] w fun x w' => x = .returned (.string (ofL (l.take n))) ∧ RIs w' b (l.drop n) e ∧ w.grownBy w' (some b) := by
 by_cases h : n = 0
 ·subst h
  go_enter Tryz.func169, Tryz.ntmps169
  go_wp2
  go_ret
  exact ⟨rfl, hr, World.grownBy.refl _ _⟩
 ·have h0 := hr.c0
  have f0 := hr.free 0
  have hz := ofL_size l
  have hs : n ≤ (ofL l).size := by omega
  have hd : ((n : Int) == 0) = false := by simp; omega
  have HT : Hid (_ = _) := ofL_take l n
  have HD : Hid ((ofL l).extract n (ofL l).size = ofL (l.drop n)) := ofL_drop l n _ (by omega)
  have R : RIs (w.setCell ⟨b, 0, none⟩ (.string ((ofL l).extract n (ofL l).size))) b (l.drop n) e := by rw [HD.out]; exact hr.set0 _
  have G := grown_set w b 0 (.string ((ofL l).extract n (ofL l).size))
  go_enter Tryz.func169, Tryz.ntmps169
  go_wp2
  go_ret
  rw [HT.out]
  exact ⟨rfl, R, G⟩
def lf {α : Type} (o : Option (α × List UInt8)) : List UInt8 := match o with | some (_, r) => r | none => []
def er {α : Type} (o : Option (α × List UInt8)) (e : Int) : Int := match o with | some _ => e | none => 3
def vl {α : Type} (d : α) (o : Option (α × List UInt8)) : α := match o with | some (x, _) => x | none => d
theorem ofL_first (c : UInt8) (r : List UInt8) : ofL ((c :: r).take 1) = ofL [c] := rfl
theorem byte_e (b : Nat) (e : Int) (w : World) (hr : RIs w b [] e) :
  Calls Tryz.prog 137 #[.pointer (some ⟨b, 0, none⟩)] w fun x w' => x = .returned (.int .i64 0) ∧ RIs w' b [] 3 ∧ w.grownBy w' (some b) := by
 go_enter Tryz.func137, Tryz.ntmps137
 go_wp2_with fail
 refine (left_any b [] e w hr).mono ?_; rintro x w1 ⟨rfl, rfl⟩
 go_wp2_with fail
 refine (fail_any b [] e w1 hr).mono ?_; rintro x w2 ⟨rfl, hr2, hg⟩
 go_wp2
 go_ret
 exact ⟨rfl, hr2, hg⟩
theorem byte_c (b : Nat) (c : UInt8) (r : List UInt8) (e : Int) (w : World) (hr : RIs w b (c :: r) e) (hl : (c :: r).length ≤ 140737488351232) :
  Calls Tryz.prog 137 #[.pointer (some ⟨b, 0, none⟩)] w fun x w' => x = .returned (.int .i64 c.toNat) ∧ RIs w' b r e ∧ w.grownBy w' (some b) := by
 have hn : ((((c :: r).length : Nat) : Int) == 0) = false := by simp; omega
 generalize hL : (c :: r).length = n at hn
 have hz : 0 < (ofL [c]).size := by rw [ofL_size]; exact Nat.one_pos
 have hc : (ofL [c])[0].toNat < 256 := c.toNat_lt
 go_enter Tryz.func137, Tryz.ntmps137
 go_wp2_with fail
 refine (left_any b (c :: r) e w hr).mono ?_; rintro x w1 ⟨rfl, rfl⟩
 rw [hL]
 go_wp2_with fail
 refine (take_any b (c :: r) e 1 w1 hr (by simp) hl).mono ?_; rintro x w2 ⟨rfl, hr2, hg⟩
 rw [ofL_first]; go_wp2
 go_ret
 exact ⟨rfl, hr2, hg⟩
theorem ret_int {k : IntKind} {a b : Int} (h : a = b) : Ending.returned (.int k a) = .returned (.int k b) := by rw [h]
theorem signed_any (u : Nat) (hu : u < 18446744073709551616) (w : World) :
  Calls Tryz.prog 197 #[.int .u64 u] w fun x w' => x = .returned (.int .i64 (M.sg u)) ∧ w' = w := by
 by_cases h : u % 2 = 1
 ·have hd : (((u : Int) % 2) == 1) = true := by simp; omega
  have e : M.sg u = -((u / 2 : Nat) : Int) - 1 := by rw [M.sg, if_pos h]
  rw [e]
  have HN : Hid (_ = _) := Lib.i64_not (u / 2) (by omega)
  go_enter Tryz.func197, Tryz.ntmps197
  go_wp2
  go_ret
  exact ⟨ret_int HN.out, rfl⟩
 ·have hd : (((u : Int) % 2) == 1) = false := by simp; omega
  have e : M.sg u = ((u / 2 : Nat) : Int) := by rw [M.sg, if_neg h]
  rw [e]
  go_enter Tryz.func197, Tryz.ntmps197
  go_wp2
  go_ret
  exact ⟨rfl, rfl⟩
theorem acc_bits (x k c : Nat) (hx : x < 18446744073709551616) : bits .or .u64 (x : Int) (IntKind.u64.wrap ((c : Int) % 128 * 2 ^ (7 * k))) = ((M.acc x k c : Nat) : Int) := by
 have e : IntKind.u64.wrap ((c : Int) % 128 * 2 ^ (7 * k)) = ((c % 128 * 2 ^ (7 * k) % 18446744073709551616 : Nat) : Int) := by
  rw [IntKind.wrap_u64]
  simp
 rw [e, u64_or_nat x _ hx (Nat.mod_lt _ (by decide))]
 rfl
theorem int_any (b : Nat) (l : List UInt8) (e : Int) (w : World) (hr : RIs w b l e) (hl : l.length ≤ 140737488351232) :
  Calls Tryz.prog 172 #[.pointer (some ⟨b, 0, none⟩)] w fun x w' => x = .returned (.int .i64 (vl 0 (M.int l))) ∧ RIs w' b (lf (M.int l)) (er (M.int l) e) ∧ w.grownBy w' (some b) := by
 have HI : Hid (M.int l = (M.rd 10 0 0 l).map fun x => (M.sg x.1, x.2)) := rfl
 go_enter Tryz.func172, Tryz.ntmps172
 go_wp2
 go_loopw [3, 6] (fun u i wr => ∃ (k x : Nat) (l' : List UInt8), k ≤ 10 ∧ i = .int .i64 k ∧ u = .int .u64 x ∧ x < 18446744073709551616 ∧ (k = 0 → x = 0) ∧ l'.length ≤ 140737488351232 ∧ RIs wr b l' e ∧ w.grownBy wr (some b) ∧ Hid (M.rd (10 - k) k x l' = M.rd 10 0 0 l)) (fun _ i _ => 10 - (intOf i).toNat)
 case atStart => exact ⟨0, 0, l, by omega, rfl, rfl, by omega, fun _ => rfl, hl, hr, World.grownBy.refl _ _, rfl⟩
 case round =>
  obtain ⟨k, x, l', hk, rfl, rfl, hx, hx0, hl', hr', hg, hrd⟩ := hrel
  by_cases hlt : k < 10
  ·cases l' with
   | nil =>
    have HN : Hid (M.int l = none) := by
     show _ = _
     rw [HI.out, ← hrd.out, show 10 - k = (9 - k) + 1 by omega]; rfl
    by_cases h0 : k = 0
    ·subst h0
     have := hx0 rfl
     subst this
     go_wp2_with fail
     refine (byte_e b e _ hr').mono ?_; rintro y w1 ⟨rfl, hr1, hg1⟩
     go_wp2_with fail
     refine (signed_any 0 (by decide) _).mono ?_; rintro y w2 ⟨rfl, rfl⟩
     go_wp2
     go_ret
     rw [HN.out]
     exact ⟨rfl, hr1, grown_trans hg hg1⟩
    ·have h0' : decide ((0 : Int) < (k : Int)) = true := by simp; omega
     go_wp2_with fail
     refine (byte_e b e _ hr').mono ?_; rintro y w1 ⟨rfl, hr1, hg1⟩
     go_wp2_with fail
     refine (fail_any b [] 3 _ hr1).mono ?_; rintro y w2 ⟨rfl, hr2, hg2⟩
     go_wp2
     go_ret
     rw [HN.out]
     exact ⟨rfl, hr2, grown_trans hg (grown_trans hg1 hg2)⟩
   | cons c l2 =>
    have hc2 : c.toNat < 256 := c.toNat_lt
    have ht : ((c.toNat : Int).tmod 128) = ((c.toNat % 128 : Nat) : Int) := rfl
    have ha := acc_bits x k c.toNat hx
    go_wp2_with fail
    refine (byte_c b c l2 e _ hr' hl').mono ?_; rintro y w1 ⟨rfl, hr1, hg1⟩
    by_cases hc : 128 ≤ c.toNat
    ·have hdc : decide ((128 : Int) ≤ (c.toNat : Int)) = true := by simp; omega
     go_wp2
     go_roundw
     case rel =>
      refine ⟨k + 1, M.acc x k c.toNat, l2, by omega, by go_num, rfl, M.acc_lt _ _ _ hx, fun h => by omega, by simp at hl'; omega, hr1, grown_trans hg hg1, ?_⟩
      show _ = _
      rw [← hrd.out, show 10 - k = (10 - (k + 1)) + 1 by omega]
      simp only [M.rd]
      rw [if_pos hc]
     case measure => simp [intOf]; omega
    ·have hdc : decide ((128 : Int) ≤ (c.toNat : Int)) = false := by simp; omega
     by_cases hbad : (0 < k ∧ c.toNat = 0) ∨ (k = 9 ∧ 1 < c.toNat)
     ·have HN : Hid (M.int l = none) := by
       show _ = _
       rw [HI.out, ← hrd.out, show 10 - k = (9 - k) + 1 by omega]
       simp only [M.rd]
       rw [if_neg hc, if_pos hbad]
       rfl
      have d1 : 0 < k := by omega
      have d2 : ((c.toNat : Int) == 0) = true ∨ ((c.toNat : Int) == 0) = false ∧ ((k : Int) == 9) = true ∧ decide ((1 : Int) < (c.toNat : Int)) = true := by simp; omega
      clear hbad
      rcases d2 with d2 | ⟨d2, d3, d4⟩
      all_goals
       go_wp2_with fail
       refine (fail_any b l2 e _ hr1).mono ?_; rintro y w2 ⟨rfl, hr2, hg2⟩
       go_wp2
       go_ret
       rw [HN.out]
       exact ⟨rfl, hr2, grown_trans hg (grown_trans hg1 hg2)⟩
     ·have HN : Hid (M.int l = some (M.sg (M.acc x k c.toNat), l2)) := by
       show _ = _
       rw [HI.out, ← hrd.out, show 10 - k = (9 - k) + 1 by omega]
       simp only [M.rd]
       rw [if_neg hc, if_neg hbad]
       rfl
      have d1 : (0 < k) = False ∧ ((k : Int) == 9) = false ∨ 0 < k ∧ ((c.toNat : Int) == 0) = false ∧ ((k : Int) == 9) = false ∨ 0 < k ∧ ((c.toNat : Int) == 0) = false ∧ ((k : Int) == 9) = true ∧ decide ((1 : Int) < (c.toNat : Int)) = false := by simp; omega
      clear hbad
      rcases d1 with ⟨d1, d2⟩ | ⟨d1, d2, d3⟩ | ⟨d1, d2, d3, d4⟩
      all_goals
       go_wp2_with fail
       refine (signed_any (M.acc x k c.toNat) (M.acc_lt _ _ _ hx) _).mono ?_; rintro y w2 ⟨rfl, rfl⟩
       go_wp2
       go_ret
       rw [HN.out]
       exact ⟨rfl, hr1, grown_trans hg hg1⟩
  ·go_wp2_with fail
   refine (fail_any b l' e _ hr').mono ?_; rintro y w2 ⟨rfl, hr2, hg2⟩
   have HN : Hid (M.int l = none) := by
    show _ = _
    rw [HI.out, ← hrd.out, show 10 - k = 0 by omega]; rfl
   go_wp2
   go_ret
   rw [HN.out]
   exact ⟨rfl, hr2, grown_trans hg hg2⟩
theorem Tryz.info5 : (Tryz.prog.info? 5).map (fun i => (i.zero, i.size, i.bytes)) = some (some (.int .u8 0), 1, 1) := by kernel_rfl
theorem Tryz.info3 : (Tryz.prog.info? 3).map (fun i => (i.zero, i.size, i.bytes)) = some (some (.int .i64 0), 1, 8) := by kernel_rfl
theorem Tryz.info9 : (Tryz.prog.info? 9).map (fun i => (i.zero, i.size, i.bytes)) = some (some (.string ByteArray.empty), 1, 16) := by kernel_rfl
theorem cloneLite_any (s : ByteArray) (w : World) (hlim : s.size ≤ 140737488351232) :
  Calls Tryz.prog 168 #[.string s] w fun e w' => e = .returned (.string s) ∧ Below w.heap.size w w' := by
 by_cases h0 : s.size = 0
 ·have hs : s = ⟨#[]⟩ := by
   apply ByteArray.ext
   exact Array.eq_empty_of_size_eq_zero h0
  subst hs
  go_enter Tryz.func168, Tryz.ntmps168
  go_wp2
  go_ret
  exact ⟨rfl, Below.refl _ _⟩
 ·obtain ⟨i0, hi, hz0, hz1, hz2⟩ := info_parts Tryz.info5
  have hinfo : (Tryz.prog.info? 5).map (·.size) = some 1 := by rw [hi]; simp [hz1]
  have hco : Tryz.prog.cellsOf 5 = 1 := by simp [Program.cellsOf, hi, hz1]
  obtain ⟨M, hM⟩ : ∃ M, M = madeCells (Value.int .u8 0).cells (((s.size : Nat) : Int).toNat * i0.size) := ⟨_, rfl⟩
  have hMs : M.size = s.size := by rw [hM, size_madeCells, hz1]; simp
  have hmk : ∀ W : World, (Instr.makeSlice 138 (.int .i64 (s.size : Int)) (.int .i64 (s.size : Int))).run Tryz.prog W = .ok (.slice (some ⟨W.heap.size, 0, none⟩) s.size s.size) (W.alloc (.cells M 5)) := fun W => by
   have h := run_make (P := Tryz.prog) W 138 5 i0 (.int .u8 0) Tryz.underlying138 hi hz0 .i64 .i64 (s.size : Int) (s.size : Int) (by omega) (by omega) (by rw [hz2]; omega) (by omega)
   rw [← hM] at h
   simpa using h
  clear hM
  have hcp := Lib.run_copy_row_string (P := Tryz.prog) (w.alloc (.cells M 5)) 138 9 3 5 w.heap.size 0 s.size s.size s M 5 Tryz.underlying138 hinfo (heap_alloc_new w _) Lr (by omega)
  obtain ⟨Y, hY⟩ : ∃ Y, Y = (M.toList.take 0 ++ Lib.byteCells s.data.toList ++ M.toList.drop (0 + s.size)).toArray := ⟨_, rfl⟩
  rw [← hY] at hcp
  have hYl : Y.toList = Lib.byteCells s.data.toList := by
   rw [hY, List.toList_toArray, List.take_zero, List.nil_append, List.drop_of_length_le (by rw [Array.length_toList]; omega), List.append_nil]
  have hYs : Y.size = s.size := by rw [← Array.length_toList, hYl, Lib.byteCells_length, ← Lib.size_eq]
  have hgY : ((w.alloc (.cells M 5)).setRow w.heap.size Y).heap[w.heap.size]? = some (.cells Y 5 (0, 0)) := setRow_heap _ _ M _ 5 (0, 0) (heap_alloc_new w _)
  have hne : s.data.toList ≠ [] := fun e => h0 (by rw [Lib.size_eq, e]; rfl)
  have hUS := Lib.run_unsafeString_row (P := Tryz.prog) ((w.alloc (.cells M 5)).setRow w.heap.size Y) 206 3 9 5 Tryz.underlying206 hco w.heap.size Y.size (by unfold World.shape?; rw [hgY]) s.data.toList hne (by rw [← Lib.size_eq]; omega) (by rw [← Lib.size_eq]; omega)
   (fun j x hx => Lib.cells_of_row hgY Y.size j _ (by rw [List.take_of_length_le (by rw [Array.length_toList]; exact Nat.le_refl _), hYl]; simp [Lib.byteCells, hx]))
  rw [← Lib.size_eq] at hUS; clear hY
  go_enter Tryz.func168, Tryz.ntmps168
  go_wp2
  go_ret
  have hb1 : Below w.heap.size w (w.alloc (.cells M 5)) := (Below.refl _ w).alloc Lr _
  have hb2 : Below w.heap.size (w.alloc (.cells M 5)) ((w.alloc (.cells M 5)).setRow w.heap.size Y) := ⟨rfl, rfl, rfl, by simp, fun k hk => setRow_other _ _ _ _ (by omega)⟩
  exact ⟨rfl, Lib.below_freeze (hb1.trans hb2) (p := ⟨w.heap.size, 0, none⟩) Lr _⟩
theorem clone_any (s : ByteArray) (w : World) (hs : s.size ≤ 140737488351232) :
  Calls Tryz.prog 134 #[.string s] w fun e w' => e = .returned (.string s) ∧ Below w.heap.size w w' := by
 go_enter Tryz.func134, Tryz.ntmps134
 go_wp2_with fail
 refine (cloneLite_any s w hs).mono ?_; rintro e w1 ⟨rfl, hb⟩
 go_wp2
 go_ret
 exact ⟨rfl, hb⟩
def lft (st : Option (List UInt8)) : List UInt8 := st.getD []
def ee (st : Option (List UInt8)) : Int := if st.isSome then 0 else 3
def RS (w : World) (b : Nat) (st : Option (List UInt8)) : Prop := RIs w b (lft st) (ee st)
def nx {α : Type} (o : Option (α × List UInt8)) : Option (List UInt8) := o.map (·.2)
theorem RS.lt {w : World} {b : Nat} {st : Option (List UInt8)} (h : RS w b st) : b < w.heap.size := RIs.lt h
theorem RS.c1 {w : World} {b : Nat} {st : Option (List UInt8)} (h : RS w b st) : w.cell? ⟨b, 1, none⟩ = some (.int .i64 (ee st)) := RIs.c1 h
theorem RS.keep {w w' : World} {b : Nat} {st : Option (List UInt8)} (h : RS w b st) (hb : w'.heap[b]? = w.heap[b]?) : RS w' b st := RIs.keep h hb
theorem RS.of {α : Type} {w : World} {b : Nat} {st : Option (List UInt8)} {o : Option (α × List UInt8)} (h : RIs w b (lf o) (er o (ee st))) (hn : st = none → o = none) : RS w b (nx o) := by
 cases o with
 | none => exact h
 | some p =>
  cases st with
  | none => cases hn rfl
  | some l => exact h
theorem int_rs (b : Nat) (st : Option (List UInt8)) (w : World) (hr : RS w b st) (hl : (lft st).length ≤ 140737488351232) :
  Calls Tryz.prog 172 #[.pointer (some ⟨b, 0, none⟩)] w fun x w' => x = .returned (.int .i64 (vl 0 (M.int (lft st)))) ∧ RS w' b (nx (M.int (lft st))) ∧ w.grownBy w' (some b) :=
 (int_any b (lft st) (ee st) w hr hl).mono fun e w' ⟨h1, h2, h3⟩ => ⟨h1, RS.of h2 (fun h => by subst h; rfl), h3⟩
theorem byte_rs (b : Nat) (st : Option (List UInt8)) (w : World) (hr : RS w b st) (hl : (lft st).length ≤ 140737488351232) :
  Calls Tryz.prog 137 #[.pointer (some ⟨b, 0, none⟩)] w fun x w' => x = .returned (.int .i64 (vl 0 (M.byte (lft st)))) ∧ RS w' b (nx (M.byte (lft st))) ∧ w.grownBy w' (some b) := by
 have hx : st = none → M.byte (lft st) = none := fun h => by subst h; rfl
 have hr' : RIs w b (lft st) (ee st) := hr
 generalize hq : lft st = l at *
 cases l with
 | nil => exact (byte_e b (ee st) w hr').mono fun e w' ⟨h1, h2, h3⟩ => ⟨h1, h2, h3⟩
 | cons c r => exact (byte_c b c r (ee st) w hr' hl).mono fun e w' ⟨h1, h2, h3⟩ => ⟨h1, RS.of (st := st) (o := M.byte (c :: r)) h2 hx, h3⟩
theorem count_any (b : Nat) (st : Option (List UInt8)) (w : World) (hr : RS w b st) (hl : (lft st).length ≤ 140737488351232) :
  Calls Tryz.prog 170 #[.pointer (some ⟨b, 0, none⟩)] w fun x w' => x = .returned (.int .i64 ((vl 0 (M.count (lft st)) : Nat) : Int)) ∧ RS w' b (nx (M.count (lft st))) ∧ w.grownBy w' (some b) := by
 cases hi : M.int (lft st) with
 | none =>
  have HN : Hid (_ = _) := M.count_none _ hi
  go_enter Tryz.func170, Tryz.ntmps170
  go_wp2_with fail
  refine (int_rs b st w hr hl).mono ?_; rintro e w1 ⟨rfl, hr1, hg1⟩
  rw [hi] at hr1 ⊢
  simp only [vl]
  go_wp2_with fail
  refine (left_any b [] 3 w1 hr1).mono ?_; rintro e w2 ⟨rfl, rfl⟩
  go_wp2
  go_ret
  rw [HN.out]
  exact ⟨rfl, hr1, hg1⟩
 | some p =>
  obtain ⟨n, r⟩ := p
  have hbd := M.int_bd _ _ _ hi
  have hrl := M.int_len _ _ _ hi
  by_cases h1 : n < 0
  ·have HN : Hid (_ = _) := M.count_low _ _ _ hi (.inl h1)
   have d1 : decide (n < 0) = true := by simpa using h1
   go_enter Tryz.func170, Tryz.ntmps170
   go_wp2_with fail
   refine (int_rs b st w hr hl).mono ?_; rintro e w1 ⟨rfl, hr1, hg1⟩
   rw [hi] at hr1 ⊢
   simp only [vl]
   go_wp2_with fail
   refine (fail_any b r 0 w1 hr1).mono ?_; rintro e w2 ⟨rfl, hr2, hg2⟩
   go_wp2
   go_ret
   rw [HN.out]
   exact ⟨rfl, hr2, grown_trans hg1 hg2⟩
  ·obtain ⟨m, rfl⟩ := Int.eq_ofNat_of_zero_le (show 0 ≤ n by omega)
   by_cases h2 : r.length < m
   ·have HN : Hid (_ = _) := M.count_low _ _ _ hi (.inr (by omega))
    have hrl2 : r.length ≤ 140737488351232 := by omega
    generalize hR : r.length = rl at *
    go_enter Tryz.func170, Tryz.ntmps170
    go_wp2_with fail
    refine (int_rs b st w hr hl).mono ?_; rintro e w1 ⟨rfl, hr1, hg1⟩
    rw [hi] at hr1 ⊢
    simp only [vl]
    go_wp2_with fail
    refine (left_any b r 0 w1 hr1).mono ?_; rintro e w2 ⟨rfl, rfl⟩
    rw [hR]
    go_wp2_with fail
    refine (fail_any b r 0 w2 hr1).mono ?_; rintro e w2 ⟨rfl, hr2, hg2⟩
    go_wp2
    go_ret
    rw [HN.out]
    exact ⟨rfl, hr2, grown_trans hg1 hg2⟩
   ·have HN : Hid (_ = _) := M.count_fits _ _ _ hi (by omega)
    have hrl2 : r.length ≤ 140737488351232 := by omega
    generalize hR : r.length = rl at *
    go_enter Tryz.func170, Tryz.ntmps170
    go_wp2_with fail
    refine (int_rs b st w hr hl).mono ?_; rintro e w1 ⟨rfl, hr1, hg1⟩
    rw [hi] at hr1 ⊢
    simp only [vl]
    go_wp2_with fail
    refine (left_any b r 0 w1 hr1).mono ?_; rintro e w2 ⟨rfl, rfl⟩
    rw [hR]; go_wp2
    go_ret
    rw [HN.out]
    exact ⟨rfl, hr1, hg1⟩
theorem text_any (b : Nat) (st : Option (List UInt8)) (w : World) (hr : RS w b st) (hl : (lft st).length ≤ 140737488351232) :
  Calls Tryz.prog 136 #[.pointer (some ⟨b, 0, none⟩)] w fun x w' => x = .returned (.string (ofL (vl [] (M.text (lft st))))) ∧ RS w' b (nx (M.text (lft st))) ∧ w.grownBy w' (some b) := by
 have HCL := M.count_len (lft st)
 have HT : Hid (M.text (lft st) = match M.count (lft st) with | none => none | some (n, r) => some (r.take n, r.drop n)) := rfl
 cases hc : M.count (lft st) with
 | none =>
  rw [hc] at HT
  go_enter Tryz.func136, Tryz.ntmps136
  go_wp2_with fail
  refine (count_any b st w hr hl).mono ?_; rintro e w1 ⟨rfl, hr1, hg1⟩
  rw [hc] at hr1 ⊢
  simp only [vl]
  go_wp2_with fail
  refine (take_any b [] 3 0 w1 hr1 (by simp) (by simp)).mono ?_; rintro e w2 ⟨rfl, hr2, hg2⟩
  go_wp2_with fail
  refine (clone_any _ w2 (by simp [ofL_size])).mono ?_; rintro e w3 ⟨rfl, hb3⟩
  go_wp2
  go_ret
  rw [HT.out]
  exact ⟨rfl, RIs.keep hr2 (hb3.block b (RIs.lt hr2)), grown_trans hg1 (grown_trans hg2 (grown_below hb3))⟩
 | some p =>
  obtain ⟨n, r⟩ := p
  rw [hc] at HT
  have hn := HCL n r hc
  go_enter Tryz.func136, Tryz.ntmps136
  go_wp2_with fail
  refine (count_any b st w hr hl).mono ?_; rintro e w1 ⟨rfl, hr1, hg1⟩
  rw [hc] at hr1 ⊢
  simp only [vl]
  go_wp2_with fail
  refine (take_any b r 0 n w1 hr1 (by omega) (by omega)).mono ?_; rintro e w2 ⟨rfl, hr2, hg2⟩
  go_wp2_with fail
  refine (clone_any _ w2 (by rw [ofL_size, List.length_take]; omega)).mono ?_; rintro e w3 ⟨rfl, hb3⟩
  go_wp2
  go_ret
  rw [HT.out]
  exact ⟨rfl, RIs.keep hr2 (hb3.block b (RIs.lt hr2)), grown_trans hg1 (grown_trans hg2 (grown_below hb3))⟩
end Go.Proofs.YtlnedgjikkhplaaGreat.Nc
