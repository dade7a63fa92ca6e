import Derived.Test.YtlnedgjikkhplaaGreatGP17
import Derived.ChangeShapes
import Derived.SizedLaws
import Derived.ChangeSlices
import Derived.SliceStrings
import Derived.ChangeOld
import Derived.OpenShut
set_option maxRecDepth 100000
set_option maxHeartbeats 8000000
set_option linter.unusedVariables false
set_option linter.unusedSimpArgs false
namespace Go.Proofs.YtlnedgjikkhplaaGreat.Du
open Go.RowKit
open Na (Fr AS XL vl bV vV Hf bel1 bel2 Bu Br row2 row4 blk OwnL AtL)
open Na.M (E V S S0)
open Ns.M (ofL)
open Nc.M (enc encT)
theorem Tryz.size148 : (Tryz.prog.info? 148).map (·.size) = some 2 := by kernel_rfl
theorem lies148 : liesAt Tryz.prog Tryz.prog.depth 148 (2 / Tryz.prog.cellsOf 148) 0 148 1 = true := by kernel_rfl
theorem copyCheck_used (b : Nat) (w : World) (c0 : w.cell? ⟨b, 0, none⟩ = some (.pointer (some ⟨b, 0, none⟩))) : Calls Tryz.prog 132 #[.pointer (some ⟨b, 0, none⟩)] w fun e w' => e = .returned (.tuple #[]) ∧ w' = w := by
 obtain ⟨j, hj, hjs⟩ := Option.map_eq_some_iff.1 Tryz.size148
 go_enter Tryz.func132, Tryz.ntmps132
 go_wp2; rw [Lib.run_neq_ptr_same w _ Tryz.underlying146 hj]
 go_wp2
 go_end0
 exact ⟨rfl, rfl⟩
theorem conv_there (w : World) (b : Nat) (hsh : w.shape? b = some (148, 2)) :
  (convert 146 227 (.pointer (some ⟨b, 0, none⟩))).run Tryz.prog w = .ok (.pointer (some ⟨b, 0, none⟩)) w := by
 obtain ⟨j, hj, hjs⟩ := Option.map_eq_some_iff.1 Tryz.size148
 have hne : j.size ≠ 0 := by rw [hjs]; decide
 simp [convert, run_underlying Tryz.underlying146, run_underlying Tryz.underlying227, Conv.unsafePointer, Conv.seenAt, viewAt, cellsIn, hsh, sizeOf, typeInfo, hj, hne]
theorem conv_here (w : World) (b : Nat) (hsh : w.shape? b = some (148, 2)) :
  (convert 227 146 (.pointer (some ⟨b, 0, none⟩))).run Tryz.prog w = .ok (.pointer (some ⟨b, 0, none⟩)) w := by
 obtain ⟨j, hj, _⟩ := Option.map_eq_some_iff.1 Tryz.size148
 simp [convert, run_underlying Tryz.underlying146, run_underlying Tryz.underlying227, Conv.unsafePointer, Conv.seenAt, viewAt, hsh, variablesAt, lies148, sizeOf, typeInfo, hj]
theorem copyCheck_fresh (b : Nat) (w : World) (h0 : w.cell? ⟨b, 0, none⟩ = some (.pointer none)) (hsh : w.shape? b = some (148, 2)) (hfz : w.frozen? ⟨b, 0, none⟩ = false) :
  Calls Tryz.prog 132 #[.pointer (some ⟨b, 0, none⟩)] w fun e w' => e = .returned (.tuple #[]) ∧ w' = w.setCell ⟨b, 0, none⟩ (.pointer (some ⟨b, 0, none⟩)) := by
 go_enter Tryz.func132, Tryz.ntmps132
 go_wp2; rw [conv_there w b hsh]
 simp only [Result.andThen]
 rw [Oper.upon_value]; go_wp2; rw [run_callFunc_extern Tryz.func166 (by kernel_rfl) (by kernel_rfl) (by kernel_rfl) (e := Extern.AbiNoEscape.same) (by kernel_rfl)]; rw [Lib.run_noEscape]
 simp only [Result.andThen]
 rw [Oper.upon_value]; go_wp2; rw [conv_here w b hsh]
 simp only [Result.andThen]
 rw [Oper.upon_value]; go_wp2
 go_end0
 exact ⟨rfl, rfl⟩
theorem copyCheck_any (B b : Nat) (bs : List Value) (w : World) (h : Lib.IsBuilder 148 5 B b bs w) :
  Calls Tryz.prog 132 #[.pointer (some ⟨b, 0, none⟩)] w fun e w' => e = .returned (.tuple #[]) ∧ (Lib.BuilderAt 148 5 B b (.pointer (some ⟨b, 0, none⟩)) bs w' ∧ Below B w w') := by
 rcases h with h | h
 ·refine (copyCheck_fresh b w h.cell0 h.shape h.frozen0).mono ?_
  rintro e w' ⟨rfl, rfl⟩
  exact ⟨rfl, h.used _, (Below.refl B w).setCell (p := ⟨b, 0, none⟩) h.1 _⟩
 ·refine (copyCheck_used b w h.cell0).mono ?_
  rintro e w' ⟨rfl, rfl⟩
  exact ⟨rfl, h, Below.refl B _⟩
theorem bwrite_any (B b : Nat) (bs : List Value) (s : ByteArray) (w : World) (h : Lib.IsBuilder 148 5 B b bs w) (hlen : bs.length + s.size ≤ 100000000) (hBw : B ≤ w.heap.size) :
  Calls Tryz.prog 86 #[.pointer (some ⟨b, 0, none⟩), .string s] w fun e w' => e = .returned (.tuple #[.int .i64 s.size, .nilIface]) ∧ Lib.BuilderAt 148 5 B b (.pointer (some ⟨b, 0, none⟩)) (bs ++ Lib.strCells s) w' ∧ Below B w w' := by
 obtain ⟨i0, hi, hz0, hz1, hz2⟩ := info_parts Na.Tryz.info5
 have hcc := copyCheck_any B b bs w h
 clear h
 go_enter Tryz.func86, Tryz.ntmps86
 go_wp2_with fail
 refine hcc.mono ?_; rintro e w1 ⟨rfl, ⟨hB, v, hbk, hown, hne⟩, hb01⟩
 have c1 : w1.cell? ⟨b, 1, none⟩ = some v := by rw [Lib.cell_of_heap hbk]; rfl
 have hBw1 : B ≤ w1.heap.size := Nat.le_trans hBw hb01.size
 have HB01 := Hf hb01
 clear hcc hb01
 go_wp2_with (at_builtin; refine Lib.wpList_append_own_string _ rfl _ _ 138 9 rfl B 5 i0 Tryz.underlying138 Tryz.underlying9 hi hz0 hz1 hz2 _ _ _ rfl hown s rfl ?c3 ?c4 ?c5 ?_)
 case c3 => unfold maxLen; omega
 case c4 => omega
 case c5 => omega
 intro v' w2 hown' hgrow _
 have hlt : b < w1.heap.size := (Array.getElem?_eq_some_iff.1 hbk).1
 have hb2 : w2.heap[b]? = some (.cells #[.pointer (some ⟨b, 0, none⟩), v] 148 (0, 0)) := by
  rw [hgrow.block b hlt (fun e => hne e.symm)]
  exact hbk
 obtain ⟨⟨d0, d1⟩, df⟩ := row2 hb2
 have f1 := df 1
 obtain ⟨ao, n', cap, rfl⟩ : ∃ ao n' cap, v' = .slice ao n' cap := by
  rcases hown'.2 with ⟨hv, _⟩ | ⟨g, cap, cur, hv, _⟩
  ·exact ⟨_, _, _, hv⟩
  ·exact ⟨_, _, _, hv⟩
 have HK := Hf (And.intro (Lib.BuilderAt.put (T := 148) (e := 5) hB hb2 (bs' := bs ++ Lib.strCells s) (by simpa [Lib.strCells_length] using hown') (by decide)) (HB01.out.trans (((Below.refl B w1).grown hgrow hBw1 (fun k hk => (hown.lt k hk).1)).setCell (p := ⟨b, 1, none⟩) hB (.slice ao n' cap))))
 clear hown hown' hgrow hbk df hb2 HB01; go_wp2
 go_ret2
 exact ⟨rfl, HK.out⟩
def rk : R → Int | .inl _ => 1 | .inr (.inl _) => 2 | .inr (.inr _) => 3
def rsl : R → Int | .inl _ => 0 | .inr (.inl v) => v.s | .inr (.inr _) => 0
def ri : R → Int | .inl b => b.i | .inr (.inl v) => v.b.i | .inr (.inr _) => 0
def rt : R → Int | .inl b => b.t | .inr (.inl v) => v.b.t | .inr (.inr _) => 0
def rvv : R → ByteArray | .inl _ => ⟨#[]⟩ | .inr (.inl v) => v.v | .inr (.inr _) => ⟨#[]⟩
def ru : R → Int | .inl _ => 0 | .inr (.inl _) => 0 | .inr (.inr u) => u
theorem rcs_six (r : R) : rcs r = #[.int .i64 (rk r), .int .i64 (rsl r), .int .i64 (ri r), .int .i64 (rt r), .string (rvv r), .int .i64 (ru r)] := by cases r using R.split <;> rfl
def rl : Na.Ly R := ⟨6, fun r => [.int .i64 (rk r), .int .i64 (rsl r), .int .i64 (ri r), .int .i64 (rt r), .string (rvv r), .int .i64 (ru r)], fun _ => rfl, fun x v h => by simp at h; rcases h with rfl | rfl | rfl | rfl | rfl | rfl <;> rfl, by decide⟩
theorem getR {w : World} {a : Option Addr} {l : List R} (h : AtL rl w a l) (j : Nat) (hj : j < l.length) : ∃ b off, a = some ⟨b, off, none⟩ ∧ w.cell? ⟨b, off + j * 6, none⟩ = some (.int .i64 (rk l[j])) ∧ w.cell? ⟨b, off + j * 6 + 1, none⟩ = some (.int .i64 (rsl l[j])) ∧ w.cell? ⟨b, off + j * 6 + 2, none⟩ = some (.int .i64 (ri l[j])) ∧ w.cell? ⟨b, off + j * 6 + 3, none⟩ = some (.int .i64 (rt l[j])) ∧ w.cell? ⟨b, off + j * 6 + 4, none⟩ = some (.string (rvv l[j])) ∧ w.cell? ⟨b, off + j * 6 + 5, none⟩ = some (.int .i64 (ru l[j])) := by
 obtain ⟨b, off, e, h0⟩ := h j hj
 exact ⟨b, off, e, h0 0 (by decide), h0 1 (by decide), h0 2 (by decide), h0 3 (by decide), h0 4 (by decide), h0 5 (by decide)⟩
theorem rec_le (e k : Nat) (r : R) (he : e ≤ 2147483648) (hk : k ≤ 2147483648) (hr : Wf r) : (rec e k r).length ≤ 4400 := by
 have := raw_len e k r he hk hr
 rw [rec_len]; unfold sec
 omega
theorem recs_le (e : Nat) : ∀ (l : List R) (k : Nat), e ≤ 2147483648 → k + l.length ≤ 2147483648 → (∀ r ∈ l, Wf r) → (recs e k l).length ≤ l.length * 4400
 | [], k, _, _, _ => by simp [recs]
 | r :: l, k, he, hk, h => by
  rw [List.length_cons] at hk
  have h1 := rec_le e k r he (by omega) (h r (by simp))
  have h2 := recs_le e l (k + 1) he (by omega) fun x hx => h x (by simp [hx])
  rw [recs, List.length_append, List.length_cons]
  omega
theorem recs_step (e : Nat) (l : List R) (j : Nat) (hj : j < l.length) : recs e 0 (l.take (j + 1)) = recs e 0 (l.take j) ++ rec e j l[j] := by
 rw [List.take_succ_eq_append_getElem hj, recs_app, List.length_take, Nat.min_eq_left (by omega), Nat.zero_add, recs, recs, List.append_nil]
theorem str_cells (l : List UInt8) : Lib.strCells (ofL l) = Lib.byteCells l := by
 rw [Lib.strCells_eq]
 show Lib.byteCells (ofL l).data.toList = _
 rw [Ns.ofL_data]
theorem textOf_any (rs : List R) (e : Nat) (ad : Option Addr) (c : Nat) (w : World) (hx : AtL rl w ad rs) (he : e ≤ 2147483648) (hl : rs.length ≤ 10000) (hr : ∀ r ∈ rs, Wf r) :
  Calls Tryz.prog 68 #[.slice ad rs.length c, .int .i64 e] w fun x w' => x = .returned (.string (ofL (recs e 0 rs))) ∧ Below w.heap.size w w' := by
 obtain ⟨W2, HW2⟩ := Nh (w.alloc (.cells #[.pointer none, .slice none 0 0] 148))
 have HBD : Hid (Lib.IsBuilder 148 5 w.heap.size w.heap.size (Lib.byteCells (recs e 0 (rs.take 0))) W2) := .inl ⟨Nat.le_refl _, .slice none 0 0, by rw [← HW2.out]; exact heap_alloc_last w _, World.ownsRow_nil _ _ _ _, by simp [Value.ownBlock]⟩
 have HB2 : Hid (Below w.heap.size w W2) := by rw [← HW2.out]; exact bel1 w _
 have HX := Hf hx
 have HR := Hf hr
 have HE : Hid (recs e 0 (rs.take rs.length) = recs e 0 rs) := by show recs e 0 (rs.take rs.length) = _; rw [List.take_length]
 clear hx hr
 go_enter Tryz.func68, Tryz.ntmps68
 go_upto_region 2 with fail
 rw [HW2.out]; clear HW2; go_wp2
 go_loopw [10] (fun i wr => ∃ j : Nat, j ≤ rs.length ∧ i = .int .i64 j ∧ Lib.IsBuilder 148 5 w.heap.size w.heap.size (Lib.byteCells (recs e 0 (rs.take j))) wr ∧ Below w.heap.size w wr) (fun i _ => rs.length - (intOf i).toNat)
 case atStart => exact ⟨0, Nat.zero_le _, rfl, HBD.out, HB2.out⟩
 case round =>
  obtain ⟨j, hj, rfl, hBd, hbl⟩ := hrel
  clear HBD HB2
  by_cases hlt : j < rs.length
  ·obtain ⟨g, off, rfl, c0, c1, c2, c3, c4, c5⟩ := getR (HX.out.keep hbl) j hlt
   have hwf := HR.out _ (List.getElem_mem hlt)
   have ht := fun W => text_any e j rs[j] W he (by omega) hwf
   have hrl := rec_le e j rs[j] he (by omega) hwf
   have hrs := recs_le e (rs.take j) 0 he (by rw [List.length_take]; omega) fun r hr => HR.out r (List.mem_of_mem_take hr)
   rw [List.length_take, Nat.min_eq_left hj] at hrs
   have HST := Hf (recs_step e rs j hlt)
   obtain ⟨A', HA'⟩ : ∃ A', Hid (recs e 0 (rs.take (j + 1)) = A') := ⟨_, Hf rfl⟩
   rw [HA'.out] at HST
   have hsz : (ofL (rec e j rs[j])).size = (rec e j rs[j]).length := Ns.M.ofL_size _
   have HBd := Hf hBd
   have HBl := Hf hbl
   have hlw := hbl.size
   rw [rV, rcs_six] at ht
   generalize rec e j rs[j] = Q at *
   generalize rk rs[j] = z0 at *
   generalize rsl rs[j] = z1 at *
   generalize ri rs[j] = z2 at *
   generalize rt rs[j] = z3 at *
   generalize rvv rs[j] = z4 at *
   generalize ru rs[j] = z5 at *
   generalize recs e 0 (rs.take j) = A at *
   obtain ⟨W3, HW3⟩ := Nh (wr.alloc (.cells #[.int .i64 z0, .int .i64 z1, .int .i64 z2, .int .i64 z3, .string z4, .int .i64 z5] 97))
   have hr3 : W3.heap[wr.heap.size]? = some (.cells #[.int .i64 z0, .int .i64 z1, .int .i64 z2, .int .i64 z3, .string z4, .int .i64 z5] 97 (0, 0)) := by rw [← HW3.out]; exact heap_alloc_last wr _
   have HB3 : Hid (Below wr.heap.size wr W3) := by rw [← HW3.out]; exact bel1 wr _
   obtain ⟨⟨d0, d1, d2, d3, d4, d5⟩, _⟩ := row6 hr3
   clear hBd hbl HX HR hr3 hwf
   go_upto_region 5 with fail
   rw [HW3.out]; clear HW3 c0 c1 c2 c3 c4 c5
   go_wp2_with fail
   refine (ht _).mono ?_; rintro e w4 ⟨rfl, hb4⟩
   have hb5 := Bu HB3.out hb4 Lr
   have hBd5 : Lib.IsBuilder 148 5 w.heap.size w.heap.size (Lib.byteCells A) w4 := by
    rcases HBd.out with ⟨q1, v, q2, q3, q4⟩ | ⟨q1, v, q2, q3, q4⟩
    ·exact .inl ⟨q1, v, (hb5.block _ (Array.getElem?_eq_some_iff.1 q2).1).trans q2, Na.owns_keepBut q3 (fun k hk _ => hb5.block k hk), q4⟩
    ·exact .inr ⟨q1, v, (hb5.block _ (Array.getElem?_eq_some_iff.1 q2).1).trans q2, Na.owns_keepBut q3 (fun k hk _ => hb5.block k hk), q4⟩
   have hwr := bwrite_any w.heap.size w.heap.size _ (ofL Q) w4 hBd5 (by rw [Lib.byteCells_length, hsz]; omega) (by have := hb5.size; omega)
   rw [str_cells, ← Lib.byteCells_append, ← HST.out] at hwr
   have HB5 : Hid (Below w.heap.size w w4) := Bu HBl.out hb5 Lr
   clear ht hb4 hBd5 hb5 HBd HBl HB3 HST d0 d1 d2 d3 d4 d5
   go_wp2_with fail
   refine hwr.mono ?_; rintro e w6 ⟨rfl, hB6, hb6⟩
   have HQ := Hf (And.intro hB6 (HB5.out.trans hb6))
   clear hwr hB6 hb6 HB5; go_wp2
   go_roundw
   case rel =>
    refine ⟨j + 1, by omega, by simp, ?_, HQ.out.2⟩
    rw [HA'.out]
    exact .inr HQ.out.1
   case measure => simp [intOf]; omega
  ·have hjj : j = rs.length := by omega
   subst hjj
   have hstr := Ns.Tryz.Builder_String_any w.heap.size w.heap.size _ wr hBd hbl.size
   have HBl := Hf hbl
   clear hBd hbl; rw [HE.out] at hstr
   go_wp2_with fail
   refine hstr.mono ?_; rintro e w7 ⟨rfl, hb7⟩
   have HB7 := Hf (HBl.out.trans hb7)
   clear hstr hb7; go_wp2
   go_ret
   exact ⟨rfl, HB7.out⟩
end Go.Proofs.YtlnedgjikkhplaaGreat.Du
namespace Go.Proofs.YtlnedgjikkhplaaGreat.Nc
open Go.RowKit
theorem At.grown {α : Type} {w w' : World} {a : Option Addr} {f : α → Value} {l : List α} {b : Nat} (h : At w a f l) (hg : w.grownBy w' (some b)) (hb : ∀ k, blk a k → k ≠ b) : At w' a f l :=
 h.keepBut fun k hk hk2 => hg.block k hk (by have := hb k hk2; simpa using this)
theorem RS.grown {w w' : World} {b b' : Nat} {st : Option (List UInt8)} (h : RS w b st) (hg : w.grownBy w' (some b')) (hb : b ≠ b') : RS w' b st :=
 h.keep (hg.block b h.lt (by simpa using hb))
theorem RS.below {w w' : World} {b : Nat} {st : Option (List UInt8)} (h : RS w b st) (hb : Below w.heap.size w w') : RS w' b st := h.keep (hb.block b h.lt)
theorem enc_small (n : Int) (u : Nat) (h : M.zz n = u) (hu : u < 128) : M.enc n = [UInt8.ofNat u] := by rw [M.enc, h, M.grp_small u hu]
end Go.Proofs.YtlnedgjikkhplaaGreat.Nc
namespace Go.Proofs.YtlnedgjikkhplaaGreat.Nc
open Go.RowKit
namespace M
theorem text_size (l s r : List UInt8) (h : text l = some (s, r)) : s.length ≤ l.length := by
 have := text_only l s r h
 subst this
 simp [encT]
 omega
end M
end Go.Proofs.YtlnedgjikkhplaaGreat.Nc
namespace Go.Proofs.YtlnedgjikkhplaaGreat.Du
open Go.RowKit
open Na (Fr AS XL vl bV vV Hf bel1 bel2 Bu Br row2 row4 blk OwnL AtL)
open Na.M (E V S S0)
open Ns.M (ofL)
open Nc (RS)
open Nc.M (enc encT)
section
variable {w w' : World} {rb k : Nat} {l : List UInt8} {o : Obj}
theorem row_gr (hr : w.heap[k]? = some o) (hg : w.grownBy w' (some rb)) (hk : k ≠ rb) : w'.heap[k]? = some o := (hg.block k (Array.getElem?_eq_some_iff.1 hr).1 (fun e => hk (by cases e; rfl))).trans hr
theorem rInt (n : Int) (h : RS w rb (some (enc n ++ l))) (hn : I64 n) (hl : l.length ≤ 1000000) : Calls Tryz.prog 172 #[ptr rb] w fun e w' => e = .returned (.int .i64 n) ∧ RS w' rb (some l) ∧ w.grownBy w' (some rb) := by
 have h10 := enc_le hn
 refine (Nc.int_rs rb _ w h (by show (enc n ++ l).length ≤ _; rw [List.length_append]; omega)).mono ?_; rintro e w' ⟨h1, h2, h3⟩
 have e1 : Nc.M.int (Nc.lft (some (enc n ++ l))) = some (n, l) := Nc.M.int_enc n l hn
 rw [e1] at h1 h2
 exact ⟨h1, h2, h3⟩
theorem rByte (c : UInt8) (h : RS w rb (some (c :: l))) (hl : l.length ≤ 1000000) : Calls Tryz.prog 137 #[ptr rb] w fun e w' => e = .returned (.int .i64 (c.toNat : Int)) ∧ RS w' rb (some l) ∧ w.grownBy w' (some rb) := by
 refine (Nc.byte_rs rb _ w h (by show (c :: l).length ≤ _; rw [List.length_cons]; omega)).mono ?_; rintro e w' ⟨h1, h2, h3⟩
 exact ⟨h1, h2, h3⟩
theorem rText (s : List UInt8) (h : RS w rb (some (encT s ++ l))) (hs : s.length ≤ 60000) (hl : l.length ≤ 1000000) : Calls Tryz.prog 136 #[ptr rb] w fun e w' => e = .returned (.string (ofL s)) ∧ RS w' rb (some l) ∧ w.grownBy w' (some rb) := by
 have h10 := encT_le s hs
 refine (Nc.text_any rb _ w h (by show (encT s ++ l).length ≤ _; rw [List.length_append]; omega)).mono ?_; rintro e w' ⟨h1, h2, h3⟩
 have e1 : Nc.M.text (Nc.lft (some (encT s ++ l))) = some (s, l) := Nc.M.text_enc s l (by omega)
 rw [e1] at h1 h2
 exact ⟨h1, h2, h3⟩
end
theorem f173_res : Tryz.f173.results = #[.cell 2 36] := rfl
theorem readBallot_any (x : E) (rb : Nat) (l : List UInt8) (w : World) (h : RS w rb (some (encB x ++ l))) (h1 : I64 x.i) (h2 : I64 x.t) (hl : l.length ≤ 900000) :
  Calls Tryz.prog 173 #[ptr rb] w fun e w' => e = .returned (bV x) ∧ RS w' rb (some l) ∧ w.grownBy w' (some rb) := by
 have hlt := h.lt
 obtain ⟨W1, HW1⟩ := Nh (w.alloc (.cells #[.int .i64 0, .int .i64 0] 36))
 have hb1 : Below w.heap.size w W1 := by rw [← HW1.out]; exact bel1 w _
 have hr1 : W1.heap[w.heap.size]? = some (.cells #[.int .i64 0, .int .i64 0] 36 (0, 0)) := by rw [← HW1.out]; exact heap_alloc_last w _
 have hh : RS W1 rb (some (enc x.i ++ (enc x.t ++ l))) := by
  have := Nc.RS.below h hb1
  rw [encB, List.append_assoc] at this
  exact this
 have h10 := enc_le h2
 have hc := rInt x.i hh h1 (by rw [List.length_append]; omega)
 have HR1 := Hf hr1
 have HG1 : Hid (w.grownBy W1 (some rb)) := Nc.grown_below hb1
 clear h hh hr1 hb1
 go_enter Tryz.func173, Tryz.ntmps173
 go_upto_region 1 with fail
 rw [HW1.out]; clear HW1
 go_wp2_with fail
 refine hc.mono ?_; rintro e w2 ⟨rfl, q2, g2⟩
 have hc2 := rInt x.t q2 h2 (by omega)
 have HR2 := Hf (row_gr HR1.out g2 (by omega))
 have HG2 := Hf (Nc.grown_trans HG1.out g2)
 clear hc q2 g2 HR1 HG1
 go_wp2_with fail
 refine hc2.mono ?_; rintro e w3 ⟨rfl, q3, g3⟩
 have hr3 := row_gr HR2.out g3 (by omega)
 obtain ⟨⟨d0, d1⟩, df⟩ := row2 hr3
 have f0 := df 0
 have f1 := df 1
 have HR3 := Hf hr3
 have HG3 := Hf (Nc.grown_trans HG2.out g3)
 have HQ3 := Hf q3
 clear hc2 q3 g3 HR2 HG2 hr3 df; go_wp2
 refine bodyPost_ret (v := bV x) ?_ rfl ⟨rfl, ?_, ?_⟩
 ·exact results_cell_row f173_res _ _ w.heap.size 36 _ (0, 0) _ rfl (heap_setCell_same _ w.heap.size 1 _ _ _ (heap_setCell_same w3 w.heap.size 0 _ _ _ HR3.out)) Tryz.underlying36 rfl Na.Tryz.size36
 ·refine Nc.RS.keep HQ3.out ?_
  rw [heap_setCell_other _ ⟨w.heap.size, 1, none⟩ rb _ (by simp; omega), heap_setCell_other _ ⟨w.heap.size, 0, none⟩ rb _ (by simp; omega)]
 ·refine ⟨HG3.out.os, HG3.out.tape, HG3.out.output, ?_, fun k hk hne => ?_⟩
  ·have := HG3.out.size; simp; omega
  ·rw [heap_setCell_other _ ⟨w.heap.size, 1, none⟩ k _ (by simp; omega), heap_setCell_other _ ⟨w.heap.size, 0, none⟩ k _ (by simp; omega)]
   exact HG3.out.block k hk hne
theorem open_sealed (b : List UInt8) : Ns.openOut (ofL (K2.sealed b)) = (ofL b, 0) := by
 have h1 : (ofL (K2.sealed b)).size = b.length + 4 := by rw [Ns.M.ofL_size, sealed_len]
 have h2 : (ofL (K2.sealed b)).data.toList = K2.sealed b := Ns.ofL_data _
 unfold Ns.openOut; rw [if_neg (by omega), h1, h2, Nat.add_sub_cancel]
 have h3 : (K2.sealed b).take b.length = b := by
  unfold K2.sealed
  exact List.take_left
 rw [h3, if_pos rfl]
theorem open_none : Ns.openOut (ofL []) = (ByteArray.empty, 2) := rfl
end Go.Proofs.YtlnedgjikkhplaaGreat.Du
