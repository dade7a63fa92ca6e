import Derived.Test.YtgodnpngdbelhaaGreatGP13
import Derived.Laws.ComplexArith
set_option maxRecDepth 100000
set_option maxHeartbeats 8000000
set_option linter.unusedVariables false
set_option linter.unusedSimpArgs false
open Go.Proofs.Tryz
namespace Go.Proofs.YtgodnpngdbelhaaGreat.Nl
open Go.RowKit Go.Maps
open Go.Proofs.YtgodnpngdbelhaaGreat.M (E V)
open Go.Proofs.YtgodnpngdbelhaaGreat.Nl.M (W fup)
def ff (k : Nat) : Nat := floatOfInt .f64 (k : Int)
theorem ff_conv (k : Nat) (w : World) : (convert 3 216 (.int .i64 (k : Int))).run prog w = .ok (.float .f64 (ff k)) w := run_convert_int_float w 3 216 .i64 .f64 k (by kernel_rfl) (by kernel_rfl)
theorem all_add1 : ((List.range 8).all fun a => (List.range 8).all fun b => decide (cSumBits .add .f64 (ff a) (ff b) 4607182418800017408 0 = some (ff (a + 1), ff b))) = true := by kernel_rfl
theorem all_add2 : ((List.range 8).all fun a => (List.range 8).all fun b => decide (cSumBits .add .f64 (ff a) (ff b) 0 4607182418800017408 = some (ff a, ff (b + 1)))) = true := by kernel_rfl
theorem all_sub : ((List.range 8).all fun a => (List.range 8).all fun b => decide (a < b ∨ floatBits .sub .f64 (ff a) (ff b) = some (ff (a - b)))) = true := by kernel_rfl
theorem all_cmp : ((List.range 9).all fun a => (List.range 9).all fun b => decide ((FloatKind.f64.format.order (ff a) (ff b) == some .gt) = decide (b < a) ∧ ((FloatKind.f64.format.order (ff a) (ff b) == some .gt) || (FloatKind.f64.format.order (ff a) (ff b) == some .eq)) = decide (b ≤ a))) = true := by kernel_rfl
theorem all_get {n : Nat} {p : Nat → Nat → Bool} (h : ((List.range n).all fun a => (List.range n).all fun b => p a b) = true) {a b : Nat} (ha : a < n) (hb : b < n) : p a b = true := by
 rw [List.all_eq_true] at h; have h1 := h a (List.mem_range.2 ha); rw [List.all_eq_true] at h1; exact h1 b (List.mem_range.2 hb)
theorem add1 {a b : Nat} (ha : a < 8) (hb : b < 8) (w : World) : (binOp .add 217 (.complex .f64 (ff a) (ff b)) (.complex .f64 4607182418800017408 0)).run prog w = .ok (.complex .f64 (ff (a + 1)) (ff b)) w :=
 run_complex_sum w .add (.inl rfl) _ _ _ _ _ _ _ _ (of_decide_eq_true (all_get (p := fun a b => decide (cSumBits .add .f64 (ff a) (ff b) 4607182418800017408 0 = some (ff (a + 1), ff b))) all_add1 ha hb))
theorem add2 {a b : Nat} (ha : a < 8) (hb : b < 8) (w : World) : (binOp .add 217 (.complex .f64 (ff a) (ff b)) (.complex .f64 0 4607182418800017408)).run prog w = .ok (.complex .f64 (ff a) (ff (b + 1))) w :=
 run_complex_sum w .add (.inl rfl) _ _ _ _ _ _ _ _ (of_decide_eq_true (all_get (p := fun a b => decide (cSumBits .add .f64 (ff a) (ff b) 0 4607182418800017408 = some (ff a, ff (b + 1)))) all_add2 ha hb))
theorem fsub {a b : Nat} (ha : a < 8) (hb : b ≤ a) (w : World) : (binOp .sub 216 (.float .f64 (ff a)) (.float .f64 (ff b))).run prog w = .ok (.float .f64 (ff (a - b))) w := by
 have h := of_decide_eq_true (all_get (p := fun a b => decide (a < b ∨ floatBits .sub .f64 (ff a) (ff b) = some (ff (a - b)))) all_sub ha (show b < 8 by omega)); rcases h with h | h
 ·omega
 ·exact run_float_arith w .sub _ _ _ _ _ h
theorem fcmpo {a b : Nat} (ha : a < 9) (hb : b < 9) : (FloatKind.f64.format.order (ff a) (ff b) == some .gt) = decide (b < a) ∧ ((FloatKind.f64.format.order (ff a) (ff b) == some .gt) || (FloatKind.f64.format.order (ff a) (ff b) == some .eq)) = decide (b ≤ a) :=
 of_decide_eq_true (all_get (p := fun a b => decide ((FloatKind.f64.format.order (ff a) (ff b) == some .gt) = decide (b < a) ∧ ((FloatKind.f64.format.order (ff a) (ff b) == some .gt) || (FloatKind.f64.format.order (ff a) (ff b) == some .eq)) = decide (b ≤ a))) all_cmp ha hb)
theorem ff_zero : ff 0 = 0 := by kernel_rfl
theorem equal123 (x h : W) (w : World) : (Op.equalIn 10000 205 (wV x) (wV h)).run prog w = .ok (M.wq x h) w := by
 obtain ⟨s, ⟨i, t⟩, v⟩ := x; obtain ⟨s', ⟨i', t'⟩, v'⟩ := h; have u3 := underlying3; have u4 := underlying4; have u9 := underlying9; have a3 := Tryz.isAgg3; have a4 := Tryz.isAgg4; have a9 := Tryz.isAgg9; have a34 := Tryz.isAgg42; have z3 := Tryz.sizeOf3; have z4 := Tryz.sizeOf4; have z9 := Tryz.sizeOf9; have z34 := Tryz.sizeOf42; have hS : prog.underlying 205 = some (.struct (prog.fieldsOf 205)) := by kernel_rfl
 have hp : prog.stoodInHeld 205 = false := by kernel_rfl
 rw [show (10000 : Nat) = 9999 + 1 from rfl, run_equalIn_agg w 9999 205 _ _ hS hp]; clear hS hp; simp only [Program.fieldsOf, underlying205]; unfold M.wq; simp only; cases h1 : s == s' with
 | false => go_simp
 | true =>
  cases h2 : i == i' with
  | false =>
   have n2 : ¬ (i = i') := by simpa using h2
   go_simp
  | true =>
   have n2 : i = i' := by simpa using h2
   cases h3 : t == t' with
   | false =>
    have n3 : ¬ (t = t') := by simpa using h3
    go_simp
   | true =>
    have n3 : t = t' := by simpa using h3
    go_simp; by_cases h : v.toList = v'.toList
    ·simp [h]
    ·simp [h]
theorem ql123 (x h : W) (w : World) : (binOp .eql 205 (wV x) (wV h)).run prog w = .ok (.bool (M.wq x h)) w := by
 rw [run_eql_struct, equal123]; rfl
theorem _root_.Go.Proofs.YtgodnpngdbelhaaGreat.AtL.getW {w : World} {a : Option Addr} {l : List W} (h : AtL wl w a l) (j : Nat) (hj : j < l.length) : ∃ b off, a = some ⟨b, off, none⟩ ∧ w.cell? ⟨b, off + j * 4, none⟩ = some (.bool l[j].g) ∧ w.cell? ⟨b, off + j * 4 + 1, none⟩ = some (.int .i64 l[j].b.i) ∧ w.cell? ⟨b, off + j * 4 + 2, none⟩ = some (.int .i64 l[j].b.t) ∧ w.cell? ⟨b, off + j * 4 + 3, none⟩ = some (.string l[j].v) := by
 obtain ⟨b, off, e, h0⟩ := h j hj; exact ⟨b, off, e, h0 0 (by decide), h0 1 (by decide), h0 2 (by decide), h0 3 (by decide)⟩
section
variable {w : World} {base b m : Nat} {s : M.S} {f : Int → Option K}
theorem agreed_any (h : LI w base b m s f) (ok : M.Ok s) (a : Option Addr) (c : Nat) (l : List W) (x : W) (hat : AtL wl w a l) (hl : l.length = s.n.toNat) :
  Calls prog 131 #[.pointer (some ⟨b, 0, none⟩), .slice a l.length c, wV x] w fun e w' => e = .returned (.bool (M.hag s.n l x)) ∧ Bl w w' := by
 have hN := ok.n; have hnn : ((s.n.toNat : Nat) : Int) = s.n := by omega
 obtain ⟨qq, hqq⟩ : ∃ qq : Nat, M.quo s.n = (qq : Int) ∧ 1 ≤ qq ∧ qq ≤ s.n.toNat := by
  refine ⟨(M.quo s.n).toNat, ?_⟩; unfold M.quo; rw [if_neg (by omega)]; omega
 have HG : Hid (M.hag s.n l x = decide (qq ≤ M.ck (fun i => M.wq (l.getD i M.w0) x) l.length)) := by
  unfold M.hag; rw [hqq.1]; exact Hf (decide_eq_decide.2 (by omega))
 rw [HG.out]; clear HG; have cq := quorum_any s.n; rw [hqq.1, ← hnn] at cq; obtain ⟨W1, HW1⟩ := Nh (w.alloc (.cells #[.bool x.g, .int .i64 x.b.i, .int .i64 x.b.t, .string x.v] 205)); have hb1 := Ab HW1; have hr1 := Ac HW1; obtain ⟨⟨c0, c1, c2⟩, _⟩ := row3 (h.keep hb1).row; rw [← hnn] at c0; have hat1 := Hf (hat.keep hb1); have HR1 := Hf hr1; have HB1 := Hf hb1; obtain ⟨nn, HNN⟩ := Nh (s.n.toNat); rw [HNN.out] at c0 cq hl hqq; have hn7 : nn ≤ 7 := by have := HNN.out; omega
 have fc1 := ff_conv nn; have fc2 := ff_conv qq; have fs := fun w => fsub (a := nn) (b := qq) (by omega) hqq.2.2 w; obtain ⟨sp, hsp⟩ : ∃ sp, sp = nn - qq := ⟨_, rfl⟩; rw [← hsp] at fs; have HSP : Hid (sp + qq = nn ∧ 1 ≤ qq) := Hf (by omega); have HL := Hf hl; have HN7 := Hf hn7; obtain ⟨g, HG⟩ := Nh ((fun i => M.wq (l.getD i M.w0) x)); rw [HG.out]; have HGE : Hid (∀ k (hk : k < l.length), g k = M.wq l[k] x) := fun k hk => by
  rw [← HG.out]; simp only [List.getD_eq_getElem?_getD, List.getElem?_eq_getElem hk, Option.getD_some]
 have HZ : Hid (Value.complex .f64 0 0 = .complex .f64 (ff (M.ck g 0)) (ff (0 - M.ck g 0))) := by
  show Value.complex .f64 0 0 = .complex .f64 (ff 0) (ff 0); rw [ff_zero]
 clear h ok hat hb1 hr1 hN hnn hqq hsp c1 c2 hn7 HNN HG hl; go_enter func131, ntmps131; go_upto_region 1 with fail
 rw [HW1.out]; clear HW1; go_wp2_with fail; refine (cq _).mono ?_; rintro e w2 ⟨rfl, rfl⟩; clear cq; go_wp2; go_loopw [9, 27] (fun t i wr => ∃ k : Nat, k ≤ l.length ∧ i = .int .i64 k ∧ t = .complex .f64 (ff (M.ck g k)) (ff (k - M.ck g k)) ∧ Hid (k - M.ck g k ≤ sp) ∧ Hid (Bl w2 wr)) (fun _ i _ => l.length - (intOf i).toNat)
 case atStart => exact ⟨0, by omega, rfl, HZ.out, Nat.zero_le _, Below.refl _ _⟩
 case round =>
  obtain ⟨k, hk, rfl, rfl, HSPk, HBk⟩ := hrel; have hle := M.ck_le g k; have hn7 := HN7.out; have hl := HL.out; have hsp := HSP.out; have hspk := HSPk.out; by_cases hlt : k < l.length
  ·have hki : (k : Int) < (l.length : Int) := by omega
   obtain ⟨b1, o1, rfl, d0, d1, d2, d3⟩ := (hat1.out.keep HBk.out).getW k hlt; have hup := M.ck_up g (k + 1) (l.length - (k + 1)); rw [show k + 1 + (l.length - (k + 1)) = l.length by omega] at hup; have hst : M.ck g (k + 1) = M.ck g k + (if M.wq l[k] x then 1 else 0) := by rw [← HGE.out k hlt]; rfl
   obtain ⟨y, HY⟩ := Nh (l[k]); rw [HY.out] at d0 d1 d2 d3 hst; have hq := ql123 y x; obtain ⟨r, hr⟩ := Nq (M.wq y x); rw [hr] at hq hst; obtain ⟨CC, HCC⟩ := Nh (M.ck g l.length); rw [HCC.out] at hup; have hr2 := heap_alloc_last wr (.cells #[.bool y.g, .int .i64 y.b.i, .int .i64 y.b.t, .string y.v] 205); obtain ⟨W2, HW2⟩ := Nh (wr.alloc (.cells #[.bool y.g, .int .i64 y.b.i, .int .i64 y.b.t, .string y.v] 205)); have HBW : Hid (Bl wr W2) := by rw [← HW2.out]; exact bel1 wr _
   have HB2 : Hid (Bl w2 W2) := Bu HBk.out HBW.out Lr; rw [HW2.out] at hr2; obtain ⟨y0, -⟩ := row4 hr2; obtain ⟨x0, -⟩ := row4 (Br HR1.out HB2.out); have hl7 : l.length ≤ 7 := by omega
   have HH : Hid (k + 1 ≤ l.length ∧ M.ck g k ≤ k) := Hf ⟨hlt, hle⟩; cases r with
   | true =>
    simp only [if_true] at hst; have ha := add1 (a := M.ck g k) (b := k - M.ck g k) (by omega) (by omega); have hc := (fcmpo (a := k - M.ck g k) (b := sp) (by omega) (by omega)).1; have hd : decide (sp < k - M.ck g k) = false := decide_eq_false (by omega); rw [hd] at hc; have HE : Hid (k + 1 - (M.ck g k + 1) = k - M.ck g k) := Hf (by omega); have HK := Hf hspk; clear hr2 hr hle hn7 hl hsp hspk hup hd HY hlt; go_upto_region 7 with fail
    rw [HW2.out]; clear HW2 d0 d1 d2 d3; go_wp2; go_roundw
    case rel => exact ⟨k + 1, HH.out.1, by go_num, by rw [hst, HE.out], by rw [hst, HE.out]; exact HK, HB2⟩
    case measure => have := HH.out.1; simp [intOf]; omega
   | false =>
    simp only [Bool.false_eq_true, if_false, Nat.add_zero] at hst; have ha := add2 (a := M.ck g k) (b := k - M.ck g k) (by omega) (by omega); by_cases hbr : sp < k - M.ck g k + 1
    ·have hc := (fcmpo (a := k - M.ck g k + 1) (b := sp) (by omega) (by omega)).1; rw [decide_eq_true hbr] at hc; have hg := (fcmpo (a := M.ck g k) (b := qq) (by omega) (by omega)).2; rw [decide_eq_false (show ¬ qq ≤ M.ck g k by omega)] at hg; have HQ : Hid (decide (qq ≤ CC) = false) := Hf (decide_eq_false (by omega)); clear hr2 hr hle hn7 hl hsp hspk hup hbr HY hlt; go_upto_region 7 with fail
     rw [HW2.out]; clear HW2 d0 d1 d2 d3; go_wp2; go_ret; exact ⟨by rw [HCC.out, HQ.out]; rfl, Bu HB1.out HB2.out Lr⟩
    ·have hc := (fcmpo (a := k - M.ck g k + 1) (b := sp) (by omega) (by omega)).1; rw [decide_eq_false hbr] at hc; have HE : Hid (k + 1 - M.ck g k = k - M.ck g k + 1) := Hf (by omega); have HK : Hid (k - M.ck g k + 1 ≤ sp) := Hf (by omega); clear hr2 hr hle hn7 hl hsp hspk hup hbr HY hlt; go_upto_region 7 with fail
     rw [HW2.out]; clear HW2 d0 d1 d2 d3; go_wp2; go_roundw
     case rel => exact ⟨k + 1, HH.out.1, by go_num, by rw [hst, HE.out], by rw [hst, HE.out]; exact HK, HB2⟩
     case measure => have := HH.out.1; simp [intOf]; omega
  ·obtain rfl : k = l.length := by omega
   obtain ⟨A, HA⟩ := Nh (M.ck g l.length); rw [HA.out] at hle; have hg := (fcmpo (a := A) (b := qq) (by omega) (by omega)).2; have HGQ := Hf hg; clear hle hl hsp hspk hn7 hg; go_wp2; go_ret; exact ⟨by rw [HA.out, ← HGQ.out]; rfl, Bu HB1.out HBk.out Lr⟩
end
end Go.Proofs.YtgodnpngdbelhaaGreat.Nl
