/-
  What a note says; types told apart.
-/
import Derived.Test.YtfjlanhekheecaaRP
namespace Go.Proofs.Ytfjlanhekheecaa
open Go.RowKit Go.Maps
set_option linter.unusedVariables false
open M (E V)
open Rm (NT R)

theorem zero97 (w : World) : (zeroValue 97).run Try.prog w = .ok (.agg #[.int .i64 0, .int .i64 0, .int .i64 0, .int .i64 0]) w := by kernel_rfl
theorem zero100 (w : World) : (zeroValue 100).run Try.prog w = .ok (.agg #[.int .i64 0, .int .i64 0, .int .i64 0, .slice none 0 0]) w := by kernel_rfl
theorem zero103 (w : World) : (zeroValue 103).run Try.prog w = .ok (.agg #[.int .i64 0, .int .i64 0, .int .i64 0, .string ⟨#[]⟩]) w := by kernel_rfl
theorem zero106 (w : World) : (zeroValue 106).run Try.prog w = .ok (.agg #[.int .i64 0, .int .i64 0, .int .i64 0, .int .i64 0, .string ⟨#[]⟩]) w := by kernel_rfl
theorem zero109 (w : World) : (zeroValue 109).run Try.prog w = .ok (.agg #[.int .i64 0, .int .i64 0]) w := by kernel_rfl
theorem zero112 (w : World) : (zeroValue 112).run Try.prog w = .ok (.agg #[.slice none 0 0]) w := by kernel_rfl
theorem ta_yes {A : TypeId} {fs : Array Field} (hu : Try.prog.underlying A = some (.struct fs)) (v : Value) (w : World) : (Instr.typeAssert (.iface A v) 20 A true).run Try.prog w = .ok (.tuple #[v, .bool true]) w := by
  simp [Instr.typeAssert, run_underlying hu]
theorem ta_no {A T : TypeId} {fs : Array Field} {z : Value} (hu : Try.prog.underlying A = some (.struct fs)) (hz : ∀ w, (zeroValue A).run Try.prog w = .ok z w) (hne : T ≠ A) (v : Value) (w : World) : (Instr.typeAssert (.iface T v) 20 A true).run Try.prog w = .ok (.tuple #[z, .bool false]) w := by
  simp [Instr.typeAssert, run_underlying hu, hz, hne]
theorem ta_nil {A : TypeId} {fs : Array Field} {z : Value} (hu : Try.prog.underlying A = some (.struct fs)) (hz : ∀ w, (zeroValue A).run Try.prog w = .ok z w) (w : World) : (Instr.typeAssert .nilIface 20 A true).run Try.prog w = .ok (.tuple #[z, .bool false]) w := by
  simp [Instr.typeAssert, run_underlying hu, hz]
/-- What a note says. -/
def sdN (n : Nat) (y : RN) : Value := match n with
  | 1 => .iface 97 (.agg #[.int .i64 y.x.f, .int .i64 y.x.s, .int .i64 y.x.b.i, .int .i64 y.x.b.t])
  | 2 => .iface 100 (.agg #[.int .i64 y.x.f, .int .i64 y.x.b.i, .int .i64 y.x.b.t, .slice y.ad y.x.v.length y.c])
  | 3 => .iface 103 (vV (y.x.v.headD Rm.v0))
  | 4 => .iface 106 (.agg #[.int .i64 y.x.f, .int .i64 (y.x.v.headD Rm.v0).s, .int .i64 (y.x.v.headD Rm.v0).b.i, .int .i64 (y.x.v.headD Rm.v0).b.t, .string (y.x.v.headD Rm.v0).v])
  | 5 => .iface 109 (.agg #[.int .i64 y.x.f, .int .i64 y.x.s])
  | 6 => .iface 112 (.agg #[.slice y.ad y.x.v.length y.c])
  | _ => .nilIface
def sdV (y : RN) : Value := sdN (Rm.kd y.x) y
theorem sdV_of {y : RN} {n : Nat} (h : Rm.kd y.x = n) : sdV y = sdN n y := by subst h; rfl
set_option maxRecDepth 100000 in
set_option maxHeartbeats 2000000 in
theorem said_any (y : RN) (w : World) (hx : XL vl w y.ad y.c y.x.v) : Calls Try.prog 35 #[nV y] w fun e w' => e = .returned (sdV y) ∧ Below w.heap.size w w' := by
  obtain ⟨⟨k, f, t, s, ⟨bi, bt⟩, v⟩, ad, c⟩ := y
  simp only at hx
  obtain ⟨W1, HW1⟩ : ∃ W1, Hid (w.alloc (.cells #[.int .i64 k, .int .i64 f, .int .i64 t, .int .i64 s, .int .i64 bi, .int .i64 bt, .slice ad v.length c] 32) = W1) := ⟨_, Hid_of rfl⟩
  have hb1 : Below w.heap.size w W1 := by rw [← HW1.out]; exact bel1 w _
  have hz1 : W1.heap[w.heap.size]? = some (.cells #[.int .i64 k, .int .i64 f, .int .i64 t, .int .i64 s, .int .i64 bi, .int .i64 bt, .slice ad v.length c] 32 (0, 0)) := by rw [← HW1.out]; exact heap_alloc_last w _
  obtain ⟨⟨x0, x1, x2, x3, x4, x5, x6⟩, -⟩ := row7 hz1
  have hx1 := hx.keep hb1
  have HSD : Hid (∀ n, Rm.kd ⟨k, f, t, s, ⟨bi, bt⟩, v⟩ = n → sdV ⟨⟨k, f, t, s, ⟨bi, bt⟩, v⟩, ad, c⟩ = sdN n ⟨⟨k, f, t, s, ⟨bi, bt⟩, v⟩, ad, c⟩) := fun n hn => sdV_of hn
  have HB := Hid_of hb1
  simp only [nV]
  clear hx hb1 hz1
  by_cases h1 : k = 1
  · subst h1
    have HQ : Hid (sdV ⟨⟨1, f, t, s, ⟨bi, bt⟩, v⟩, ad, c⟩ = .iface 97 (.agg #[.int .i64 f, .int .i64 s, .int .i64 bi, .int .i64 bt])) := HSD.out 1 (by unfold Rm.kd; rw [if_pos rfl])
    clear HSD hx1
    go_enter Try.func35, Try.ntmps35
    go_upto_region 1 with fail
    rw [HW1.out]
    go_wp2
    go_ret
    exact ⟨by rw [HQ.out]; rfl, HB.out⟩
  by_cases h2 : k = 2
  · subst h2
    have HQ : Hid (sdV ⟨⟨2, f, t, s, ⟨bi, bt⟩, v⟩, ad, c⟩ = .iface 100 (.agg #[.int .i64 f, .int .i64 bi, .int .i64 bt, .slice ad v.length c])) := HSD.out 2 (by unfold Rm.kd; rw [if_neg (by simp), if_pos rfl])
    clear HSD hx1 h1
    go_enter Try.func35, Try.ntmps35
    go_upto_region 1 with fail
    rw [HW1.out]
    go_wp2
    go_ret
    exact ⟨by rw [HQ.out]; rfl, HB.out⟩
  by_cases h3 : k = 3
  · subst h3
    by_cases hl : v.length = 1
    · obtain ⟨⟨vs, ⟨vi, vt⟩, vv⟩, rfl⟩ := List.length_eq_one_iff.1 hl
      obtain ⟨g0, o0, rfl, q0, q1, q2, q3⟩ := hx1.at'.getV 0 (by simp)
      simp only [List.getElem_cons_zero, Nat.zero_mul, Nat.add_zero] at q0 q1 q2 q3
      have HQ : Hid (sdV ⟨⟨3, f, t, s, ⟨bi, bt⟩, [⟨vs, ⟨vi, vt⟩, vv⟩]⟩, some ⟨g0, o0, none⟩, c⟩ = .iface 103 (.agg #[.int .i64 vs, .int .i64 vi, .int .i64 vt, .string vv])) := HSD.out 3 (by unfold Rm.kd; rw [if_neg (by simp), if_neg (by simp), if_pos ⟨rfl, rfl⟩])
      clear HSD hx1 h1 h2 hl
      simp only [List.length_cons, List.length_nil, Nat.zero_add] at x6 HW1 ⊢
      go_enter Try.func35, Try.ntmps35
      go_upto_region 1 with fail
      rw [HW1.out]
      go_wp2
      go_ret
      exact ⟨by rw [HQ.out]; rfl, HB.out⟩
    · have d0 : ((v.length : Int) == 1) = false := by simp; omega
      have HQ : Hid (sdV ⟨⟨3, f, t, s, ⟨bi, bt⟩, v⟩, ad, c⟩ = .nilIface) := HSD.out 0 (by unfold Rm.kd; rw [if_neg (by simp), if_neg (by simp), if_neg (fun e => hl e.2), if_neg (by simp), if_neg (by simp), if_neg (by simp)])
      clear HSD hx1 h1 h2 hl
      go_enter Try.func35, Try.ntmps35
      go_upto_region 1 with fail
      rw [HW1.out]
      go_wp2
      go_ret
      exact ⟨by rw [HQ.out]; rfl, HB.out⟩
  by_cases h4 : k = 4
  · subst h4
    by_cases hl : v.length = 1
    · obtain ⟨⟨vs, ⟨vi, vt⟩, vv⟩, rfl⟩ := List.length_eq_one_iff.1 hl
      obtain ⟨g0, o0, rfl, q0, q1, q2, q3⟩ := hx1.at'.getV 0 (by simp)
      simp only [List.getElem_cons_zero, Nat.zero_mul, Nat.add_zero] at q0 q1 q2 q3
      have HQ : Hid (sdV ⟨⟨4, f, t, s, ⟨bi, bt⟩, [⟨vs, ⟨vi, vt⟩, vv⟩]⟩, some ⟨g0, o0, none⟩, c⟩ = .iface 106 (.agg #[.int .i64 f, .int .i64 vs, .int .i64 vi, .int .i64 vt, .string vv])) := HSD.out 4 (by unfold Rm.kd; rw [if_neg (by simp), if_neg (by simp), if_neg (by simp), if_pos ⟨rfl, rfl⟩])
      clear HSD hx1 h1 h2 h3 hl
      simp only [List.length_cons, List.length_nil, Nat.zero_add] at x6 HW1 ⊢
      go_enter Try.func35, Try.ntmps35
      go_upto_region 1 with fail
      rw [HW1.out]
      go_upto_region 8 with fail
      go_quiet (fail)
      go_wp2
      go_ret
      exact ⟨by rw [HQ.out]; rfl, below_drewN HB.out _⟩
    · have d0 : ((v.length : Int) == 1) = false := by simp; omega
      have HQ : Hid (sdV ⟨⟨4, f, t, s, ⟨bi, bt⟩, v⟩, ad, c⟩ = .nilIface) := HSD.out 0 (by unfold Rm.kd; rw [if_neg (by simp), if_neg (by simp), if_neg (by simp), if_neg (fun e => hl e.2), if_neg (by simp), if_neg (by simp)])
      clear HSD hx1 h1 h2 h3 hl
      go_enter Try.func35, Try.ntmps35
      go_upto_region 1 with fail
      rw [HW1.out]
      go_wp2
      go_ret
      exact ⟨by rw [HQ.out]; rfl, HB.out⟩
  by_cases h5 : k = 5
  · subst h5
    have HQ : Hid (sdV ⟨⟨5, f, t, s, ⟨bi, bt⟩, v⟩, ad, c⟩ = .iface 109 (.agg #[.int .i64 f, .int .i64 s])) := HSD.out 5 (by unfold Rm.kd; rw [if_neg (by simp), if_neg (by simp), if_neg (by simp), if_neg (by simp), if_pos rfl])
    clear HSD hx1 h1 h2 h3 h4
    go_enter Try.func35, Try.ntmps35
    go_upto_region 1 with fail
    rw [HW1.out]
    go_wp2
    go_ret
    exact ⟨by rw [HQ.out]; rfl, HB.out⟩
  by_cases h6 : k = 6
  · subst h6
    have HQ : Hid (sdV ⟨⟨6, f, t, s, ⟨bi, bt⟩, v⟩, ad, c⟩ = .iface 112 (.agg #[.slice ad v.length c])) := HSD.out 6 (by unfold Rm.kd; rw [if_neg (by simp), if_neg (by simp), if_neg (by simp), if_neg (by simp), if_neg (by simp), if_pos rfl])
    clear HSD hx1 h1 h2 h3 h4 h5
    go_enter Try.func35, Try.ntmps35
    go_upto_region 1 with fail
    rw [HW1.out]
    go_wp2
    go_ret
    exact ⟨by rw [HQ.out]; rfl, HB.out⟩
  · have d1 : (k == 1) = false := by simpa using h1
    have d2 : (k == 2) = false := by simpa using h2
    have d3 : (k == 3) = false := by simpa using h3
    have d4 : (k == 4) = false := by simpa using h4
    have d5 : (k == 5) = false := by simpa using h5
    have d6 : (k == 6) = false := by simpa using h6
    have HQ : Hid (sdV ⟨⟨k, f, t, s, ⟨bi, bt⟩, v⟩, ad, c⟩ = .nilIface) := HSD.out 0 (by unfold Rm.kd; rw [if_neg h1, if_neg h2, if_neg (fun e => h3 e.1), if_neg (fun e => h4 e.1), if_neg h5, if_neg h6])
    clear HSD hx1 h1 h2 h3 h4 h5 h6
    go_enter Try.func35, Try.ntmps35
    go_upto_region 1 with fail
    rw [HW1.out]
    go_wp2
    go_ret
    exact ⟨by rw [HQ.out]; rfl, HB.out⟩
end Go.Proofs.Ytfjlanhekheecaa
