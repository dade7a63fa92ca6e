import Derived.Test.YtlnedgjikkhplaaGreatGP09
import Derived.Shelf.Strings.Builder1
import Derived.Shelf.Strings.Builder2
import Derived.Shelf.Bits.Mul64
import Derived.Shelf.SortM.Plain
import Derived.Shelf.SortM.SortNone
import Derived.Shelf.SlIterI.Sorted
import Derived.Test.YtlnedgjikkhplaaGreatProg
import Derived.RangeFuncGives
import Derived.WalkSmall
set_option maxRecDepth 100000
set_option maxHeartbeats 8000000
set_option linter.unusedVariables false
set_option linter.unusedSimpArgs false
namespace Go.Proofs.YtlnedgjikkhplaaGreat.Ns
open Go.Shelf
def Tryz.lays169_ren : Go.Shelf.Ren := ⟨fun | 169 => 88 | n => n, fun | 70 => 146 | 9 => 9 | 0 => 0 | 72 => 148 | 37 => 138 | 127 => 206 | 3 => 3 | 5 => 5 | n => n, fun | n => n⟩
theorem Tryz.lays169 : Go.Proofs.Lays.n169 Tryz.prog Tryz.lays169_ren := {
 mixed := by kernel_rfl
 f169 := Tryz.func88.trans (congrArg some (by kernel_rfl))
 t0 := Tryz.underlying0
 a0 := Tryz.isAgg0
 z0 := Tryz.sizeOf0
 v0 := Tryz.zeroValue0
 t3 := Tryz.underlying3
 a3 := Tryz.isAgg3
 z3 := Tryz.sizeOf3
 v3 := Tryz.zeroValue3
 t9 := Tryz.underlying9
 a9 := Tryz.isAgg9
 z9 := Tryz.sizeOf9
 v9 := Tryz.zeroValue9
 t37 := Tryz.underlying138
 a37 := Tryz.isAgg138
 z37 := Tryz.sizeOf138
 v37 := Tryz.zeroValue138
 t70 := Tryz.underlying146
 a70 := Tryz.isAgg146
 z70 := Tryz.sizeOf146
 v70 := Tryz.zeroValue146
 t72 := Tryz.underlying148
 a72 := Tryz.isAgg148
 z72 := Tryz.sizeOf148
 v72 := Tryz.zeroValue148
 t127 := Tryz.underlying206
 a127 := Tryz.isAgg206
 z127 := Tryz.sizeOf206
 v127 := Tryz.zeroValue206 }
theorem Tryz.Builder_Extra_169 : Builder.Extra Tryz.prog Tryz.lays169_ren := {
 sizeBuilder := by kernel_rfl
 liesBuilder := by kernel_rfl
 t5 := Tryz.underlying5
 a5 := Tryz.isAgg5
 z5 := Tryz.sizeOf5
 v5 := Tryz.zeroValue5
 infoByte := by kernel_rfl
 cellsByte := by kernel_rfl
 sizeByte := by kernel_rfl
 neB5 := by decide }
open Go.RowKit in
theorem Tryz.Builder_String_any (B b : Nat) (l : List UInt8) (w : World) (h : Lib.IsBuilder 148 5 B b (Lib.byteCells l) w) (hBw : B ≤ w.heap.size) :
  Calls Tryz.prog 88 #[.pointer (some ⟨b, 0, none⟩)] w fun e w' => e = .returned (.string ⟨l.toArray⟩) ∧ Below B w w' := Any.Builder_String_any Tryz.lays169 Tryz.Builder_Extra_169 B b l w h hBw
def Tryz.lays165_ren : Go.Shelf.Ren := ⟨fun | 165 => 85 | 240 => 132 | 241 => 133 | 276 => 166 | 277 => 167 | n => n, fun | 70 => 146 | 3 => 3 | 0 => 0 | 4 => 4 | 9 => 9 | 20 => 20 | 72 => 148 | 37 => 138 | 164 => 227 | 5 => 5 | n => n, fun | n => n⟩
theorem Tryz.lays165 : Go.Proofs.Lays.n165 Tryz.prog Tryz.lays165_ren := {
 mixed := by kernel_rfl
 f165 := Tryz.func85.trans (congrArg some (by kernel_rfl))
 f240 := Tryz.func132.trans (congrArg some (by kernel_rfl))
 f241 := Tryz.func133.trans (congrArg some (by kernel_rfl))
 f276 := Tryz.func166.trans (congrArg some (by kernel_rfl))
 f277 := Tryz.func167.trans (congrArg some (by kernel_rfl))
 t0 := Tryz.underlying0
 a0 := Tryz.isAgg0
 z0 := Tryz.sizeOf0
 v0 := Tryz.zeroValue0
 t3 := Tryz.underlying3
 a3 := Tryz.isAgg3
 z3 := Tryz.sizeOf3
 v3 := Tryz.zeroValue3
 t4 := Tryz.underlying4
 a4 := Tryz.isAgg4
 z4 := Tryz.sizeOf4
 v4 := Tryz.zeroValue4
 t9 := Tryz.underlying9
 a9 := Tryz.isAgg9
 z9 := Tryz.sizeOf9
 v9 := Tryz.zeroValue9
 t20 := Tryz.underlying20
 a20 := Tryz.isAgg20
 z20 := Tryz.sizeOf20
 v20 := Tryz.zeroValue20
 t37 := Tryz.underlying138
 a37 := Tryz.isAgg138
 z37 := Tryz.sizeOf138
 v37 := Tryz.zeroValue138
 t70 := Tryz.underlying146
 a70 := Tryz.isAgg146
 z70 := Tryz.sizeOf146
 v70 := Tryz.zeroValue146
 t72 := Tryz.underlying148
 a72 := Tryz.isAgg148
 z72 := Tryz.sizeOf148
 v72 := Tryz.zeroValue148
 t164 := Tryz.underlying227
 a164 := Tryz.isAgg227
 z164 := Tryz.sizeOf227
 v164 := Tryz.zeroValue227 }
theorem Tryz.Builder_Extra_165 : Builder.Extra Tryz.prog Tryz.lays165_ren := {
 sizeBuilder := by kernel_rfl
 liesBuilder := by kernel_rfl
 t5 := Tryz.underlying5
 a5 := Tryz.isAgg5
 z5 := Tryz.sizeOf5
 v5 := Tryz.zeroValue5
 infoByte := by kernel_rfl
 cellsByte := by kernel_rfl
 sizeByte := by kernel_rfl
 neB5 := by decide }
open Go.RowKit in
theorem Tryz.Builder_Grow_fresh (B b n : Nat) (w : World) (hB : B ≤ b) (hbk : w.heap[b]? = some (.cells #[.pointer none, .slice none 0 0] 148 (0, 0))) (hBw : B ≤ w.heap.size) (hn : n ≤ 281474976710656) :
  Calls Tryz.prog 85 #[.pointer (some ⟨b, 0, none⟩), .int .i64 n] w fun e w' => e = .returned (.tuple #[]) ∧ (Lib.BuilderAt 148 5 B b (.pointer (some ⟨b, 0, none⟩)) [] w' ∧ Below B w w') := Any.Builder_Grow_fresh Tryz.lays165 Tryz.Builder_Extra_165 B b n w hB hbk hBw hn
def Tryz.lays212_ren : Go.Shelf.Ren := ⟨fun | 212 => 82 | 263 => 129 | 264 => 130 | n => n, fun | 46 => 115 | 51 => 196 | 146 => 197 | 53 => 51 | 148 => 199 | n => n, fun | n => n⟩
theorem Tryz.lays212 : Go.Proofs.Lays.n212 Tryz.prog Tryz.lays212_ren := {
 mixed := by kernel_rfl
 f212 := Tryz.func82.trans (congrArg some (by kernel_rfl))
 f263 := Tryz.func129.trans (congrArg some (by kernel_rfl))
 f264 := Tryz.func130.trans (congrArg some (by kernel_rfl))
 t46 := Tryz.underlying115
 a46 := Tryz.isAgg115
 z46 := Tryz.sizeOf115
 v46 := Tryz.zeroValue115
 t51 := Tryz.underlying196
 a51 := Tryz.isAgg196
 z51 := Tryz.sizeOf196
 v51 := Tryz.zeroValue196
 t53 := Tryz.underlying51
 a53 := Tryz.isAgg51
 z53 := Tryz.sizeOf51
 v53 := Tryz.zeroValue51
 t146 := Tryz.underlying197
 a146 := Tryz.isAgg197
 z146 := Tryz.sizeOf197
 v146 := Tryz.zeroValue197
 t148 := Tryz.underlying199
 a148 := Tryz.isAgg199
 z148 := Tryz.sizeOf199
 v148 := Tryz.zeroValue199 }
open Go.RowKit Go.Lib in
theorem Tryz.bits_Mul (x y : Nat) (hx : x < 18446744073709551616) (hy : y < 18446744073709551616) (w : World) :
  Calls Tryz.prog 82 #[.int .u64 x, .int .u64 y] w fun e w' => e = .returned (.tuple #[.int .u64 ((x * y / 18446744073709551616 : Nat) : Int), .int .u64 ((x * y % 18446744073709551616 : Nat) : Int)]) ∧ w' = w := Any.bits_Mul Tryz.lays212 x y hx hy w
def Tryz.laysSlM5_f85_ren : Go.Shelf.Ren := ⟨fun | 5 => 144 | 8 => 157 | 7 => 176 | 19 => 191 | 20 => 192 | 10 => 198 | 11 => 199 | 12 => 200 | 13 => 201 | 14 => 202 | 15 => 203 | 16 => 204 | 17 => 205 | 18 => 206 | 30 => 217 | 31 => 212 | 32 => 213 | 33 => 218 | 34 => 219 | 35 => 158 | 40 => 222 | n => n, fun | 23 => 82 | 25 => 3 | 3 => 3 | 32 => 115 | 22 => 82 | 0 => 0 | 44 => 196 | 46 => 51 | 4 => 4 | 36 => 238 | 35 => 237 | 41 => 178 | 5 => 5 | 9 => 9 | 53 => 254 | 57 => 258 | 63 => 264 | 64 => 265 | n => n, fun | n => n⟩
theorem Tryz.laysSlM5_f85 : Go.Proofs.SlLaysM.n5 Tryz.prog Tryz.laysSlM5_f85_ren := {
 mixed := by kernel_rfl
 f5 := ⟨Tryz.f144.name, by decide, Tryz.func144.trans (congrArg some (by kernel_rfl))⟩
 f7 := ⟨Tryz.f176.name, by decide, Tryz.func176.trans (congrArg some (by kernel_rfl))⟩
 f8 := Tryz.func157.trans (congrArg some (by kernel_rfl))
 f10 := ⟨Tryz.f198.name, by decide, Tryz.func198.trans (congrArg some (by kernel_rfl))⟩
 f11 := ⟨Tryz.f199.name, by decide, Tryz.func199.trans (congrArg some (by kernel_rfl))⟩
 f12 := ⟨Tryz.f200.name, by decide, Tryz.func200.trans (congrArg some (by kernel_rfl))⟩
 f13 := ⟨Tryz.f201.name, by decide, Tryz.func201.trans (congrArg some (by kernel_rfl))⟩
 f14 := ⟨Tryz.f202.name, by decide, Tryz.func202.trans (congrArg some (by kernel_rfl))⟩
 f15 := ⟨Tryz.f203.name, by decide, Tryz.func203.trans (congrArg some (by kernel_rfl))⟩
 f16 := ⟨Tryz.f204.name, by decide, Tryz.func204.trans (congrArg some (by kernel_rfl))⟩
 f17 := ⟨Tryz.f205.name, by decide, Tryz.func205.trans (congrArg some (by kernel_rfl))⟩
 f18 := ⟨Tryz.f206.name, by decide, Tryz.func206.trans (congrArg some (by kernel_rfl))⟩
 f19 := Tryz.func191.trans (congrArg some (by kernel_rfl))
 f20 := Tryz.func192.trans (congrArg some (by kernel_rfl))
 f30 := ⟨Tryz.f217.name, by decide, Tryz.func217.trans (congrArg some (by kernel_rfl))⟩
 f31 := Tryz.func212.trans (congrArg some (by kernel_rfl))
 f32 := Tryz.func213.trans (congrArg some (by kernel_rfl))
 f33 := ⟨Tryz.f218.name, by decide, Tryz.func218.trans (congrArg some (by kernel_rfl))⟩
 f34 := ⟨Tryz.f219.name, by decide, Tryz.func219.trans (congrArg some (by kernel_rfl))⟩
 f35 := ⟨Tryz.f158.name, by decide, Tryz.func158.trans (congrArg some (by kernel_rfl))⟩
 f40 := ⟨Tryz.f222.name, by decide, Tryz.func222.trans (congrArg some (by kernel_rfl))⟩
 t0 := Tryz.underlying0
 a0 := Tryz.isAgg0
 z0 := Tryz.sizeOf0
 v0 := Tryz.zeroValue0
 t3 := Tryz.underlying3
 a3 := Tryz.isAgg3
 z3 := Tryz.sizeOf3
 v3 := Tryz.zeroValue3
 t4 := Tryz.underlying4
 a4 := Tryz.isAgg4
 z4 := Tryz.sizeOf4
 v4 := Tryz.zeroValue4
 t5 := Tryz.underlying5
 a5 := Tryz.isAgg5
 z5 := Tryz.sizeOf5
 v5 := Tryz.zeroValue5
 t9 := Tryz.underlying9
 a9 := Tryz.isAgg9
 z9 := Tryz.sizeOf9
 v9 := Tryz.zeroValue9
 t22 := Tryz.underlying82
 a22 := Tryz.isAgg82
 z22 := Tryz.sizeOf82
 v22 := Tryz.zeroValue82
 t23 := Tryz.underlying82
 a23 := Tryz.isAgg82
 z23 := Tryz.sizeOf82
 v23 := Tryz.zeroValue82
 t25 := Tryz.underlying3
 a25 := Tryz.isAgg3
 z25 := Tryz.sizeOf3
 v25 := Tryz.zeroValue3
 t32 := Tryz.underlying115
 a32 := Tryz.isAgg115
 z32 := Tryz.sizeOf115
 v32 := Tryz.zeroValue115
 t35 := Tryz.underlying237
 a35 := Tryz.isAgg237
 z35 := Tryz.sizeOf237
 v35 := Tryz.zeroValue237
 t36 := Tryz.underlying238
 a36 := Tryz.isAgg238
 z36 := Tryz.sizeOf238
 v36 := Tryz.zeroValue238
 t41 := Tryz.underlying178
 a41 := Tryz.isAgg178
 z41 := Tryz.sizeOf178
 v41 := Tryz.zeroValue178
 t44 := Tryz.underlying196
 a44 := Tryz.isAgg196
 z44 := Tryz.sizeOf196
 v44 := Tryz.zeroValue196
 t46 := Tryz.underlying51
 a46 := Tryz.isAgg51
 z46 := Tryz.sizeOf51
 v46 := Tryz.zeroValue51
 t53 := Tryz.underlying254
 a53 := Tryz.isAgg254
 z53 := Tryz.sizeOf254
 v53 := Tryz.zeroValue254
 t57 := Tryz.underlying258
 a57 := Tryz.isAgg258
 z57 := Tryz.sizeOf258
 v57 := Tryz.zeroValue258
 t63 := Tryz.underlying264
 a63 := Tryz.isAgg264
 z63 := Tryz.sizeOf264
 v63 := Tryz.zeroValue264
 t64 := Tryz.underlying265
 a64 := Tryz.isAgg265
 z64 := Tryz.sizeOf265
 v64 := Tryz.zeroValue265 }
open Go.Sort Go.RowKit in
theorem Tryz.slices_Sort_int (blk off cap : Nat) (zs : List Int) (w : World) (hH : Holds (Value.int .i64) w blk off zs.toArray) (hblk : blk < w.heap.size) (hsz : zs.length < 4611686018427387904) :
  Calls Tryz.prog 144 #[.slice (some ⟨blk, off, none⟩) zs.length cap] w fun e w' =>
   e = .returned (.tuple #[]) ∧ ∃ n os, w' = grow (putRow (Value.int .i64) (Sort.ahead w n) blk off (zs.mergeSort fun x y => decide (x ≤ y)).toArray) os := AnyM.slices_Sort_int Tryz.laysSlM5_f85 blk off cap zs w hH hblk hsz
open Go.RowKit Go.Sort in
theorem Tryz.slices_Sort_int_none (p : Option Addr) (cap : Nat) (w : World) :
  Calls Tryz.prog 144 #[.slice p 0 cap] w fun e w' => e = .returned (.tuple #[]) ∧ w' = w := AnyM.slices_Sort_int_none Tryz.laysSlM5_f85 p cap w
def Tryz.sortedA_ren : Go.Shelf.Ren := ⟨fun | 6 => 102 | 8 => 143 | 9 => 144 | 11 => 175 | 13 => 157 | 12 => 176 | 23 => 191 | 24 => 192 | 14 => 198 | 15 => 199 | 16 => 200 | 17 => 201 | 18 => 202 | 19 => 203 | 20 => 204 | 21 => 205 | 22 => 206 | 25 => 217 | 26 => 212 | 27 => 213 | 28 => 218 | 29 => 219 | 30 => 158 | 31 => 222 | n => n, fun | 26 => 3 | 28 => 175 | 24 => 82 | 0 => 0 | 3 => 3 | 37 => 115 | 48 => 196 | 50 => 51 | 4 => 4 | 40 => 238 | 39 => 237 | 45 => 178 | 5 => 5 | 9 => 9 | 51 => 254 | 55 => 258 | 57 => 264 | 58 => 265 | 33 => 184 | n => n, fun | n => n⟩
theorem Tryz.sortedA : Go.Proofs.SlLaysZI.n6 Tryz.prog Tryz.sortedA_ren := {
 mixed := by kernel_rfl
 f6 := ⟨Tryz.f102.name, by decide, Tryz.func102.trans (congrArg some (by kernel_rfl))⟩
 f8 := ⟨Tryz.f143.name, by decide, Tryz.func143.trans (congrArg some (by kernel_rfl))⟩
 f11 := ⟨Tryz.f175.name, by decide, Tryz.func175.trans (congrArg some (by kernel_rfl))⟩
 t0 := Tryz.underlying0
 a0 := Tryz.isAgg0
 z0 := Tryz.sizeOf0
 v0 := Tryz.zeroValue0
 t24 := Tryz.underlying82
 a24 := Tryz.isAgg82
 z24 := Tryz.sizeOf82
 v24 := Tryz.zeroValue82
 t26 := Tryz.underlying3
 a26 := Tryz.isAgg3
 z26 := Tryz.sizeOf3
 v26 := Tryz.zeroValue3
 t28 := Tryz.underlying175
 a28 := Tryz.isAgg175
 z28 := Tryz.sizeOf175
 v28 := Tryz.zeroValue175
 i26 := by kernel_rfl }
end Go.Proofs.YtlnedgjikkhplaaGreat.Ns
namespace Go.Proofs.YtlnedgjikkhplaaGreat.Ns
open Go.RowKit Go.Maps Go.Sort Go.Shelf
theorem values1_in (F : Fence) (n : Nat) (hf : F.fn 145) (hro : F.round = none) (hn : 1 ≤ n) (l Bm : Nat) (a : Option Addr) (cap : Nat) (xs : List Int) (hx : xs.length ≤ 100000) (J : List Int → World → Prop)
    (hY : ∀ pre x W, J pre W → pre.length < xs.length → YieldAt F (n - 1) Tryz.prog l #[encZ x] W fun e W' => e = .returned (.bool true) ∧ J (pre ++ [x]) W' ∧ KeepsWalks W W')
    (W : World) (hcell : ∀ pre W', J pre W' → (∀ j (h : j < xs.length), ∃ b off, a = some ⟨b, off, none⟩ ∧ W'.cell? ⟨b, off + j, none⟩ = some (.int .i64 xs[j])))
    (hm : W.cell? ⟨Bm, 0, none⟩ = some (.slice a xs.length cap)) (h0 : J [] W) :
    CallsIn F n Tryz.prog 145 #[.func (.yield l) #[] #[], .pointer (some ⟨Bm, 0, none⟩)] W fun e W' => (∃ v, e = .returned v) ∧ J xs W' := by
  refine callsIn_of_wp Tryz.func145 rfl hf ?_ hro
  simp only [Tryz.ntmps145, List.size_toArray, List.length_cons, List.length_nil, Nat.reduceAdd, Nat.reduceSub, Array.replicate_succ, Array.replicate_zero, List.push_toArray, List.append_toArray, List.nil_append, List.cons_append]
  gi_wp2
  gi_loopw [7] (fun i wr => ∃ k : Nat, k ≤ xs.length ∧ i = .int .i64 k ∧ J (xs.take k) wr) (fun i _ => xs.length - (intOf i).toNat)
  case atStart => exact ⟨0, Nat.zero_le _, rfl, by simpa using h0⟩
  case round =>
    obtain ⟨k, hk, rfl, hJ⟩ := hrel
    by_cases hlt : k < xs.length
    · obtain ⟨b, off, rfl, c0⟩ := hcell _ _ hJ k hlt
      obtain ⟨fn, tmps, assign, body, hy, hR⟩ := hY (xs.take k) xs[k] wr hJ (by rw [List.length_take]; omega)
      generalize hxk : xs[k] = x at *
      gi_wp2
      refine hR.mono ?_
      rintro e W3 ⟨rfl, hJ3, hk3⟩
      gi_wp2
      go_roundw
      case rel => exact ⟨k + 1, by omega, by go_num, by rw [List.take_succ_eq_append_getElem hlt, hxk]; exact hJ3⟩
      case measure => simp [intOf]; omega
    · obtain rfl : k = xs.length := by omega
      rw [List.take_length] at hJ
      gi_wp2
      go_end0
      exact ⟨⟨_, rfl⟩, hJ⟩
theorem appendSeq_in (g : Nat) (lb : Array Value) (eg : ∀ args w, (callFunc g args).run Tryz.prog w = .ok (.enter g args) w) (xs : List Int) (hN : xs.length ≤ 100000) (w : World)
    (hseq : ∀ (l : Nat) (J : List Int → World → Prop) (W : World), Below w.heap.size w W → (∀ s W', J s W' → Below w.heap.size w W') →
      (∀ pre x W1, J pre W1 → pre.length < xs.length → YieldAt Fence.wide 3 Tryz.prog l #[encZ x] W1 fun e W' => e = .returned (.bool true) ∧ J (pre ++ [x]) W' ∧ KeepsWalks W1 W') →
      J [] W → CallsIn Fence.wide 4 Tryz.prog g (#[.func (.yield l) #[] #[]] ++ lb) W fun e W' => (∃ v, e = .returned v) ∧ J xs W') :
    CallsIn Fence.wide 5 Tryz.prog 175 #[.slice none 0 0, .func (.func g) #[] lb] w fun e w' => ∃ v : Value, e = .returned v ∧ w'.ownsRow w.heap.size 3 1 v xs.length (xs.map encZ) ∧ Below w.heap.size w w' := by
  have L : SlLaysZI.n11 Tryz.prog Tryz.sortedA_ren := { Tryz.sortedA with }
  refine callsIn_of_wp_marks Tryz.func175 rfl trivial ?_ rfl
  simp only [Tryz.ntmps175, List.size_toArray, List.length_cons, List.length_nil, Nat.reduceAdd, Nat.reduceSub, Array.replicate_succ, Array.replicate_zero, List.push_toArray, List.append_toArray, List.nil_append, List.cons_append]
  gi_wp2
  refine wpIn_rangeFunc ?_
  intro fn hfn
  obtain ⟨W0, hW0⟩ := Nq (w.alloc (.cells #[.slice none 0 0] 82))
  have hs0 : W0.heap.size = w.heap.size + 1 := by rw [← hW0]; simp
  have hv0 : W0.heap[w.heap.size]? = some (.cells #[.slice none 0 0] 82 (0, 0)) := by rw [← hW0]; exact World.alloc_heap_new w _
  have hb0 : Below w.heap.size w W0 := by rw [← hW0]; exact bel1 w _
  rw [hW0]
  obtain ⟨R, hR⟩ := Nq (AnyZI.apRec Tryz.sortedA_ren fn (.func (.func g) #[] lb) w.heap.size W0.heap.size .ready none)
  obtain ⟨W1, hW1⟩ := Nq ((W0.alloc (.deferred (some []))).alloc (.loop R))
  have hold : ∀ k, k < W0.heap.size → W1.heap[k]? = W0.heap[k]? := fun k hk => by
    rw [← hW1]; exact (Below.heap_alloc _ _ k (by simp; omega)).trans (Below.heap_alloc _ _ k hk)
  have hb1 : Below w.heap.size w W1 := by rw [← hW1]; exact (hb0.alloc hb0.size _).alloc (by have := hb0.size; simp; omega) _
  have hs1 : W1.heap.size = W0.heap.size + 2 := by rw [← hW1]; simp
  have hl1 : W1.heap[W0.heap.size + 1]? = some (.loop R) := by
    rw [← hW1]; have := World.alloc_heap_new (W0.alloc (.deferred (some []))) (.loop R); rwa [World.size_alloc] at this
  have hM : AnyZI.ApAt Tryz.sortedA_ren w fn (.func (.func g) #[] lb) w.heap.size (W0.heap.size + 1) W0.heap.size [] W1 :=
    ⟨⟨_, (hold w.heap.size (by omega)).trans hv0, ⟨rfl, .inl ⟨rfl, rfl⟩⟩, by simp⟩, by rw [hR]; exact hl1,
     by rw [← hW1]; exact (Below.heap_alloc _ _ _ (by simp)).trans (World.alloc_heap_new W0 _), hb1⟩
  refine ⟨W0.heap.size + 1, [{ target := .collected W0.heap.size, args := #[] }], W1, { target := .fn (.func g) lb, args := #[.func (.yield (W0.heap.size + 1)) #[] #[]] }, W1, g,
    #[.func (.yield (W0.heap.size + 1)) #[] #[]] ++ lb, W1, ?_, ?_, ?_, ?_, fun _ => (by decide), ?_⟩
  · rw [← hW1, ← hR]; exact run_enterLoop_outer _ _ _ _ _
  · simp [resolve, go_sem]
  · intro f' hf'; trivial
  · simp [invoke, go_sem, eg]
  · refine (hseq (W0.heap.size + 1) (AnyZI.ApAt Tryz.sortedA_ren w fn (.func (.func g) #[] lb) w.heap.size (W0.heap.size + 1) W0.heap.size) W1 hb1 (fun s W' h => h.below)
      (fun pre x W hJ hl => AnyZI.apYield L Fence.wide 3 w fn hfn _ w.heap.size (W0.heap.size + 1) W0.heap.size (by omega) (by omega) (by omega) Lr (by omega) xs.length (by unfold maxLen; omega) (by omega) pre x W hJ hl) hM).mono ?_
    rintro e W2 ⟨⟨v0, rfl⟩, h2⟩
    obtain ⟨v, hv, hrow, _⟩ := h2.box
    have hL := h2.L
    rw [hR] at hL
    have hend := run_endLoop (P := Tryz.prog) hL (by rw [← hR]; simp [AnyZI.apRec])
    obtain ⟨W3, hW3⟩ := Nq (W2.putObj (W0.heap.size + 1) (.loop { R with state := .exhausted }))
    rw [hW3, show R.pending = none by rw [← hR]; rfl] at hend
    have hg3 : W2.grownBy W3 (some (W0.heap.size + 1)) := by rw [← hW3]; exact grownBy_putObj_a _ _ _
    have hv3 : W3.heap[w.heap.size]? = some (.cells #[v] 82 (0, 0)) := by rw [← hW3]; exact (World.putObj_heap_other (by omega)).trans hv
    have hK3 : W3.heap[W0.heap.size]? = some (.deferred (some [])) := by rw [← hW3]; exact (World.putObj_heap_other (by omega)).trans h2.K
    have hrow3 := hrow.kept hg3 (ownsRow_ne_a hrow hL (fun cur e => by cases e))
    have hb3 : Below w.heap.size w W3 := h2.below.grown hg3 h2.below.size (fun k e => by cases e; omega)
    obtain ⟨hc3, hf3⟩ := cell_of_box_a hv3
    have hK : W3.grownBy (W3.putObj W0.heap.size (.deferred none)) (some W0.heap.size) := grownBy_putObj_a _ _ _
    have HQ : Hid (∃ v' : Value, Ending.returned v = .returned v' ∧ (W3.putObj W0.heap.size (.deferred none)).ownsRow w.heap.size 3 1 v' xs.length (xs.map encZ) ∧ Below w.heap.size w (W3.putObj W0.heap.size (.deferred none))) :=
      ⟨v, rfl, hrow3.kept hK (ownsRow_ne_a hrow3 hK3 (fun cur e => by cases e)), hb3.grown hK hb3.size (fun k e => by cases e; omega)⟩
    clear hW3 hR
    refine ⟨none, W3, hend, ?_⟩
    gi_wp2
    rw [← hs0]
    refine ⟨by simp, .inl ⟨_, _, rfl, run_takeDeferred hK3, ?_⟩⟩
    refine ⟨_, results_tmp rfl _ _ _, ?_⟩
    exact HQ.out
theorem sorted_any (Bm : Nat) (a : Option Addr) (cap : Nat) (xs : List Int) (hx : xs.length ≤ 100000) (w : World) (hat : AtV w a (IC xs)) (hm : w.cell? ⟨Bm, 0, none⟩ = some (.slice a xs.length cap)) :
    Calls Tryz.prog 102 #[.func (.func 145) #[] #[.pointer (some ⟨Bm, 0, none⟩)]] w fun e w' => ∃ v : Value, e = .returned v ∧ w'.ownsRow w.heap.size 3 1 v xs.length (IC (xs.mergeSort fun x y => decide (x ≤ y))) ∧ Below w.heap.size w w' := by
  have h52 : CallsIn Fence.wide 5 Tryz.prog 175 #[.slice none 0 0, .func (.func 145) #[] #[.pointer (some ⟨Bm, 0, none⟩)]] w fun e w' => ∃ v : Value, e = .returned v ∧ w'.ownsRow w.heap.size 3 1 v xs.length (xs.map encZ) ∧ Below w.heap.size w w' :=
    appendSeq_in 145 _ (enters_of Tryz.func145 (by kernel_rfl) rfl) xs hx w fun l J W hW hJ hY h0 =>
      values1_in Fence.wide 4 trivial rfl (by omega) l Bm a cap xs hx J hY W (fun pre W' h' => (hat.keep (hJ _ _ h')).int) ((hW.cell (p := ⟨Bm, 0, none⟩) (World.block_lt_of_cell? w _ hm)).trans hm) h0
  have h45 : Calls Tryz.prog 143 #[.func (.func 145) #[] #[.pointer (some ⟨Bm, 0, none⟩)]] w fun e w' => ∃ v : Value, e = .returned v ∧ w'.ownsRow w.heap.size 3 1 v xs.length (xs.map encZ) ∧ Below w.heap.size w w' := by
    have h52' := callsIn_wide.1 h52
    clear h52 hat hm
    go_enter Tryz.func143, Tryz.ntmps143
    go_wp2_with fail
    refine h52'.mono ?_
    rintro e w' ⟨v, rfl, h1, h2⟩
    have HQ := Hf (And.intro h1 h2)
    clear h1 h2 h52'
    go_wp2
    go_ret
    exact ⟨v, rfl, HQ.out⟩
  clear h52 hat hm
  go_enter Tryz.func102, Tryz.ntmps102
  go_wp2_with fail
  refine h45.mono ?_
  rintro e W ⟨v, rfl, hrow, hb⟩
  rcases hrow.2 with ⟨rfl, hz⟩ | ⟨gb, cp, cur, rfl, hbase, hgb, r1, r2, r3, r4⟩
  · have hss : xs = [] := List.eq_nil_of_length_eq_zero hz
    subst hss
    have HQ := Hf (And.intro hrow hb)
    clear hrow hb h45
    go_wp2_with fail
    refine (Tryz.slices_Sort_int_none none 0 W).mono ?_
    rintro e w' ⟨rfl, rfl⟩
    go_wp2
    go_ret
    exact ⟨_, rfl, by simpa [IC] using HQ.out.1, HQ.out.2⟩
  · have hH : Holds (Value.int .i64) W gb 0 xs.toArray := holds_of_block_i hgb (by simpa using r4)
    have hgl : gb < W.heap.size := (Array.getElem?_eq_some_iff.1 hgb).1
    have hS := Tryz.slices_Sort_int gb 0 cp xs W hH hgl (by omega)
    have HQ : Hid (∀ k os, (grow (putRow encZ (Sort.ahead W k) gb 0 (xs.mergeSort fun x y => decide (x ≤ y)).toArray) os).ownsRow w.heap.size 3 1 (.slice (some ⟨gb, 0, none⟩) xs.length cp) xs.length (IC (xs.mergeSort fun x y => decide (x ≤ y))) ∧ Below w.heap.size w (grow (putRow encZ (Sort.ahead W k) gb 0 (xs.mergeSort fun x y => decide (x ≤ y)).toArray) os)) :=
      fun k os => ⟨ownsRow_sorted_i (by simp) hbase hgb r1 r2 r3, hb.grown (grownBy_sorted_i _) hb.size (fun j hj => by cases hj; exact hbase)⟩
    clear hH hrow hb h45 hgb
    go_wp2_with fail
    refine hS.mono ?_
    rintro e w' ⟨rfl, nn, os, rfl⟩
    have HQ2 := Hf (HQ.out nn os)
    clear HQ hS
    generalize hG : grow _ _ = G at *
    clear hG
    go_wp2
    go_ret
    exact ⟨_, rfl, HQ2.out⟩
theorem values_any (v : Value) (a : Option Addr) (n c : Nat) (hv : v = .slice a n c) (w : World) : Calls Tryz.prog 103 #[v] w fun e w' => e = .returned (.func (.func 145) #[] #[.pointer (some ⟨w.heap.size, 0, none⟩)]) ∧ w' = w.alloc (.cells #[v] 82) := by
  subst hv
  go_enter Tryz.func103, Tryz.ntmps103
  go_wp2
  go_ret
  exact ⟨rfl, rfl⟩
theorem loose_any (base b g : Nat) (vl : Value) (n : Nat) (P : List M.Pl) (ls : List Nat) (w : World) (h : DI w base b g vl n P ls) :
    Calls Tryz.prog 48 #[.pointer (some ⟨b, 0, none⟩)] w fun e w' => ∃ v : Value, e = .returned v ∧ w'.ownsRow w.heap.size 3 1 v (M.lo P).length (IC (M.zs (M.lo P))) ∧ Below w.heap.size w w' := by
  obtain ⟨⟨_, _, c2, _⟩, _⟩ := row4 h.row
  obtain ⟨a, cap, rfl, hat, _, _⟩ := owns_at h.own
  have hlen : (M.zs ls).length = (M.lo P).length := by rw [M.zs_len]; exact h.lo.perm.length_eq
  have hx : (M.zs ls).length ≤ 100000 := by have := h.lsn; rw [M.zs_len]; omega
  have hs := sorted_any w.heap.size a cap (M.zs ls) hx (w.alloc (.cells #[.slice a (M.zs ls).length cap] 82)) (hat.keep (bel1 w _)) (by
    rw [cell_of_row _ _ 0 _ _ _ (heap_alloc_last w _)]; rfl)
  rw [h.lo.sort, hlen] at hs
  rw [hlen] at c2
  clear h hat hx
  generalize (M.lo P).length = m at *
  go_enter Tryz.func48, Tryz.ntmps48
  go_wp2_with fail
  refine (values_any _ a m cap rfl w).mono ?_
  rintro e w1 ⟨rfl, rfl⟩
  go_wp2_with fail
  refine hs.mono ?_
  rintro e w' ⟨v, rfl, h1, h2⟩
  have HQ : Hid (w'.ownsRow w.heap.size 3 1 v m (IC (M.zs (M.lo P))) ∧ Below w.heap.size w w') := ⟨owns_low h1 (by simp), Bu (bel1 w _) h2 Lr⟩
  clear h1 h2 hs
  go_wp2
  go_ret
  exact ⟨v, rfl, HQ.out⟩
end Go.Proofs.YtlnedgjikkhplaaGreat.Ns
namespace Go.Proofs.YtlnedgjikkhplaaGreat.Ns
open Go.RowKit
open M (ofL ofL_size ofL_of)
theorem put_any (s t : ByteArray) (w : World) (hs : s.size = 64) (ht : t.size ≤ 64) :
    Calls Tryz.prog 49 #[.string s, .int .i64 0, .string t] w fun e w' => e = .returned (.tuple #[.string (ofL (M.over s.data.toList 0 t.data.toList)), .int .i64 0]) ∧ Below w.heap.size w w' := by
  obtain ⟨i0, hi, hz0, hz1, hz2⟩ := info_parts Tryz.info5
  have hmx : max (64 : Int) (t.size : Int) = 64 := by omega
  have hd : decide (65536 - (t.size : Int) < 0) = false := by simp; omega
  go_enter Tryz.func49, Tryz.ntmps49
  go_wp2_with (at_make; refine wpList_make_full _ rfl (.tmp 27) (.tmp 27) 138 rfl w.heap.size 5 i0 (.int .u8 0) 1 Tryz.underlying138 hi hz0 hz1 .i64 .i64 _ _ 64 rfl rfl (by omega) (by omega) (by rw [hz2]; omega) (by unfold maxLen; omega) Lr ?_; intro w1 ho hg; rw [made_cells] at ho; have hrow := row_of_owns (by simp) ho; clear ho)
  refine (lay_any w.heap.size 0 64 64 _ s _ hrow (by omega) (by rw [List.length_replicate]; omega) (by omega)).mono ?_
  rintro e w2 ⟨rfl, hrow2, hg2⟩
  rw [over_pad _ _ (by rw [len_data]; omega), show pad s.data.toList 64 = s.data.toList by simp [pad, hs]] at hrow2
  have hb2 := ((Below.refl _ _).grown hg Lr (by simp)).grown hg2 (by have := hg.size; omega) (by simp)
  have hz2' : w.heap.size ≤ w2.heap.size := hb2.size
  clear hrow hg hg2
  go_wp2_with fail
  refine (lay_any w.heap.size 0 64 64 _ t _ hrow2 (by omega) (by rw [len_data]; omega) (by omega)).mono ?_
  rintro e w3 ⟨rfl, hrow3, hg3⟩
  have hcv := hrow3.convert 64 64 (by rw [M.over_length _ _ _ (by rw [len_data, len_data]; omega), len_data, hs])
  have hb3 := hb2.grown hg3 hz2' (by simp)
  clear hrow2 hrow3 hg3
  go_wp2
  go_ret2
  exact ⟨rfl, hb3⟩
theorem torn_eq (p : M.Pl) (tear : Nat) (h1 : p.1.size = 64) (h2 : p.2.size = 64) (h3 : tear ≤ 64) : ofL (M.over p.1.data.toList 0 (p.2.extract 0 tear).data.toList) = M.torn p tear := by
  have hl : (p.2.extract 0 tear).data.toList.length = tear := by rw [len_data, ByteArray.size_extract]; omega
  apply ByteArray.ext
  apply Array.ext'
  unfold M.torn M.over
  rw [ByteArray.data_append, Array.toList_append, ofL_data, List.take_zero, List.nil_append, hl, Nat.zero_add, extract_list p.1 tear 64 (by omega)]
  congr 1
  rw [List.take_of_length_le (by rw [List.length_drop, len_data]; omega)]
theorem bit_kept (keep k : Nat) (hk : keep < 18446744073709551616) : bits .and .u64 ((keep : Int) / 2 ^ min k 64) 1 = bif M.kept keep k then 1 else 0 := by
  have e : (keep : Int) / 2 ^ min k 64 = ((keep / 2 ^ min k 64 : Nat) : Int) := by simp
  have hle : keep / 2 ^ min k 64 ≤ keep := Nat.div_le_self _ _
  have hd : keep / 2 ^ min k 64 = keep / 2 ^ k := by
    rcases Nat.lt_or_ge k 64 with h | h
    · rw [Nat.min_eq_left (by omega)]
    · rw [Nat.min_eq_right h, Nat.div_eq_of_lt (by omega), Nat.div_eq_of_lt]
      have : 2 ^ 64 ≤ 2 ^ k := Nat.pow_le_pow_right (by decide) h
      omega
  rw [hd] at e hle
  rw [e]
  unfold M.kept
  generalize keep / 2 ^ k = q at *
  rw [and_one_u64 _ (by omega) (by omega)]
  rcases Nat.mod_two_eq_zero_or_one q with h | h
  · have h' : (q : Int) % 2 = 0 := by omega
    simp [h, h']
  · have h' : (q : Int) % 2 = 1 := by omega
    simp [h, h']
theorem ci_step {P : List M.Pl} {keep : Nat} {tear : Int} {k : Nat} {t : Bool} {Q : List M.Pl} (h : M.CI P keep tear k t Q) (hk : k < (M.lo P).length) :
    ∃ i p, (M.lo P)[k] = i ∧ Q[i]? = some p ∧ i < P.length ∧ p.1.size = 64 ∧ p.2.size = 64 ∧ M.CI P keep tear (k + 1) (t && M.kept keep k) (Q.set i (M.nv keep tear.toNat k t p, M.E)) := by
  obtain ⟨hi, h1, h2, h3⟩ := h.step hk
  exact ⟨_, _, rfl, List.getElem?_eq_getElem hi, by rw [← h.len]; exact hi, h1, h2, h3⟩
section
variable {w : World} {g i : Nat} {Q : List M.Pl} {p : M.Pl}
theorem PR.c' (h : PR w g Q) (hi : Q[i]? = some p) : w.cell? ⟨g, i * 2, none⟩ = some (.string p.1) ∧ w.cell? ⟨g, i * 2 + 1, none⟩ = some (.string p.2) := by
  obtain ⟨h1, rfl⟩ := List.getElem?_eq_some_iff.1 hi
  exact h.c i h1
theorem PR.s0 (h : PR w g Q) (hi : Q[i]? = some p) (s : ByteArray) : PR (w.setCell ⟨g, i * 2, none⟩ (.string s)) g (Q.set i (s, p.2)) ∧ (Q.set i (s, p.2))[i]? = some (s, p.2) := by
  obtain ⟨h1, rfl⟩ := List.getElem?_eq_some_iff.1 hi
  exact ⟨h.set0 i h1 s, by simp [h1]⟩
theorem PR.s1 (h : PR w g Q) (hi : Q[i]? = some p) (s : ByteArray) : PR (w.setCell ⟨g, i * 2 + 1, none⟩ (.string s)) g (Q.set i (p.1, s)) ∧ (Q.set i (p.1, s))[i]? = some (p.1, s) := by
  obtain ⟨h1, rfl⟩ := List.getElem?_eq_some_iff.1 hi
  exact ⟨h.set1 i h1 s, by simp [h1]⟩
end
theorem crash_any (base b g : Nat) (vl : Value) (n : Nat) (P : List M.Pl) (ls : List Nat) (keep : Nat) (tear : Int) (w : World) (h : DI w base b g vl n P ls) (hk : keep < 18446744073709551616) :
    Calls Tryz.prog 14 #[.pointer (some ⟨b, 0, none⟩), .int .u64 keep, .int .i64 tear] w (ChOut w base b g vl n (M.crash P keep tear) (.tuple #[])) := by
  have hloo := loose_any base b g vl n P ls w h
  have HX := Hf h
  have hn := h.n1
  have hlol : (M.lo P).length ≤ 4096 := by have := M.lo_len P; have := h.len; omega
  obtain ⟨T0, hT0⟩ := Nq (M.tears tear)
  have HC0 : Hid (M.CI P keep tear 0 T0 P) := by rw [← hT0]; exact M.CI.start h.ok keep tear
  have hTc : (¬ 1 ≤ tear ∧ T0 = false) ∨ (1 ≤ tear ∧ T0 = decide (tear < 64)) := by
    by_cases h1 : 1 ≤ tear
    · exact .inr ⟨h1, by rw [← hT0]; unfold M.tears; rw [decide_eq_true h1, Bool.true_and]⟩
    · exact .inl ⟨h1, by rw [← hT0]; unfold M.tears; rw [decide_eq_false h1, Bool.false_and]⟩
  clear h hT0
  rcases hTc with ⟨h1, rfl⟩ | ⟨h1, rfl⟩
  all_goals
    go_enter Tryz.func14, Tryz.ntmps14
    go_wp2_with fail
    refine hloo.mono ?_
    rintro e w2 ⟨v, rfl, ho, hb2⟩
    obtain ⟨a, cap, rfl, hat, hbl, _⟩ := owns_at ho
    have HX2 := Hf (HX.out.keep hb2)
    have HAT : Hid (AtV w2 a (IC (M.zs (M.lo P))) ∧ ∀ k, blk a k → k ≠ g) := ⟨hat, fun k hk e => by have := (hbl k hk).1; have := HX.out.pl.lt; omega⟩
    have HB2 := Hf hb2
    have hzl := M.zs_len (M.lo P)
    clear hloo ho hb2 hat hbl HX
    generalize hLL : (M.lo P).length = ll at *
    go_wp2
    go_loopw [6, 22] (fun t i wr => ∃ (k : Nat) (T : Bool) (Q : List M.Pl), k ≤ ll ∧ t = .bool T ∧ i = .int .i64 k ∧ M.CI P keep tear k T Q ∧ PR wr g Q ∧ w2.grownBy wr (some g)) (fun _ i _ => ll - (intOf i).toNat)
    case atStart => exact ⟨0, _, P, Nat.zero_le _, rfl, rfl, HC0.out, HX2.out.pl, World.grownBy.refl _ _⟩
    case round =>
      obtain ⟨k, T, Q, hkl, rfl, rfl, hCI, hp, hg⟩ := hrel
      have hrow : wr.heap[b]? = _ := (hg.block b HX2.out.lt (fun e => HX2.out.ne.1 (by cases e; rfl))).trans HX2.out.row
      obtain ⟨⟨s0, s1, s2, s3⟩, sf⟩ := row4 hrow
      by_cases hlt : k < ll
      · obtain ⟨bb, off, rfl, c0⟩ := (HAT.out.1.keepBut (w' := wr) fun j hj hbl => hg.block j hj (fun e => HAT.out.2 j hbl (by cases e; rfl))).int k (by omega)
        rw [M.zs_get _ k (by omega)] at c0
        obtain ⟨i, p, hi, hpi, hiP, h64, h642, hCI2⟩ := ci_step hCI (by omega)
        rw [hi] at c0
        have hin : i < n := by rw [← HX2.out.len]; exact hiP
        have HCI2 := Hf hCI2
        obtain ⟨p0, p1⟩ := hp.c' hpi
        have HP := Hf (And.intro hp hpi)
        have HG := Hf hg
        have HT := Hf hCI.t
        have pf0 := hp.free (i * 2)
        have pf1 := hp.free (i * 2 + 1)
        clear hCI hp hg hCI2 hrow sf hpi hi
        have hbit := bit_kept keep k hk
        cases hkp : M.kept keep k with
        | true =>
          rw [hkp] at hbit
          have HN : Hid (M.CI P keep tear (k + 1) T (Q.set i (p.2, M.E)) ∧ PR ((wr.setCell ⟨g, i * 2, none⟩ (.string p.2)).setCell ⟨g, i * 2 + 1, none⟩ (.string M.E)) g (Q.set i (p.2, M.E)) ∧ w2.grownBy ((wr.setCell ⟨g, i * 2, none⟩ (.string p.2)).setCell ⟨g, i * 2 + 1, none⟩ (.string M.E)) (some g)) := by
            refine ⟨?_, ?_, grown_trans (grown_trans HG.out (grown_set _ _ _ _)) (grown_set _ _ _ _)⟩
            · have := HCI2.out
              unfold M.nv at this
              rw [hkp, Bool.and_true] at this
              exact this
            · obtain ⟨q1, q2⟩ := HP.out.1.s0 HP.out.2 p.2
              have := (q1.s1 q2 M.E).1
              simpa using this
          clear HCI2 HP HG HT hkp HX2 HAT HC0 HB2
          generalize p.1 = pa at *
          generalize p.2 = pb at *
          simp only [cond_true] at hbit
          go_wp2
          go_roundw
          case rel => exact ⟨k + 1, T, _, by omega, rfl, by go_num, HN.out⟩
          case measure => simp [intOf]; omega
        | false =>
          rw [hkp] at hbit
          cases T with
          | false =>
            have HN : Hid (M.CI P keep tear (k + 1) false (Q.set i (p.1, M.E)) ∧ PR (wr.setCell ⟨g, i * 2 + 1, none⟩ (.string M.E)) g (Q.set i (p.1, M.E)) ∧ w2.grownBy (wr.setCell ⟨g, i * 2 + 1, none⟩ (.string M.E)) (some g)) := by
              refine ⟨?_, (HP.out.1.s1 HP.out.2 M.E).1, grown_trans HG.out (grown_set _ _ _ _)⟩
              have := HCI2.out
              unfold M.nv at this
              rw [hkp, Bool.false_and] at this
              exact this
            clear HCI2 HP HG HT hkp HX2 HAT HC0 HB2
            generalize p.1 = pa at *
            generalize p.2 = pb at *
            simp only [cond_false] at hbit
            go_wp2
            go_roundw
            case rel => exact ⟨k + 1, false, _, by omega, rfl, by go_num, HN.out⟩
            case measure => simp [intOf]; omega
          | true =>
            have htt := HT.out rfl
            unfold M.tears at htt
            simp only [Bool.and_eq_true, decide_eq_true_eq] at htt
            first
              | (exfalso; omega)
              | (obtain ⟨tt, rfl⟩ := Int.eq_ofNat_of_zero_le (show 0 ≤ tear by omega)
                 have ht1 : 1 ≤ tt := by omega
                 have ht2 : tt < 64 := by omega
                 have htz : (tt : Int) ≤ 64 := by omega
                 have hext : (p.2.extract 0 tt).size = tt := by rw [ByteArray.size_extract]; omega
                 have hput := fun W => put_any p.1 (p.2.extract 0 tt) W h64 (by omega)
                 rw [torn_eq p tt h64 h642 (by omega)] at hput
                 have HW : Hid (∀ w4, Below wr.heap.size wr w4 → (w4.cell? ⟨g, i * 2, none⟩ = some (.string p.1) ∧ w4.cell? ⟨g, i * 2 + 1, none⟩ = some (.string p.2) ∧ w4.frozen? ⟨g, i * 2, none⟩ = false ∧ w4.frozen? ⟨g, i * 2 + 1, none⟩ = false) ∧
                     ∀ W, W = ((w4.setCell ⟨g, i * 2 + 1, none⟩ (.string (M.torn p tt))).setCell ⟨g, i * 2, none⟩ (.string (M.torn p tt))).setCell ⟨g, i * 2 + 1, none⟩ (.string M.E) → M.CI P keep (tt : Int) (k + 1) false (Q.set i (M.torn p tt, M.E)) ∧ PR W g (Q.set i (M.torn p tt, M.E)) ∧ w2.grownBy W (some g)) := by
                   intro w4 hb4
                   have hp4 : PR w4 g Q := (hb4.block g HP.out.1.lt).trans HP.out.1
                   obtain ⟨q0, q1⟩ := hp4.c' HP.out.2
                   refine ⟨⟨q0, q1, hp4.free _, hp4.free _⟩, ?_⟩
                   rintro W rfl
                   refine ⟨?_, ?_, ?_⟩
                   · have := HCI2.out
                     unfold M.nv at this
                     rw [hkp, Bool.true_and, Int.toNat_natCast] at this
                     exact this
                   · obtain ⟨r1, r2⟩ := hp4.s1 HP.out.2 (M.torn p tt)
                     obtain ⟨r3, r4⟩ := r1.s0 r2 (M.torn p tt)
                     have := (r3.s1 r4 M.E).1
                     simpa using this
                   · have hg4 : w2.grownBy w4 (some g) := ⟨hb4.os.trans HG.out.os, hb4.tape.trans HG.out.tape, hb4.output.trans HG.out.output, Nat.le_trans HG.out.size hb4.size, fun j hj hn => (hb4.block j (Nat.lt_of_lt_of_le hj HG.out.size)).trans (HG.out.block j hj hn)⟩
                     exact grown_trans (grown_trans (grown_trans hg4 (grown_set _ _ _ _)) (grown_set _ _ _ _)) (grown_set _ _ _ _)
                 clear HCI2 HP HG HT hkp HX2 HAT HC0 HB2 htt
                 generalize M.torn p tt = tn at *
                 generalize hpa : p.1 = pa at *
                 generalize hpb : p.2 = pb at *
                 clear hpa hpb
                 simp only [cond_false] at hbit
                 go_wp2_with fail
                 go_region_law (first
                   | (go_simp; go_at_call 49; refine (hput _).mono ?_; rintro e w4 ⟨rfl, hb4⟩; obtain ⟨⟨k0, k1, k2, k3⟩, hfin⟩ := HW.out w4 (Below.trans (Below.drew (Below.refl _ _)) hb4); have HF := Hf hfin; clear hfin hb4; go_simp))
                 all_goals
                   go_wp2
                   go_roundw
                   case rel => exact ⟨k + 1, false, _, by omega, rfl, by go_num, HF.out _ rfl⟩
                   case measure => simp [intOf]; omega)
      · obtain rfl : k = ll := by omega
        subst hLL
        obtain ⟨e1, e2, e3, e4⟩ := hCI.done
        subst e1
        obtain ⟨q1, q2⟩ := HX2.out.none hg hp e2 e3 e4
        have HK : Hid (ChOut w base b g vl n (M.crash P keep tear) (.tuple #[]) (.returned (.tuple #[])) (wr.setCell ⟨b, 2, none⟩ (.slice none 0 0))) := ⟨_, [], rfl, q1, (Ch.ofBelow HB2.out).trans q2⟩
        have sf2 := sf 2
        clear q1 q2 hp hg HX2 HAT hrow sf hCI e2 e3 e4 HC0 HB2
        go_wp2
        go_end0
        exact HK.out
end Go.Proofs.YtlnedgjikkhplaaGreat.Ns
