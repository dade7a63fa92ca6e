/-
  The chapter's example.
-/
import Derived.Test.YtpfmdchmgaaakaaK
namespace Go.Proofs.Ytpfmdchmgaaakaa
open Go.RowKit Go.Maps
set_option linter.unusedVariables false
open M (K)

theorem row_one {w : World} {a b : Nat} (h : w.heap[b]? = some (.cells #[.int .i64 (a : Int)] 3 (0, 0))) : AtI w (some ⟨b, 0, none⟩) [(a : Int)] := by
  intro j hj
  match j, hj with
  | 0, _ => exact ⟨b, 0, rfl, by rw [cell_of_row w b 0 _ _ _ h]; rfl⟩
theorem row_two {w : World} {x y : Int} {b : Nat} (h : w.heap[b]? = some (.cells #[.int .i64 x, .int .i64 y] 3 (0, 0))) : AtI w (some ⟨b, 0, none⟩) [x, y] := by
  intro j hj
  match j, hj with
  | 0, _ => exact ⟨b, 0, rfl, by rw [cell_of_row w b 0 _ _ _ h]; rfl⟩
  | 1, _ => exact ⟨b, 0, rfl, by rw [cell_of_row w b (0 + 1) _ _ _ h]; rfl⟩
theorem ks_len {L : List (Nat × K)} {l : List K} (h : ks L = l) : L.length = l.length := by rw [← h]; simp [ks]
set_option maxRecDepth 100000 in
set_option maxHeartbeats 4000000 in
theorem awake_any (w : World) : Calls Try.prog 8 #[] w fun e w' => e = .returned (.bool true) ∧ Below w.heap.size w w' := by
  go_enter Try.func8, Try.ntmps8
  go_wp2_with fail
  refine (new_any 2 w).mono ?_
  rintro x w1 ⟨c, m, rfl, I1, hc, hm, B1⟩
  have S1 : CS w w1 c m 0 2 [] := ⟨I1, B1, hc, hm, by simp [bs]⟩
  have hp1 := put_any c m 0 2 [] 1 s1 w1 I1 (by simp) (by decide) (by decide) (by decide)
  have HS1 := Hid_of S1
  clear I1 B1 hc hm S1
  go_wp2_with fail
  refine hp1.mono ?_
  rintro x w2 ⟨u2, L2, n2, rfl, I2, hn2, e2, o2, F2, ap2⟩
  rw [show ks [] = [] from rfl, aw1] at e2 o2
  obtain ⟨a2, c2, rfl, _, _, _⟩ := o2.at
  have HS2 := Hid_of (HS1.out.step I2 F2)
  have hp2 := put_any c m n2 2 L2 2 s2 w2 I2 (by rw [ks_len e2]; decide) (by unfold maxLen; omega) (by decide) (by decide)
  clear HS1 I2 F2 ap2 hp1 o2
  simp only [List.length_nil]
  go_wp2_with fail
  refine hp2.mono ?_
  rintro x w3 ⟨u3, L3, n3, rfl, I3, hn3, e3, o3, F3, ap3⟩
  rw [e2, aw2] at e3 o3
  obtain ⟨a3, c3, rfl, _, _, _⟩ := o3.at
  have HS3 := Hid_of (HS2.out.step I3 F3)
  have hg3 := get_any c m n3 2 L3 1 w3 I3 (by decide)
  clear HS2 I3 F3 ap3 hp2 o3 e2
  simp only [List.length_nil]
  go_wp2_with fail
  refine hg3.mono ?_
  rintro x w4 ⟨rfl, L4, I4, e4, F4⟩
  rw [e3, aw3.1] at e4
  rw [e3, aw3.2.1, aw3.2.2]
  have HS4 := Hid_of (HS3.out.step I4 F4)
  have hp4 := put_any c m n3 2 L4 3 s3 w4 I4 (by rw [ks_len e4]; decide) (by unfold maxLen; omega) (by decide) (by decide)
  clear HS3 I4 F4 hg3 e3
  go_wp2_with fail
  refine hp4.mono ?_
  rintro x w5 ⟨u5, L5, n5, rfl, I5, hn5, e5, o5, F5, ap5⟩
  rw [e4, aw4] at e5 o5
  obtain ⟨a5, c5, rfl, at5, bl5, _⟩ := o5.at
  have HS5 := Hid_of (HS4.out.step I5 F5)
  have hcw : c < w4.heap.size ∧ m < w4.heap.size := ⟨HS4.out.ci.lt, HS4.out.ci.mi.lt⟩
  have HA5 := Hid_of at5
  have HBL : Hid (∀ k, blk a5 k → k ≠ c ∧ k ≠ m ∧ k ∉ bs L5) := fun k hk => by
    obtain ⟨h1, h2, h3⟩ := bl5 k hk
    exact ⟨by omega, by omega, ap5 k h2⟩
  have hg5 := get_any c m n5 2 L5 2 w5 I5 (by decide)
  clear HS4 I5 F5 hp4 o5 e4 at5 bl5 ap5 hcw
  simp only [List.length_cons, List.length_nil]
  go_wp2_with fail
  refine hg5.mono ?_
  rintro x w6 ⟨rfl, L6, I6, e6, F6⟩
  have HA6 : Hid (AtI w6 a5 [2]) := HA5.out.keepBut fun k hk hb => by
    obtain ⟨h1, h2, h3⟩ := HBL.out k hb
    exact F6.block k hk h1 h2 h3
  have HS6 := Hid_of (HS5.out.step I6 F6)
  rw [e5, aw5.1] at e6
  rw [e5, aw5.2.1, aw5.2.2]
  clear HS5 I6 F6 hg5 e5 HA5 HBL
  have hs1 : (s1.toList == [97]) = true := by decide +kernel
  have HI6 : Hid (∀ W, Below w6.heap.size w6 W → W.heap[w6.heap.size]? = some (.cells #[.int .i64 2] 3 (0, 0)) → Calls Try.prog 12 #[.slice a5 1 c5, .slice (some ⟨w6.heap.size, 0, none⟩) 1 1] W fun e w' => e = .returned (.bool true) ∧ Below W.heap.size W w') := fun W hW h2 => ints_any a5 c5 _ 1 [2] W (by decide) (HA6.out.keep hW) (row_one (a := 2) h2)
  go_wp2_with fail
  refine (HI6.out _ (bel1 _ _) (heap_alloc_last _ _)).mono ?_
  rintro x w7 ⟨rfl, B7⟩
  have HS7 := Hid_of ((HS6.out.keep (bel1 _ _)).keep B7)
  clear HS6 HI6 HA6 B7
  have hk7 := keys_any c m n5 2 L6 w7 HS7.out.ci (by rw [ks_len e6]; decide)
  rw [e6, show ([⟨1, s1, false⟩, ⟨3, s3, false⟩] : List K).map (·.key) = [1, 3] from rfl] at hk7
  go_wp2_with fail
  refine hk7.mono ?_
  rintro x w8 ⟨u8, rfl, o8, B8⟩
  obtain ⟨a8, c8, rfl, at8, _, _⟩ := o8.at
  have HS8 := Hid_of (HS7.out.keep B8)
  have HI8 : Hid (∀ W, Below w8.heap.size w8 W → W.heap[w8.heap.size]? = some (.cells #[.int .i64 1, .int .i64 3] 3 (0, 0)) → Calls Try.prog 12 #[.slice a8 2 c8, .slice (some ⟨w8.heap.size, 0, none⟩) 2 2] W fun e w' => e = .returned (.bool true) ∧ Below W.heap.size W w') := fun W hW h2 => ints_any a8 c8 _ 2 [1, 3] W (by decide) (at8.keep hW) (row_two h2)
  clear HS7 hk7 o8 B8 at8
  simp only [List.length_cons, List.length_nil]
  go_wp2_with fail
  refine (HI8.out _ (bel1 _ _) (heap_alloc_last _ _)).mono ?_
  rintro x w9 ⟨rfl, B9⟩
  have HS9 := Hid_of ((HS8.out.keep (bel1 _ _)).keep B9)
  clear HS8 HI8 B9
  have hb9 := bytes_any c m n5 2 L6 w9 HS9.out.ci
  rw [e6, aw9] at hb9
  go_wp2_with fail
  refine hb9.mono ?_
  rintro x w10 ⟨rfl, rfl⟩
  have hpn := pin_any c m n5 2 L6 1 true w10 HS9.out.ci (by decide)
  rw [e6, aw6.1, aw6.2] at hpn
  clear hb9
  go_wp2_with fail
  refine hpn.mono ?_
  rintro x w11 ⟨rfl, L11, I11, e11, F11⟩
  have HS11 := Hid_of (HS9.out.step I11 F11)
  have hpn2 := pin_any c m n5 2 L11 2 true w11 I11 (by decide)
  rw [e11, aw7.1, aw7.2] at hpn2
  clear HS9 hpn I11 F11 e6
  go_wp2_with fail
  refine hpn2.mono ?_
  rintro x w12 ⟨rfl, L12, I12, e12, F12⟩
  have HS12 := Hid_of (HS11.out.step I12 F12)
  have hdr := drop_any c m n5 2 L12 3 w12 I12 (by decide)
  rw [e12, aw8.1, aw8.2] at hdr
  clear HS11 hpn2 I12 F12 e11
  go_wp2_with fail
  refine hdr.mono ?_
  rintro x w13 ⟨rfl, L13, I13, e13, F13⟩
  have HB := Hid_of (HS12.out.step I13 F13).bel
  clear HS12 hdr I13 F13 e12 e13
  go_wp2
  go_ret
  exact ⟨rfl, HB.out⟩
end Go.Proofs.Ytpfmdchmgaaakaa
