/-
  A call that is taken twice.
-/
import Derived.Test.YtjbcchipbdkplaaNoneW
import Derived.Deep.CutRange
namespace Go.Proofs.Ytjbcchipbdkplaa
open Go.RowKit Go.Maps
set_option linter.unusedVariables false
open Rp (C fup)

theorem wf_bd {x : Int} (h : (Lit.int .i64 x).wf = true) : -9223372036854775808 ≤ x ∧ x ≤ 9223372036854775807 := by
  simp [Lit.wf, IntKind.min, IntKind.max, IntKind.bits, IntKind.signed] at h
  omega
/-- What a call that is taken twice tells. -/
theorem twice {room : Nat} {T : Int → List C} (ok : Rp.Ok room T) (c k : Int) : (Rp.code room T c k = 1 ∧ Rp.code room (Rp.take room T c k) c k = 3 ∧ Rp.told (Rp.take room T c k) c k = [] ∧ Rp.take room (Rp.take room T c k) c k = Rp.take room T c k) ∨
    (Rp.code room T c k ≠ 1 ∧ Rp.take room T c k = T) := by
  by_cases h : Rp.code room T c k = 1
  · exact .inl ⟨h, Rp.again_fresh ok h⟩
  · exact .inr ⟨h, Rp.again_else h⟩
theorem Fr.refl' (w : World) (F : Nat → Prop) : Fr w F w F := Fr.refl w F
/-- A deed's box, kept beside. -/
theorem box_step {w w' : World} {F G : Nat → Prop} {g : Nat} {o : Obj} (hg : w.heap[g]? = some o) (hF : Fr w F w' G) (hn : ¬ F g) : w'.heap[g]? = some o ∧ ¬ G g := by
  have hl := (Array.getElem?_eq_some_iff.1 hg).1
  refine ⟨(hF.block g hl hn).trans hg, fun e => ?_⟩
  rcases hF.n g e with h' | h'
  · exact hn h'
  · omega
set_option maxRecDepth 100000 in
set_option maxHeartbeats 4000000 in
theorem once_walk (n : Int) (a : Option Addr) (cap : Nat) (l : List Dd) (w : World) (hw : (Lit.int .i64 n).wf = true) (hm : l.length ≤ maxLen) (hat : Dds w a l) (hok : ∀ d ∈ l, d.ok) :
    Calls Try.prog 4 #[.int .i64 n, .slice a l.length cap] w fun e w' => e = .returned (.bool true) ∧ Below w.heap.size w w' := by
  have hfew := few_any a cap l w hm hat hok
  have HAT := Hid_of hat
  have HOK := Hid_of hok
  have hrm := (rm_eq n).symm
  have hrb := rm_bd n
  clear hat hok hm hw
  go_enter Try.func4, Try.ntmps4
  go_wp2_with fail
  refine hfew.mono ?_
  rintro e w0 ⟨b0, rfl, hb0, rfl⟩
  clear hfew
  cases b0 with
  | false =>
    go_wp2_with fail
    refine (awake_any _).mono ?_
    rintro e w8 ⟨rfl, b8⟩
    have HB8 := Hid_of b8
    clear b8
    go_wp2
    go_ret
    exact ⟨rfl, HB8.out⟩
  | true =>
    obtain ⟨hl100, hsz⟩ := hb0 rfl
    have HSZ := Hid_of hsz
    have hnw := newK_any n w0 w0 (Below.refl _ _)
    clear hb0 hsz
    go_wp2_with fail
    refine hnw.mono ?_
    rintro e w1 ⟨b, F1, rfl, S1, _, _⟩
    have HS1 := Hid_of S1
    clear hnw S1
    generalize rm n = room at *
    go_wp2
    go_loopw [6] (fun i wr => ∃ (k : Nat) (F : Nat → Prop) (T : Int → List C), k ≤ l.length ∧ i = .int .i64 k ∧ KS w0 wr F b (3 * k) room T) (fun i _ => l.length - (intOf i).toNat)
    case atStart => exact ⟨0, F1, _, Nat.zero_le _, rfl, HS1.out⟩
    case round =>
      obtain ⟨k, F, T, hk, rfl, hS⟩ := hrel
      by_cases hlt : k < l.length
      · obtain ⟨b0, off, rfl, c0, c1, c2, c3⟩ := (HAT.out.keep hS.bel) k hlt
        have hdok := HOK.out l[k] (List.getElem_mem hlt)
        have hds := HSZ.out l[k] (List.getElem_mem hlt)
        have hcb := wf_bd hdok.2.1
        obtain ⟨W1, HW1⟩ : ∃ W1, Hid (wr.alloc (.cells #[.int .i64 l[k].k, .int .i64 l[k].c, .int .i64 l[k].i, .string l[k].val] 33) = W1) := ⟨_, Hid_of rfl⟩
        have hb1 : Below wr.heap.size wr W1 := by rw [← HW1.out]; exact bel1 wr _
        have hx1 : W1.heap[wr.heap.size]? = some (.cells #[.int .i64 l[k].k, .int .i64 l[k].c, .int .i64 l[k].i, .string l[k].val] 33 (0, 0)) := by rw [← HW1.out]; exact heap_alloc_last wr _
        have hn1 : ¬ F wr.heap.size := fun e => by have := (hS.mine _ e).2; omega
        have HS := Hid_of (hS.keep hb1)
        have hs5 : l[k].val.data.toList.length ≤ 1000000 := by rw [len_data]; omega
        have HSV : Hid (ofL l[k].val.data.toList = l[k].val) := ofL_of _
        clear hS hdok hds hb1
        generalize hsl : l[k].val.data.toList = sl at *
        generalize l[k].val = s at *
        generalize l[k].k = dk at *
        generalize l[k].c = dc at *
        generalize l[k].i = di at *
        clear hsl
        obtain ⟨y0, y1, y2, y3⟩ := rw4 hx1
        have ht1 := HS.out.take (by omega) dc di
        have HTW := Hid_of (twice HS.out.ok dc di)
        have HCV := Hid_of (Rp.code_val room T dc di)
        have HX1 := Hid_of hx1
        have HN1 := Hid_of hn1
        clear hx1 hn1 HS
        generalize hcd : Rp.code room T dc di = cd at *
        generalize htd : Rp.told T dc di = td at *
        go_upto_region 8 with fail
        rw [HW1.out]
        go_wp2_with fail
        refine ht1.mono ?_
        rintro e w2 ⟨F2, rfl, S2, R2⟩
        obtain ⟨hx2, hn2⟩ := box_step HX1.out R2 HN1.out
        obtain ⟨z0, z1, z2, z3⟩ := rw4 hx2
        have ht2 := S2.take (by omega) dc di
        have HX2 := Hid_of hx2
        have HN2 := Hid_of hn2
        clear ht1 S2 R2 hx2 hn2 y0 y1 y2 y3 HX1 HN1
        go_wp2_with fail
        refine ht2.mono ?_
        rintro e w3 ⟨F3, rfl, S3, R3⟩
        obtain ⟨hx3, hn3⟩ := box_step HX2.out R3 HN2.out
        obtain ⟨v0, v1, v2, v3⟩ := rw4 hx3
        obtain ⟨T1, hT1⟩ : ∃ T1, Rp.take room T dc di = T1 := ⟨_, rfl⟩
        have S3' : KS w0 w3 F3 b (3 * k + 2) room T1 := by
          rcases HTW.out with ⟨_, _, _, h4⟩ | ⟨_, h4⟩
          · rw [h4, hT1] at S3; exact S3
          · rw [h4, h4] at S3; rw [← hT1, h4]; exact S3
        have ht3 := S3'.put dc di hcb sl hs5
        rw [HSV.out] at ht3
        have HX3 := Hid_of hx3
        have HN3 := Hid_of hn3
        have HO3 := Hid_of S3'.ok
        have HS3 := Hid_of S3'
        -- the second answer
        have HAN : Hid ((cd = 1 ∧ Rp.code room T1 dc di = 3 ∧ Rp.told T1 dc di = []) ∨ (cd ≠ 1 ∧ Rp.code room T1 dc di = cd ∧ Rp.told T1 dc di = td)) := by
          rcases HTW.out with ⟨h1, h2, h3, _⟩ | ⟨h1, h2⟩
          · rw [hT1] at h2 h3; exact .inl ⟨h1, h2, h3⟩
          · rw [hT1] at h2; rw [h2]; exact .inr ⟨h1, hcd, htd⟩
        rw [hT1]
        have HPT : Hid (Rp.ptb (T1 dc) di sl = true → (cd = 2) = False) := fun hb => by
          have h3 := (Rp.put_told HO3.out hb).2.2.2
          rcases HAN.out with ⟨h1, _, _⟩ | ⟨_, h2, _⟩
          · rw [h1]; simp
          · rw [← h2, h3]; simp
        clear ht2 S3 S3' R3 hx3 hn3 z0 z1 z2 z3 HX2 HN2 HTW hT1 hcd htd
        rcases HAN.out with ⟨h1, h2, h3⟩ | ⟨h1, h2, h3⟩
        · rw [h2, h3, show ofL ([] : List UInt8) = ⟨#[]⟩ from rfl]
          subst h1
          clear HAN HCV h2 h3
          go_wp2_with fail
          refine ht3.mono ?_
          rintro e w4 ⟨rfl, S4, R4⟩
          obtain ⟨hx4, hn4⟩ := box_step HX3.out R4 HN3.out
          obtain ⟨q0, q1, q2, q3⟩ := rw4 hx4
          have HX4 := Hid_of hx4
          have HN4 := Hid_of hn4
          clear ht3 R4 hx4 hn4 v0 v1 v2 v3 HX3 HN3
          cases hpb : Rp.ptb (T1 dc) di sl with
          | false =>
            have hle := (S4.ok.l dc).le
            have hid := S4.ids dc hcb
            have HS4 := Hid_of S4
            clear S4 hpb HPT
            generalize hTT : Rp.put T1 dc di sl = T4 at *
            clear hTT
            go_wp2_with fail
            refine hid.mono ?_
            rintro e w6 ⟨v, rfl, ho6, hb6⟩
            obtain ⟨a6, cap6, rfl, _⟩ := ho6.at
            have hlen : ((T4 dc).map C.id).length = (T4 dc).length := by simp
            rw [hlen]
            have hgt : decide ((room : Int) < ((T4 dc).length : Int)) = false := decide_eq_false (by omega)
            have hgt2 : decide (room < (T4 dc).length) = false := decide_eq_false (by omega)
            have HREL := Hid_of ((HS4.out.keep hb6).mono (N' := 3 * (k + 1)) (by omega))
            clear hid ho6 hb6 HS4 q0 q1 q2 q3 HX4 HN4 hlen
            generalize (T4 dc).length = L4 at *
            go_wp2
            go_roundw
            case rel => exact ⟨k + 1, F3, T4, by omega, by go_num, HREL.out⟩
            case measure => simp [intOf]; omega
          | true =>
            obtain ⟨p1, p2, p3, p4⟩ := Rp.put_told HO3.out hpb
            have ht5 := S4.take (by omega) dc di
            rw [p1, p2, p3, HSV.out] at ht5
            have hne2 := HPT.out hpb
            clear S4 hpb p1 p2 p3 p4 HPT
            generalize hTT : Rp.put T1 dc di sl = T4 at *
            clear hTT
            go_wp2_with fail
            refine ht5.mono ?_
            rintro e w5 ⟨F5, rfl, S5, R5⟩
            obtain ⟨hx5, hn5⟩ := box_step HX4.out R5 HN4.out
            obtain ⟨r0, r1, r2, r3⟩ := rw4 hx5
            have hle := (S5.ok.l dc).le
            have hid := S5.ids dc hcb
            have HS5 := Hid_of S5
            clear S5 R5 hx5 hn5 q0 q1 q2 q3 HX4 HN4 ht5
            go_wp2_with fail
            refine hid.mono ?_
            rintro e w6 ⟨v, rfl, ho6, hb6⟩
            obtain ⟨a6, cap6, rfl, _⟩ := ho6.at
            have hlen : ((T4 dc).map C.id).length = (T4 dc).length := by simp
            rw [hlen]
            have hgt : decide ((room : Int) < ((T4 dc).length : Int)) = false := decide_eq_false (by omega)
            have hgt2 : decide (room < (T4 dc).length) = false := decide_eq_false (by omega)
            have HREL := Hid_of ((HS5.out.keep hb6).mono (N' := 3 * (k + 1)) (by omega))
            clear hid ho6 hb6 HS5 r0 r1 r2 r3 hlen
            generalize (T4 dc).length = L4 at *
            go_wp2
            go_roundw
            case rel => exact ⟨k + 1, F5, T4, by omega, by go_num, HREL.out⟩
            case measure => simp [intOf]; omega
        · rw [h2, h3]
          have hcv : cd = 0 ∨ cd = 2 ∨ cd = 3 ∨ cd = 4 := by have := HCV.out; omega
          clear HAN HCV h2 h3 h1
          rcases hcv with rfl | rfl | rfl | rfl
          · go_wp2_with fail
            refine ht3.mono ?_
            rintro e w4 ⟨rfl, S4, R4⟩
            obtain ⟨hx4, hn4⟩ := box_step HX3.out R4 HN3.out
            obtain ⟨q0, q1, q2, q3⟩ := rw4 hx4
            have HX4 := Hid_of hx4
            have HN4 := Hid_of hn4
            clear ht3 R4 hx4 hn4 v0 v1 v2 v3 HX3 HN3
            cases hpb : Rp.ptb (T1 dc) di sl with
            | false =>
              have hle := (S4.ok.l dc).le
              have hid := S4.ids dc hcb
              have HS4 := Hid_of S4
              clear S4 hpb HPT
              generalize hTT : Rp.put T1 dc di sl = T4 at *
              clear hTT
              go_wp2_with fail
              refine hid.mono ?_
              rintro e w6 ⟨v, rfl, ho6, hb6⟩
              obtain ⟨a6, cap6, rfl, _⟩ := ho6.at
              have hlen : ((T4 dc).map C.id).length = (T4 dc).length := by simp
              rw [hlen]
              have hgt : decide ((room : Int) < ((T4 dc).length : Int)) = false := decide_eq_false (by omega)
              have hgt2 : decide (room < (T4 dc).length) = false := decide_eq_false (by omega)
              have HREL := Hid_of ((HS4.out.keep hb6).mono (N' := 3 * (k + 1)) (by omega))
              clear hid ho6 hb6 HS4 q0 q1 q2 q3 HX4 HN4 hlen
              generalize (T4 dc).length = L4 at *
              go_wp2
              go_roundw
              case rel => exact ⟨k + 1, F3, T4, by omega, by go_num, HREL.out⟩
              case measure => simp [intOf]; omega
            | true =>
              obtain ⟨p1, p2, p3, p4⟩ := Rp.put_told HO3.out hpb
              have ht5 := S4.take (by omega) dc di
              rw [p1, p2, p3, HSV.out] at ht5
              have hne2 := HPT.out hpb
              clear S4 hpb p1 p2 p3 p4 HPT
              generalize hTT : Rp.put T1 dc di sl = T4 at *
              clear hTT
              go_wp2_with fail
              refine ht5.mono ?_
              rintro e w5 ⟨F5, rfl, S5, R5⟩
              obtain ⟨hx5, hn5⟩ := box_step HX4.out R5 HN4.out
              obtain ⟨r0, r1, r2, r3⟩ := rw4 hx5
              have hle := (S5.ok.l dc).le
              have hid := S5.ids dc hcb
              have HS5 := Hid_of S5
              clear S5 R5 hx5 hn5 q0 q1 q2 q3 HX4 HN4 ht5
              go_wp2_with fail
              refine hid.mono ?_
              rintro e w6 ⟨v, rfl, ho6, hb6⟩
              obtain ⟨a6, cap6, rfl, _⟩ := ho6.at
              have hlen : ((T4 dc).map C.id).length = (T4 dc).length := by simp
              rw [hlen]
              have hgt : decide ((room : Int) < ((T4 dc).length : Int)) = false := decide_eq_false (by omega)
              have hgt2 : decide (room < (T4 dc).length) = false := decide_eq_false (by omega)
              have HREL := Hid_of ((HS5.out.keep hb6).mono (N' := 3 * (k + 1)) (by omega))
              clear hid ho6 hb6 HS5 r0 r1 r2 r3 hlen
              generalize (T4 dc).length = L4 at *
              go_wp2
              go_roundw
              case rel => exact ⟨k + 1, F5, T4, by omega, by go_num, HREL.out⟩
              case measure => simp [intOf]; omega
          · go_wp2_with fail
            refine ht3.mono ?_
            rintro e w4 ⟨rfl, S4, R4⟩
            obtain ⟨hx4, hn4⟩ := box_step HX3.out R4 HN3.out
            obtain ⟨q0, q1, q2, q3⟩ := rw4 hx4
            have HX4 := Hid_of hx4
            have HN4 := Hid_of hn4
            clear ht3 R4 hx4 hn4 v0 v1 v2 v3 HX3 HN3
            cases hpb : Rp.ptb (T1 dc) di sl with
            | false =>
              have hle := (S4.ok.l dc).le
              have hid := S4.ids dc hcb
              have HS4 := Hid_of S4
              clear S4 hpb HPT
              generalize hTT : Rp.put T1 dc di sl = T4 at *
              clear hTT
              go_wp2_with fail
              refine hid.mono ?_
              rintro e w6 ⟨v, rfl, ho6, hb6⟩
              obtain ⟨a6, cap6, rfl, _⟩ := ho6.at
              have hlen : ((T4 dc).map C.id).length = (T4 dc).length := by simp
              rw [hlen]
              have hgt : decide ((room : Int) < ((T4 dc).length : Int)) = false := decide_eq_false (by omega)
              have hgt2 : decide (room < (T4 dc).length) = false := decide_eq_false (by omega)
              have HREL := Hid_of ((HS4.out.keep hb6).mono (N' := 3 * (k + 1)) (by omega))
              clear hid ho6 hb6 HS4 q0 q1 q2 q3 HX4 HN4 hlen
              generalize (T4 dc).length = L4 at *
              go_wp2
              go_roundw
              case rel => exact ⟨k + 1, F3, T4, by omega, by go_num, HREL.out⟩
              case measure => simp [intOf]; omega
            | true => exact (Eq.mp (HPT.out hpb) trivial).elim
          · go_wp2_with fail
            refine ht3.mono ?_
            rintro e w4 ⟨rfl, S4, R4⟩
            obtain ⟨hx4, hn4⟩ := box_step HX3.out R4 HN3.out
            obtain ⟨q0, q1, q2, q3⟩ := rw4 hx4
            have HX4 := Hid_of hx4
            have HN4 := Hid_of hn4
            clear ht3 R4 hx4 hn4 v0 v1 v2 v3 HX3 HN3
            cases hpb : Rp.ptb (T1 dc) di sl with
            | false =>
              have hle := (S4.ok.l dc).le
              have hid := S4.ids dc hcb
              have HS4 := Hid_of S4
              clear S4 hpb HPT
              generalize hTT : Rp.put T1 dc di sl = T4 at *
              clear hTT
              go_wp2_with fail
              refine hid.mono ?_
              rintro e w6 ⟨v, rfl, ho6, hb6⟩
              obtain ⟨a6, cap6, rfl, _⟩ := ho6.at
              have hlen : ((T4 dc).map C.id).length = (T4 dc).length := by simp
              rw [hlen]
              have hgt : decide ((room : Int) < ((T4 dc).length : Int)) = false := decide_eq_false (by omega)
              have hgt2 : decide (room < (T4 dc).length) = false := decide_eq_false (by omega)
              have HREL := Hid_of ((HS4.out.keep hb6).mono (N' := 3 * (k + 1)) (by omega))
              clear hid ho6 hb6 HS4 q0 q1 q2 q3 HX4 HN4 hlen
              generalize (T4 dc).length = L4 at *
              go_wp2
              go_roundw
              case rel => exact ⟨k + 1, F3, T4, by omega, by go_num, HREL.out⟩
              case measure => simp [intOf]; omega
            | true =>
              obtain ⟨p1, p2, p3, p4⟩ := Rp.put_told HO3.out hpb
              have ht5 := S4.take (by omega) dc di
              rw [p1, p2, p3, HSV.out] at ht5
              have hne2 := HPT.out hpb
              clear S4 hpb p1 p2 p3 p4 HPT
              generalize hTT : Rp.put T1 dc di sl = T4 at *
              clear hTT
              go_wp2_with fail
              refine ht5.mono ?_
              rintro e w5 ⟨F5, rfl, S5, R5⟩
              obtain ⟨hx5, hn5⟩ := box_step HX4.out R5 HN4.out
              obtain ⟨r0, r1, r2, r3⟩ := rw4 hx5
              have hle := (S5.ok.l dc).le
              have hid := S5.ids dc hcb
              have HS5 := Hid_of S5
              clear S5 R5 hx5 hn5 q0 q1 q2 q3 HX4 HN4 ht5
              go_wp2_with fail
              refine hid.mono ?_
              rintro e w6 ⟨v, rfl, ho6, hb6⟩
              obtain ⟨a6, cap6, rfl, _⟩ := ho6.at
              have hlen : ((T4 dc).map C.id).length = (T4 dc).length := by simp
              rw [hlen]
              have hgt : decide ((room : Int) < ((T4 dc).length : Int)) = false := decide_eq_false (by omega)
              have hgt2 : decide (room < (T4 dc).length) = false := decide_eq_false (by omega)
              have HREL := Hid_of ((HS5.out.keep hb6).mono (N' := 3 * (k + 1)) (by omega))
              clear hid ho6 hb6 HS5 r0 r1 r2 r3 hlen
              generalize (T4 dc).length = L4 at *
              go_wp2
              go_roundw
              case rel => exact ⟨k + 1, F5, T4, by omega, by go_num, HREL.out⟩
              case measure => simp [intOf]; omega
          · go_wp2_with fail
            refine ht3.mono ?_
            rintro e w4 ⟨rfl, S4, R4⟩
            obtain ⟨hx4, hn4⟩ := box_step HX3.out R4 HN3.out
            obtain ⟨q0, q1, q2, q3⟩ := rw4 hx4
            have HX4 := Hid_of hx4
            have HN4 := Hid_of hn4
            clear ht3 R4 hx4 hn4 v0 v1 v2 v3 HX3 HN3
            cases hpb : Rp.ptb (T1 dc) di sl with
            | false =>
              have hle := (S4.ok.l dc).le
              have hid := S4.ids dc hcb
              have HS4 := Hid_of S4
              clear S4 hpb HPT
              generalize hTT : Rp.put T1 dc di sl = T4 at *
              clear hTT
              go_wp2_with fail
              refine hid.mono ?_
              rintro e w6 ⟨v, rfl, ho6, hb6⟩
              obtain ⟨a6, cap6, rfl, _⟩ := ho6.at
              have hlen : ((T4 dc).map C.id).length = (T4 dc).length := by simp
              rw [hlen]
              have hgt : decide ((room : Int) < ((T4 dc).length : Int)) = false := decide_eq_false (by omega)
              have hgt2 : decide (room < (T4 dc).length) = false := decide_eq_false (by omega)
              have HREL := Hid_of ((HS4.out.keep hb6).mono (N' := 3 * (k + 1)) (by omega))
              clear hid ho6 hb6 HS4 q0 q1 q2 q3 HX4 HN4 hlen
              generalize (T4 dc).length = L4 at *
              go_wp2
              go_roundw
              case rel => exact ⟨k + 1, F3, T4, by omega, by go_num, HREL.out⟩
              case measure => simp [intOf]; omega
            | true =>
              obtain ⟨p1, p2, p3, p4⟩ := Rp.put_told HO3.out hpb
              have ht5 := S4.take (by omega) dc di
              rw [p1, p2, p3, HSV.out] at ht5
              have hne2 := HPT.out hpb
              clear S4 hpb p1 p2 p3 p4 HPT
              generalize hTT : Rp.put T1 dc di sl = T4 at *
              clear hTT
              go_wp2_with fail
              refine ht5.mono ?_
              rintro e w5 ⟨F5, rfl, S5, R5⟩
              obtain ⟨hx5, hn5⟩ := box_step HX4.out R5 HN4.out
              obtain ⟨r0, r1, r2, r3⟩ := rw4 hx5
              have hle := (S5.ok.l dc).le
              have hid := S5.ids dc hcb
              have HS5 := Hid_of S5
              clear S5 R5 hx5 hn5 q0 q1 q2 q3 HX4 HN4 ht5
              go_wp2_with fail
              refine hid.mono ?_
              rintro e w6 ⟨v, rfl, ho6, hb6⟩
              obtain ⟨a6, cap6, rfl, _⟩ := ho6.at
              have hlen : ((T4 dc).map C.id).length = (T4 dc).length := by simp
              rw [hlen]
              have hgt : decide ((room : Int) < ((T4 dc).length : Int)) = false := decide_eq_false (by omega)
              have hgt2 : decide (room < (T4 dc).length) = false := decide_eq_false (by omega)
              have HREL := Hid_of ((HS5.out.keep hb6).mono (N' := 3 * (k + 1)) (by omega))
              clear hid ho6 hb6 HS5 r0 r1 r2 r3 hlen
              generalize (T4 dc).length = L4 at *
              go_wp2
              go_roundw
              case rel => exact ⟨k + 1, F5, T4, by omega, by go_num, HREL.out⟩
              case measure => simp [intOf]; omega
      · obtain rfl : k = l.length := by omega
        have HB := Hid_of hS.bel
        clear hS HS1 HAT HOK HSZ
        go_wp2_with fail
        refine (awake_any _).mono ?_
        rintro e w8 ⟨rfl, b8⟩
        have HB8 : Hid (Below w0.heap.size w0 w8) := bel_up HB.out b8 (Nat.le_refl _)
        clear b8 HB
        go_wp2
        go_ret
        exact ⟨rfl, HB8.out⟩
end Go.Proofs.Ytjbcchipbdkplaa
