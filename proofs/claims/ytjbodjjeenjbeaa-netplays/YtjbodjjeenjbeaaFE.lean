/-
  Encode: a message's bytes, sealed.
-/
import Derived.Test.YtjbodjjeenjbeaaFD
namespace Go.Proofs.Ytjbodjjeenjbeaa
open Go.RowKit
set_option linter.unusedVariables false

theorem fvs_row {W : World} {g p : Nat} (h : W.heap[g]? = some (.cells (fvs p) 96 (0, 0))) :
    W.cell? ⟨g, 0, none⟩ = some (.iface 124 (fv p 0 72 73)) ∧ W.cell? ⟨g, 1, none⟩ = some (.iface 124 (fv p 1 72 73)) ∧ W.cell? ⟨g, 2, none⟩ = some (.iface 124 (fv p 2 72 73)) ∧ W.cell? ⟨g, 3, none⟩ = some (.iface 124 (fv p 3 63 64)) ∧ W.cell? ⟨g, 4, none⟩ = some (.iface 133 (fv p 4 65 66)) := by
  refine ⟨?_, ?_, ?_, ?_, ?_⟩
  all_goals rw [cell_of_row W g _ _ _ _ h]; rfl
/-- So many fields are laid. -/
structure EL (w : World) (k f t i : Int) (s : List UInt8) (p b g j : Nat) (wr : World) : Prop where
  ws : ∃ a cap, WS wr b a cap 65536 (0, Msg.pre k f t i s j) ∧ ¬ blk a p ∧ ¬ blk a g ∧ ∀ q, blk a q → w.heap.size ≤ q
  row : wr.heap[p]? = some (.cells #[.int .i64 k, .int .i64 f, .int .i64 t, .int .i64 i, .string (ofL s)] 33 (0, 0))
  fld : wr.heap[g]? = some (.cells (fvs p) 96 (0, 0))
  bel : Below w.heap.size w wr
  ne : w.heap.size ≤ p ∧ w.heap.size ≤ b ∧ w.heap.size ≤ g ∧ p ≠ b ∧ g ≠ b
theorem EL.next {w : World} {k f t i : Int} {s : List UInt8} {p b g j : Nat} {wr w' : World} {a : Option Addr} (h : EL w k f t i s p b g j wr) (ha : ¬ blk a p ∧ ¬ blk a g ∧ ∀ q, blk a q → w.heap.size ≤ q) {st : Nat × List UInt8} (hq : WQ wr b a 65536 st w') {j' : Nat} (hs : st = (0, Msg.pre k f t i s j')) : EL w k f t i s p b g j' w' := by
  obtain ⟨a', cap', hw', hst⟩ := hq
  obtain ⟨n1, n2, n3, n4, n5⟩ := h.ne
  have hlp := (Array.getElem?_eq_some_iff.1 h.row).1
  have hlg := (Array.getElem?_eq_some_iff.1 h.fld).1
  subst hs
  refine ⟨⟨a', cap', hw', ?_, ?_, ?_⟩, (hst.block p hlp n4 ha.1).trans h.row, (hst.block g hlg n5 ha.2.1).trans h.fld, ?_, h.ne⟩
  · intro hb
    rcases hst.new p hb with h' | h'
    · exact ha.1 h'
    · omega
  · intro hb
    rcases hst.new g hb with h' | h'
    · exact ha.2.1 h'
    · omega
  · intro q hb
    rcases hst.new q hb with h' | h'
    · exact ha.2.2 q h'
    · have := h.bel.size; omega
  · exact h.bel.trans (hst.below n2 ha.2.2 h.bel.size)
set_option maxRecDepth 100000 in
set_option maxHeartbeats 400000 in
theorem encode_bad (k f t i : Int) (b : List UInt8) (w : World) (hb : b.length ≤ maxLen) (hc : Msg.chk k f t i b.length ≠ 0) :
    Calls Try.prog 27 #[.agg #[.int .i64 k, .int .i64 f, .int .i64 t, .int .i64 i, .string (ofL b)]] w fun e w' => e = .returned (.tuple #[.string (ofL (Msg.ecode k f t i b)), .int .i64 (Msg.chk k f t i b.length)]) ∧ Below w.heap.size w w' := by
  have HB := Hid_of (bel1 w (.cells #[.int .i64 k, .int .i64 f, .int .i64 t, .int .i64 i, .string (ofL b)] 33))
  have HE : Hid (Msg.ecode k f t i b = []) := Hid_of (show Msg.ecode k f t i b = [] by unfold Msg.ecode; rw [decide_eq_false hc]; rfl)
  have cc := check_any k f t i (ofL b) (w.alloc (.cells #[.int .i64 k, .int .i64 f, .int .i64 t, .int .i64 i, .string (ofL b)] 33)) (by rw [ofL_size]; exact hb)
  rw [ofL_size] at cc
  have d1 : (Msg.chk k f t i b.length != 0) = true := by simpa using hc
  generalize Msg.chk k f t i b.length = c at *
  clear hc
  go_enter Try.func27, Try.ntmps27
  go_wp2_with fail
  refine cc.mono ?_
  rintro x w1 ⟨rfl, hb1⟩
  have HB1 := Hid_of (bel_up HB.out hb1 (Nat.le_refl _))
  clear cc hb1
  go_wp2
  go_ret2
  rw [HE.out]
  exact ⟨rfl, HB1.out⟩
theorem Msg.text_len (s : List UInt8) (hs : s.length ≤ 4096) : (M.encT s).length ≤ 4119 := by
  have h2 := M.enc_ten (s.length : Int) (by omega)
  simp only [M.encT, List.length_append]
  omega
theorem seal_list (l : List UInt8) (w : World) (hl : l.length ≤ 140737488351232) : Calls Try.prog 49 #[.string (ofL l)] w fun e w' => e = .returned (.string (ofL (K2.sealed l))) ∧ Below w.heap.size w w' := by
  have := seal_any (ofL l) w (by rw [ofL_size]; exact hl)
  rwa [ofL_data] at this
theorem clip_max : clip 65536 = 65536 := by decide
set_option maxRecDepth 100000 in
set_option maxHeartbeats 400000 in
theorem encode_ok (k f t i : Int) (s : List UInt8) (w : World) (hc : Msg.chk k f t i s.length = 0) :
    Calls Try.prog 27 #[.agg #[.int .i64 k, .int .i64 f, .int .i64 t, .int .i64 i, .string (ofL s)]] w fun e w' => e = .returned (.tuple #[.string (ofL (K2.sealed (Msg.bts k f t i s))), .int .i64 0]) ∧ Below w.heap.size w w' := by
  obtain ⟨hf, hs⟩ := (Msg.chk_zero _ _ _ _ _).1 hc
  obtain ⟨h1, h2, h3, h4⟩ := (Msg.fits_iff _ _ _ _).1 hf
  have HPL := Hid_of (Msg.pre_le k f t i s h4 hs)
  have HBL := Hid_of (Msg.bts_len k f t i s h4 hs)
  have HTL := Hid_of (Msg.text_len s hs)
  have hB0 := bel1 w (.cells #[.int .i64 k, .int .i64 f, .int .i64 t, .int .i64 i, .string (ofL s)] 33)
  have HB := Hid_of hB0
  have cc := check_any k f t i (ofL s) (w.alloc (.cells #[.int .i64 k, .int .i64 f, .int .i64 t, .int .i64 i, .string (ofL s)] 33)) (by rw [ofL_size]; unfold maxLen; omega)
  rw [ofL_size, hc] at cc
  have HR0 := Hid_of (heap_alloc_new w (.cells #[.int .i64 k, .int .i64 f, .int .i64 t, .int .i64 i, .string (ofL s)] 33))
  clear hc hf hB0
  go_enter Try.func27, Try.ntmps27
  go_wp2_with fail
  refine cc.mono ?_
  rintro x w1 ⟨rfl, hb1⟩
  have HB1 := Hid_of (bel_up HB.out hb1 (Nat.le_refl _))
  have HR1 := Hid_of (bel_row HR0.out hb1)
  clear cc hb1 HB HR0
  go_wp2_with fail
  refine (newWriter_any 65536 w1).mono ?_
  rintro x w2 ⟨b, rfl, hb2, hw2, hB2⟩
  rw [clip_max] at hw2
  have HB2 := Hid_of (bel_up HB1.out hB2 (Nat.le_refl _))
  have HR2 := Hid_of (bel_row HR1.out hB2)
  have HW2 := Hid_of hw2
  have HP : Hid (w.heap.size < w1.heap.size ∧ w1.heap.size ≤ b ∧ b < w2.heap.size) := ⟨(Array.getElem?_eq_some_iff.1 HR1.out).1, hb2, hw2.lt⟩
  clear hw2 hB2 hb2 HB1 HR1
  go_wp2_with fail
  refine (fieldsOf_any w.heap.size w2).mono ?_
  rintro x w3 ⟨g, rfl, hg, hrow, hB3⟩
  have HL : Hid (EL w k f t i s w.heap.size b g 0 w3) := Hid_of (show EL w k f t i s w.heap.size b g 0 w3 from by
    have hp := HP.out
    refine ⟨⟨none, 0, HW2.out.keep hB3, ?_, ?_, ?_⟩, bel_row HR2.out hB3, hrow, bel_up HB2.out hB3 (Nat.le_refl _), Nat.le_refl _, by omega, by omega, by omega, by omega⟩
    · rintro ⟨o, q, h⟩; cases h
    · rintro ⟨o, q, h⟩; cases h
    · rintro q ⟨o, q', h⟩; cases h)
  clear hg hrow hB3 HB2 HR2 HW2 HP
  go_wp2
  go_loopw [18] (fun n wr => ∃ j : Nat, j ≤ 5 ∧ n = .int .i64 j ∧ EL w k f t i s w.heap.size b g j wr) (fun n _ => 5 - (intOf n).toNat)
  case atStart => exact ⟨0, by omega, rfl, HL.out⟩
  case round =>
    obtain ⟨j, hj, rfl, hE⟩ := hrel
    clear HL
    obtain ⟨a, cap, hws, ha1, ha2, ha3⟩ := hE.ws
    obtain ⟨q0, q1, q2, q3, q4⟩ := fvs_row hE.fld
    obtain ⟨⟨r0, r1, r2, r3, r4⟩, -⟩ := row5 hE.row
    have HA : Hid (¬ blk a w.heap.size ∧ ¬ blk a g ∧ ∀ q, blk a q → w.heap.size ≤ q) := ⟨ha1, ha2, ha3⟩
    have HS := Hid_of hE
    have HP := Hid_of (HPL.out j)
    clear ha1 ha2 ha3 hE
    have hj' : j = 0 ∨ j = 1 ∨ j = 2 ∨ j = 3 ∨ j = 4 ∨ j = 5 := by omega
    rcases hj' with rfl | rfl | rfl | rfl | rfl | rfl
    · have cc := layByte_any w.heap.size 0 k b a cap 65536 _ wr hws r0
      have HQ := Hid_of (show _ = (0, Msg.pre k f t i s 1) from Msg.lay_byte _ k (by omega) HP.out)
      clear hws q1 q2 q3 q4 r0 r1 r2 r3 r4
      go_wp2_with fail
      refine cc.mono ?_
      rintro x w4 ⟨rfl, hq⟩
      have HN := Hid_of (HS.out.next HA.out hq HQ.out)
      clear cc hq q0 HS HA HP HQ
      go_wp2
      go_roundw
      case rel => exact ⟨1, by omega, by go_num, HN.out⟩
      case measure => simp [intOf]
    · have cc := layByte_any w.heap.size 1 f b a cap 65536 _ wr hws r1
      have HQ := Hid_of (show _ = (0, Msg.pre k f t i s 2) from Msg.lay_byte _ f (by omega) HP.out)
      clear hws q0 q2 q3 q4 r0 r1 r2 r3 r4
      go_wp2_with fail
      refine cc.mono ?_
      rintro x w4 ⟨rfl, hq⟩
      have HN := Hid_of (HS.out.next HA.out hq HQ.out)
      clear cc hq q1 HS HA HP HQ
      go_wp2
      go_roundw
      case rel => exact ⟨2, by omega, by go_num, HN.out⟩
      case measure => simp [intOf]
    · have cc := layByte_any w.heap.size 2 t b a cap 65536 _ wr hws r2
      have HQ := Hid_of (show _ = (0, Msg.pre k f t i s 3) from Msg.lay_byte _ t (by omega) HP.out)
      clear hws q0 q1 q3 q4 r0 r1 r2 r3 r4
      go_wp2_with fail
      refine cc.mono ?_
      rintro x w4 ⟨rfl, hq⟩
      have HN := Hid_of (HS.out.next HA.out hq HQ.out)
      clear cc hq q2 HS HA HP HQ
      go_wp2
      go_roundw
      case rel => exact ⟨3, by omega, by go_num, HN.out⟩
      case measure => simp [intOf]
    · have cc := layInt_any w.heap.size 3 i b a cap 65536 _ wr hws r3 (by omega)
      have HQ := Hid_of (show _ = (0, Msg.pre k f t i s 4) from Msg.lay_list _ _ HP.out (Nat.le_trans (M.enc_ten i (by omega)) (by omega)))
      clear hws q0 q1 q2 q4 r0 r1 r2 r3 r4
      go_wp2_with fail
      refine cc.mono ?_
      rintro x w4 ⟨rfl, hq⟩
      have HN := Hid_of (HS.out.next HA.out hq HQ.out)
      clear cc hq q3 HS HA HP HQ
      go_wp2
      go_roundw
      case rel => exact ⟨4, by omega, by go_num, HN.out⟩
      case measure => simp [intOf]
    · have cc := layText_any w.heap.size 4 s b a cap 65536 _ wr hws r4 (by omega)
      have HQ := Hid_of (show _ = (0, Msg.pre k f t i s 5) from Msg.lay_list _ _ HP.out HTL.out)
      clear hws q0 q1 q2 q3 r0 r1 r2 r3 r4
      go_wp2_with fail
      refine cc.mono ?_
      rintro x w4 ⟨rfl, hq⟩
      have HN := Hid_of (HS.out.next HA.out hq HQ.out)
      clear cc hq q4 HS HA HP HQ
      go_wp2
      go_roundw
      case rel => exact ⟨5, by omega, by go_num, HN.out⟩
      case measure => simp [intOf]
    · have cc := wdone_any b a cap 65536 _ wr hws
      clear hws q0 q1 q2 q3 q4 r0 r1 r2 r3 r4
      go_wp2_with fail
      refine cc.mono ?_
      rintro x w4 ⟨rfl, hb4⟩
      have HB4 := Hid_of (bel_up HS.out.bel hb4 (Nat.le_refl _))
      have c2 := seal_list (Msg.bts k f t i s) w4 (by have := HBL.out; omega)
      have HF : Hid (Msg.pre k f t i s 5 = Msg.bts k f t i s) := rfl
      rw [HF.out]
      clear cc hb4 HS HA HP
      go_wp2_with fail
      refine c2.mono ?_
      rintro x w5 ⟨rfl, hb5⟩
      have HB5 := Hid_of (bel_up HB4.out hb5 (Nat.le_refl _))
      clear c2 hb5
      go_wp2
      go_ret2
      exact ⟨rfl, HB5.out⟩
end Go.Proofs.Ytjbodjjeenjbeaa
