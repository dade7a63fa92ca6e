/-
  What is done to the message that is picked: one byte of it is changed.
-/
import Derived.Test.YtjbodjjeenjbeaaNE
namespace Go.Proofs.Ytjbodjjeenjbeaa
open Go.RowKit
set_option linter.unusedVariables false
open Nt (Pk)

theorem lob_wrap (y : Int) : IntKind.u8.wrap y = ((Nt.lob y).toNat : Int) := by
  rw [Nt.lob_nat]
  simp [IntKind.wrap, IntKind.bits, IntKind.signed]
theorem byte_xor_bits (x z : UInt8) : bits .xor .u8 (x.toNat : Int) (z.toNat : Int) = ((x ^^^ z).toNat : Int) := by
  rw [u8_xor_nat _ _ x.toNat_lt z.toNat_lt, UInt8.toNat_xor]
theorem Buf.drew {w : World} {base g cap : Nat} {l : List UInt8} (h : Buf w base g cap l) : Buf w.drew base g cap l := ⟨h.base, h.lt, h.le, h.cell, h.room⟩
/-- A text of a net's row is set. -/
theorem NI.text {w : World} {base b m : Nat} {g cap : Nat} {n : Nat} {N : Int} {L : List Pk} {C : Int → Int → Bool} (h : NI w base b m (.slice (some ⟨g, 0, none⟩) L.length cap) n N L C) (i : Nat) (hi : i < L.length) (T : ByteArray) :
    (w.cell? ⟨g, i * 3 + 2, none⟩ = some (.string L[i].s) ∧ w.frozen? ⟨g, i * 3 + 2, none⟩ = false) ∧ (Nt.Ok (L.set i ⟨L[i].a, L[i].b, T⟩) → NI (w.setCell ⟨g, i * 3 + 2, none⟩ (.string T)) base b m (.slice (some ⟨g, 0, none⟩) L.length cap) n N (L.set i ⟨L[i].a, L[i].b, T⟩) C) ∧ Ch w (fp b m (.slice (some ⟨g, 0, none⟩) L.length cap)) (w.setCell ⟨g, i * 3 + 2, none⟩ (.string T)) (fp b m (.slice (some ⟨g, 0, none⟩) L.length cap)) := by
  obtain ⟨g', cap', hv, hbg, hgw, q, f, hset⟩ := h.own.set i hi
  simp only [Value.slice.injEq, true_and, Option.some.injEq, Addr.mk.injEq, and_true] at hv
  obtain ⟨rfl, rfl⟩ := hv
  have hgb : b ≠ g := fun e => h.ne.1 (by rw [e]; rfl)
  have hgm : m ≠ g := fun e => h.ne.2 (by rw [e]; rfl)
  refine ⟨⟨q, f⟩, fun hok => ⟨(heap_setCell_other w ⟨g, i * 3 + 2, none⟩ b _ hgb).trans h.row, hset T, h.mi.keep (heap_setCell_other w ⟨g, i * 3 + 2, none⟩ m _ hgm), hok, h.nn, h.ne, h.low⟩, ⟨rfl, rfl, rfl, by simp, fun k hk hF => heap_setCell_other w ⟨g, i * 3 + 2, none⟩ k _ (fun e => hF (.inr (.inr (by rw [e]; rfl)))), fun k hk => .inl hk⟩⟩
set_option maxRecDepth 100000 in
set_option maxHeartbeats 1000000 in
theorem spoil1_any {w : World} {base b m : Nat} {v : Value} {n : Nat} {N : Int} {L : List Pk} {C : Int → Int → Bool} (h : NI w base b m v n N L C) (hbw : base ≤ w.heap.size) (i : Nat) (hi : i < L.length) (at' by' : Int) (x y z : Nat)
    (hx : w.heap[x]? = some (.cells #[.pointer (some ⟨b, 0, none⟩)] 25 (0, 0))) (hy : w.heap[y]? = some (.cells #[.int .i64 at'] 3 (0, 0))) (hz : w.heap[z]? = some (.cells #[.int .i64 by'] 3 (0, 0))) :
    Calls Try.prog 39 #[.int .i64 i, .pointer (some ⟨x, 0, none⟩), .pointer (some ⟨y, 0, none⟩), .pointer (some ⟨z, 0, none⟩)] w (NOut w base b m v n N (L.set i ⟨L[i].a, L[i].b, Nt.spl L[i].s at' by'⟩) C (.bool true)) := by
  have hm : L[i] ∈ L := List.getElem_mem hi
  have hLs := h.ok.s _ hm
  have hok : Nt.Ok (L.set i ⟨L[i].a, L[i].b, Nt.spl L[i].s at' by'⟩) := by
    refine ⟨by simp only [List.length_set]; exact h.ok.n, fun q hq => ?_, fun q hq => ?_⟩
    · rcases List.mem_or_eq_of_mem_set hq with h' | rfl
      · exact h.ok.s q h'
      · simp only [Nt.spl_size]; exact h.ok.s _ hm
    · rcases List.mem_or_eq_of_mem_set hq with h' | rfl
      · exact h.ok.l q h'
      · exact h.ok.l L[i] hm
  obtain ⟨g, cap, rfl, hbg, hgw, q2, _, _⟩ := h.own.set i hi
  obtain ⟨s, hs⟩ : ∃ s, L[i].s = s := ⟨_, rfl⟩
  rw [hs] at hLs q2 hok ⊢
  obtain ⟨cp, w2, hcv, hbuf, hB2⟩ := buf_of_text s w
  -- the byte
  obtain ⟨K, hK⟩ : ∃ K, Nt.wr at' s.size = K := ⟨_, rfl⟩
  have hKl : K < s.size := by rw [← hK]; exact Nt.wr_lt at' hLs.1
  have hwr := fun W => wrap_any at' s.size hLs.1 hLs.2 W
  rw [hK] at hwr
  have hKd : K < s.data.toList.length := by rw [len_data]; exact hKl
  obtain ⟨zb, hzb⟩ : ∃ zb, s.data.toList[K]? = some zb := ⟨_, List.getElem?_eq_getElem hKd⟩
  have HSP : Hid (Nt.spl s at' by' = ofL (s.data.toList.set K (zb ^^^ Nt.lob by'))) := by
    refine Hid_of ?_
    unfold Nt.spl Nt.byteAt
    rw [hK, hzb]
    rfl
  have hcell : w2.cell? ⟨w.heap.size, K, none⟩ = some (.int .u8 (zb.toNat : Int)) := by
    have h1 := hbuf.cell K hKd
    have h2 : s.data.toList[K]'hKd = zb := by
      rw [List.getElem?_eq_getElem hKd] at hzb
      simpa using hzb
    rw [h2] at h1
    exact h1
  have hfr := (hbuf.room K (Nat.lt_of_lt_of_le hKd hbuf.le)).2
  have hset := hbuf.set K hKd (zb ^^^ Nt.lob by')
  rw [← byte_xor_bits, ← lob_wrap] at hset
  have hcle := hbuf.le
  rw [len_data] at hcle
  have h2 := h.keep hB2
  obtain ⟨x0, _⟩ := rw1 hx
  obtain ⟨x2, _⟩ := rw1 (bel_row hx hB2)
  obtain ⟨y2, _⟩ := rw1 (bel_row hy hB2)
  obtain ⟨z2, _⟩ := rw1 (bel_row hz hB2)
  obtain ⟨⟨c0, c1, c2⟩, _⟩ := h.cells
  have hil : (i : Int) < (L.length : Int) := by omega
  have hKi : (K : Int) < (s.size : Int) := by omega
  obtain ⟨W3, HW3⟩ : ∃ W3, Hid ((w2.setCell ⟨w.heap.size, K, none⟩ (.int .u8 (bits .xor .u8 (zb.toNat : Int) (IntKind.u8.wrap by')))).drew = W3) := ⟨_, rfl⟩
  have hb3 : Buf W3 w.heap.size w.heap.size cp (s.data.toList.set K (zb ^^^ Nt.lob by')) := by rw [← HW3.out]; exact hset.drew
  have hB3 : Below w.heap.size w W3 := by rw [← HW3.out]; exact (hB2.setCell (p := ⟨w.heap.size, K, none⟩) (Nat.le_refl _) _).drew
  have h3 := h.keep hB3
  obtain ⟨x3, _⟩ := rw1 (bel_row hx hB3)
  obtain ⟨⟨_, c3, _⟩, _⟩ := h3.cells
  have hcv3 := hb3.drew.convert (n := s.size) (by rw [List.length_set, len_data])
  rw [← HSP.out] at hcv3
  obtain ⟨f1, f2, f3⟩ := h3.text i hi (Nt.spl s at' by')
  obtain ⟨q3, f4⟩ := f1
  rw [hs] at q3
  have HK : Hid (NOut w base b m (.slice (some ⟨g, 0, none⟩) L.length cap) n N (L.set i ⟨L[i].a, L[i].b, Nt.spl s at' by'⟩) C (.bool true) (.returned (.bool true)) (W3.setCell ⟨g, i * 3 + 2, none⟩ (.string (Nt.spl s at' by'))).drew) := ⟨_, rfl, (f2 hok).keepBut (fun k _ _ => rfl), ((Ch.ofBelow hB3).trans f3).drew⟩
  generalize L.set i ⟨L[i].a, L[i].b, Nt.spl s at' by'⟩ = LL at *
  generalize Nt.spl s at' by' = T at *
  clear hs hzb hKd h h2 h3 hb3 hB3 hB2 hset hbuf hok f2 f3 HSP hx hy hz hK hKl hbw hbg hgw hm hLs
  go_enter Try.func39, Try.ntmps39
  go_upto_region 2 with fail
  go_region_with (go_at_call 40; refine (hwr _).mono ?_; rintro e w1 ⟨rfl, rfl⟩)
  all_goals
    rw [HW3.out]
    go_wp2_with fail
    go_region
  all_goals
    go_wp2
    go_ret
    exact HK.out
end Go.Proofs.Ytjbodjjeenjbeaa
