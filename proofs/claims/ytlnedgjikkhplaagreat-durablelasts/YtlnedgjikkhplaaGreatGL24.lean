/-
  A record as it stands in an area.
  The builder; records as they stand in an area, from its beginning on.
  The chapter's examples come out as it says, in whatever memory, and nothing that was there is written.
-/
import Derived.Test.YtlnedgjikkhplaaGreatGL23
import Derived.Test.YtlnedgjikkhplaaGreatGL15
section
namespace Go.Proofs.YtlnedgjikkhplaaGreat.Du
open Go.RowKit
set_option linter.unusedVariables false
set_option linter.unusedSimpArgs false
open Na (Fr AS XL vl bV vV Hid_of bel1 bel2 bel_up bel_row row2 row4 blk OwnL AtL)
open Na.M (E V S S0)

open Ns.M (ofL)
open Nc (WS WQ Step)
open Nc.M (enc encT)
/-- A writer, and a box beside it. -/
def WB (w0 : World) (k : Nat) (o : Obj) (wb : Nat) (l : List UInt8) (w : World) : Prop := ∃ a cap, WS w wb a cap 65536 (0, l) ∧ w.heap[k]? = some o ∧ k < wb ∧ w0.heap.size ≤ k ∧ Below w0.heap.size w0 w
section
variable {w0 w w' : World} {k : Nat} {o : Obj} {wb : Nat} {l : List UInt8}
theorem WB.row (h : WB w0 k o wb l w) : w.heap[k]? = some o := by obtain ⟨a, cap, _, h2, _⟩ := h; exact h2
theorem WB.keep (h : WB w0 k o wb l w) (hb : Below w.heap.size w w') : WB w0 k o wb l w' := by
  obtain ⟨a, cap, h1, h2, h3, h4, h5⟩ := h
  exact ⟨a, cap, h1.keep hb, bel_row h2 hb, h3, h4, bel_up h5 hb (Nat.le_refl _)⟩
theorem WB.up {a : Option Addr} {cap : Nat} (h1 : WS w wb a cap 65536 (0, l)) (h2 : w.heap[k]? = some o) (h3 : k < wb) (h4 : w0.heap.size ≤ k) (h5 : Below w0.heap.size w0 w) {s : List UInt8} (hl : l.length + s.length ≤ 65536) (hq : WQ w wb a 65536 (Nc.M.lay 65536 (0, l) s) w') : WB w0 k o wb (l ++ s) w' := by
  obtain ⟨a', cap', q1, q2⟩ := hq
  rw [Nc.M.lay_fits _ _ _ (by omega)] at q1
  have hlt := h1.lt
  refine ⟨a', cap', q1, (q2.block k (by omega) (by omega) (fun e => by have := (h1.inb k e).1; omega)).trans h2, h3, h4, h5.trans (q2.below (by omega) (fun j hj => by have := (h1.inb j hj).1; omega) h5.size)⟩
theorem WB.int (h : WB w0 k o wb l w) (n : Int) (hn : I64 n) (hl : l.length + (enc n).length ≤ 65536) : Calls Tryz.prog 177 #[ptr wb, .int .i64 n] w fun e w' => e = .returned (.tuple #[]) ∧ WB w0 k o wb (l ++ enc n) w' := by
  obtain ⟨a, cap, h1, h2, h3, h4, h5⟩ := h
  exact (Nc.wint_any wb a cap 65536 _ n w h1 hn).mono fun e w' ⟨e1, hq⟩ => ⟨e1, WB.up h1 h2 h3 h4 h5 hl hq⟩
theorem WB.byte (h : WB w0 k o wb l w) (n : Nat) (hn : n ≤ 255) (hl : l.length + 1 ≤ 65536) : Calls Tryz.prog 180 #[ptr wb, .int .i64 n] w fun e w' => e = .returned (.tuple #[]) ∧ WB w0 k o wb (l ++ [UInt8.ofNat n]) w' := by
  obtain ⟨a, cap, h1, h2, h3, h4, h5⟩ := h
  refine (Nc.wbyte_any wb a cap 65536 _ n w h1).mono fun e w' ⟨e1, hq⟩ => ⟨e1, WB.up h1 h2 h3 h4 h5 (s := [UInt8.ofNat n]) hl ?_⟩
  have e2 : Nc.M.byteW 65536 (0, l) (n : Int) = Nc.M.lay 65536 (0, l) [UInt8.ofNat n] := by
    unfold Nc.M.byteW
    rw [if_neg (by simp), if_neg (by omega), Int.toNat_natCast]
  rw [← e2]
  exact hq
theorem WB.text (h : WB w0 k o wb l w) (s : List UInt8) (hs : s.length ≤ 60000) (hl : l.length + (encT s).length ≤ 65536) : Calls Tryz.prog 150 #[ptr wb, .string (ofL s)] w fun e w' => e = .returned (.tuple #[]) ∧ WB w0 k o wb (l ++ encT s) w' := by
  obtain ⟨a, cap, h1, h2, h3, h4, h5⟩ := h
  exact (Nc.wtext_any wb a cap 65536 _ s w h1 (by omega)).mono fun e w' ⟨e1, hq⟩ => ⟨e1, WB.up h1 h2 h3 h4 h5 hl hq⟩
theorem WB.ballot (h : WB w0 k o wb l w) (x : E) (hx1 : I64 x.i) (hx2 : I64 x.t) (hl : l.length + (encB x).length ≤ 65536) : Calls Tryz.prog 181 #[ptr wb, bV x] w fun e w' => e = .returned (.tuple #[]) ∧ WB w0 k o wb (l ++ encB x) w' := by
  obtain ⟨a, cap, h1, h2, h3, h4, h5⟩ := h
  exact (writeBallot_any x h1 hx1 hx2).mono fun e w' ⟨e1, hq⟩ => ⟨e1, WB.up h1 h2 h3 h4 h5 hl hq⟩
theorem WB.done (h : WB w0 k o wb l w) : Calls Tryz.prog 153 #[ptr wb] w fun e w' => e = .returned (.tuple #[.string (ofL l), .int .i64 0]) ∧ Below w0.heap.size w0 w' := by
  obtain ⟨a, cap, h1, h2, h3, h4, h5⟩ := h
  exact (Nc.wdone_any wb a cap 65536 _ w h1).mono fun e w' ⟨e1, hb⟩ => ⟨e1, bel_up h5 hb (Nat.le_refl _)⟩
end
theorem newWB (w0 w : World) (k : Nat) (o : Obj) (hb : Below w0.heap.size w0 w) (hr : w.heap[k]? = some o) (hk : w0.heap.size ≤ k) : Calls Tryz.prog 149 #[.int .i64 65536] w fun e w' => ∃ wb, e = .returned (ptr wb) ∧ WB w0 k o wb [] w' := by
  refine (Nc.newWriter_any 65536 w).mono ?_
  rintro e w' ⟨wb, e1, h1, h2, h3⟩
  have hl : k < w.heap.size := (Array.getElem?_eq_some_iff.1 hr).1
  exact ⟨wb, e1, none, 0, h2, bel_row hr h3, by omega, hk, bel_up hb h3 (Nat.le_refl _)⟩
theorem enc_le {n : Int} (h : I64 n) : (enc n).length ≤ 10 := Nc.M.enc_ten n h
theorem encT_le (s : List UInt8) (h : s.length ≤ 60000) : (encT s).length ≤ s.length + 10 := by
  rw [Nc.M.encT, List.length_append]
  have := Nc.M.enc_ten (s.length : Int) ⟨by omega, by omega⟩
  omega
theorem I64.nat {n : Nat} (h : n ≤ 2147483648) : I64 (n : Int) := ⟨by omega, by omega⟩
theorem body_len (e k : Nat) (r : R) (he : e ≤ 2147483648) (hk : k ≤ 2147483648) (hr : Wf r) : (body e k r).length ≤ 4200 := by
  have h1 := enc_le (I64.nat he)
  have h2 := enc_le (I64.nat hk)
  unfold body
  rw [List.length_append, List.length_append]
  cases r using R.split with
  | pr b =>
    have h3 := enc_le hr.1
    have h4 := enc_le hr.2
    simp only [kb, encB, List.length_cons, List.length_append]
    omega
  | vo v =>
    have h3 := enc_le hr.1
    have h4 := enc_le hr.2.1
    have h5 := enc_le hr.2.2.1
    have h7 : v.v.data.toList.length ≤ 4096 := hr.2.2.2
    have h6 := encT_le v.v.data.toList (by omega)
    simp only [kb, encB, List.length_cons, List.length_append]
    omega
  | tr u =>
    have h3 := enc_le (show I64 u from hr)
    simp only [kb, List.length_cons]
    omega
set_option maxRecDepth 100000 in
set_option maxHeartbeats 4000000 in
theorem body_any (e k : Nat) (r : R) (w : World) (he : e ≤ 2147483648) (hk : k ≤ 2147483648) (hr : Wf r) :
    Calls Tryz.prog 152 #[rV r, .int .i64 e, .int .i64 k] w fun x w' => x = .returned (.string (ofL (body e k r))) ∧ Below w.heap.size w w' := by
  have hie := I64.nat he
  have hik := I64.nat hk
  have hle := enc_le hie
  have hlk := enc_le hik
  clear he hk
  cases r using R.split with
  | pr b =>
    obtain ⟨W1, HW1⟩ : ∃ W1, Hid (w.alloc (.cells #[.int .i64 1, .int .i64 0, .int .i64 b.i, .int .i64 b.t, .string ⟨#[]⟩, .int .i64 0] 97) = W1) := ⟨_, rfl⟩
    have hb1 : Below w.heap.size w W1 := by rw [← HW1.out]; exact bel1 w _
    have hr1 : W1.heap[w.heap.size]? = some (.cells #[.int .i64 1, .int .i64 0, .int .i64 b.i, .int .i64 b.t, .string ⟨#[]⟩, .int .i64 0] 97 (0, 0)) := by rw [← HW1.out]; exact heap_alloc_last w _
    have hn := newWB w W1 w.heap.size _ hb1 hr1 (Nat.le_refl _)
    clear hb1 hr1
    go_enter Tryz.func152, Tryz.ntmps152
    go_upto_region 1 with fail
    rw [HW1.out]
    clear HW1
    go_wp2_with fail
    refine hn.mono ?_
    rintro e w0 ⟨wb, rfl, h0⟩
    have H0 := Hid_of h0
    clear hn h0
    have hk := H0.out.int (e : Int) hie (by simp only [List.length_append, List.length_nil, List.length_cons]; omega)
    obtain ⟨⟨c0, c1, c2, c3, c4, c5⟩, _⟩ := row6 H0.out.row
    go_wp2_with fail
    refine hk.mono ?_
    rintro e w1 ⟨rfl, h1⟩
    have H1 := Hid_of h1
    clear hk h1 H0 c0 c1 c2 c3 c4 c5
    have hk := H1.out.int (k : Int) hik (by simp only [List.length_append, List.length_nil, List.length_cons]; omega)
    obtain ⟨⟨c0, c1, c2, c3, c4, c5⟩, _⟩ := row6 H1.out.row
    go_wp2_with fail
    refine hk.mono ?_
    rintro e w2 ⟨rfl, h2⟩
    have H2 := Hid_of h2
    clear hk h2 H1 c0 c1 c2 c3 c4 c5
    have hk := H2.out.byte 1 (by omega) (by simp only [List.length_append, List.length_nil, List.length_cons]; omega)
    obtain ⟨⟨c0, c1, c2, c3, c4, c5⟩, _⟩ := row6 H2.out.row
    go_wp2_with fail
    refine hk.mono ?_
    rintro e w3 ⟨rfl, h3⟩
    have H3 := Hid_of h3
    clear hk h3 H2 c0 c1 c2 c3 c4 c5
    have hk := H3.out.ballot b hr.1 hr.2 (by have h3 := enc_le hr.1; have h4 := enc_le hr.2; simp only [encB, List.length_append, List.length_nil, List.length_cons]; omega)
    obtain ⟨⟨c0, c1, c2, c3, c4, c5⟩, _⟩ := row6 H3.out.row
    go_wp2_with fail
    refine hk.mono ?_
    rintro e w4 ⟨rfl, h4⟩
    have H4 := Hid_of h4
    clear hk h4 H3 c0 c1 c2 c3 c4 c5
    have hk := H4.out.done
    go_wp2_with fail
    refine hk.mono ?_
    rintro e w5 ⟨rfl, h5⟩
    have H5 := Hid_of h5
    clear hk h5 H4
    go_wp2
    go_ret
    exact ⟨congrArg (fun z => Ending.returned (.string (ofL z))) (by simp [body, kb, encB]), H5.out⟩
  | vo v =>
    obtain ⟨W1, HW1⟩ : ∃ W1, Hid (w.alloc (.cells #[.int .i64 2, .int .i64 v.s, .int .i64 v.b.i, .int .i64 v.b.t, .string v.v, .int .i64 0] 97) = W1) := ⟨_, rfl⟩
    have hb1 : Below w.heap.size w W1 := by rw [← HW1.out]; exact bel1 w _
    have hr1 : W1.heap[w.heap.size]? = some (.cells #[.int .i64 2, .int .i64 v.s, .int .i64 v.b.i, .int .i64 v.b.t, .string v.v, .int .i64 0] 97 (0, 0)) := by rw [← HW1.out]; exact heap_alloc_last w _
    have hn := newWB w W1 w.heap.size _ hb1 hr1 (Nat.le_refl _)
    clear hb1 hr1
    go_enter Tryz.func152, Tryz.ntmps152
    go_upto_region 1 with fail
    rw [HW1.out]
    clear HW1
    go_wp2_with fail
    refine hn.mono ?_
    rintro e w0 ⟨wb, rfl, h0⟩
    have H0 := Hid_of h0
    clear hn h0
    have hk := H0.out.int (e : Int) hie (by simp only [List.length_append, List.length_nil, List.length_cons]; omega)
    obtain ⟨⟨c0, c1, c2, c3, c4, c5⟩, _⟩ := row6 H0.out.row
    go_wp2_with fail
    refine hk.mono ?_
    rintro e w1 ⟨rfl, h1⟩
    have H1 := Hid_of h1
    clear hk h1 H0 c0 c1 c2 c3 c4 c5
    have hk := H1.out.int (k : Int) hik (by simp only [List.length_append, List.length_nil, List.length_cons]; omega)
    obtain ⟨⟨c0, c1, c2, c3, c4, c5⟩, _⟩ := row6 H1.out.row
    go_wp2_with fail
    refine hk.mono ?_
    rintro e w2 ⟨rfl, h2⟩
    have H2 := Hid_of h2
    clear hk h2 H1 c0 c1 c2 c3 c4 c5
    have hk := H2.out.byte 2 (by omega) (by simp only [List.length_append, List.length_nil, List.length_cons]; omega)
    obtain ⟨⟨c0, c1, c2, c3, c4, c5⟩, _⟩ := row6 H2.out.row
    go_wp2_with fail
    refine hk.mono ?_
    rintro e w3 ⟨rfl, h3⟩
    have H3 := Hid_of h3
    clear hk h3 H2 c0 c1 c2 c3 c4 c5
    have hk := H3.out.int v.s hr.1 (by have h3 := enc_le hr.1; simp only [List.length_append, List.length_nil, List.length_cons]; omega)
    obtain ⟨⟨c0, c1, c2, c3, c4, c5⟩, _⟩ := row6 H3.out.row
    go_wp2_with fail
    refine hk.mono ?_
    rintro e w4 ⟨rfl, h4⟩
    have H4 := Hid_of h4
    clear hk h4 H3 c0 c1 c2 c3 c4 c5
    have hk := H4.out.ballot v.b hr.2.1 hr.2.2.1 (by have h3 := enc_le hr.1; have h4 := enc_le hr.2.1; have h5 := enc_le hr.2.2.1; simp only [encB, List.length_append, List.length_nil, List.length_cons]; omega)
    obtain ⟨⟨c0, c1, c2, c3, c4, c5⟩, _⟩ := row6 H4.out.row
    go_wp2_with fail
    refine hk.mono ?_
    rintro e w5 ⟨rfl, h5⟩
    have H5 := Hid_of h5
    clear hk h5 H4 c0 c1 c2 c3 c4 c5
    have hk := H5.out.text v.v.data.toList (by have := hr.2.2.2; show v.v.size ≤ _; omega) (by have h7 : v.v.data.toList.length ≤ 4096 := hr.2.2.2; have h3 := enc_le hr.1; have h4 := enc_le hr.2.1; have h5 := enc_le hr.2.2.1; have h6 := encT_le v.v.data.toList (by omega); simp only [encB, List.length_append, List.length_nil, List.length_cons]; omega)
    obtain ⟨⟨c0, c1, c2, c3, c4, c5⟩, _⟩ := row6 H5.out.row
    go_wp2_with fail
    refine hk.mono ?_
    rintro e w6 ⟨rfl, h6⟩
    have H6 := Hid_of h6
    clear hk h6 H5 c0 c1 c2 c3 c4 c5
    have hk := H6.out.done
    go_wp2_with fail
    refine hk.mono ?_
    rintro e w7 ⟨rfl, h7⟩
    have H7 := Hid_of h7
    clear hk h7 H6
    go_wp2
    go_ret
    exact ⟨congrArg (fun z => Ending.returned (.string (ofL z))) (by simp [body, kb, encB]), H7.out⟩
  | tr u =>
    obtain ⟨W1, HW1⟩ : ∃ W1, Hid (w.alloc (.cells #[.int .i64 3, .int .i64 0, .int .i64 0, .int .i64 0, .string ⟨#[]⟩, .int .i64 u] 97) = W1) := ⟨_, rfl⟩
    have hb1 : Below w.heap.size w W1 := by rw [← HW1.out]; exact bel1 w _
    have hr1 : W1.heap[w.heap.size]? = some (.cells #[.int .i64 3, .int .i64 0, .int .i64 0, .int .i64 0, .string ⟨#[]⟩, .int .i64 u] 97 (0, 0)) := by rw [← HW1.out]; exact heap_alloc_last w _
    have hn := newWB w W1 w.heap.size _ hb1 hr1 (Nat.le_refl _)
    clear hb1 hr1
    go_enter Tryz.func152, Tryz.ntmps152
    go_upto_region 1 with fail
    rw [HW1.out]
    clear HW1
    go_wp2_with fail
    refine hn.mono ?_
    rintro e w0 ⟨wb, rfl, h0⟩
    have H0 := Hid_of h0
    clear hn h0
    have hk := H0.out.int (e : Int) hie (by simp only [List.length_append, List.length_nil, List.length_cons]; omega)
    obtain ⟨⟨c0, c1, c2, c3, c4, c5⟩, _⟩ := row6 H0.out.row
    go_wp2_with fail
    refine hk.mono ?_
    rintro e w1 ⟨rfl, h1⟩
    have H1 := Hid_of h1
    clear hk h1 H0 c0 c1 c2 c3 c4 c5
    have hk := H1.out.int (k : Int) hik (by simp only [List.length_append, List.length_nil, List.length_cons]; omega)
    obtain ⟨⟨c0, c1, c2, c3, c4, c5⟩, _⟩ := row6 H1.out.row
    go_wp2_with fail
    refine hk.mono ?_
    rintro e w2 ⟨rfl, h2⟩
    have H2 := Hid_of h2
    clear hk h2 H1 c0 c1 c2 c3 c4 c5
    have hk := H2.out.byte 3 (by omega) (by simp only [List.length_append, List.length_nil, List.length_cons]; omega)
    obtain ⟨⟨c0, c1, c2, c3, c4, c5⟩, _⟩ := row6 H2.out.row
    go_wp2_with fail
    refine hk.mono ?_
    rintro e w3 ⟨rfl, h3⟩
    have H3 := Hid_of h3
    clear hk h3 H2 c0 c1 c2 c3 c4 c5
    have hk := H3.out.int u hr (by have h3 := enc_le (show I64 u from hr); simp only [List.length_append, List.length_nil, List.length_cons]; omega)
    obtain ⟨⟨c0, c1, c2, c3, c4, c5⟩, _⟩ := row6 H3.out.row
    go_wp2_with fail
    refine hk.mono ?_
    rintro e w4 ⟨rfl, h4⟩
    have H4 := Hid_of h4
    clear hk h4 H3 c0 c1 c2 c3 c4 c5
    have hk := H4.out.done
    go_wp2_with fail
    refine hk.mono ?_
    rintro e w5 ⟨rfl, h5⟩
    have H5 := Hid_of h5
    clear hk h5 H4
    go_wp2
    go_ret
    exact ⟨congrArg (fun z => Ending.returned (.string (ofL z))) (by simp [body, kb, encB]), H5.out⟩

theorem sealed_len (l : List UInt8) : (K2.sealed l).length = l.length + 4 := by
  simp [K2.sealed, K2.four]
theorem raw_len (e k : Nat) (r : R) (he : e ≤ 2147483648) (hk : k ≤ 2147483648) (hr : Wf r) : (raw e k r).length ≤ 4300 := by
  have h1 := body_len e k r he hk hr
  have h2 := encT_le (K2.sealed (body e k r)) (by rw [sealed_len]; omega)
  rw [sealed_len] at h2
  unfold raw
  omega
set_option maxRecDepth 100000 in
set_option maxHeartbeats 4000000 in
theorem text_any (e k : Nat) (r : R) (w : World) (he : e ≤ 2147483648) (hk : k ≤ 2147483648) (hr : Wf r) :
    Calls Tryz.prog 108 #[rV r, .int .i64 e, .int .i64 k] w fun x w' => x = .returned (.string (ofL (rec e k r))) ∧ Below w.heap.size w w' := by
  have hbd := fun W => body_any e k r W he hk hr
  have hbl := body_len e k r he hk hr
  have hrl := raw_len e k r he hk hr
  have hsl := fun W => Ns.seal_any (ofL (body e k r)) W (by rw [Ns.M.ofL_size]; omega)
  have eb : (ofL (body e k r)).data.toList = body e k r := Ns.ofL_data _
  rw [eb] at hsl
  have hpd := fun W => padded_any (raw e k r) (((raw e k r).length + 63) / 64 * 64) W (by omega) (by omega)
  have HR : Hid (rec e k r = raw e k r ++ List.replicate (((raw e k r).length + 63) / 64 * 64 - (raw e k r).length) 0) := rfl
  have HT : Hid (encT (K2.sealed (body e k r)) = raw e k r) := rfl
  have HLS : Hid ((K2.sealed (body e k r)).length ≤ 60000) := by show _ ≤ _; rw [sealed_len]; omega
  have HLT : Hid (([] : List UInt8).length + (encT (K2.sealed (body e k r))).length ≤ 65536) := by show _ + (raw e k r).length ≤ _; simp; omega
  have hsz : (ofL (raw e k r)).size = (raw e k r).length := Ns.M.ofL_size _
  have hmm : ((((raw e k r).length + 63) / 64 * 64 : Nat) : Int) = (((raw e k r).length : Int) + 63) / 64 * 64 := by omega
  rw [hmm] at hpd
  have hd : (((raw e k r).length : Int) + 63).tdiv 64 = (((raw e k r).length : Int) + 63) / 64 := Int.tdiv_eq_ediv_of_nonneg (by omega)
  have ha : ((raw e k r).length : Int) + 64 - 1 = ((raw e k r).length : Int) + 63 := by omega
  generalize rec e k r = Q at *
  generalize K2.sealed (body e k r) = S at *
  generalize body e k r = B at *
  generalize raw e k r = T at *
  clear he hk hbl eb
  cases r using R.split with
  | pr b =>
    obtain ⟨W1, HW1⟩ : ∃ W1, Hid (w.alloc (.cells #[.int .i64 1, .int .i64 0, .int .i64 b.i, .int .i64 b.t, .string ⟨#[]⟩, .int .i64 0] 97) = W1) := ⟨_, rfl⟩
    have hb1 : Below w.heap.size w W1 := by rw [← HW1.out]; exact bel1 w _
    have hr1 : W1.heap[w.heap.size]? = some (.cells #[.int .i64 1, .int .i64 0, .int .i64 b.i, .int .i64 b.t, .string ⟨#[]⟩, .int .i64 0] 97 (0, 0)) := by rw [← HW1.out]; exact heap_alloc_last w _
    have hn := newWB w W1 w.heap.size _ hb1 hr1 (Nat.le_refl _)
    clear hb1 hr1
    go_enter Tryz.func108, Tryz.ntmps108
    go_upto_region 1 with fail
    rw [HW1.out]
    clear HW1
    go_wp2_with fail
    refine hn.mono ?_
    rintro e w1 ⟨wb, rfl, h1⟩
    have H1 := Hid_of h1
    obtain ⟨⟨c0, c1, c2, c3, c4, c5⟩, _⟩ := row6 h1.row
    clear hn h1
    go_wp2_with fail
    refine (hbd _).mono ?_
    rintro e w2 ⟨rfl, hb2⟩
    have H2 := Hid_of (H1.out.keep hb2)
    clear hb2 H1 c0 c1 c2 c3 c4 c5 hbd
    go_wp2_with fail
    refine (hsl _).mono ?_
    rintro e w3 ⟨rfl, hb3⟩
    have H3 := Hid_of (H2.out.keep hb3)
    have hk3 := H3.out.text S HLS.out HLT.out
    clear hb3 H2 hsl H3
    go_wp2_with fail
    refine hk3.mono ?_
    rintro e w4 ⟨rfl, h4⟩
    have hk4 := h4.done
    clear hk3 h4
    rw [List.nil_append, HT.out] at hk4
    go_wp2_with fail
    refine hk4.mono ?_
    rintro e w5 ⟨rfl, hb5⟩
    have HB5 := Hid_of hb5
    clear hk4 hb5
    go_wp2_with fail
    refine (hpd _).mono ?_
    rintro e w6 ⟨rfl, hb6⟩
    have HB6 := Hid_of (bel_up HB5.out hb6 (Nat.le_refl _))
    clear hpd hb6 HB5
    go_wp2
    go_ret
    rw [HR.out]
    exact ⟨rfl, HB6.out⟩
  | vo v =>
    obtain ⟨W1, HW1⟩ : ∃ W1, Hid (w.alloc (.cells #[.int .i64 2, .int .i64 v.s, .int .i64 v.b.i, .int .i64 v.b.t, .string v.v, .int .i64 0] 97) = W1) := ⟨_, rfl⟩
    have hb1 : Below w.heap.size w W1 := by rw [← HW1.out]; exact bel1 w _
    have hr1 : W1.heap[w.heap.size]? = some (.cells #[.int .i64 2, .int .i64 v.s, .int .i64 v.b.i, .int .i64 v.b.t, .string v.v, .int .i64 0] 97 (0, 0)) := by rw [← HW1.out]; exact heap_alloc_last w _
    have hn := newWB w W1 w.heap.size _ hb1 hr1 (Nat.le_refl _)
    clear hb1 hr1
    go_enter Tryz.func108, Tryz.ntmps108
    go_upto_region 1 with fail
    rw [HW1.out]
    clear HW1
    go_wp2_with fail
    refine hn.mono ?_
    rintro e w1 ⟨wb, rfl, h1⟩
    have H1 := Hid_of h1
    obtain ⟨⟨c0, c1, c2, c3, c4, c5⟩, _⟩ := row6 h1.row
    clear hn h1
    go_wp2_with fail
    refine (hbd _).mono ?_
    rintro e w2 ⟨rfl, hb2⟩
    have H2 := Hid_of (H1.out.keep hb2)
    clear hb2 H1 c0 c1 c2 c3 c4 c5 hbd
    go_wp2_with fail
    refine (hsl _).mono ?_
    rintro e w3 ⟨rfl, hb3⟩
    have H3 := Hid_of (H2.out.keep hb3)
    have hk3 := H3.out.text S HLS.out HLT.out
    clear hb3 H2 hsl H3
    go_wp2_with fail
    refine hk3.mono ?_
    rintro e w4 ⟨rfl, h4⟩
    have hk4 := h4.done
    clear hk3 h4
    rw [List.nil_append, HT.out] at hk4
    go_wp2_with fail
    refine hk4.mono ?_
    rintro e w5 ⟨rfl, hb5⟩
    have HB5 := Hid_of hb5
    clear hk4 hb5
    go_wp2_with fail
    refine (hpd _).mono ?_
    rintro e w6 ⟨rfl, hb6⟩
    have HB6 := Hid_of (bel_up HB5.out hb6 (Nat.le_refl _))
    clear hpd hb6 HB5
    go_wp2
    go_ret
    rw [HR.out]
    exact ⟨rfl, HB6.out⟩
  | tr u =>
    obtain ⟨W1, HW1⟩ : ∃ W1, Hid (w.alloc (.cells #[.int .i64 3, .int .i64 0, .int .i64 0, .int .i64 0, .string ⟨#[]⟩, .int .i64 u] 97) = W1) := ⟨_, rfl⟩
    have hb1 : Below w.heap.size w W1 := by rw [← HW1.out]; exact bel1 w _
    have hr1 : W1.heap[w.heap.size]? = some (.cells #[.int .i64 3, .int .i64 0, .int .i64 0, .int .i64 0, .string ⟨#[]⟩, .int .i64 u] 97 (0, 0)) := by rw [← HW1.out]; exact heap_alloc_last w _
    have hn := newWB w W1 w.heap.size _ hb1 hr1 (Nat.le_refl _)
    clear hb1 hr1
    go_enter Tryz.func108, Tryz.ntmps108
    go_upto_region 1 with fail
    rw [HW1.out]
    clear HW1
    go_wp2_with fail
    refine hn.mono ?_
    rintro e w1 ⟨wb, rfl, h1⟩
    have H1 := Hid_of h1
    obtain ⟨⟨c0, c1, c2, c3, c4, c5⟩, _⟩ := row6 h1.row
    clear hn h1
    go_wp2_with fail
    refine (hbd _).mono ?_
    rintro e w2 ⟨rfl, hb2⟩
    have H2 := Hid_of (H1.out.keep hb2)
    clear hb2 H1 c0 c1 c2 c3 c4 c5 hbd
    go_wp2_with fail
    refine (hsl _).mono ?_
    rintro e w3 ⟨rfl, hb3⟩
    have H3 := Hid_of (H2.out.keep hb3)
    have hk3 := H3.out.text S HLS.out HLT.out
    clear hb3 H2 hsl H3
    go_wp2_with fail
    refine hk3.mono ?_
    rintro e w4 ⟨rfl, h4⟩
    have hk4 := h4.done
    clear hk3 h4
    rw [List.nil_append, HT.out] at hk4
    go_wp2_with fail
    refine hk4.mono ?_
    rintro e w5 ⟨rfl, hb5⟩
    have HB5 := Hid_of hb5
    clear hk4 hb5
    go_wp2_with fail
    refine (hpd _).mono ?_
    rintro e w6 ⟨rfl, hb6⟩
    have HB6 := Hid_of (bel_up HB5.out hb6 (Nat.le_refl _))
    clear hpd hb6 HB5
    go_wp2
    go_ret
    rw [HR.out]
    exact ⟨rfl, HB6.out⟩
end Go.Proofs.YtlnedgjikkhplaaGreat.Du
end
section
namespace Go.Proofs.YtlnedgjikkhplaaGreat.Du
open Go.RowKit
set_option linter.unusedVariables false
set_option linter.unusedSimpArgs false
open Na (Fr AS XL vl bV vV Hid_of bel1 bel2 bel_up bel_row row2 row4 blk OwnL AtL)
open Na.M (E V S S0)

open Ns.M (ofL)
open Nc.M (enc encT)
/-! the builder -/
theorem Tryz.size148 : (Tryz.prog.info? 148).map (·.size) = some 2 := by kernel_rfl
theorem lies148 : liesAt Tryz.prog Tryz.prog.depth 148 (2 / Tryz.prog.cellsOf 148) 0 148 1 = true := by kernel_rfl
set_option maxRecDepth 100000 in
set_option maxHeartbeats 1000000 in
theorem copyCheck_used (b : Nat) (w : World) (c0 : w.cell? ⟨b, 0, none⟩ = some (.pointer (some ⟨b, 0, none⟩))) : Calls Tryz.prog 132 #[.pointer (some ⟨b, 0, none⟩)] w fun e w' => e = .returned (.tuple #[]) ∧ w' = w := by
  obtain ⟨j, hj, hjs⟩ := Option.map_eq_some_iff.1 Tryz.size148
  go_enter Tryz.func132, Tryz.ntmps132
  go_wp2
  rw [Lib.run_neq_ptr_same w _ Tryz.underlying146 hj]
  go_wp2
  go_end0
  exact ⟨rfl, rfl⟩
theorem conv_there (w : World) (b : Nat) (hsh : w.shape? b = some (148, 2)) :
    (convert 146 227 (.pointer (some ⟨b, 0, none⟩))).run Tryz.prog w = .ok (.pointer (some ⟨b, 0, none⟩)) w := by
  obtain ⟨j, hj, hjs⟩ := Option.map_eq_some_iff.1 Tryz.size148
  have hne : j.size ≠ 0 := by rw [hjs]; decide
  simp [convert, run_underlying Tryz.underlying146, run_underlying Tryz.underlying227, Conv.unsafePointer, Conv.seenAt, viewAt, cellsIn, hsh, sizeOf, typeInfo, hj, hne]
theorem conv_here (w : World) (b : Nat) (hsh : w.shape? b = some (148, 2)) :
    (convert 227 146 (.pointer (some ⟨b, 0, none⟩))).run Tryz.prog w = .ok (.pointer (some ⟨b, 0, none⟩)) w := by
  obtain ⟨j, hj, _⟩ := Option.map_eq_some_iff.1 Tryz.size148
  simp [convert, run_underlying Tryz.underlying146, run_underlying Tryz.underlying227, Conv.unsafePointer, Conv.seenAt, viewAt, hsh, variablesAt, lies148, sizeOf, typeInfo, hj]
set_option maxRecDepth 100000 in
set_option maxHeartbeats 1000000 in
theorem copyCheck_fresh (b : Nat) (w : World) (h0 : w.cell? ⟨b, 0, none⟩ = some (.pointer none)) (hsh : w.shape? b = some (148, 2)) (hfz : w.frozen? ⟨b, 0, none⟩ = false) :
    Calls Tryz.prog 132 #[.pointer (some ⟨b, 0, none⟩)] w fun e w' => e = .returned (.tuple #[]) ∧ w' = w.setCell ⟨b, 0, none⟩ (.pointer (some ⟨b, 0, none⟩)) := by
  go_enter Tryz.func132, Tryz.ntmps132
  go_wp2
  rw [conv_there w b hsh]
  simp only [Result.andThen]
  rw [Oper.upon_value]
  go_wp2
  rw [run_callFunc_extern Tryz.func166 (by kernel_rfl) (by kernel_rfl) (by kernel_rfl) (e := Extern.AbiNoEscape.same) (by kernel_rfl)]
  rw [Lib.run_noEscape]
  simp only [Result.andThen]
  rw [Oper.upon_value]
  go_wp2
  rw [conv_here w b hsh]
  simp only [Result.andThen]
  rw [Oper.upon_value]
  go_wp2
  go_end0
  exact ⟨rfl, rfl⟩
theorem copyCheck_any (B b : Nat) (bs : List Value) (w : World) (h : Lib.IsBuilder 148 5 B b bs w) :
    Calls Tryz.prog 132 #[.pointer (some ⟨b, 0, none⟩)] w fun e w' => e = .returned (.tuple #[]) ∧ (Lib.BuilderAt 148 5 B b (.pointer (some ⟨b, 0, none⟩)) bs w' ∧ Below B w w') := by
  rcases h with h | h
  · refine (copyCheck_fresh b w h.cell0 h.shape h.frozen0).mono ?_
    rintro e w' ⟨rfl, rfl⟩
    exact ⟨rfl, h.used _, (Below.refl B w).setCell (p := ⟨b, 0, none⟩) h.1 _⟩
  · refine (copyCheck_used b w h.cell0).mono ?_
    rintro e w' ⟨rfl, rfl⟩
    exact ⟨rfl, h, Below.refl B _⟩
set_option maxRecDepth 100000 in
set_option maxHeartbeats 1000000 in
theorem bwrite_any (B b : Nat) (bs : List Value) (s : ByteArray) (w : World) (h : Lib.IsBuilder 148 5 B b bs w) (hlen : bs.length + s.size ≤ 100000000) (hBw : B ≤ w.heap.size) :
    Calls Tryz.prog 86 #[.pointer (some ⟨b, 0, none⟩), .string s] w fun e w' => e = .returned (.tuple #[.int .i64 s.size, .nilIface]) ∧ Lib.BuilderAt 148 5 B b (.pointer (some ⟨b, 0, none⟩)) (bs ++ Lib.strCells s) w' ∧ Below B w w' := by
  obtain ⟨i0, hi, hz0, hz1, hz2⟩ := info_parts Na.Tryz.info5
  have hcc := copyCheck_any B b bs w h
  clear h
  go_enter Tryz.func86, Tryz.ntmps86
  go_wp2_with fail
  refine hcc.mono ?_
  rintro e w1 ⟨rfl, ⟨hB, v, hbk, hown, hne⟩, hb01⟩
  have c1 : w1.cell? ⟨b, 1, none⟩ = some v := by rw [Lib.cell_of_heap hbk]; rfl
  have hBw1 : B ≤ w1.heap.size := Nat.le_trans hBw hb01.size
  have HB01 := Hid_of hb01
  clear hcc hb01
  go_wp2_with (at_builtin; refine Lib.wpList_append_own_string _ rfl _ _ 138 9 rfl B 5 i0 Tryz.underlying138 Tryz.underlying9 hi hz0 hz1 hz2 _ _ _ rfl hown s rfl ?c3 ?c4 ?c5 ?_)
  case c3 => unfold maxLen; omega
  case c4 => omega
  case c5 => omega
  intro v' w2 hown' hgrow _
  have hlt : b < w1.heap.size := (Array.getElem?_eq_some_iff.1 hbk).1
  have hb2 : w2.heap[b]? = some (.cells #[.pointer (some ⟨b, 0, none⟩), v] 148 (0, 0)) := by
    rw [hgrow.block b hlt (fun e => hne e.symm)]
    exact hbk
  obtain ⟨⟨d0, d1⟩, df⟩ := row2 hb2
  have f1 := df 1
  obtain ⟨ao, n', cap, rfl⟩ : ∃ ao n' cap, v' = .slice ao n' cap := by
    rcases hown'.2 with ⟨hv, _⟩ | ⟨g, cap, cur, hv, _⟩
    · exact ⟨_, _, _, hv⟩
    · exact ⟨_, _, _, hv⟩
  have HK := Hid_of (And.intro (Lib.BuilderAt.put (T := 148) (e := 5) hB hb2 (bs' := bs ++ Lib.strCells s) (by simpa [Lib.strCells_length] using hown') (by decide)) (HB01.out.trans (((Below.refl B w1).grown hgrow hBw1 (fun k hk => (hown.lt k hk).1)).setCell (p := ⟨b, 1, none⟩) hB (.slice ao n' cap))))
  clear hown hown' hgrow hbk df hb2 HB01
  go_wp2
  go_ret2
  exact ⟨rfl, HK.out⟩

/-! records in memory -/
def rk : R → Int | .inl _ => 1 | .inr (.inl _) => 2 | .inr (.inr _) => 3
def rsl : R → Int | .inl _ => 0 | .inr (.inl v) => v.s | .inr (.inr _) => 0
def ri : R → Int | .inl b => b.i | .inr (.inl v) => v.b.i | .inr (.inr _) => 0
def rt : R → Int | .inl b => b.t | .inr (.inl v) => v.b.t | .inr (.inr _) => 0
def rvv : R → ByteArray | .inl _ => ⟨#[]⟩ | .inr (.inl v) => v.v | .inr (.inr _) => ⟨#[]⟩
def ru : R → Int | .inl _ => 0 | .inr (.inl _) => 0 | .inr (.inr u) => u
theorem rcs_six (r : R) : rcs r = #[.int .i64 (rk r), .int .i64 (rsl r), .int .i64 (ri r), .int .i64 (rt r), .string (rvv r), .int .i64 (ru r)] := by cases r using R.split <;> rfl
def rl : Na.Ly R := ⟨6, fun r => [.int .i64 (rk r), .int .i64 (rsl r), .int .i64 (ri r), .int .i64 (rt r), .string (rvv r), .int .i64 (ru r)], fun _ => rfl, fun x v h => by simp at h; rcases h with rfl | rfl | rfl | rfl | rfl | rfl <;> rfl, by decide⟩
theorem getR {w : World} {a : Option Addr} {l : List R} (h : AtL rl w a l) (j : Nat) (hj : j < l.length) : ∃ b off, a = some ⟨b, off, none⟩ ∧ w.cell? ⟨b, off + j * 6, none⟩ = some (.int .i64 (rk l[j])) ∧ w.cell? ⟨b, off + j * 6 + 1, none⟩ = some (.int .i64 (rsl l[j])) ∧ w.cell? ⟨b, off + j * 6 + 2, none⟩ = some (.int .i64 (ri l[j])) ∧ w.cell? ⟨b, off + j * 6 + 3, none⟩ = some (.int .i64 (rt l[j])) ∧ w.cell? ⟨b, off + j * 6 + 4, none⟩ = some (.string (rvv l[j])) ∧ w.cell? ⟨b, off + j * 6 + 5, none⟩ = some (.int .i64 (ru l[j])) := by
  obtain ⟨b, off, e, h0⟩ := h j hj
  exact ⟨b, off, e, h0 0 (by decide), h0 1 (by decide), h0 2 (by decide), h0 3 (by decide), h0 4 (by decide), h0 5 (by decide)⟩
theorem rec_le (e k : Nat) (r : R) (he : e ≤ 2147483648) (hk : k ≤ 2147483648) (hr : Wf r) : (rec e k r).length ≤ 4400 := by
  have := raw_len e k r he hk hr
  rw [rec_len]
  unfold sec
  omega
theorem recs_le (e : Nat) : ∀ (l : List R) (k : Nat), e ≤ 2147483648 → k + l.length ≤ 2147483648 → (∀ r ∈ l, Wf r) → (recs e k l).length ≤ l.length * 4400
  | [], k, _, _, _ => by simp [recs]
  | r :: l, k, he, hk, h => by
    rw [List.length_cons] at hk
    have h1 := rec_le e k r he (by omega) (h r (by simp))
    have h2 := recs_le e l (k + 1) he (by omega) fun x hx => h x (by simp [hx])
    rw [recs, List.length_append, List.length_cons]
    omega
theorem recs_step (e : Nat) (l : List R) (j : Nat) (hj : j < l.length) : recs e 0 (l.take (j + 1)) = recs e 0 (l.take j) ++ rec e j l[j] := by
  rw [List.take_succ_eq_append_getElem hj, recs_app, List.length_take, Nat.min_eq_left (by omega), Nat.zero_add, recs, recs, List.append_nil]
theorem str_cells (l : List UInt8) : Lib.strCells (ofL l) = Lib.byteCells l := by
  rw [Lib.strCells_eq]
  show Lib.byteCells (ofL l).data.toList = _
  rw [Ns.ofL_data]
set_option maxRecDepth 100000 in
set_option maxHeartbeats 4000000 in
theorem textOf_any (rs : List R) (e : Nat) (ad : Option Addr) (c : Nat) (w : World) (hx : AtL rl w ad rs) (he : e ≤ 2147483648) (hl : rs.length ≤ 10000) (hr : ∀ r ∈ rs, Wf r) :
    Calls Tryz.prog 68 #[.slice ad rs.length c, .int .i64 e] w fun x w' => x = .returned (.string (ofL (recs e 0 rs))) ∧ Below w.heap.size w w' := by
  obtain ⟨W2, HW2⟩ : ∃ W2, Hid (w.alloc (.cells #[.pointer none, .slice none 0 0] 148) = W2) := ⟨_, rfl⟩
  have HBD : Hid (Lib.IsBuilder 148 5 w.heap.size w.heap.size (Lib.byteCells (recs e 0 (rs.take 0))) W2) := .inl ⟨Nat.le_refl _, .slice none 0 0, by rw [← HW2.out]; exact heap_alloc_last w _, World.ownsRow_nil _ _ _ _, by simp [Value.ownBlock]⟩
  have HB2 : Hid (Below w.heap.size w W2) := by rw [← HW2.out]; exact bel1 w _
  have HX := Hid_of hx
  have HR := Hid_of hr
  have HE : Hid (recs e 0 (rs.take rs.length) = recs e 0 rs) := by show recs e 0 (rs.take rs.length) = _; rw [List.take_length]
  clear hx hr
  go_enter Tryz.func68, Tryz.ntmps68
  go_upto_region 2 with fail
  rw [HW2.out]
  clear HW2
  go_wp2
  go_loopw [10] (fun i wr => ∃ j : Nat, j ≤ rs.length ∧ i = .int .i64 j ∧ Lib.IsBuilder 148 5 w.heap.size w.heap.size (Lib.byteCells (recs e 0 (rs.take j))) wr ∧ Below w.heap.size w wr) (fun i _ => rs.length - (intOf i).toNat)
  case atStart => exact ⟨0, Nat.zero_le _, rfl, HBD.out, HB2.out⟩
  case round =>
    obtain ⟨j, hj, rfl, hBd, hbl⟩ := hrel
    clear HBD HB2
    by_cases hlt : j < rs.length
    · obtain ⟨g, off, rfl, c0, c1, c2, c3, c4, c5⟩ := getR (HX.out.keep hbl) j hlt
      have hwf := HR.out _ (List.getElem_mem hlt)
      have ht := fun W => text_any e j rs[j] W he (by omega) hwf
      have hrl := rec_le e j rs[j] he (by omega) hwf
      have hrs := recs_le e (rs.take j) 0 he (by rw [List.length_take]; omega) fun r hr => HR.out r (List.mem_of_mem_take hr)
      rw [List.length_take, Nat.min_eq_left hj] at hrs
      have HST := Hid_of (recs_step e rs j hlt)
      obtain ⟨A', HA'⟩ : ∃ A', Hid (recs e 0 (rs.take (j + 1)) = A') := ⟨_, Hid_of rfl⟩
      rw [HA'.out] at HST
      have hsz : (ofL (rec e j rs[j])).size = (rec e j rs[j]).length := Ns.M.ofL_size _
      have HBd := Hid_of hBd
      have HBl := Hid_of hbl
      have hlw := hbl.size
      rw [rV, rcs_six] at ht
      generalize rec e j rs[j] = Q at *
      generalize rk rs[j] = z0 at *
      generalize rsl rs[j] = z1 at *
      generalize ri rs[j] = z2 at *
      generalize rt rs[j] = z3 at *
      generalize rvv rs[j] = z4 at *
      generalize ru rs[j] = z5 at *
      generalize recs e 0 (rs.take j) = A at *
      obtain ⟨W3, HW3⟩ : ∃ W3, Hid (wr.alloc (.cells #[.int .i64 z0, .int .i64 z1, .int .i64 z2, .int .i64 z3, .string z4, .int .i64 z5] 97) = W3) := ⟨_, Hid_of rfl⟩
      have hr3 : W3.heap[wr.heap.size]? = some (.cells #[.int .i64 z0, .int .i64 z1, .int .i64 z2, .int .i64 z3, .string z4, .int .i64 z5] 97 (0, 0)) := by rw [← HW3.out]; exact heap_alloc_last wr _
      have HB3 : Hid (Below wr.heap.size wr W3) := by rw [← HW3.out]; exact bel1 wr _
      obtain ⟨⟨d0, d1, d2, d3, d4, d5⟩, _⟩ := row6 hr3
      clear hBd hbl HX HR hr3 hwf
      go_upto_region 5 with fail
      rw [HW3.out]
      clear HW3 c0 c1 c2 c3 c4 c5
      go_wp2_with fail
      refine (ht _).mono ?_
      rintro e w4 ⟨rfl, hb4⟩
      have hb5 := bel_up HB3.out hb4 (Nat.le_refl _)
      have hBd5 : Lib.IsBuilder 148 5 w.heap.size w.heap.size (Lib.byteCells A) w4 := by
        rcases HBd.out with ⟨q1, v, q2, q3, q4⟩ | ⟨q1, v, q2, q3, q4⟩
        · exact .inl ⟨q1, v, (hb5.block _ (Array.getElem?_eq_some_iff.1 q2).1).trans q2, Na.owns_keepBut q3 (fun k hk _ => hb5.block k hk), q4⟩
        · exact .inr ⟨q1, v, (hb5.block _ (Array.getElem?_eq_some_iff.1 q2).1).trans q2, Na.owns_keepBut q3 (fun k hk _ => hb5.block k hk), q4⟩
      have hwr := bwrite_any w.heap.size w.heap.size _ (ofL Q) w4 hBd5 (by rw [Lib.byteCells_length, hsz]; omega) (by have := hb5.size; omega)
      rw [str_cells, ← Lib.byteCells_append, ← HST.out] at hwr
      have HB5 : Hid (Below w.heap.size w w4) := bel_up HBl.out hb5 (Nat.le_refl _)
      clear ht hb4 hBd5 hb5 HBd HBl HB3 HST d0 d1 d2 d3 d4 d5
      go_wp2_with fail
      refine hwr.mono ?_
      rintro e w6 ⟨rfl, hB6, hb6⟩
      have HQ := Hid_of (And.intro hB6 (HB5.out.trans hb6))
      clear hwr hB6 hb6 HB5
      go_wp2
      go_roundw
      case rel =>
        refine ⟨j + 1, by omega, by simp, ?_, HQ.out.2⟩
        rw [HA'.out]
        exact .inr HQ.out.1
      case measure => simp [intOf]; omega
    · have hjj : j = rs.length := by omega
      subst hjj
      have hstr := Ns.Tryz.Builder_String_any w.heap.size w.heap.size _ wr hBd hbl.size
      have HBl := Hid_of hbl
      clear hBd hbl
      rw [HE.out] at hstr
      go_wp2_with fail
      refine hstr.mono ?_
      rintro e w7 ⟨rfl, hb7⟩
      have HB7 := Hid_of (HBl.out.trans hb7)
      clear hstr hb7
      go_wp2
      go_ret
      exact ⟨rfl, HB7.out⟩
end Go.Proofs.YtlnedgjikkhplaaGreat.Du
end
section
namespace Go.Proofs.YtlnedgjikkhplaaGreat.Nc
open Go.RowKit
set_option linter.unusedVariables false

theorem At.grown {α : Type} {w w' : World} {a : Option Addr} {f : α → Value} {l : List α} {b : Nat} (h : At w a f l) (hg : w.grownBy w' (some b)) (hb : ∀ k, blk a k → k ≠ b) : At w' a f l :=
  h.keepBut fun k hk hk2 => hg.block k hk (by have := hb k hk2; simpa using this)
theorem RS.grown {w w' : World} {b b' : Nat} {st : Option (List UInt8)} (h : RS w b st) (hg : w.grownBy w' (some b')) (hb : b ≠ b') : RS w' b st :=
  h.keep (hg.block b h.lt (by simpa using hb))
theorem RS.below {w w' : World} {b : Nat} {st : Option (List UInt8)} (h : RS w b st) (hb : Below w.heap.size w w') : RS w' b st := h.keep (hb.block b h.lt)
theorem enc_small (n : Int) (u : Nat) (h : M.zz n = u) (hu : u < 128) : M.enc n = [UInt8.ofNat u] := by rw [M.enc, h, M.grp_small u hu]
theorem enc_ab : M.encT [97, 98] = [4, 97, 98] := by
  rw [M.encT, show M.enc (([97, 98] : List UInt8).length : Nat) = [4] from enc_small _ 4 (by decide) (by decide)]; rfl
end Go.Proofs.YtlnedgjikkhplaaGreat.Nc
end
