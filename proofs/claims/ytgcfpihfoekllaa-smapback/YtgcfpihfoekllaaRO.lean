/- All stripes read of bytes. -/
import Derived.Test.YtgcfpihfoekllaaRM

namespace Go.Proofs.Ytgcfpihfoekllaa

open Go.RowKit

set_option linter.unusedVariables false

open Sm (S q5)

section
variable {w w' wr : World} {base b : Nat} {v : Value} {es : List E} {n : Int} {F : Nat → Prop} {m : List S}
theorem gb_fr {w w1 w2 : World} {br : Nat} {F G : Nat → Prop} (h : w.grownBy w1 (some br)) (k : Fr w1 F w2 G) (hF : ∀ j, F j → w.heap.size ≤ j) : w.grownBy w2 (some br) :=
  ⟨k.os.trans h.os, k.tape.trans h.tape, k.output.trans h.output, Nat.le_trans h.size k.size, fun j hj hne => (k.block j (Nat.lt_of_lt_of_le hj h.size) (fun hf => by have := hF j hf; omega)).trans (h.block j hj hne)⟩
/-- Amid reading. -/
structure RdI (w wr : World) (br : Nat) (l : List UInt8) (cnt bm : Nat) (v : Value) (es : List E) (k : Nat) (r : List UInt8) : Prop where
  mi : MI wr w.heap.size bm v es (Sm.live (es.map (·.s)))
  gr : w.grownBy wr (some br)
  rs : RS wr br (some r)
  rl : r.length ≤ 1000000
  inv : Sm.Inv l cnt k (es.map (·.s)) r
  g : Sm.G (es.map (·.s))
def RmOut (w : World) (br : Nat) (l : List UInt8) (e : Ending) (w' : World) : Prop :=
  w.grownBy w' (some br) ∧ ((∃ ro bm F acc, e = .returned (.tuple #[.pointer (some ⟨bm, 0, none⟩), .bool true]) ∧ RS w' br ro ∧ (lft ro).length ≤ 1000000 ∧ MM w' w.heap.size bm F acc ∧ (ro = some [] → Sm.Tell l acc) ∧ (ro ≠ some [] → ¬ ∃ m, Sm.Tell l m)) ∨ ((¬ ∃ m, Sm.Tell l m) ∧ e = .returned (.tuple #[.pointer none, .bool false])))
theorem RdI.read {br cnt bm k : Nat} {l r : List UInt8} (hbr : br < w.heap.size) (h : RdI w wr br l cnt bm v es k r) {w2 : World} (hg : wr.grownBy w2 (some br)) : MI w2 w.heap.size bm v es (Sm.live (es.map (·.s))) ∧ w.grownBy w2 (some br) :=
  ⟨h.mi.keepBut fun j hj hF => hg.block j hj (fun e => by
    have h1 := (h.mi.mine j hF).1
    simp only [Option.some.injEq] at e
    omega), gb_trans h.gr hg⟩
theorem RdI.next {br cnt bm k : Nat} {l r r' : List UInt8} (hbr : br < w.heap.size) (h : RdI w wr br l cnt bm v es k r) (hk : k < cnt) {w2 w4 w5 : World} (hg : wr.grownBy w2 (some br)) (hr : RS w2 br (some r')) (h4 : Below w2.heap.size w2 w4) (hq : nx (q5 r) = some r') (ho : Sm.ok (Sm.rs r)) (hroom : es.length < 4096 ∧ ((Sm.rs r).st = 3 ∨ Sm.live (es.map (·.s)) < 256))
    {v' : Value} {g c : Nat} (hm : MI w5 w.heap.size bm v' (es ++ [⟨es.length, Sm.rs r, some ⟨g, 0, none⟩, c⟩]) ((Sm.live (es.map (·.s)) : Int) + if (Sm.rs r).st = 3 then 0 else 1)) (hf : Fr w4 (fpm bm v es) w5 (fpm bm v' (es ++ [⟨es.length, Sm.rs r, some ⟨g, 0, none⟩, c⟩]))) :
    RdI w w5 br l cnt bm v' (es ++ [⟨es.length, Sm.rs r, some ⟨g, 0, none⟩, c⟩]) (k + 1) r' := by
  have hmap : (es ++ [(⟨es.length, Sm.rs r, some ⟨g, 0, none⟩, c⟩ : E)]).map (·.s) = es.map (·.s) ++ [Sm.rs r] := by rw [List.map_append]; rfl
  obtain ⟨hm2, hg2⟩ := h.read hbr hg
  have hmine : ∀ j, fpm bm v es j → w.heap.size ≤ j := fun j hj => (h.mi.mine j hj).1
  have hinv := h.inv.step hk hq ho
  have hla := Sm.live_app (es.map (·.s)) (Sm.rs r)
  have hlen : (es.map (·.s)).length = es.length := by simp
  refine ⟨?_, gb_fr (gb_bel hg2 h4) hf hmine, ?_, ?_, by rw [hmap]; exact hinv, ?_⟩
  · rw [hmap, hla]
    have : ((Sm.live (es.map (·.s)) + (if (Sm.rs r).st = 3 then 0 else 1) : Nat) : Int) = (Sm.live (es.map (·.s)) : Int) + if (Sm.rs r).st = 3 then 0 else 1 := by split <;> simp
    rw [this]
    exact hm
  · refine RS.keep (RS.below hr h4) (hf.block br (Nat.lt_of_lt_of_le (RS.lt hr) h4.size) fun hF => ?_)
    have := hmine br hF
    omega
  · have := (Sm.rs_only hq).2.2.2
    have := h.rl
    omega
  · rw [hmap]
    have hlv := h.g.lv
    have hil := hinv.len
    have hil2 := h.inv.len
    exact hinv.g (by rw [hla]; split <;> omega) (by omega)
theorem RdI.start {br : Nat} {l r : List UInt8} {cnt : Nat} {w1 w2 : World} {bm : Nat} (hg : w.grownBy w1 (some br)) (hr : RS w1 br (some r)) (hi : M.int l = some ((cnt : Int), r)) (hl : l.length ≤ 1000000) (hb : Below w1.heap.size w1 w2) (hm : MI w2 w1.heap.size bm (.slice none 0 0) [] 0) : RdI w w2 br l cnt bm (.slice none 0 0) [] 0 r :=
  ⟨⟨hm.row, hm.own.low hg.size, fun e he => by simp at he, hm.nd, hm.nb, fun e he => by simp at he, Nat.le_trans hg.size hm.lo, fun j hj => by simp at hj⟩, gb_bel hg hb, RS.below hr hb, by have := M.int_len _ _ _ hi; omega, Sm.Inv.start hi, Sm.G.nil⟩
theorem RdI.done {br cnt bm : Nat} {l r : List UInt8} (h : RdI w wr br l cnt bm v es cnt r) : RmOut w br l (.returned (.tuple #[.pointer (some ⟨bm, 0, none⟩), .bool true])) wr := by
  refine ⟨h.gr, .inl ⟨some r, bm, fpm bm v es, es.map (·.s), rfl, h.rs, h.rl, ⟨v, es, rfl, h.mi, rfl, h.g⟩, fun e => ?_, fun e => ?_⟩⟩
  · have : r = [] := by simpa using e
    subst this
    exact h.inv.done h.g
  · exact h.inv.rest fun e' => e (by rw [e'])
set_option maxRecDepth 100000 in
set_option maxHeartbeats 2000000 in
theorem readMap_any (br : Nat) (l : List UInt8) (w : World) (h : RS w br (some l)) (hl : l.length ≤ 1000000) : Calls Try.prog 52 #[.pointer (some ⟨br, 0, none⟩)] w (RmOut w br l) := by
  have hi := int_rs br (some l) w h (by show l.length ≤ _; omega)
  have hbr := RS.lt h
  have HBR := Hid_of hbr
  change Calls Try.prog 76 #[.pointer (some ⟨br, 0, none⟩)] w (fun x w' => x = .returned (.int .i64 (vl 0 (M.int l))) ∧ RS w' br (nx (M.int l)) ∧ w.grownBy w' (some br)) at hi
  cases hM : M.int l with
  | none =>
    rw [hM] at hi
    simp only [vl, nx, Option.map_none] at hi
    have HT := Hid_of (Sm.tell_none hM)
    clear h hM hbr
    go_enter Try.func52, Try.ntmps52
    go_wp2_with fail
    refine hi.mono ?_
    rintro e w1 ⟨rfl, hr1, hg1⟩
    have hnw := new_any w1
    have HR1 := Hid_of hr1
    have HG1 := Hid_of hg1
    clear hi hr1 hg1
    go_wp2_with fail
    refine hnw.mono ?_
    rintro e w2 ⟨rfl, hb2, hm2⟩
    have HQ : Hid (RmOut w br l (.returned (.tuple #[.pointer (some ⟨w1.heap.size, 0, none⟩), .bool true])) w2) := Hid_of ⟨gb_bel HG1.out hb2, .inl ⟨none, w1.heap.size, _, [], rfl, RS.below HR1.out hb2, by simp [lft], MM.none (base := w.heap.size) ⟨hm2.row, hm2.own.low HG1.out.size, fun e he => by simp at he, hm2.nd, hm2.nb, fun e he => by simp at he, HG1.out.size, fun j hj => by simp at hj⟩, fun e => by simp at e, fun _ => HT.out⟩⟩
    clear hnw hb2 hm2 HR1 HG1
    go_wp2
    go_loopw [13] (fun i wr => i = .int .i64 0 ∧ Hid (RmOut w br l (.returned (.tuple #[.pointer (some ⟨w1.heap.size, 0, none⟩), .bool true])) wr)) (fun _ _ => 0)
    case atStart => exact ⟨rfl, HQ⟩
    case round =>
      obtain ⟨rfl, HQ2⟩ := hrel
      clear HQ
      go_wp2
      go_ret2
      exact HQ2.out
  | some p =>
    obtain ⟨n, r0⟩ := p
    rw [hM] at hi
    simp only [vl, nx, Option.map_some] at hi
    have hrng := (M.int_only _ _ _ hM).2
    by_cases hn : n < 0
    · have HT := Hid_of (Sm.tell_neg hM hn)
      have d0 : decide (n < 0) = true := decide_eq_true hn
      clear h hM hbr
      go_enter Try.func52, Try.ntmps52
      go_wp2_with fail
      refine hi.mono ?_
      rintro e w1 ⟨rfl, hr1, hg1⟩
      have HG1 := Hid_of hg1
      clear hi hr1 hg1
      go_wp2
      go_ret2
      exact ⟨HG1.out, .inr ⟨HT.out, rfl⟩⟩
    · have d0 : decide (n < 0) = false := decide_eq_false hn
      obtain ⟨cnt, rfl⟩ := Int.eq_ofNat_of_zero_le (show 0 ≤ n by omega)
      have HM := Hid_of hM
      clear h hM hbr
      go_enter Try.func52, Try.ntmps52
      go_wp2_with fail
      refine hi.mono ?_
      rintro e w1 ⟨rfl, hr1, hg1⟩
      have hnw := new_any w1
      have HR1 := Hid_of hr1
      have HG1 := Hid_of hg1
      clear hi hr1 hg1
      go_wp2_with fail
      refine hnw.mono ?_
      rintro e w2 ⟨rfl, hb2, hm2⟩
      have HI : Hid (RdI w w2 br l cnt w1.heap.size (.slice none 0 0) [] 0 r0) := Hid_of (RdI.start HG1.out HR1.out HM.out hl hb2 hm2)
      obtain ⟨bm, hbm⟩ : ∃ bm, w1.heap.size = bm := ⟨_, rfl⟩
      rw [hbm] at HI ⊢
      clear hnw hb2 hm2 HR1 HG1 HM d0 hn hbm
      go_wp2
      go_loopw [13] (fun i wr => ∃ (k : Nat) (v : Value) (es : List E) (r : List UInt8), k ≤ cnt ∧ i = .int .i64 k ∧ Hid (RdI w wr br l cnt bm v es k r)) (fun i _ => cnt - (intOf i).toNat)
      case atStart => exact ⟨0, _, _, _, by omega, rfl, HI⟩
      case round =>
        obtain ⟨k, v, es, r, hk, rfl, HD⟩ := hrel
        clear HI
        by_cases hlt : k < cnt
        · have hki : (k : Int) < (cnt : Int) := by omega
          have hlen : es.length = k := by have := HD.out.inv.len; simpa using this
          have hk4 : k ≤ 4096 := by have := HD.out.g.ln; rw [List.length_map] at this; omega
          have hrs := readStripe_any br r wr HD.out.rs HD.out.rl
          have hep := rs_ep r
          have hll := rs_len r
          have hrl := HD.out.rl
          go_wp2_with fail
          refine hrs.mono ?_
          rintro e w3 ⟨a, c, rfl, hat, hr3, hg3⟩
          have hb3 := bel1 w3 (eO ⟨0, Sm.rs r, a, c⟩)
          have hmb := mayBe_any ⟨0, Sm.rs r, a, c⟩ (w3.alloc (eO ⟨0, Sm.rs r, a, c⟩)) hep (by show (Sm.rs r).l.length ≤ _; omega) (hat.keep hb3)
          have HX := Hid_of (heap_alloc_last w3 (eO ⟨0, Sm.rs r, a, c⟩))
          obtain ⟨⟨k0, k1, k2, k3, k4, k5⟩, _⟩ := row_cells HX.out
          have HA := Hid_of hat
          have HR3 := Hid_of hr3
          have HG3 := Hid_of hg3
          have HB3 := Hid_of hb3
          clear hrs hat hr3 hg3 hb3
          cases hok : Sm.okB (Sm.rs r) with
          | false =>
            rw [hok] at hmb
            have HT : Hid (¬ ∃ m, Sm.Tell l m) := Hid_of (HD.out.inv.bad hlt (fun h => by rw [Sm.okB_eq.2 h] at hok; cases hok))
            have HG := Hid_of (HD.out.read HBR.out HG3.out).2
            clear hok HD HR3 HA HX
            generalize Sm.rs r = s at *
            go_wp2_with fail
            refine hmb.mono ?_
            rintro e w4 ⟨rfl, hb4⟩
            have HG4 := Hid_of (gb_bel HG.out (bel_up HB3.out hb4 (Nat.le_refl _)))
            clear hmb hb4 k0 k1 k2 k3 k4 k5
            go_wp2
            go_ret2
            exact ⟨HG4.out, .inr ⟨HT.out, rfl⟩⟩
          | true =>
            rw [hok] at hmb
            have ho := Sm.okB_eq.1 hok
            obtain ⟨r', hq⟩ : ∃ r', nx (q5 r) = some r' := by
              cases hq : nx (q5 r) with
              | none => exact absurd ho.2.2 (Sm.rs_bad hq)
              | some r' => exact ⟨r', rfl⟩
            have HO := Hid_of ho
            have HQ := Hid_of hq
            have HHR : Hid (∀ w4, Below w3.heap.size w3 w4 → Calls Try.prog 62 #[.pointer (some ⟨bm, 0, none⟩), .int .i64 (Sm.rs r).st] w4 fun e w' => e = .returned (.bool (decide (es.length < 4096 ∧ ((Sm.rs r).st = 3 ∨ (Sm.live (es.map (·.s)) : Int) < 256)))) ∧ w' = w4) := Hid_of fun w4 hb => hasRoom_any ((HD.out.read HBR.out HG3.out).1.keep hb) _
            by_cases hroom : es.length < 4096 ∧ ((Sm.rs r).st = 3 ∨ (Sm.live (es.map (·.s)) : Int) < 256)
            · have HAD : Hid (∀ w4, Below w3.heap.size w3 w4 → Calls Try.prog 63 #[.pointer (some ⟨bm, 0, none⟩), eV ⟨0, Sm.rs r, a, c⟩] w4 fun e w' => ∃ (j : Int) (v' : Value) (es' : List E), e = .returned (.int .i64 j) ∧ RdI w w' br l cnt bm v' es' (k + 1) r') := Hid_of fun w4 hb => by
                have hlv := HD.out.g.lv
                have hgp := HO.out.2.2.2.2.2
                have := add_any ((HD.out.read HBR.out HG3.out).1.keep hb) (Nat.le_trans (HD.out.read HBR.out HG3.out).2.size hb.size) hroom.1 ⟨by omega, by omega⟩ ⟨0, Sm.rs r, a, c⟩ ⟨hgp.1, hgp.2.1⟩ (HA.out.keep hb)
                refine this.mono ?_
                rintro e w' ⟨rfl, v', g, c', hm, hf⟩
                exact ⟨_, v', _, rfl, HD.out.next HBR.out hlt HG3.out (by rw [← HQ.out]; exact HR3.out) hb HQ.out HO.out ⟨hroom.1, by omega⟩ hm hf⟩
              have HRM : Hid (decide (es.length < 4096 ∧ ((Sm.rs r).st = 3 ∨ (Sm.live (es.map (·.s)) : Int) < 256)) = true) := Hid_of (decide_eq_true hroom)
              rw [HRM.out] at HHR
              clear hok ho hq hroom HRM HD HR3 HA HG3 HO HQ hep hll hrl hlen
              generalize Sm.rs r = s at *
              go_wp2_with fail
              refine hmb.mono ?_
              rintro e w4 ⟨rfl, hb4⟩
              have hb34 := bel_up HB3.out hb4 (Nat.le_refl _)
              obtain ⟨⟨k0, k1, k2, k3, k4, k5⟩, _⟩ := row_cells (bel_row HX.out hb4)
              have hhr := HHR.out w4 hb34
              have had := HAD.out w4 hb34
              clear hmb hb4 hb34 HHR HAD HX HB3
              go_wp2_with fail
              refine hhr.mono ?_
              rintro e w1 ⟨rfl, hw1⟩
              subst w1
              clear hhr
              go_wp2_with fail
              refine had.mono ?_
              rintro e w5 ⟨j, v', es', rfl, hD⟩
              have HN := Hid_of hD
              clear had hD k0 k1 k2 k3 k4 k5
              go_wp2
              go_roundw
              case rel => exact ⟨k + 1, _, _, _, by omega, by go_num, HN⟩
              case measure => simp [intOf]; omega
            · have HRM : Hid (decide (es.length < 4096 ∧ ((Sm.rs r).st = 3 ∨ (Sm.live (es.map (·.s)) : Int) < 256)) = false) := Hid_of (decide_eq_false hroom)
              rw [HRM.out] at HHR
              have HT : Hid (¬ ∃ m, Sm.Tell l m) := Hid_of (HD.out.inv.room hlt (fun h => hroom ⟨by have := h.1; rwa [List.length_map] at this, by have := h.2; omega⟩))
              have HG := Hid_of (HD.out.read HBR.out HG3.out).2
              clear hok ho hq hroom HRM HD HR3 HA HG3 HO HQ hep hll hrl hlen
              generalize Sm.rs r = s at *
              go_wp2_with fail
              refine hmb.mono ?_
              rintro e w4 ⟨rfl, hb4⟩
              have hb34 := bel_up HB3.out hb4 (Nat.le_refl _)
              obtain ⟨⟨k0, k1, k2, k3, k4, k5⟩, _⟩ := row_cells (bel_row HX.out hb4)
              have hhr := HHR.out w4 hb34
              have HG4 := Hid_of (gb_bel HG.out hb34)
              clear hmb hb4 hb34 HHR HX HB3 HG
              go_wp2_with fail
              refine hhr.mono ?_
              rintro e w1 ⟨rfl, hw1⟩
              subst w1
              clear hhr
              go_wp2
              go_ret2
              exact ⟨HG4.out, .inr ⟨HT.out, rfl⟩⟩
        · have hkn : k = cnt := by omega
          subst hkn
          have HQ := Hid_of HD.out.done
          clear HD
          go_wp2
          go_ret2
          exact HQ.out
end

end Go.Proofs.Ytgcfpihfoekllaa
