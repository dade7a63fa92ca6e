/-
  Proved: for every list of items the law CodecBack of the program returns true, and the argument reads as it did.
-/
import Derived.Test.YtanpplndoemgoaaO
import Derived.ShutString
import Derived.Deep.RegionHeld3
namespace Go.Proofs.Ytanpplndoemgoaa
open Go.ChangeShapes Go.WideShapes Go.ChangeAt Go.RowKit
open Go.ChangeMaps (open_string shut_string)
set_option linter.unusedVariables false

theorem At_low {α : Type} {w w' : World} {a : Option Addr} {f : α → Value} {l : List α} {b : Nat} (h : At w a f l) (hg : w.grownBy w' (some b)) (hb : 0 < l.length → ∀ k, blk a k → k ≠ b) : At w' a f l :=
  h.keepBut' fun h0 k hk hk2 => hg.block k hk (by have := hb h0 k hk2; simpa using this)

set_option maxRecDepth 100000 in
set_option maxHeartbeats 4000000 in
theorem back_walk (d : Option Addr) (cap : Nat) (l : List It) (w : World) (hm : l.length ≤ maxLen) (hc : Items w d l) :
    Calls Try.prog 5 #[.slice d l.length cap] w fun e w' => e = .returned (.bool true) ∧ Below w.heap.size w w' := by
  have hm' : l.length ≤ 9223372036854775807 := by unfold maxLen at hm; omega
  go_enter Try.func5, Try.ntmps5
  go_wp2_with fail
  refine (few_any d cap l w hm hc).mono ?_
  rintro x w0 ⟨rfl, rfl⟩
  rcases few_01 l with h0 | h1
  · rw [h0]
    clear hc
    go_wp2_with fail
    refine (awake_any _).mono ?_
    rintro x w2 ⟨rfl, hb⟩
    go_wp2
    go_ret
    exact ⟨rfl, hb⟩
  · obtain ⟨h30, hok⟩ := few_all (l := l) (by rw [h1]; decide)
    rw [h1]
    clear h1
    go_wp2_with fail
    refine (newWriter_any 65536 w0).mono ?_
    rintro x w1 h
    obtain ⟨b, rfl, hb, hw1, hb1⟩ := h
    have hw1 : WS w1 b none 0 65536 (0, []) := hw1
    go_wp2
    go_loopw [4] (fun i wr => ∃ (k : Nat) (a' : Option Addr) (cap' : Nat), k ≤ l.length ∧ i = .int .i64 k ∧ WS wr b a' cap' 65536 (((l.take k).map (·.x)).foldl (M.layItem 65536) (0, [])) ∧ Step b w1 none wr a') (fun i _ => l.length - (intOf i).toNat)
    case atStart => exact ⟨0, none, 0, Nat.zero_le _, rfl, hw1, Step.refl _ _ _⟩
    case round =>
      obtain ⟨k, a', cap', hk, rfl, hw2, hs2⟩ := hrel
      have B2 : Below w0.heap.size w0 wr := hb1.trans (hs2.below hb (fun k ⟨_, _, h⟩ => by cases h) hb1.size)
      by_cases hlt : k < l.length
      · obtain ⟨ok, bb, off, rfl, c0, c1, c2, c3, c4⟩ := (hc.keep B2) k hlt
        have hlow := ((hc k hlt).1).low hb
        have HFo : Hid (_ = _) := fold_snoc 65536 l k hlt (0, [])
        have hok1 := hok k hlt
        clear hw1
        generalize l[k] = it at *
        generalize ((l.take k).map (·.x)).foldl (M.layItem 65536) (0, []) = st at *
        have HC : Hid (WS wr b a' cap' 65536 st ∧ ItOk wr it ∧ okI it.x = true ∧ Low it b) := ⟨hw2, ok, hok1, hlow⟩
        clear hw2 ok hok1 hlow
        obtain ⟨⟨kind, n, text, ints, texts⟩, ia, icap, ta, tcap⟩ := it
        simp only [It.v0, It.v1, It.v2, It.v3, It.v4] at c0 c1 c2 c3 c4
        go_wp2_with fail
        refine (layItem_any b a' cap' 65536 st ⟨⟨kind, n, text, ints, texts⟩, ia, icap, ta, tcap⟩ wr HC.out.1 HC.out.2.1 HC.out.2.2.1 HC.out.2.2.2).mono ?_
        rintro x w2 ⟨rfl, hq⟩
        obtain ⟨a3, cap3, hw3, hs3⟩ := hq
        have HW3 : Hid (WS w2 b a3 cap3 65536 (M.layItem 65536 st ⟨kind, n, text, ints, texts⟩)) := hw3
        clear hw3 HC c0 c1 c2 c3 c4
        go_wp2
        go_roundw
        case rel => exact ⟨k + 1, a3, cap3, by omega, by go_num, by rw [HFo.out]; exact HW3.out, hs2.trans hs3⟩
        case measure => simp [intOf]; omega
      · have hcB := hc.keep B2
        rw [List.take_of_length_le (by omega)] at hw2
        have HFO : Hid (((l.map (·.x)).foldl (M.layItem 65536) (0, [])).1 = 0 → (l.map (·.x)).foldl (M.layItem 65536) (0, []) = (0, [] ++ (l.map (·.x)).flatMap M.encItem) ∧ ∀ x ∈ l.map (·.x), x.kind = 1 → 0 ≤ x.n ∧ x.n ≤ 255) := M.fold_ok 65536 (l.map It.x) []
        have hlow : ∀ j (hj : j < l.length), Low l[j] b := fun j hj => ((hc j hj).1).low hb
        clear hw1 hs2 hb1
        generalize (l.map (·.x)).foldl (M.layItem 65536) (0, []) = st at *
        have hfit := hw2.fit
        go_wp2_with fail
        refine (wdone_any b a' cap' 65536 st wr hw2).mono ?_
        rintro x w3 ⟨rfl, hb3⟩
        have B3 := B2.trans (hb3.mono B2.size)
        have hc3 := hcB.keep hb3
        have hlb : b < w3.heap.size := Nat.lt_of_lt_of_le hw2.lt hb3.size
        clear hw2 hb3 hcB B2
        obtain ⟨e, bytes⟩ := st
        simp only at *
        by_cases he : e = 0
        · subst he
          obtain ⟨e1, e2⟩ := HFO.out rfl
          simp only [Prod.mk.injEq, true_and, List.nil_append] at e1
          have HB : Hid (bytes = restOf l 0) := e1.trans (restOf_0 l).symm
          have hlen : bytes.length ≤ 65536 := hfit.2.1
          clear HFO hfit e1
          go_wp2_with fail
          refine (newReader_any bytes w3 (by omega)).mono ?_
          rintro x w4 h4
          obtain ⟨r, rfl, hr, hr4, hb4⟩ := h4
          have B4 := B3.trans (hb4.mono B3.size)
          have hwr : w0.heap.size ≤ r := Nat.le_trans B3.size hr
          have hbr : b < r := Nat.lt_of_lt_of_le hlb hr
          clear B3 hb4 hc3 hr
          go_wp2
          go_loopw [8] (fun i wr => ∃ k : Nat, k ≤ l.length ∧ i = .int .i64 k ∧ RS wr r (some (restOf l k)) ∧ Below w0.heap.size w0 wr ∧ (restOf l k).length ≤ 65536) (fun i _ => l.length - (intOf i).toNat)
          case atStart => exact ⟨0, Nat.zero_le _, rfl, HB.out ▸ hr4, B4, HB.out ▸ hlen⟩
          case round =>
            obtain ⟨k, hk, rfl, hr5, B5, hl5⟩ := hrel
            clear hr4 B4 HB hlen
            by_cases hlt2 : k < l.length
            · obtain ⟨ok, bb, off, rfl, c0, c1, c2, c3, c4⟩ := (hc.keep B5) k hlt2
              obtain ⟨l1, l2⟩ := hlow k hlt2
              have hok1 := hok k hlt2
              have he2 := e2 l[k].x (List.mem_map_of_mem (List.getElem_mem hlt2))
              have hst := restOf_step l k hlt2
              rw [hst] at hr5 hl5
              obtain ⟨rest, hrest⟩ : ∃ rest, restOf l (k + 1) = rest := ⟨_, rfl⟩
              rw [hrest] at hr5 hl5 hst
              have HRS : Hid (rest = restOf l (k + 1)) := hrest.symm
              clear hrest
              generalize l[k] = it at *
              obtain ⟨⟨kind, n, text, ints, texts⟩, ia, icap, ta, tcap⟩ := it
              have pt := parts_of ok hok1
              obtain ⟨pn, p1, p2, p3, p4, pB, hI, hT⟩ := pt
              simp only [It.v0, It.v1, It.v2, It.v3, It.v4] at c0 c1 c2 c3 c4 l1 l2 he2 hr5 hl5
              have l1 : 0 < ints.length → ∀ k, blk ia k → k ≠ r := fun h0 k hk => by have := l1 h0 k hk; omega
              have l2 : 0 < texts.length → ∀ k, blk ta k → k ≠ r := fun h0 k hk => by have := l2 h0 k hk; omega
              have BA : Below wr.heap.size wr (wr.alloc (.cells #[.int .i64 kind, .int .i64 n, .string (ofL text), .slice ia ints.length icap, .slice ta texts.length tcap] 34)).drew := ((Below.refl _ wr).alloc (Nat.le_refl _) _).drew
              have gY : (wr.alloc (.cells #[.int .i64 kind, .int .i64 n, .string (ofL text), .slice ia ints.length icap, .slice ta texts.length tcap] 34)).drew.heap[wr.heap.size]? = some (.cells #[.int .i64 kind, .int .i64 n, .string (ofL text), .slice ia ints.length icap, .slice ta texts.length tcap] 34 (0, 0)) := heap_alloc_new wr _
              have hrY : RS (wr.alloc (.cells #[.int .i64 kind, .int .i64 n, .string (ofL text), .slice ia ints.length icap, .slice ta texts.length tcap] 34)).drew r (some (M.encItem ⟨kind, n, text, ints, texts⟩ ++ rest)) := hr5.below BA
              have B2 := B5.trans (BA.mono B5.size)
              have HZY : Hid ((wr.alloc (.cells #[.int .i64 kind, .int .i64 n, .string (ofL text), .slice ia ints.length icap, .slice ta texts.length tcap] 34)).drew.heap.size = wr.heap.size + 1) := by show _ = _; simp
              have HLF : Hid (lft (some (M.encItem ⟨kind, n, text, ints, texts⟩ ++ rest)) = M.encItem ⟨kind, n, text, ints, texts⟩ ++ rest) := rfl
              have HLS : Hid ((lft (some (M.encItem ⟨kind, n, text, ints, texts⟩ ++ rest))).length = (M.encItem ⟨kind, n, text, ints, texts⟩ ++ rest).length) := rfl
              have hrl : rest.length ≤ 65536 := by rw [List.length_append] at hl5; omega
              have hrlt : r < wr.heap.size := hr5.lt
              clear ok hok1 hst hr5 B5 hok e2
              by_cases k1 : kind = 1
              · subst k1
                have HRD : Hid (_ = _) := back_byte n text ints texts rest (he2 rfl)
                have gYc : (wr.alloc (.cells #[.int .i64 1, .int .i64 n, .string (ofL text), .slice ia ints.length icap, .slice ta texts.length tcap] 34)).drew.cell? ⟨wr.heap.size, 1, none⟩ = some (.int .i64 n) := by
                  rw [cell_of_row _ _ _ _ _ _ gY]; rfl
                clear hI hT
                go_wp2_with fail
                go_region_held3 (fun wq => wq.cell? ⟨wr.heap.size, 1, none⟩ = some (.int .i64 n)) (first | assumption | exact gYc) ((go_at_call 21; refine (byte_rs r _ _ hrY (by rw [HLS.out]; omega)).mono ?_; rintro x w2 ⟨rfl, hr2, hgF⟩; rw [HLF.out, HRD.out] at hr2; rw [HLF.out, HRD.out]; have hrF : RS w2 r (some rest) := hr2; have cY2 : w2.cell? ⟨wr.heap.size, 1, none⟩ = some (.int .i64 n) := (World.cell?_of_block (w := (wr.alloc (.cells #[.int .i64 1, .int .i64 n, .string (ofL text), .slice ia ints.length icap, .slice ta texts.length tcap] 34)).drew) (a := ⟨wr.heap.size, 1, none⟩) (hgF.block wr.heap.size (by rw [HZY.out]; omega) (by simp; omega))).trans gYc; simp only [vl]))
                go_wp2
                go_roundw
                case rel => exact ⟨k + 1, by omega, by go_num, HRS.out ▸ hrF, B2.trans (below_grown hgF B2.size (by simp; omega)), HRS.out ▸ hrl⟩
                case measure => simp [intOf]; omega
              · by_cases k2 : kind = 2
                · subst k2
                  have HRD : Hid (_ = _) := back_text n text ints texts rest p1
                  have gYc : (wr.alloc (.cells #[.int .i64 2, .int .i64 n, .string (ofL text), .slice ia ints.length icap, .slice ta texts.length tcap] 34)).drew.cell? ⟨wr.heap.size, 2, none⟩ = some (.string (ofL text)) := by
                    rw [cell_of_row _ _ _ _ _ _ gY]; rfl
                  clear hI hT
                  go_wp2_with fail
                  go_region_held3 (fun wq => wq.cell? ⟨wr.heap.size, 2, none⟩ = some (.string (ofL text))) (first | assumption | exact gYc) ((go_at_call 22; refine (text_any r _ _ hrY (by rw [HLS.out]; omega)).mono ?_; rintro x w2 ⟨rfl, hr2, hgF⟩; rw [HLF.out, HRD.out] at hr2; rw [HLF.out, HRD.out]; have hrF : RS w2 r (some rest) := hr2; have cY2 : w2.cell? ⟨wr.heap.size, 2, none⟩ = some (.string (ofL text)) := (World.cell?_of_block (w := (wr.alloc (.cells #[.int .i64 2, .int .i64 n, .string (ofL text), .slice ia ints.length icap, .slice ta texts.length tcap] 34)).drew) (a := ⟨wr.heap.size, 2, none⟩) (hgF.block wr.heap.size (by rw [HZY.out]; omega) (by simp; omega))).trans gYc; simp only [vl]))
                  go_wp2
                  go_roundw
                  case rel => exact ⟨k + 1, by omega, by go_num, HRS.out ▸ hrF, B2.trans (below_grown hgF B2.size (by simp; omega)), HRS.out ▸ hrl⟩
                  case measure => simp [intOf]; omega
                · by_cases k3 : kind = 3
                  · subst k3
                    have HRD : Hid (_ = _) := back_ints n text ints texts rest p2 pB
                    have gYc : (wr.alloc (.cells #[.int .i64 3, .int .i64 n, .string (ofL text), .slice ia ints.length icap, .slice ta texts.length tcap] 34)).drew.cell? ⟨wr.heap.size, 3, none⟩ = some (.slice ia ints.length icap) := by
                      rw [cell_of_row _ _ _ _ _ _ gY]; rfl
                    have hatY := hI.keep BA
                    clear hI hT
                    go_wp2_with fail
                    go_region_held3 (fun wq => wq.cell? ⟨wr.heap.size, 3, none⟩ = some (.slice ia ints.length icap)) (first | assumption | exact gYc) (first | (go_at_call 24; refine (ints_any r _ _ hrY (by rw [HLS.out]; omega)).mono ?_; rintro x w2 hO; rw [HLF.out, HRD.out] at hO; obtain ⟨v2, rfl, hown2, hr2, hg2⟩ := hO; obtain ⟨a2, cap2, rfl, hat2, hbl2⟩ := owns_at hown2; have hr2 : RS w2 r (some rest) := hr2; have hat2 : At w2 a2 (Value.int .i64) ints := hat2; have hat1 : At w2 ia (Value.int .i64) ints := At_low hatY hg2 (fun h0 k hk => l1 h0 k hk); have cY2 : w2.cell? ⟨wr.heap.size, 3, none⟩ = some (.slice ia ints.length icap) := (World.cell?_of_block (w := (wr.alloc (.cells #[.int .i64 3, .int .i64 n, .string (ofL text), .slice ia ints.length icap, .slice ta texts.length tcap] 34)).drew) (a := ⟨wr.heap.size, 3, none⟩) (hg2.block wr.heap.size (by rw [HZY.out]; omega) (by simp; omega))).trans gYc; simp only [vl]) | (go_at_call 23; refine (sameInts_any a2 cap2 ia icap ints w2 (by omega) hat2 hat1).mono ?_; rintro x w3 ⟨rfl, hb3⟩; have hrF := hr2.below hb3; have hgF := grown_trans hg2 (grown_below hb3); have cY3 := cell_keep cY2 hb3))
                    go_wp2
                    go_roundw
                    case rel => exact ⟨k + 1, by omega, by go_num, HRS.out ▸ hrF, B2.trans (below_grown hgF B2.size (by simp; omega)), HRS.out ▸ hrl⟩
                    case measure => simp [intOf]; omega
                  · by_cases k4 : kind = 4
                    · subst k4
                      have HRD : Hid (_ = _) := back_texts n text ints texts rest p3 p4
                      have gYc : (wr.alloc (.cells #[.int .i64 4, .int .i64 n, .string (ofL text), .slice ia ints.length icap, .slice ta texts.length tcap] 34)).drew.cell? ⟨wr.heap.size, 4, none⟩ = some (.slice ta texts.length tcap) := by
                        rw [cell_of_row _ _ _ _ _ _ gY]; rfl
                      have hatY := hT.keep BA
                      clear hI hT
                      go_wp2_with fail
                      go_region_held3 (fun wq => wq.cell? ⟨wr.heap.size, 4, none⟩ = some (.slice ta texts.length tcap)) (first | assumption | exact gYc) (first | (go_at_call 26; refine (texts_any r _ _ hrY (by rw [HLS.out]; omega)).mono ?_; rintro x w2 hO; rw [HLF.out, HRD.out] at hO; obtain ⟨v2, rfl, hown2, hr2, hg2⟩ := hO; obtain ⟨a2, cap2, rfl, hat2, hbl2⟩ := owns_at hown2; have hr2 : RS w2 r (some rest) := hr2; have hat2 : At w2 a2 (fun s => Value.string (ofL s)) texts := hat2; have hat1 : At w2 ta (fun s => Value.string (ofL s)) texts := At_low hatY hg2 (fun h0 k hk => l2 h0 k hk); have cY2 : w2.cell? ⟨wr.heap.size, 4, none⟩ = some (.slice ta texts.length tcap) := (World.cell?_of_block (w := (wr.alloc (.cells #[.int .i64 4, .int .i64 n, .string (ofL text), .slice ia ints.length icap, .slice ta texts.length tcap] 34)).drew) (a := ⟨wr.heap.size, 4, none⟩) (hg2.block wr.heap.size (by rw [HZY.out]; omega) (by simp; omega))).trans gYc; simp only [vl]) | (go_at_call 25; refine (sameTexts_any a2 cap2 ta tcap texts w2 (by omega) hat2 hat1).mono ?_; rintro x w3 ⟨rfl, hb3⟩; have hrF := hr2.below hb3; have hgF := grown_trans hg2 (grown_below hb3); have cY3 := cell_keep cY2 hb3))
                      go_wp2
                      go_roundw
                      case rel => exact ⟨k + 1, by omega, by go_num, HRS.out ▸ hrF, B2.trans (below_grown hgF B2.size (by simp; omega)), HRS.out ▸ hrl⟩
                      case measure => simp [intOf]; omega
                    · have e1 : (kind == 1) = false := by simpa using k1
                      have e2 : (kind == 2) = false := by simpa using k2
                      have e3 : (kind == 3) = false := by simpa using k3
                      have e4 : (kind == 4) = false := by simpa using k4
                      have HRD : Hid (_ = _) := back_int kind n text ints texts rest k1 k2 k3 k4 pn
                      have gYc : (wr.alloc (.cells #[.int .i64 kind, .int .i64 n, .string (ofL text), .slice ia ints.length icap, .slice ta texts.length tcap] 34)).drew.cell? ⟨wr.heap.size, 1, none⟩ = some (.int .i64 n) := by
                        rw [cell_of_row _ _ _ _ _ _ gY]; rfl
                      clear hI hT
                      go_wp2_with fail
                      go_region_held3 (fun wq => wq.cell? ⟨wr.heap.size, 1, none⟩ = some (.int .i64 n)) (first | assumption | exact gYc) ((go_at_call 27; refine (int_rs r _ _ hrY (by rw [HLS.out]; omega)).mono ?_; rintro x w2 ⟨rfl, hr2, hgF⟩; rw [HLF.out, HRD.out] at hr2; rw [HLF.out, HRD.out]; have hrF : RS w2 r (some rest) := hr2; have cY2 : w2.cell? ⟨wr.heap.size, 1, none⟩ = some (.int .i64 n) := (World.cell?_of_block (w := (wr.alloc (.cells #[.int .i64 kind, .int .i64 n, .string (ofL text), .slice ia ints.length icap, .slice ta texts.length tcap] 34)).drew) (a := ⟨wr.heap.size, 1, none⟩) (hgF.block wr.heap.size (by rw [HZY.out]; omega) (by simp; omega))).trans gYc; simp only [vl]))
                      go_wp2
                      go_roundw
                      case rel => exact ⟨k + 1, by omega, by go_num, HRS.out ▸ hrF, B2.trans (below_grown hgF B2.size (by simp; omega)), HRS.out ▸ hrl⟩
                      case measure => simp [intOf]; omega
            · have hRS := restOf_end l k (by omega)
              rw [hRS] at hr5
              go_wp2_with fail
              refine (rleft_any r _ wr hr5).mono ?_
              rintro x w6 ⟨rfl, rfl⟩
              simp only [lft, Option.getD_some, List.length_nil]
              go_wp2_with fail
              refine (rdone_any r _ w6 hr5 (by simp [lft])).mono ?_
              rintro x w7 ⟨rfl, rfl⟩
              simp only [rdone]
              go_wp2_with fail
              refine (awake_any _).mono ?_
              rintro x w8 ⟨rfl, hb8⟩
              go_wp2
              go_ret
              exact ⟨rfl, B5.trans (hb8.mono B5.size)⟩
        · have hbe : bytes = [] := hfit.2.2 he
          subst hbe
          have h0 : (ofL []).toList.isEmpty = true := by rw [ByteArray.toList_eq]; rfl
          have hne : ((e : Int) != 0) = true := by simpa using he
          clear HFO
          go_wp2_with fail
          refine (awake_any _).mono ?_
          rintro x w8 ⟨rfl, hb8⟩
          go_wp2
          go_ret
          exact ⟨rfl, B3.trans (hb8.mono B3.size)⟩

theorem own : ownKnob Try.prog.godebug = none := by kernel_rfl
theorem laidOut : laidOutB Try.prog = true := by kernel_rfl

set_option maxRecDepth 100000 in
theorem back_lifted (os : Os) (started : os.Started) (H : Type) (enc : TypeId × Value → H) :
    ReturnsInHanded {} Try.checked os 5 .any (Rows.codecBackSpec.pre6 enc Try.prog Try.f5 Rows.codecBackRow.domain false) (Rows.codecBackSpec.post enc Try.prog Try.f5 false true false false) := by
  refine returnsInHanded_of_change (C := Try.checked) own started (by kernel_rfl) Try.func5
    (ChangeSpec.witness6 (enc := enc) (C := Try.checked) false ⟨#[], #[.slice none 0 0], []⟩ 8 (by kernel_rfl) (by kernel_rfl) (by kernel_rfl) (by kernel_rfl)) ?_
  intro W base args ds gs before hval0 hW hcnd _
  have hval : ∀ (j : Nat) t v, Try.f5.params[j]? = some t → args[j]? = some v → Value.okWide Try.prog W .any base t v := hval0
  have hW' := hW
  obtain ⟨p, q, hA0, hV, rfl, hfz, hnd⟩ := hW
  have hA : DataW.TrodAll enc Try.prog W 0 (fun _ => true) true Try.f5.params.toList args.toList ds p := hA0
  rw [Try.params5] at hA hval
  obtain ⟨v0, vs0, d0, ds0, p0, q0, hargs, rfl, rfl, h0, r0⟩ := trodAll_cons hA
  obtain ⟨rfl, rfl, rfl⟩ := trodAll_nil r0
  obtain rfl : args = #[v0] := by cases args; simp_all
  obtain ⟨rfl, rfl⟩ := trodVars_none hV
  obtain ⟨a0, len0, cap0, rfl⟩ := okWide_slice Try.underlying22 (hval 0 22 v0 rfl rfl)
  have k0 := h0
  have lt0 : ∀ x ∈ p0, x.block < W.heap.size := by obtain ⟨m, hm⟩ := k0; exact DataW.trod_lt m _ _ _ hm
  obtain ⟨l, hlen, hit, hm⟩ : ∃ l : List It, len0 = l.length ∧ Items W a0 l ∧ l.length ≤ maxLen := by
    obtain ⟨fuel, hf⟩ := h0
    obtain ⟨a', len', cap', l, hcs, hl, hi, hm⟩ := open_items hf
    simp [Value.cells] at hcs
    obtain ⟨rfl, rfl, rfl⟩ := hcs
    exact ⟨l, hl, hi, hm⟩
  clear hA0 hval0
  subst hlen
  refine (back_walk a0 cap0 l W hm hit).mono fun e W' ⟨he, bel⟩ => ?_
  subst he
  exact ⟨_, rfl, _, _, _, [], _, [], hW', trodAll_mk1 (shut_bool Try.underlying4 _), (trodAll_cons_mk (Below.trod laidOut (by kernel_rfl) (of_decide_eq_true (by kernel_rfl)) k0 bel lt0) trodAll_mk0), rfl, bel.frame _, fun h => by cases h⟩

theorem back_holds : Rows.CodecBackSaid :=
  OpenClaim.holds_of_wide 5 Try.f5 rfl rfl rfl rfl rfl rfl rfl ⟨rfl, rfl, rfl, rfl, rfl⟩ rfl rfl rfl rfl rfl (by kernel_rfl) Try.func5 (by kernel_rfl)
    (of_decide_eq_true (by kernel_rfl)) (by unfold Func.isWrapper; first | (rw [if_pos (by decide +kernel)]; kernel_rfl) | (rw [if_neg (by decide +kernel)]; exact ⟨rfl, rfl⟩))
    (fun os started H enc _ => back_lifted os started H enc)
#print axioms back_holds


end Go.Proofs.Ytanpplndoemgoaa
