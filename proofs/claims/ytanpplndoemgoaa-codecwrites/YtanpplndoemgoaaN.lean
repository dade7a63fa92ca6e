/-
  An item laid by the program's writer, whatever its kind; and by the writer that is none.
-/
import Derived.Test.YtanpplndoemgoaaL
namespace Go.Proofs.Ytanpplndoemgoaa
open Go.RowKit
set_option linter.unusedVariables false

/-- An item's rows lie below a block. -/
def Low (it : It) (b : Nat) : Prop := (0 < it.x.ints.length → ∀ k, blk it.ia k → k < b) ∧ (0 < it.x.texts.length → ∀ k, blk it.ta k → k < b)
theorem at_lt {α : Type} {w : World} {a : Option Addr} {f : α → Value} {l : List α} (h : At w a f l) (h0 : 0 < l.length) (k : Nat) (hk : blk a k) : k < w.heap.size := by
  obtain ⟨off, s, e⟩ := hk
  obtain ⟨b', off', e', hc⟩ := h 0 h0
  rw [e] at e'
  simp only [Option.some.injEq, Addr.mk.injEq] at e'
  obtain ⟨rfl, _, _⟩ := e'
  exact World.block_lt_of_cell? w _ hc
theorem ItOk.low {w : World} {it : It} (h : ItOk w it) {b : Nat} (hb : w.heap.size ≤ b) : Low it b :=
  ⟨fun h0 k hk => Nat.lt_of_lt_of_le (at_lt h.ints h0 k hk) hb, fun h0 k hk => Nat.lt_of_lt_of_le (at_lt h.texts h0 k hk) hb⟩
def itv (it : It) : Value := .agg #[it.v0, it.v1, it.v2, it.v3, it.v4]
theorem okI_parts {x : M.Item} (h : okI x = true) : x.text.length ≤ 70000 ∧ x.ints.length ≤ 300 ∧ x.texts.length ≤ 60 ∧ ∀ s ∈ x.texts, s.length ≤ 5000 := by
  simp [okI, okT] at h
  exact ⟨h.1.1.1, h.1.1.2, h.1.2, h.2⟩

set_option maxRecDepth 100000 in
set_option maxHeartbeats 2000000 in
theorem layItem_any (b : Nat) (a : Option Addr) (cap m : Nat) (st : Nat × List UInt8) (it : It) (w : World) (hw : WS w b a cap m st) (ok : ItOk w it) (hok : okI it.x = true) (hlow : Low it b) :
    Calls Try.prog 12 #[.pointer (some ⟨b, 0, none⟩), itv it] w fun x w' => x = .returned (.tuple #[]) ∧ WQ w b a m (M.layItem m st it.x) w' := by
  obtain ⟨⟨kind, n, text, ints, texts⟩, ia, icap, ta, tcap⟩ := it
  obtain ⟨q1, q2, q3, q4⟩ := okI_parts hok
  obtain ⟨l1, l2⟩ := hlow
  have hlt := hw.lt
  have hinb := hw.inb
  have hn := ok.n
  have hI := ok.ints
  have hIB := ok.intsB
  have hT := ok.texts
  have BA : Below w.heap.size w (w.alloc (.cells #[.int .i64 kind, .int .i64 n, .string (ofL text), .slice ia ints.length icap, .slice ta texts.length tcap] 34)) := (Below.refl _ _).alloc (Nat.le_refl _) _
  simp only at q1 q2 q3 q4 l1 l2 hn hI hIB hT
  simp only [itv, It.v0, It.v1, It.v2, It.v3, It.v4]
  have hwA := hw.keep BA
  have hIA := hI.keep BA
  have hTA := hT.keep BA
  clear ok hok hw hI hT
  by_cases k1 : kind = 1
  · subst k1
    have HL : Hid (M.layItem m st ⟨1, n, text, ints, texts⟩ = M.byteW m st n) := rfl
    go_enter Try.func12, Try.ntmps12
    go_wp2_with fail
    refine (wbyte_any b a cap m st n _ hwA).mono ?_
    rintro x w1 ⟨rfl, hq⟩
    go_wp2
    go_end0
    rw [HL.out]
    exact ⟨rfl, hq.pre BA⟩
  · by_cases k2 : kind = 2
    · subst k2
      have HL : Hid (M.layItem m st ⟨2, n, text, ints, texts⟩ = M.lay m st (M.encT text)) := rfl
      go_enter Try.func12, Try.ntmps12
      go_wp2_with fail
      refine (wtext_any b a cap m st text _ hwA (by omega)).mono ?_
      rintro x w1 ⟨rfl, hq⟩
      go_wp2
      go_end0
      rw [HL.out]
      exact ⟨rfl, hq.pre BA⟩
    · by_cases k3 : kind = 3
      · subst k3
        have HL : Hid (M.layItem m st ⟨3, n, text, ints, texts⟩ = M.lay m st (M.encIs ints)) := rfl
        go_enter Try.func12, Try.ntmps12
        go_wp2_with fail
        refine (wints_any b a cap m st ia icap ints _ hwA hIA (fun h0 k hk => ⟨by have := l1 h0 k hk; omega, fun h => by have := l1 h0 k hk; have := (hinb k h).1; omega⟩) (by omega) hIB).mono ?_
        rintro x w1 ⟨rfl, hq⟩
        go_wp2
        go_end0
        rw [HL.out]
        exact ⟨rfl, hq.pre BA⟩
      · by_cases k4 : kind = 4
        · subst k4
          have HL : Hid (M.layItem m st ⟨4, n, text, ints, texts⟩ = M.lay m st (M.encTs texts)) := rfl
          go_enter Try.func12, Try.ntmps12
          go_wp2_with fail
          refine (wtexts_any b a cap m st ta tcap texts _ hwA hTA (fun h0 k hk => ⟨by have := l2 h0 k hk; omega, fun h => by have := l2 h0 k hk; have := (hinb k h).1; omega⟩) (by omega) (fun s hs => by have := q4 s hs; omega)).mono ?_
          rintro x w1 ⟨rfl, hq⟩
          go_wp2
          go_end0
          rw [HL.out]
          exact ⟨rfl, hq.pre BA⟩
        · have HL : Hid (M.layItem m st ⟨kind, n, text, ints, texts⟩ = M.lay m st (M.enc n)) := by
            show _ = _
            simp [M.layItem, k1, k2, k3, k4]
          have e1 : (kind == 1) = false := by simpa using k1
          have e2 : (kind == 2) = false := by simpa using k2
          have e3 : (kind == 3) = false := by simpa using k3
          have e4 : (kind == 4) = false := by simpa using k4
          go_enter Try.func12, Try.ntmps12
          go_wp2_with fail
          refine (wint_any b a cap m st n _ hwA hn).mono ?_
          rintro x w1 ⟨rfl, hq⟩
          go_wp2
          go_end0
          rw [HL.out]
          exact ⟨rfl, hq.pre BA⟩

set_option maxRecDepth 100000 in
set_option maxHeartbeats 2000000 in
theorem layItem_nil (it : It) (w : World) (ok : ItOk w it) (hok : okI it.x = true) :
    Calls Try.prog 12 #[.pointer none, itv it] w fun x w' => x = .returned (.tuple #[]) ∧ Below w.heap.size w w' := by
  obtain ⟨⟨kind, n, text, ints, texts⟩, ia, icap, ta, tcap⟩ := it
  obtain ⟨q1, q2, q3, q4⟩ := okI_parts hok
  have hn := ok.n
  have hI := ok.ints
  have hT := ok.texts
  have BA : Below w.heap.size w (w.alloc (.cells #[.int .i64 kind, .int .i64 n, .string (ofL text), .slice ia ints.length icap, .slice ta texts.length tcap] 34)) := (Below.refl _ _).alloc (Nat.le_refl _) _
  simp only at q1 q2 q3 q4 hn hI hT
  simp only [itv, It.v0, It.v1, It.v2, It.v3, It.v4]
  have hIA := hI.keep BA
  have hTA := hT.keep BA
  clear ok hok hI hT
  by_cases k1 : kind = 1
  · subst k1
    go_enter Try.func12, Try.ntmps12
    go_wp2_with fail
    refine (wbyte_nil n _).mono ?_
    rintro x w1 ⟨rfl, hq⟩
    go_wp2
    go_end0
    exact ⟨rfl, BA.trans (hq.mono BA.size)⟩
  · by_cases k2 : kind = 2
    · subst k2
      go_enter Try.func12, Try.ntmps12
      go_wp2_with fail
      refine (wtext_nil text _ (by omega)).mono ?_
      rintro x w1 ⟨rfl, hq⟩
      go_wp2
      go_end0
      exact ⟨rfl, BA.trans (hq.mono BA.size)⟩
    · by_cases k3 : kind = 3
      · subst k3
        go_enter Try.func12, Try.ntmps12
        go_wp2_with fail
        refine (wints_nil ia icap ints _ hIA (by omega)).mono ?_
        rintro x w1 ⟨rfl, hq⟩
        go_wp2
        go_end0
        exact ⟨rfl, BA.trans (hq.mono BA.size)⟩
      · by_cases k4 : kind = 4
        · subst k4
          go_enter Try.func12, Try.ntmps12
          go_wp2_with fail
          refine (wtexts_nil ta tcap texts _ hTA (by omega)).mono ?_
          rintro x w1 ⟨rfl, hq⟩
          go_wp2
          go_end0
          exact ⟨rfl, BA.trans (hq.mono BA.size)⟩
        · have e1 : (kind == 1) = false := by simpa using k1
          have e2 : (kind == 2) = false := by simpa using k2
          have e3 : (kind == 3) = false := by simpa using k3
          have e4 : (kind == 4) = false := by simpa using k4
          go_enter Try.func12, Try.ntmps12
          go_wp2_with fail
          refine (wint_nil n _ hn).mono ?_
          rintro x w1 ⟨rfl, hq⟩
          go_wp2
          go_end0
          exact ⟨rfl, BA.trans (hq.mono BA.size)⟩

end Go.Proofs.Ytanpplndoemgoaa
