/-
  Rows of ints that are read; a cache among the memory that is new.
-/
import Derived.Test.YtpfmdchmgaaakaaJ
import Derived.Test.YtpfmdchmgaaakaaG
namespace Go.Proofs.Ytpfmdchmgaaakaa
open Go.RowKit Go.Maps
set_option linter.unusedVariables false
open M (K)

/-- The blocks that a slice lies in. -/
def blk (a : Option Addr) (k : Nat) : Prop := ∃ off s, a = some ⟨k, off, s⟩
/-- A slice of ints in memory. -/
def AtI (w : World) (a : Option Addr) (l : List Int) : Prop := ∀ j (h : j < l.length), ∃ b off, a = some ⟨b, off, none⟩ ∧ w.cell? ⟨b, off + j, none⟩ = some (.int .i64 l[j])
theorem AtI.keepBut {w w' : World} {a : Option Addr} {l : List Int} (h : AtI w a l) (hb : ∀ k, k < w.heap.size → blk a k → w'.heap[k]? = w.heap[k]?) : AtI w' a l := by
  intro j hj
  obtain ⟨b, off, rfl, h0⟩ := h j hj
  have hk := hb b (World.block_lt_of_cell? w _ h0) ⟨off, none, rfl⟩
  exact ⟨b, off, rfl, (World.cell?_of_block (w := w) (a := ⟨b, off + j, none⟩) hk).trans h0⟩
theorem AtI.keep {w w' : World} {a : Option Addr} {l : List Int} (h : AtI w a l) (hb : Below w.heap.size w w') : AtI w' a l := h.keepBut fun k hk _ => hb.block k hk
theorem OwnI.at {w : World} {base : Nat} {v : Value} {l : List Int} (h : OwnI w base v l) : ∃ a cap, v = .slice a l.length cap ∧ AtI w a l ∧ (∀ k, blk a k → base ≤ k ∧ v.ownBlock = some k ∧ k < w.heap.size) ∧ l.length ≤ cap := by
  rcases h.2 with ⟨rfl, h0⟩ | ⟨g, cap, cur, rfl, hb', hh, hc, hm, hs, ht⟩
  · have e : l = [] := List.length_eq_zero_iff.1 h0
    subst e
    exact ⟨none, 0, rfl, (fun j h => by simp at h), (fun k hk => by obtain ⟨_, _, h⟩ := hk; cases h), by simp⟩
  · refine ⟨some ⟨g, 0, none⟩, cap, rfl, fun j hj => ⟨g, 0, rfl, ?_⟩, (fun k hk => by obtain ⟨_, _, h⟩ := hk; simp at h; obtain ⟨rfl, _⟩ := h; exact ⟨hb', rfl, (Array.getElem?_eq_some_iff.1 hh).1⟩), hc⟩
    have := World.ownsRow.cells h (g := g) rfl j (.int .i64 l[j]) (by simp [hj])
    rwa [show ((⟨g, 0, none⟩ : Addr).add j) = ⟨g, 0 + j, none⟩ by unfold Addr.add; split <;> simp_all] at this
set_option maxRecDepth 100000 in
set_option maxHeartbeats 1000000 in
theorem ints_any (a : Option Addr) (ca : Nat) (b : Option Addr) (cb : Nat) (l : List Int) (w : World) (hl : l.length ≤ 1000000) (ha : AtI w a l) (hb : AtI w b l) :
    Calls Try.prog 12 #[.slice a l.length ca, .slice b l.length cb] w fun e w' => e = .returned (.bool true) ∧ Below w.heap.size w w' := by
  go_enter Try.func12, Try.ntmps12
  go_wp2
  go_loopw [5] (fun i wr => ∃ k : Nat, k ≤ l.length ∧ i = .int .i64 k ∧ Below w.heap.size w wr) (fun i _ => l.length - (intOf i).toNat)
  case atStart => exact ⟨0, by omega, rfl, Below.refl _ _⟩
  case round =>
    obtain ⟨k, hk, rfl, hbel⟩ := hrel
    by_cases hlt : k < l.length
    · obtain ⟨b1, o1, rfl, c1⟩ := (ha.keep hbel) k hlt
      obtain ⟨b2, o2, rfl, c2⟩ := (hb.keep hbel) k hlt
      generalize l[k] = x at *
      have HB : Hid (∀ n, Below w.heap.size w (wr.drewN n)) := fun n => below_drewN hbel n
      clear ha hb hbel
      go_wp2_with fail
      go_quiet (fail)
      go_wp2
      go_roundw
      case rel => exact ⟨k + 1, by omega, by go_num, HB.out _⟩
      case measure => simp [intOf]; omega
    · have hkn : k = l.length := by omega
      subst hkn
      go_wp2
      go_ret
      exact ⟨rfl, hbel⟩
/-- A cache in memory that is new since w0. -/
structure CS (w0 w : World) (c m n : Nat) (most : Int) (L : List (Nat × K)) : Prop where
  ci : CI w c m n most L
  bel : Below w0.heap.size w0 w
  c : w0.heap.size ≤ c
  m : w0.heap.size ≤ m
  l : ∀ b ∈ bs L, w0.heap.size ≤ b
theorem CS.step {w0 w w' : World} {c m n n' : Nat} {most : Int} {L L' : List (Nat × K)} (h : CS w0 w c m n most L) (hi : CI w' c m n' most L') (hf : Fr w c m L w' L') : CS w0 w' c m n' most L' :=
  ⟨hi, h.bel.trans (hf.below h.c h.m h.l h.bel.size), h.c, h.m, fun b hb => by rcases hf.new b hb with h' | h'; exact h.l b h'; exact Nat.le_trans h.bel.size h'⟩
theorem CS.keep {w0 w w' : World} {c m n : Nat} {most : Int} {L : List (Nat × K)} (h : CS w0 w c m n most L) (hb : Below w.heap.size w w') : CS w0 w' c m n most L :=
  ⟨h.ci.keep hb, bel_up h.bel hb (Nat.le_refl _), h.c, h.m, h.l⟩
def s1 : ByteArray := ⟨#[97]⟩
def s2 : ByteArray := ⟨#[98]⟩
def s3 : ByteArray := ⟨#[99]⟩
theorem aw1 : M.put 2 [] 1 s1 = ([⟨1, s1, false⟩], []) := by rfl
theorem aw2 : M.put 2 [⟨1, s1, false⟩] 2 s2 = ([⟨1, s1, false⟩, ⟨2, s2, false⟩], []) := by rfl
theorem aw3 : M.got [⟨1, s1, false⟩, ⟨2, s2, false⟩] 1 = [⟨2, s2, false⟩, ⟨1, s1, false⟩] ∧ M.val [⟨1, s1, false⟩, ⟨2, s2, false⟩] 1 = s1 ∧ M.has [⟨1, s1, false⟩, ⟨2, s2, false⟩] 1 = true := ⟨rfl, rfl, rfl⟩
theorem aw4 : M.put 2 [⟨2, s2, false⟩, ⟨1, s1, false⟩] 3 s3 = ([⟨1, s1, false⟩, ⟨3, s3, false⟩], [2]) := by rfl
theorem aw5 : M.got [⟨1, s1, false⟩, ⟨3, s3, false⟩] 2 = [⟨1, s1, false⟩, ⟨3, s3, false⟩] ∧ M.val [⟨1, s1, false⟩, ⟨3, s3, false⟩] 2 = ByteArray.empty ∧ M.has [⟨1, s1, false⟩, ⟨3, s3, false⟩] 2 = false := ⟨rfl, rfl, rfl⟩
theorem aw6 : M.pnd [⟨1, s1, false⟩, ⟨3, s3, false⟩] 1 true = [⟨1, s1, true⟩, ⟨3, s3, false⟩] ∧ M.has [⟨1, s1, false⟩, ⟨3, s3, false⟩] 1 = true := ⟨rfl, rfl⟩
theorem aw7 : M.pnd [⟨1, s1, true⟩, ⟨3, s3, false⟩] 2 true = [⟨1, s1, true⟩, ⟨3, s3, false⟩] ∧ M.has [⟨1, s1, true⟩, ⟨3, s3, false⟩] 2 = false := ⟨rfl, rfl⟩
theorem aw8 : M.drp [⟨1, s1, true⟩, ⟨3, s3, false⟩] 3 = [⟨1, s1, true⟩] ∧ M.has [⟨1, s1, true⟩, ⟨3, s3, false⟩] 3 = true := ⟨rfl, rfl⟩
theorem aw9 : M.bytes [⟨1, s1, false⟩, ⟨3, s3, false⟩] = 2 := rfl
end Go.Proofs.Ytpfmdchmgaaakaa
