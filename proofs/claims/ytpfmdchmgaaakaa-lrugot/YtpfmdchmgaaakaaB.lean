/-
  An entry becomes the newest of the row.
-/
import Derived.Test.YtpfmdchmgaaakaaA
namespace Go.Proofs.Ytpfmdchmgaaakaa
open Go.RowKit
set_option linter.unusedVariables false
open M (K)

theorem Sm.refl (w : World) (c : Nat) (L : List (Nat × K)) : Sm w c L w := ⟨rfl, rfl, rfl, rfl, fun _ _ _ => rfl⟩
theorem Sm.set {w w1 : World} {c : Nat} {L : List (Nat × K)} (h : Sm w c L w1) {k : Nat} (j : Nat) (v : Value) (hk : k = c ∨ k ∈ bs L) : Sm w c L (w1.setCell ⟨k, j, none⟩ v) :=
  ⟨h.os, h.tape, h.output, by have := h.size; simpa using this, fun i hc hl => (heap_setCell_other _ ⟨k, j, none⟩ i _ (fun e => by subst e; rcases hk with h | h; exact hc h; exact hl h)).trans (h.block i hc hl)⟩
def LnOut (w : World) (c : Nat) (mo by' : Int) (m : Nat) (L : List (Nat × K)) (e : Ending) (w' : World) : Prop :=
  e = .returned (.tuple #[]) ∧ w'.heap[c]? = some (crow mo by' m (hd L none) (lst none L)) ∧ Lk w' none L none ∧ Sm w c L w'
set_option maxRecDepth 100000 in
set_option maxHeartbeats 1000000 in
theorem link_one (c : Nat) (mo by' : Int) (m : Nat) (x : Nat × K) (vp vn : Value) (w : World) (hc : w.heap[c]? = some (crow mo by' m none none)) (hx : w.heap[x.1]? = some (.cells #[.int .i64 x.2.key, .string x.2.val, .bool x.2.pin, vp, vn] 66 (0, 0))) (n5 : c ≠ x.1) :
    Calls Try.prog 35 #[.pointer (some ⟨c, 0, none⟩), .pointer (some ⟨x.1, 0, none⟩)] w (LnOut w c mo by' m [x]) := by
  obtain ⟨⟨c0, c1, c2, c3, c4⟩, cf⟩ := row5 hc
  obtain ⟨⟨x0, x1, x2, x3, x4⟩, xf⟩ := row5 hx
  obtain ⟨W1, hW1⟩ : ∃ W1, w.setCell ⟨x.1, 3, none⟩ (.pointer none) = W1 := ⟨_, rfl⟩
  have r1 : W1.heap[x.1]? = some (.cells #[.int .i64 x.2.key, .string x.2.val, .bool x.2.pin, .pointer none, vn] 66 (0, 0)) := by rw [← hW1]; exact heap_setCell_same w x.1 3 _ _ _ hx
  have s1 : W1.heap[c]? = some (crow mo by' m none none) := by rw [← hW1]; exact (heap_setCell_other w ⟨x.1, 3, none⟩ c _ n5).trans hc
  have S1 : Sm w c [x] W1 := by rw [← hW1]; exact (Sm.refl w c [x]).set 3 _ (.inr (by simp [bs]))
  obtain ⟨W2, hW2⟩ : ∃ W2, W1.setCell ⟨x.1, 4, none⟩ (.pointer none) = W2 := ⟨_, rfl⟩
  have r2 : W2.heap[x.1]? = some (erow x.2 none none) := by rw [← hW2]; exact heap_setCell_same W1 x.1 4 _ _ _ r1
  have s2 : W2.heap[c]? = some (crow mo by' m none none) := by rw [← hW2]; exact (heap_setCell_other W1 ⟨x.1, 4, none⟩ c _ n5).trans s1
  have S2 : Sm w c [x] W2 := by rw [← hW2]; exact S1.set 4 _ (.inr (by simp [bs]))
  obtain ⟨W3, hW3⟩ : ∃ W3, W2.setCell ⟨c, 3, none⟩ (.pointer (some ⟨x.1, 0, none⟩)) = W3 := ⟨_, rfl⟩
  have r3 : W3.heap[x.1]? = some (erow x.2 none none) := by rw [← hW3]; exact (heap_setCell_other W2 ⟨c, 3, none⟩ x.1 _ (Ne.symm n5)).trans r2
  have s3 : W3.heap[c]? = some (crow mo by' m (some x.1) none) := by rw [← hW3]; exact heap_setCell_same W2 c 3 _ _ _ s2
  have S3 : Sm w c [x] W3 := by rw [← hW3]; exact S2.set 3 _ (.inl rfl)
  have HK : Hid (LnOut w c mo by' m [x] (.returned (.tuple #[])) (W3.setCell ⟨c, 4, none⟩ (.pointer (some ⟨x.1, 0, none⟩)))) :=
    ⟨rfl, heap_setCell_same W3 c 4 _ _ _ s3, ⟨(heap_setCell_other W3 ⟨c, 4, none⟩ x.1 _ (Ne.symm n5)).trans r3, trivial⟩, S3.set 4 _ (.inl rfl)⟩
  obtain ⟨⟨_, _, _, _, y4⟩, yf⟩ := row5 r1
  obtain ⟨⟨_, _, _, p3, p4⟩, pf⟩ := row5 s2
  obtain ⟨⟨_, _, _, _, q4⟩, qf⟩ := row5 s3
  have f3 := xf 3
  have f4 := yf 4
  have g3 := pf 3
  have g4 := qf 4
  simp only [ptr] at c3 c4 p3 p4 q4
  rw [← hW3, ← hW2, ← hW1] at HK q4 g4
  rw [← hW2, ← hW1] at p3 p4 g3
  rw [← hW1] at y4 f4
  clear hW1 hW2 hW3 r1 r2 r3 s1 s2 s3 S1 S2 S3 hc hx cf xf yf pf qf
  generalize x.1 = xb at *
  go_enter Try.func35, Try.ntmps35
  go_wp2
  go_end0
  exact HK.out
set_option maxRecDepth 100000 in
set_option maxHeartbeats 1000000 in
theorem link_more (c : Nat) (mo by' : Int) (m : Nat) (A : List (Nat × K)) (a x : Nat × K) (vp vn : Value) (w : World) (hc : w.heap[c]? = some (crow mo by' m (hd (A ++ [a]) none) (lst none (A ++ [a])))) (hl : Lk w none (A ++ [a]) none) (hx : w.heap[x.1]? = some (.cells #[.int .i64 x.2.key, .string x.2.val, .bool x.2.pin, vp, vn] 66 (0, 0)))
    (nd : (bs (A ++ [a] ++ [x])).Nodup) (nc : c ∉ bs (A ++ [a] ++ [x])) :
    Calls Try.prog 35 #[.pointer (some ⟨c, 0, none⟩), .pointer (some ⟨x.1, 0, none⟩)] w (LnOut w c mo by' m (A ++ [a] ++ [x])) := by
  rw [Lk_app] at hl
  obtain ⟨hA, ha, _⟩ := hl
  rw [lst_snoc, hd_app] at hc
  obtain ⟨nd1, nd2, nd3⟩ := nodup_mid (A := A ++ [a]) (B := []) nd
  rw [List.append_nil] at nd1 nd2
  simp only [bs, List.map_append, List.map_cons, List.map_nil, List.mem_append, List.mem_singleton, not_or, List.nodup_append] at nd1 nd2 nc
  obtain ⟨⟨n1, n2⟩, n3⟩ := nc
  obtain ⟨n4, n5⟩ := nd2
  obtain ⟨n6, _, n7⟩ := nd1
  have n8 : a.1 ∉ bs A := fun h => n7 _ h _ (by simp) rfl
  have mx : x.1 ∈ bs (A ++ [a] ++ [x]) := by simp [bs]
  have ma : a.1 ∈ bs (A ++ [a] ++ [x]) := by simp [bs]
  obtain ⟨⟨c0, c1, c2, c3, c4⟩, cf⟩ := row5 hc
  obtain ⟨⟨x0, x1, x2, x3, x4⟩, xf⟩ := row5 hx
  simp only [hd] at hc ha hA
  obtain ⟨W1, hW1⟩ : ∃ W1, w.setCell ⟨x.1, 3, none⟩ (.pointer (some ⟨a.1, 0, none⟩)) = W1 := ⟨_, rfl⟩
  have r1 : W1.heap[x.1]? = some (.cells #[.int .i64 x.2.key, .string x.2.val, .bool x.2.pin, .pointer (some ⟨a.1, 0, none⟩), vn] 66 (0, 0)) := by rw [← hW1]; exact heap_setCell_same w x.1 3 _ _ _ hx
  have k1 : ∀ b, b ≠ x.1 → W1.heap[b]? = w.heap[b]? := fun b hb => by rw [← hW1]; exact heap_setCell_other w ⟨x.1, 3, none⟩ b _ hb
  have S1 : Sm w c (A ++ [a] ++ [x]) W1 := by rw [← hW1]; exact (Sm.refl w c _).set 3 _ (.inr mx)
  obtain ⟨W2, hW2⟩ : ∃ W2, W1.setCell ⟨x.1, 4, none⟩ (.pointer none) = W2 := ⟨_, rfl⟩
  have r2 : W2.heap[x.1]? = some (erow x.2 (some a.1) none) := by rw [← hW2]; exact heap_setCell_same W1 x.1 4 _ _ _ r1
  have k2 : ∀ b, b ≠ x.1 → W2.heap[b]? = w.heap[b]? := fun b hb => by rw [← hW2]; exact (heap_setCell_other W1 ⟨x.1, 4, none⟩ b _ hb).trans (k1 b hb)
  have S2 : Sm w c (A ++ [a] ++ [x]) W2 := by rw [← hW2]; exact S1.set 4 _ (.inr mx)
  obtain ⟨W3, hW3⟩ : ∃ W3, W2.setCell ⟨a.1, 4, none⟩ (.pointer (some ⟨x.1, 0, none⟩)) = W3 := ⟨_, rfl⟩
  have a2 := (k2 a.1 (Ne.symm n5)).trans ha
  have a3 : W3.heap[a.1]? = some (erow a.2 (lst none A) (some x.1)) := by rw [← hW3]; exact heap_setCell_same W2 a.1 4 _ _ _ a2
  have k3 : ∀ b, b ≠ a.1 → W3.heap[b]? = W2.heap[b]? := fun b hb => by rw [← hW3]; exact heap_setCell_other W2 ⟨a.1, 4, none⟩ b _ hb
  have S3 : Sm w c (A ++ [a] ++ [x]) W3 := by rw [← hW3]; exact S2.set 4 _ (.inr ma)
  have s2 := (k2 c n3).trans hc
  have s3 := (k3 c n2).trans s2
  have HK : Hid (LnOut w c mo by' m (A ++ [a] ++ [x]) (.returned (.tuple #[])) (W3.setCell ⟨c, 4, none⟩ (.pointer (some ⟨x.1, 0, none⟩)))) := by
    refine ⟨rfl, ?_, ?_, S3.set 4 _ (.inl rfl)⟩
    · rw [lst_snoc, hd_app, hd_app]
      exact heap_setCell_same W3 c 4 _ _ _ s3
    · have k4 : ∀ b, b ≠ c → (W3.setCell ⟨c, 4, none⟩ (.pointer (some ⟨x.1, 0, none⟩))).heap[b]? = W3.heap[b]? := fun b hb => heap_setCell_other W3 ⟨c, 4, none⟩ b _ hb
      rw [Lk_app, Lk_app, lst_snoc]
      refine ⟨⟨Lk.keep hA fun k hk => ?_, (k4 _ (Ne.symm n2)).trans a3, trivial⟩, (k4 _ (Ne.symm n3)).trans ((k3 _ n5).trans r2), trivial⟩
      rw [k4 k (ne_mem hk n1), k3 k (ne_mem hk n8), k2 k (ne_mem hk n4)]
  obtain ⟨⟨_, _, _, _, y4⟩, yf⟩ := row5 r1
  obtain ⟨⟨_, _, _, p3, p4⟩, pf⟩ := row5 s2
  obtain ⟨⟨_, _, _, _, b4⟩, bf⟩ := row5 a2
  obtain ⟨⟨_, _, _, _, q4⟩, qf⟩ := row5 s3
  have f3 := xf 3
  have f4 := yf 4
  have g3 := bf 4
  have g4 := qf 4
  simp only [ptr] at c4 p4 q4 b4
  rw [← hW3, ← hW2, ← hW1] at HK q4 g4
  rw [← hW2, ← hW1] at p3 p4 g3 b4
  rw [← hW1] at y4 f4
  clear hW1 hW2 hW3 r1 r2 a2 a3 k1 k2 k3 s2 s3 S1 S2 S3 hc hx cf xf yf pf qf bf p3 n1 n2 n3 n4 n5 n6 n7 n8 mx ma nd nd3 hA ha c3
  generalize x.1 = xb at *
  generalize a.1 = ab at *
  go_enter Try.func35, Try.ntmps35
  go_wp2
  go_end0
  exact HK.out
theorem link_any (c : Nat) (mo by' : Int) (m : Nat) (L : List (Nat × K)) (x : Nat × K) (vp vn : Value) (w : World) (hc : w.heap[c]? = some (crow mo by' m (hd L none) (lst none L))) (hl : Lk w none L none) (hx : w.heap[x.1]? = some (.cells #[.int .i64 x.2.key, .string x.2.val, .bool x.2.pin, vp, vn] 66 (0, 0)))
    (nd : (bs (L ++ [x])).Nodup) (nc : c ∉ bs (L ++ [x])) :
    Calls Try.prog 35 #[.pointer (some ⟨c, 0, none⟩), .pointer (some ⟨x.1, 0, none⟩)] w (LnOut w c mo by' m (L ++ [x])) := by
  rcases List.eq_nil_or_concat L with rfl | ⟨A, a, rfl⟩
  · exact link_one c mo by' m x vp vn w hc hx (by simpa [bs] using nc)
  · rw [List.concat_eq_append] at *
    exact link_more c mo by' m A a x vp vn w hc hl hx nd nc
end Go.Proofs.Ytpfmdchmgaaakaa
