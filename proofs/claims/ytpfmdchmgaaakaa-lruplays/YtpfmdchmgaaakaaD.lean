/-
  A cache in memory; an entry taken out of it.
-/
import Derived.Test.YtpfmdchmgaaakaaB
import Derived.Test.YtpfmdchmgaaakaaC
namespace Go.Proofs.Ytpfmdchmgaaakaa
open Go.RowKit Go.Maps
set_option linter.unusedVariables false
open M (K)

/-- What is kept, without where it stands. -/
abbrev ks (L : List (Nat × K)) : List K := L.map (·.2)
/-- Where a key's entry stands. -/
def fk : List (Nat × K) → Int → Option Nat
  | [], _ => none
  | x :: r, k => if x.2.key = k then some x.1 else fk r k
theorem fk_no : ∀ (L : List (Nat × K)) (k : Int), (∀ e ∈ ks L, e.key ≠ k) → fk L k = none
  | [], k, _ => rfl
  | x :: r, k, h => by rw [fk, if_neg (h x.2 (by simp)), fk_no r k (fun e he => h e (by simp at he ⊢; exact .inr he))]
theorem fk_app : ∀ (A B : List (Nat × K)) (k : Int), fk (A ++ B) k = (fk A k).or (fk B k)
  | [], B, k => by simp [fk]
  | x :: A, B, k => by
    rw [List.cons_append, fk, fk]
    by_cases h : x.2.key = k
    · rw [if_pos h, if_pos h]; rfl
    · rw [if_neg h, if_neg h, fk_app A B k]
theorem fk_at (A B : List (Nat × K)) (x : Nat × K) (hA : ∀ e ∈ ks A, e.key ≠ x.2.key) : fk (A ++ x :: B) x.2.key = some x.1 := by
  rw [fk_app, fk_no A _ hA, fk, if_pos rfl]; rfl
theorem fk_mid (A B : List (Nat × K)) (x : Nat × K) (hA : ∀ e ∈ ks A, e.key ≠ x.2.key) (hB : ∀ e ∈ ks B, e.key ≠ x.2.key) : upd (fk (A ++ x :: B)) x.2.key none = fk (A ++ B) := by
  funext k
  unfold upd
  by_cases hk : k = x.2.key
  · subst hk
    rw [if_pos rfl, fk_app, fk_no A _ hA, fk_no B _ hB]; rfl
  · rw [if_neg hk, fk_app, fk_app, fk, if_neg (Ne.symm hk)]
theorem fk_snoc (L : List (Nat × K)) (x : Nat × K) (h : ∀ e ∈ ks L, e.key ≠ x.2.key) : upd (fk L) x.2.key (some x.1) = fk (L ++ [x]) := by
  funext k
  unfold upd
  by_cases hk : k = x.2.key
  · subst hk
    rw [if_pos rfl, fk_app, fk_no L _ h, fk, if_pos rfl]; rfl
  · rw [if_neg hk, fk_app, fk, if_neg (Ne.symm hk), fk]
    cases fk L k <;> rfl
theorem fk_move (A B : List (Nat × K)) (x : Nat × K) (hA : ∀ e ∈ ks A, e.key ≠ x.2.key) (hB : ∀ e ∈ ks B, e.key ≠ x.2.key) : fk (A ++ x :: B) = fk (A ++ B ++ [x]) := by
  rw [← fk_snoc (A ++ B) x (fun e he => by simp only [ks, List.map_append, List.mem_append] at he; rcases he with h | h; exact hA e h; exact hB e h), ← fk_mid A B x hA hB]
  funext k
  unfold upd
  by_cases hk : k = x.2.key
  · subst hk
    rw [if_pos rfl, fk_at A B x hA]
  · rw [if_neg hk, if_neg hk]
/-- A cache at block c. -/
structure CI (w : World) (c m n : Nat) (most : Int) (L : List (Nat × K)) : Prop where
  row : w.heap[c]? = some (crow most (M.bytes (ks L)) m (hd L none) (lst none L))
  lk : Lk w none L none
  mi : MI w m n (fk L)
  nd : (bs L).Nodup
  nc : c ∉ bs L
  g : M.G most (ks L)
  lo : 0 ≤ most
  hi : most ≤ 65536
  wf : ∀ e ∈ ks L, (Lit.int .i64 e.key).wf = true
/-- What has become of a cache: nothing else has changed; its entries are those that were there, or new ones. -/
structure Fr (w : World) (c m : Nat) (L : List (Nat × K)) (w' : World) (L' : List (Nat × K)) : Prop where
  os : w'.os = w.os
  tape : w'.tape = w.tape
  output : w'.output = w.output
  size : w.heap.size ≤ w'.heap.size
  block : ∀ k, k < w.heap.size → k ≠ c → k ≠ m → k ∉ bs L → w'.heap[k]? = w.heap[k]?
  new : ∀ b ∈ bs L', b ∈ bs L ∨ w.heap.size ≤ b
theorem Fr.refl (w : World) (c m : Nat) (L : List (Nat × K)) : Fr w c m L w L := ⟨rfl, rfl, rfl, Nat.le_refl _, fun _ _ _ _ _ => rfl, fun b h => .inl h⟩
theorem Fr.trans {w w1 w2 : World} {c m : Nat} {L L1 L2 : List (Nat × K)} (h : Fr w c m L w1 L1) (k : Fr w1 c m L1 w2 L2) : Fr w c m L w2 L2 := by
  refine ⟨k.os.trans h.os, k.tape.trans h.tape, k.output.trans h.output, Nat.le_trans h.size k.size, fun b hb h1 h2 h3 => ?_, fun b hb => ?_⟩
  · rw [k.block b (Nat.lt_of_lt_of_le hb h.size) h1 h2 (fun e => by
      rcases h.new b e with h' | h'
      · exact h3 h'
      · omega)]
    exact h.block b hb h1 h2 h3
  · rcases k.new b hb with h' | h'
    · exact h.new b h'
    · exact .inr (Nat.le_trans h.size h')
theorem Fr.ofBelow {w w1 : World} {c m : Nat} {L : List (Nat × K)} (h : Below w.heap.size w w1) : Fr w c m L w1 L := ⟨h.os, h.tape, h.output, h.size, fun k hk _ _ _ => h.block k hk, fun k h => .inl h⟩
theorem Fr.below {B : Nat} {w w1 : World} {c m : Nat} {L L1 : List (Nat × K)} (h : Fr w c m L w1 L1) (hc : B ≤ c) (hm : B ≤ m) (hL : ∀ b ∈ bs L, B ≤ b) (hB : B ≤ w.heap.size) : Below B w w1 :=
  ⟨h.os, h.tape, h.output, h.size, fun k hk => h.block k (by omega) (by omega) (by omega) (fun e => by have := hL k e; omega)⟩
theorem CI.keep {w w' : World} {c m n : Nat} {most : Int} {L : List (Nat × K)} (h : CI w c m n most L) (hb : Below w.heap.size w w') : CI w' c m n most L :=
  ⟨(hb.block c (Array.getElem?_eq_some_iff.1 h.row).1).trans h.row, h.lk.keep fun b hb' => hb.block b (h.lk.lt b hb'), h.mi.keep (hb.block m h.mi.lt), h.nd, h.nc, h.g, h.lo, h.hi, h.wf⟩
theorem CI.lt {w : World} {c m n : Nat} {most : Int} {L : List (Nat × K)} (h : CI w c m n most L) : c < w.heap.size := (Array.getElem?_eq_some_iff.1 h.row).1
theorem CI.b0 {w : World} {c m n : Nat} {most : Int} {L : List (Nat × K)} (h : CI w c m n most L) : (M.bytes (ks L) : Int) ≤ 65536 := Int.le_trans h.g.le h.hi
theorem Lk.at {w : World} {p q : Option Nat} {A B : List (Nat × K)} {x : Nat × K} (h : Lk w p (A ++ x :: B) q) : w.heap[x.1]? = some (erow x.2 (lst p A) (hd B q)) := by
  rw [Lk_app] at h
  exact h.2.1
theorem Lk.mnot {w : World} {m n : Nat} {f : Int → Option Nat} (hm : MI w m n f) : ∀ {p q : Option Nat} {L : List (Nat × K)}, Lk w p L q → ∀ b ∈ bs L, b ≠ m
  | p, q, [], _, b, hb => by simp [bs] at hb
  | p, q, x :: r, h, b, hb => by
    rcases List.mem_cons.1 hb with rfl | hb
    · exact hm.ne h.1
    · exact Lk.mnot hm h.2 b hb
def RmOut (w : World) (c m n : Nat) (most : Int) (A B : List (Nat × K)) (x : Nat × K) (e : Ending) (w' : World) : Prop :=
  e = .returned (.tuple #[]) ∧ CI w' c m n most (A ++ B) ∧ w'.heap[x.1]? = w.heap[x.1]? ∧ w'.heap.size = w.heap.size ∧ Fr w c m (A ++ x :: B) w' (A ++ B)
set_option maxRecDepth 100000 in
set_option maxHeartbeats 1000000 in
theorem remove_any (c m n : Nat) (most : Int) (A B : List (Nat × K)) (x : Nat × K) (w : World) (h : CI w c m n most (A ++ x :: B)) :
    Calls Try.prog 36 #[.pointer (some ⟨c, 0, none⟩), .pointer (some ⟨x.1, 0, none⟩)] w (RmOut w c m n most A B x) := by
  have hkx : (Lit.int .i64 x.2.key).wf = true := h.wf x.2 (by simp [ks])
  have hg0 := h.g
  have hks : ks (A ++ x :: B) = ks A ++ x.2 :: ks B := by simp [ks]
  rw [hks] at hg0
  obtain ⟨hA, hB⟩ := hg0.ne
  have hb0 := h.b0
  have hby : (M.bytes (ks (A ++ x :: B)) : Int) = M.bytes (ks (A ++ B)) + x.2.val.size := by
    rw [hks, M.bytes_mid, show ks (A ++ B) = ks A ++ ks B by simp [ks]]
    omega
  obtain ⟨nd1, nd2, nd3⟩ := nodup_mid h.nd
  have nc := h.nc
  have ncx : c ≠ x.1 := fun e => nc (by rw [e]; simp [bs])
  have ncab : c ∉ bs (A ++ B) := fun e => nc (by simp [bs] at e ⊢; rcases e with h | h; exact .inl h; exact .inr (.inr h))
  have hcm : c ≠ m := h.mi.ne h.row
  have hxm : x.1 ≠ m := h.mi.ne h.lk.at
  obtain ⟨w1, hdel, MI1, MT1⟩ := MI.del (w := w.drew) h.mi x.2.key hkx 0
  rw [fk_mid A B x hA hB] at MI1
  have row1 : w1.heap[c]? = _ := (MT1.block c hcm).trans h.row
  have rowx : w1.heap[x.1]? = _ := (MT1.block x.1 hxm).trans h.lk.at
  have lk1 : Lk w1 none (A ++ x :: B) none := h.lk.keep fun b hb => MT1.block b (Lk.mnot h.mi h.lk b hb)
  obtain ⟨⟨c0, c1, c2, c3, c4⟩, cf⟩ := row5 h.row
  obtain ⟨⟨x0, x1, x2, x3, x4⟩, xf⟩ := row5 h.lk.at
  obtain ⟨⟨d0, d1, d2, d3, d4⟩, df⟩ := row5 row1
  obtain ⟨⟨y0, y1, y2, y3, y4⟩, yf⟩ := row5 rowx
  have f1 := df 1
  rw [hby] at d1 hb0
  have hw : IntKind.i64.wrap ((M.bytes (ks (A ++ B)) : Int) + x.2.val.size - x.2.val.size) = M.bytes (ks (A ++ B)) := by rw [IntKind.wrap_i64]; omega
  have HU : Hid (∀ W : World, W.heap = (w1.setCell ⟨c, 1, none⟩ (.int .i64 (M.bytes (ks (A ++ B))))).heap → W.os = w1.os → W.tape = w1.tape → W.output = w1.output → Calls Try.prog 34 #[.pointer (some ⟨c, 0, none⟩), .pointer (some ⟨x.1, 0, none⟩)] W fun e w' => e = .returned (.tuple #[]) ∧ RmOut w c m n most A B x (.returned (.tuple #[])) w') := by
    intro W hW ho ht hou
    have hWc : W.heap[c]? = some (crow most (M.bytes (ks (A ++ B))) m (hd (A ++ x :: B) none) (lst none (A ++ x :: B))) := by rw [hW]; exact heap_setCell_same w1 c 1 _ _ _ row1
    have hWo : ∀ k, k ≠ c → W.heap[k]? = w1.heap[k]? := fun k hk => by rw [hW]; exact heap_setCell_other w1 ⟨c, 1, none⟩ k _ hk
    have hWs : W.heap.size = w1.heap.size := by rw [hW]; simp
    have hWl : Lk W none (A ++ x :: B) none := lk1.keep fun b hb => hWo b (ne_mem hb nc)
    refine (unlink_any c most _ m A B x W hWc hWl h.nd nc).mono ?_
    rintro e w3 ⟨rfl, u1, u2, u3, u4⟩
    have hsz : w3.heap.size = w.heap.size := by rw [u4.size, hWs, MT1.size]; rfl
    have hmab : m ∉ bs (A ++ B) := fun e => Lk.mnot h.mi h.lk m (by simp [bs] at e ⊢; rcases e with h | h; exact .inl h; exact .inr (.inr h)) rfl
    refine ⟨rfl, rfl, ⟨u1, u2, MI1.keep ((u4.block m (Ne.symm hcm) hmab).trans (hWo m (Ne.symm hcm))), nd1, ncab, ?_, h.lo, h.hi, fun e he => h.wf e ?_⟩, ?_, hsz, ⟨?_, ?_, ?_, by omega, fun k hk h1 h2 h3 => ?_, fun b hb => .inl ?_⟩⟩
    · refine hg0.sub (q := ks (A ++ B)) ?_
      rw [show ks (A ++ B) = ks A ++ ks B by simp [ks]]
      exact (List.Sublist.refl _).append (List.sublist_cons_self _ _)
    · simp [ks] at he ⊢
      rcases he with h | h
      · exact .inl h
      · exact .inr (.inr h)
    · rw [u3, hWo x.1 (Ne.symm ncx), MT1.block x.1 hxm]; rfl
    · rw [u4.os, ho, MT1.os]; rfl
    · rw [u4.tape, ht, MT1.tape]; rfl
    · rw [u4.output, hou, MT1.output]; rfl
    · rw [u4.block k h1 (fun e => h3 (by simp [bs] at e ⊢; rcases e with h | h; exact .inl h; exact .inr (.inr h))), hWo k h1, MT1.block k h2]; rfl
    · simp [bs] at hb ⊢
      rcases hb with h | h
      · exact .inl h
      · exact .inr (.inr h)
  clear x3 x4 y3 y4 c3 c4 d3 d4 xf cf df yf row1 rowx lk1 hg0 hks hA hB nd1 nd2 nd3 nc ncx ncab hcm hxm MI1 MT1 h hby hw
  generalize M.bytes (ks (A ++ B)) = nb at *
  generalize RmOut w c m n most A B x = QQ at *
  generalize x.2.val = xv at *
  generalize x.2.key = xk at *
  generalize x.1 = xb at *
  have hw : IntKind.i64.wrap (nb : Int) = nb := by rw [IntKind.wrap_i64]; omega
  go_enter Try.func36, Try.ntmps36
  go_wp2_with fail
  go_region
  all_goals
    go_wp2_with fail
    go_region
    all_goals
      go_wp2_with fail
      refine (HU.out _ ?_ ?_ ?_ ?_).mono ?_
      · rfl
      · rfl
      · rfl
      · rfl
      rintro e w3 ⟨rfl, hr⟩
      have HK := Hid_of hr
      clear hr HU
      go_wp2
      go_end0
      exact HK.out
end Go.Proofs.Ytpfmdchmgaaakaa
