/-
  A value is got.
-/
import Derived.Test.YtpfmdchmgaaakaaF
namespace Go.Proofs.Ytpfmdchmgaaakaa
open Go.RowKit Go.Maps
set_option linter.unusedVariables false
open M (K)

def GtOut (w : World) (c m n : Nat) (most : Int) (L : List (Nat × K)) (k : Int) (e : Ending) (w' : World) : Prop :=
  DrOut w c m n most L (M.got (ks L) k) (.tuple #[.string (M.val (ks L) k), .bool (M.has (ks L) k)]) e w'
theorem CI.move {w w1 w2 : World} {c m n : Nat} {most : Int} {A B : List (Nat × K)} {x : Nat × K} (h : CI w c m n most (A ++ x :: B)) (u : UnOut w c most (M.bytes (ks (A ++ x :: B))) m A B x (.returned (.tuple #[])) w1) (l : LnOut w1 c most (M.bytes (ks (A ++ x :: B))) m (A ++ B ++ [x]) (.returned (.tuple #[])) w2) :
    CI w2 c m n most (A ++ B ++ [x]) ∧ Fr w c m (A ++ x :: B) w2 (A ++ B ++ [x]) ∧ w2.heap[x.1]? = some (erow x.2 (lst none (A ++ B)) none) := by
  obtain ⟨-, u1, u2, u3, u4⟩ := u
  obtain ⟨-, l1, l2, l4⟩ := l
  obtain ⟨nd1, nd2, nd3⟩ := nodup_mid h.nd
  have hmem : ∀ b, b ∈ bs (A ++ B ++ [x]) ↔ b ∈ bs (A ++ x :: B) := by
    intro b
    rw [bs_mid, bs_app, bs_app]
    simp only [List.mem_append, List.mem_cons, bs, List.map_cons, List.map_nil, List.not_mem_nil, or_false]
    constructor
    · rintro ((h | h) | h)
      · exact .inl h
      · exact .inr (.inr h)
      · exact .inr (.inl h)
    · rintro (h | h | h)
      · exact .inl (.inl h)
      · exact .inr h
      · exact .inl (.inr h)
  have hcm : c ≠ m := h.mi.ne h.row
  have hmL : m ∉ bs (A ++ B ++ [x]) := fun e => Lk.mnot h.mi h.lk m ((hmem m).1 e) rfl
  have hmab : m ∉ bs (A ++ B) := fun e => hmL (by rw [bs_app]; simp only [List.mem_append]; exact .inl e)
  have hks : ks (A ++ B ++ [x]) = ks A ++ ks B ++ [x.2] := by rw [ks_app, ks_app]; rfl
  have hg := h.g
  rw [ks_mid] at hg
  have hne := hg.ne
  have hby : M.bytes (ks (A ++ B ++ [x])) = M.bytes (ks (A ++ x :: B)) := by rw [hks, ks_mid, M.bytes_perm]
  refine ⟨⟨by rw [hby]; exact l1, l2, ?_, ?_, fun e => h.nc ((hmem c).1 e), ?_, h.lo, h.hi, fun e he => h.wf e ?_⟩, ⟨?_, ?_, ?_, ?_, fun k hk h1 h2 h3 => ?_, fun b hb => .inl ((hmem b).1 hb)⟩, ?_⟩
  · rw [← fk_move A B x hne.1 hne.2]
    exact h.mi.keep ((l4.block m (Ne.symm hcm) hmL).trans (u4.block m (Ne.symm hcm) hmab))
  · rw [bs_app, List.nodup_append]
    refine ⟨nd1, by simp [bs], fun a ha b hb => ?_⟩
    simp [bs] at hb
    subst hb
    exact ne_mem ha nd2
  · rw [hks]
    have := hg.got x.2.key
    rw [(M.got_at _ _ _ hne.1).1] at this
    exact this
  · rw [hks] at he
    rw [ks_mid]
    simp only [List.mem_append, List.mem_cons, List.not_mem_nil, or_false] at he ⊢
    rcases he with (h | h) | h
    · exact .inl h
    · exact .inr (.inr h)
    · exact .inr (.inl h)
  · rw [l4.os, u4.os]
  · rw [l4.tape, u4.tape]
  · rw [l4.output, u4.output]
  · rw [l4.size, u4.size]
    exact Nat.le_refl _
  · rw [l4.block k h1 (fun e => h3 ((hmem k).1 e)), u4.block k h1 (fun e => h3 ((hmem k).1 (by rw [bs_app]; simp only [List.mem_append]; exact .inl e)))]
  · rw [Lk_app] at l2
    exact l2.2.1
set_option maxRecDepth 100000 in
set_option maxHeartbeats 1000000 in
theorem get_any (c m n : Nat) (most : Int) (L : List (Nat × K)) (k : Int) (w : World) (h : CI w c m n most L) (hk : (Lit.int .i64 k).wf = true) :
    Calls Try.prog 15 #[.pointer (some ⟨c, 0, none⟩), .int .i64 k] w (GtOut w c m n most L k) := by
  have hf := find_any c m n (fk L) most _ _ _ k w h.row h.mi hk
  unfold GtOut
  rcases split_node L k with hno | ⟨A, x, B, rfl, rfl, hA⟩
  · rw [fk_no L k hno, ptr] at hf
    rw [(M.got_no _ k hno).1, (M.got_no _ k hno).2, M.has_no _ k hno]
    have HK : Hid (DrOut w c m n most L (ks L) (.tuple #[.string ByteArray.empty, .bool false]) (.returned (.tuple #[.string ByteArray.empty, .bool false])) w) := ⟨rfl, L, h, rfl, Fr.refl _ _ _ _⟩
    clear h hno
    go_enter Try.func15, Try.ntmps15
    go_wp2_with fail
    refine hf.mono ?_
    rintro e w1 ⟨rfl, rfl⟩
    go_wp2
    go_ret2
    exact HK.out
  · rw [fk_at A B x hA, ptr] at hf
    rw [ks_mid, (M.got_at _ _ _ hA).1, (M.got_at _ _ _ hA).2, M.has_at _ _ _ hA]
    have hu := unlink_any c most _ m A B x w h.row h.lk h.nd h.nc
    obtain ⟨nd1, nd2, nd3⟩ := nodup_mid h.nd
    have HL : Hid (∀ w1, UnOut w c most (M.bytes (ks (A ++ x :: B))) m A B x (.returned (.tuple #[])) w1 → Calls Try.prog 35 #[.pointer (some ⟨c, 0, none⟩), .pointer (some ⟨x.1, 0, none⟩)] w1 fun e w2 => e = .returned (.tuple #[]) ∧ w2.cell? ⟨x.1, 1, none⟩ = some (.string x.2.val) ∧ Hid (∀ w3, Below w2.heap.size w2 w3 → DrOut w c m n most (A ++ x :: B) (ks A ++ ks B ++ [x.2]) (.tuple #[.string x.2.val, .bool true]) (.returned (.tuple #[.string x.2.val, .bool true])) w3)) := by
      intro w1 hu1
      have hu1' := hu1
      obtain ⟨-, u1, u2, u3, u4⟩ := hu1
      refine (link_any c most _ m (A ++ B) x _ _ w1 u1 u2 (u3.trans h.lk.at) ?_ ?_).mono ?_
      · rw [bs_app, List.nodup_append]
        refine ⟨nd1, by simp [bs], fun a ha b hb => ?_⟩
        simp [bs] at hb
        subst hb
        exact ne_mem ha nd2
      · intro e
        rw [bs_app, bs_app] at e
        apply h.nc
        rw [bs_mid]
        simp only [List.mem_append, List.mem_cons, bs, List.map_cons, List.map_nil, List.not_mem_nil, or_false] at e ⊢
        rcases e with (h | h) | h
        · exact .inl h
        · exact .inr (.inr h)
        · exact .inr (.inl h)
      · rintro e w2 hl2
        have he := hl2.1
        subst he
        obtain ⟨q1, q2, q3⟩ := h.move hu1' hl2
        refine ⟨rfl, (row5 q3).1.2.1, fun w3 hb3 => ⟨rfl, A ++ B ++ [x], q1.keep hb3, ?_, q2.trans (Fr.ofBelow hb3)⟩⟩
        rw [ks_app, ks_app]
        rfl
    have hsz : x.2.val.size ≤ 65536 := by
      have := h.b0
      rw [ks_mid, M.bytes_mid] at this
      omega
    have hcl := fun w' => clone_any x.2.val w' (by omega)
    clear h hA nd1 nd2 nd3
    generalize M.bytes (ks (A ++ x :: B)) = nb at *
    obtain ⟨xb, xk, xv, xp⟩ := x
    simp only at *
    go_enter Try.func15, Try.ntmps15
    go_wp2_with fail
    refine hf.mono ?_
    rintro e w1 ⟨rfl, rfl⟩
    clear hf
    go_wp2_with fail
    refine hu.mono ?_
    rintro e w2 hu2
    have he := hu2.1
    subst he
    have hl2 := HL.out w2 hu2
    clear hu hu2 HL
    go_wp2_with fail
    refine hl2.mono ?_
    rintro e w3 ⟨rfl, c1, H3⟩
    clear hl2
    go_wp2_with fail
    refine (hcl w3).mono ?_
    rintro e w4 ⟨rfl, hb4⟩
    have HK := Hid_of (H3.out w4 hb4)
    clear hcl H3 hb4 c1
    go_wp2
    go_ret2
    exact HK.out
set_option maxHeartbeats 400000 in
theorem get_nil (k : Int) (w : World) : Calls Try.prog 15 #[.pointer none, .int .i64 k] w fun e w' => e = .returned (.tuple #[.string ByteArray.empty, .bool false]) ∧ w' = w := by
  go_enter Try.func15, Try.ntmps15
  go_wp2_with fail
  refine (find_nil k w).mono ?_
  rintro e w1 ⟨rfl, rfl⟩
  go_wp2
  go_ret2
  exact ⟨rfl, rfl⟩
end Go.Proofs.Ytpfmdchmgaaakaa
