/-
  A key is dropped, pinned, got; the bytes; a new cache.
-/
import Derived.Test.YtpfmdchmgaaakaaE
import Derived.Test.YtpfmdchmgaaakaaN
namespace Go.Proofs.Ytpfmdchmgaaakaa
open Go.RowKit Go.Maps
set_option linter.unusedVariables false
open M (K)

theorem split_node : ∀ (L : List (Nat × K)) (k : Int), (∀ e ∈ ks L, e.key ≠ k) ∨ ∃ A x B, L = A ++ x :: B ∧ x.2.key = k ∧ ∀ e ∈ ks A, e.key ≠ k
  | [], k => .inl (by simp [ks])
  | e :: r, k => by
    by_cases he : e.2.key = k
    · exact .inr ⟨[], e, r, rfl, he, by simp [ks]⟩
    · rcases split_node r k with h | ⟨A, x, B, rfl, hx, hA⟩
      · exact .inl (fun y hy => by rcases List.mem_cons.1 hy with rfl | hy; exact he; exact h y hy)
      · exact .inr ⟨e :: A, x, B, rfl, hx, fun y hy => by rcases List.mem_cons.1 hy with rfl | hy; exact he; exact hA y hy⟩
theorem ks_mid (A B : List (Nat × K)) (x : Nat × K) : ks (A ++ x :: B) = ks A ++ x.2 :: ks B := by simp [ks]
theorem bs_mid (A B : List (Nat × K)) (x : Nat × K) : bs (A ++ x :: B) = bs A ++ x.1 :: bs B := by simp [bs]
/-- A key's answer, and what is kept then. -/
def DrOut (w : World) (c m n : Nat) (most : Int) (L : List (Nat × K)) (l' : List K) (v : Value) (e : Ending) (w' : World) : Prop :=
  e = .returned v ∧ ∃ L', CI w' c m n most L' ∧ ks L' = l' ∧ Fr w c m L w' L'
set_option maxRecDepth 100000 in
set_option maxHeartbeats 1000000 in
theorem drop_any (c m n : Nat) (most : Int) (L : List (Nat × K)) (k : Int) (w : World) (h : CI w c m n most L) (hk : (Lit.int .i64 k).wf = true) :
    Calls Try.prog 19 #[.pointer (some ⟨c, 0, none⟩), .int .i64 k] w (DrOut w c m n most L (M.drp (ks L) k) (.bool (M.has (ks L) k))) := by
  have hf := find_any c m n (fk L) most _ _ _ k w h.row h.mi hk
  rcases split_node L k with hno | ⟨A, x, B, rfl, rfl, hA⟩
  · rw [fk_no L k hno, ptr] at hf
    rw [M.drp_no _ k hno, M.has_no _ k hno]
    have HK : Hid (DrOut w c m n most L (ks L) (.bool false) (.returned (.bool false)) w) := ⟨rfl, L, h, rfl, Fr.refl _ _ _ _⟩
    clear h hno
    go_enter Try.func19, Try.ntmps19
    go_wp2_with fail
    refine hf.mono ?_
    rintro e w1 ⟨rfl, rfl⟩
    go_wp2
    go_ret
    exact HK.out
  · rw [fk_at A B x hA, ptr] at hf
    rw [ks_mid, M.drp_at _ _ _ hA, M.has_at _ _ _ hA]
    have hr := remove_any c m n most A B x w h
    have HK : Hid (∀ w', RmOut w c m n most A B x (.returned (.tuple #[])) w' → DrOut w c m n most (A ++ x :: B) (ks A ++ ks B) (.bool true) (.returned (.bool true)) w') := fun w' hw => ⟨rfl, A ++ B, hw.2.1, ks_app A B, hw.2.2.2.2⟩
    have hr' : Calls Try.prog 36 #[.pointer (some ⟨c, 0, none⟩), .pointer (some ⟨x.1, 0, none⟩)] w (fun e w' => e = .returned (.tuple #[]) ∧ DrOut w c m n most (A ++ x :: B) (ks A ++ ks B) (.bool true) (.returned (.bool true)) w') := hr.mono fun e w' hh => ⟨hh.1, HK.out w' ⟨rfl, hh.2⟩⟩
    clear h hA hr HK
    obtain ⟨xb, xk⟩ := x
    simp only at *
    go_enter Try.func19, Try.ntmps19
    go_wp2_with fail
    refine hf.mono ?_
    rintro e w1 ⟨rfl, rfl⟩
    clear hf
    go_wp2_with fail
    refine hr'.mono ?_
    rintro e w2 ⟨rfl, hq⟩
    have HQ := Hid_of hq
    clear hq hr'
    go_wp2
    go_ret
    exact HQ.out
set_option maxHeartbeats 400000 in
theorem drop_nil (k : Int) (w : World) : Calls Try.prog 19 #[.pointer none, .int .i64 k] w fun e w' => e = .returned (.bool false) ∧ w' = w := by
  go_enter Try.func19, Try.ntmps19
  go_wp2_with fail
  refine (find_nil k w).mono ?_
  rintro e w1 ⟨rfl, rfl⟩
  go_wp2
  go_ret
  exact ⟨rfl, rfl⟩
theorem CI.pin {w : World} {c m n : Nat} {most : Int} {A B : List (Nat × K)} {x : Nat × K} (h : CI w c m n most (A ++ x :: B)) (on : Bool) :
    CI (w.setCell ⟨x.1, 2, none⟩ (.bool on)) c m n most (A ++ (x.1, ⟨x.2.key, x.2.val, on⟩) :: B) ∧ Fr w c m (A ++ x :: B) (w.setCell ⟨x.1, 2, none⟩ (.bool on)) (A ++ (x.1, ⟨x.2.key, x.2.val, on⟩) :: B) := by
  have hcx : c ≠ x.1 := fun e => h.nc (by rw [e, bs_mid]; simp)
  have hmx : m ≠ x.1 := (h.mi.ne h.lk.at).symm
  obtain ⟨nd1, nd2, nd3⟩ := nodup_mid h.nd
  rw [bs_app, List.mem_append, not_or] at nd2
  have hks : ks (A ++ (x.1, (⟨x.2.key, x.2.val, on⟩ : K)) :: B) = ks A ++ ⟨x.2.key, x.2.val, on⟩ :: ks B := ks_mid A B _
  have ho : ∀ k, k ≠ x.1 → (w.setCell ⟨x.1, 2, none⟩ (.bool on)).heap[k]? = w.heap[k]? := fun k hk => heap_setCell_other w ⟨x.1, 2, none⟩ k _ hk
  have hg := h.g
  rw [ks_mid] at hg
  have hnA := hg.ne
  refine ⟨⟨?_, ?_, ?_, by rw [bs_mid]; have := h.nd; rw [bs_mid] at this; exact this, by rw [bs_mid]; have := h.nc; rw [bs_mid] at this; exact this, ?_, h.lo, h.hi, fun e he => ?_⟩, ⟨rfl, rfl, rfl, by simp, fun k hk h1 h2 h3 => ho k (fun e => h3 (by rw [e, bs_mid]; simp)), fun b hb => .inl (by rw [bs_mid] at hb ⊢; exact hb)⟩⟩
  · rw [ho c hcx, h.row, hks, ks_mid, M.bytes_mid, M.bytes_mid, hd_app, hd_app, lst_app, lst_app]
    rfl
  · have hl := h.lk
    rw [Lk_app] at hl ⊢
    obtain ⟨h1, h2, h3⟩ := hl
    refine ⟨Lk.keep h1 fun b hb => ho b (ne_mem hb nd2.1), heap_setCell_same w x.1 2 _ _ _ h2, Lk.keep h3 fun b hb => ho b (ne_mem hb nd2.2)⟩
  · have := h.mi.keep (ho m hmx)
    have e : fk (A ++ x :: B) = fk (A ++ (x.1, ⟨x.2.key, x.2.val, on⟩) :: B) := by
      funext k
      rw [fk_app, fk_app, fk, fk]
    rw [← e]
    exact this
  · rw [hks]
    have := hg.pnd x.2.key on
    rw [M.pnd_at _ _ _ on hnA.1] at this
    exact this
  · rw [hks] at he
    rcases List.mem_append.1 he with he | he
    · exact h.wf e (by rw [ks_mid]; simp [he])
    · rcases List.mem_cons.1 he with rfl | he
      · exact h.wf x.2 (by rw [ks_mid]; simp)
      · exact h.wf e (by rw [ks_mid]; simp [he])
set_option maxRecDepth 100000 in
set_option maxHeartbeats 1000000 in
theorem pin_any (c m n : Nat) (most : Int) (L : List (Nat × K)) (k : Int) (on : Bool) (w : World) (h : CI w c m n most L) (hk : (Lit.int .i64 k).wf = true) :
    Calls Try.prog 17 #[.pointer (some ⟨c, 0, none⟩), .int .i64 k, .bool on] w (DrOut w c m n most L (M.pnd (ks L) k on) (.bool (M.has (ks L) k))) := by
  have hf := find_any c m n (fk L) most _ _ _ k w h.row h.mi hk
  rcases split_node L k with hno | ⟨A, x, B, rfl, rfl, hA⟩
  · rw [fk_no L k hno, ptr] at hf
    rw [M.pnd_no _ k on hno, M.has_no _ k hno]
    have HK : Hid (DrOut w c m n most L (ks L) (.bool false) (.returned (.bool false)) w) := ⟨rfl, L, h, rfl, Fr.refl _ _ _ _⟩
    clear h hno
    go_enter Try.func17, Try.ntmps17
    go_wp2_with fail
    refine hf.mono ?_
    rintro e w1 ⟨rfl, rfl⟩
    go_wp2
    go_ret
    exact HK.out
  · rw [fk_at A B x hA, ptr] at hf
    rw [ks_mid, M.pnd_at _ _ _ on hA, M.has_at _ _ _ hA]
    obtain ⟨hp1, hp2⟩ := h.pin on
    obtain ⟨⟨x0, x1, x2, x3, x4⟩, xf⟩ := row5 h.lk.at
    have f2 := xf 2
    have HK : Hid (DrOut w c m n most (A ++ x :: B) (ks A ++ ⟨x.2.key, x.2.val, on⟩ :: ks B) (.bool true) (.returned (.bool true)) (w.setCell ⟨x.1, 2, none⟩ (.bool on))) := ⟨rfl, _, hp1, ks_mid A B _, hp2⟩
    clear h hA hp1 hp2 xf x3 x4
    obtain ⟨xb, xk⟩ := x
    simp only at *
    go_enter Try.func17, Try.ntmps17
    go_wp2_with fail
    refine hf.mono ?_
    rintro e w1 ⟨rfl, rfl⟩
    clear hf
    go_wp2
    go_ret
    exact HK.out
set_option maxHeartbeats 400000 in
theorem pin_nil (k : Int) (on : Bool) (w : World) : Calls Try.prog 17 #[.pointer none, .int .i64 k, .bool on] w fun e w' => e = .returned (.bool false) ∧ w' = w := by
  go_enter Try.func17, Try.ntmps17
  go_wp2_with fail
  refine (find_nil k w).mono ?_
  rintro e w1 ⟨rfl, rfl⟩
  go_wp2
  go_ret
  exact ⟨rfl, rfl⟩
set_option maxHeartbeats 400000 in
theorem bytes_any (c m n : Nat) (most : Int) (L : List (Nat × K)) (w : World) (h : CI w c m n most L) :
    Calls Try.prog 22 #[.pointer (some ⟨c, 0, none⟩)] w fun e w' => e = .returned (.int .i64 (M.bytes (ks L))) ∧ w' = w := by
  obtain ⟨⟨c0, c1, c2, c3, c4⟩, cf⟩ := row5 h.row
  generalize M.bytes (ks L) = nb at *
  clear h cf c3 c4
  go_enter Try.func22, Try.ntmps22
  go_wp2
  go_ret
  exact ⟨rfl, rfl⟩
set_option maxHeartbeats 400000 in
theorem bytes_nil (w : World) : Calls Try.prog 22 #[.pointer none] w fun e w' => e = .returned (.int .i64 0) ∧ w' = w := by
  go_enter Try.func22, Try.ntmps22
  go_wp2
  go_ret
  exact ⟨rfl, rfl⟩
/-- How many bytes a cache may have. -/
def lim (most : Int) : Int := min (max most 0) 65536
theorem lim_lo (most : Int) : 0 ≤ lim most ∧ lim most ≤ 65536 := by unfold lim; omega
def NwOut (w : World) (most : Int) (e : Ending) (w' : World) : Prop := ∃ c m, e = .returned (.pointer (some ⟨c, 0, none⟩)) ∧ CI w' c m 0 (lim most) [] ∧ w.heap.size ≤ c ∧ w.heap.size ≤ m ∧ Below w.heap.size w w'
set_option maxRecDepth 100000 in
set_option maxHeartbeats 400000 in
theorem new_any (most : Int) (w : World) : Calls Try.prog 9 #[.int .i64 most] w (NwOut w most) := by
  have hmm := @run_makeMap Try.prog
  obtain ⟨mx, hmx⟩ : ∃ x, max most 0 = x := ⟨_, rfl⟩
  obtain ⟨mn, hmn⟩ : ∃ x, min mx 65536 = x := ⟨_, rfl⟩
  have hlim : lim most = mn := by unfold lim; rw [hmx, hmn]
  have hl := lim_lo most
  have HK : Hid (NwOut w most (.returned (.pointer (some ⟨w.heap.size + 1, 0, none⟩))) ((w.alloc (.map #[] 0)).alloc (.cells #[.int .i64 mn, .int .i64 0, .map (some w.heap.size), .pointer none, .pointer none] 58))) := by
    refine ⟨w.heap.size + 1, w.heap.size, rfl, ⟨?_, trivial, ?_, by simp [bs], by simp [bs], ⟨by simp [ks], by simp [ks, M.bytes]; exact hl.1⟩, hl.1, hl.2, by simp [ks]⟩, by omega, by omega, (bel1 w _).alloc (by simp) _⟩
    · rw [hlim]
      exact heap_alloc2_new w _ _
    · exact (MI.made w).keep (heap_alloc2_old w _ _ |>.trans (MapKept.heap_alloc w _).1.symm)
  clear hlim hl
  go_enter Try.func9, Try.ntmps9
  go_wp2
  go_ret
  exact HK.out
end Go.Proofs.Ytpfmdchmgaaakaa
