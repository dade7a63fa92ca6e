/-
  An entry is kept.
-/
import Derived.Test.YtpfmdchmgaaakaaD
namespace Go.Proofs.Ytpfmdchmgaaakaa
open Go.RowKit Go.Maps
set_option linter.unusedVariables false
open M (K)

theorem bs_app (A B : List (Nat × K)) : bs (A ++ B) = bs A ++ bs B := by simp [bs]
theorem ks_app (A B : List (Nat × K)) : ks (A ++ B) = ks A ++ ks B := by simp [ks]
def KpOut (w : World) (c m n : Nat) (most : Int) (L : List (Nat × K)) (e : Ending) (w' : World) : Prop :=
  e = .returned (.tuple #[]) ∧ CI w' c m n most L ∧ Fr w c m L w' L
set_option maxRecDepth 100000 in
set_option maxHeartbeats 1000000 in
theorem keep_any (c m n : Nat) (most : Int) (L : List (Nat × K)) (x : Nat × K) (vp vn : Value) (w : World) (h : CI w c m n most L) (hx : w.heap[x.1]? = some (.cells #[.int .i64 x.2.key, .string x.2.val, .bool x.2.pin, vp, vn] 66 (0, 0)))
    (hn : n < maxLen) (nx : x.1 ∉ bs L) (ncx : c ≠ x.1) (hk : ∀ e ∈ ks L, e.key ≠ x.2.key) (hle : (M.bytes (ks L) : Int) + x.2.val.size ≤ most) (hkx : (Lit.int .i64 x.2.key).wf = true) :
    Calls Try.prog 30 #[.pointer (some ⟨c, 0, none⟩), .pointer (some ⟨x.1, 0, none⟩)] w (KpOut w c m (n + 1) most (L ++ [x])) := by
  have hcm : c ≠ m := h.mi.ne h.row
  have hxm : x.1 ≠ m := h.mi.ne hx
  have hmo := h.hi
  obtain ⟨w1, hput, MI1, MT1⟩ := MI.put (w := w.drew) h.mi x.2.key hkx x.1 hn
  rw [fk_snoc L x hk] at MI1
  have row1 : w1.heap[c]? = _ := (MT1.block c hcm).trans h.row
  have rowx : w1.heap[x.1]? = _ := (MT1.block x.1 hxm).trans hx
  have lk1 : Lk w1 none L none := h.lk.keep fun b hb => MT1.block b (Lk.mnot h.mi h.lk b hb)
  obtain ⟨⟨c0, c1, c2, c3, c4⟩, cf⟩ := row5 h.row
  obtain ⟨⟨x0, x1, x2, x3, x4⟩, xf⟩ := row5 hx
  obtain ⟨⟨d0, d1, d2, d3, d4⟩, df⟩ := row5 row1
  obtain ⟨⟨y0, y1, y2, y3, y4⟩, yf⟩ := row5 rowx
  have f1 := df 1
  have nd1 : (bs (L ++ [x])).Nodup := by
    rw [bs_app, List.nodup_append]
    refine ⟨h.nd, by simp [bs], fun a ha b hb => ?_⟩
    simp [bs] at hb
    subst hb
    exact ne_mem ha nx
  have nc1 : c ∉ bs (L ++ [x]) := by
    rw [bs_app]
    simp only [List.mem_append, not_or]
    exact ⟨h.nc, by simpa [bs] using ncx⟩
  have hby : (M.bytes (ks L) : Int) + x.2.val.size = M.bytes (ks (L ++ [x])) := by
    rw [ks_app, M.bytes_app, show ks [x] = [x.2] from rfl, M.bytes_one]
    omega
  have HU : Hid (∀ W : World, W.heap = (w1.setCell ⟨c, 1, none⟩ (.int .i64 ((M.bytes (ks L) : Int) + x.2.val.size))).heap → W.os = w1.os → W.tape = w1.tape → W.output = w1.output → Calls Try.prog 35 #[.pointer (some ⟨c, 0, none⟩), .pointer (some ⟨x.1, 0, none⟩)] W fun e w' => e = .returned (.tuple #[]) ∧ KpOut w c m (n + 1) most (L ++ [x]) (.returned (.tuple #[])) w') := by
    intro W hW ho ht hou
    have hWc : W.heap[c]? = some (crow most (M.bytes (ks (L ++ [x]))) m (hd L none) (lst none L)) := by rw [hW, ← hby]; exact heap_setCell_same w1 c 1 _ _ _ row1
    have hWo : ∀ k, k ≠ c → W.heap[k]? = w1.heap[k]? := fun k hk => by rw [hW]; exact heap_setCell_other w1 ⟨c, 1, none⟩ k _ hk
    have hWs : W.heap.size = w1.heap.size := by rw [hW]; simp
    have hWl : Lk W none L none := lk1.keep fun b hb => hWo b (ne_mem hb h.nc)
    refine (link_any c most _ m L x vp vn W hWc hWl ((hWo x.1 (Ne.symm ncx)).trans rowx) nd1 nc1).mono ?_
    rintro e w3 ⟨rfl, u1, u2, u4⟩
    have hsz : w3.heap.size = w.heap.size := by rw [u4.size, hWs, MT1.size]; rfl
    have hml : m ∉ bs (L ++ [x]) := by
      rw [bs_app]
      simp only [List.mem_append, not_or]
      exact ⟨fun e => Lk.mnot h.mi h.lk m e rfl, by simpa [bs] using (Ne.symm hxm)⟩
    refine ⟨rfl, rfl, ⟨u1, u2, MI1.keep ((u4.block m (Ne.symm hcm) hml).trans (hWo m (Ne.symm hcm))), nd1, nc1, ⟨?_, by rw [← hby]; exact hle⟩, h.lo, h.hi, fun e he => ?_⟩, ⟨?_, ?_, ?_, by omega, fun k hk h1 h2 h3 => ?_, fun b hb => .inl hb⟩⟩
    · rw [ks_app]
      exact M.nodup_snoc h.g.kd hk
    · rw [ks_app] at he
      rcases List.mem_append.1 he with he | he
      · exact h.wf e he
      · simp [ks] at he
        subst he
        exact hkx
    · rw [u4.os, ho, MT1.os]; rfl
    · rw [u4.tape, ht, MT1.tape]; rfl
    · rw [u4.output, hou, MT1.output]; rfl
    · rw [u4.block k h1 h3, hWo k h1, MT1.block k h2]; rfl
  clear x3 x4 y3 y4 c3 c4 d3 d4 xf cf df yf row1 rowx lk1 hk nd1 nc1 ncx hcm hxm MI1 MT1 h hby nx hx
  generalize M.bytes (ks L) = nb at *
  generalize KpOut w c m (n + 1) most (L ++ [x]) = QQ at *
  generalize x.2.val = xv at *
  generalize x.2.key = xk at *
  generalize x.1 = xb at *
  have hw : IntKind.i64.wrap ((nb : Int) + xv.size) = (nb : Int) + xv.size := by rw [IntKind.wrap_i64]; omega
  go_enter Try.func30, Try.ntmps30
  go_wp2_with fail
  go_region
  all_goals
    go_wp2_with fail
    go_region
    all_goals
      go_wp2_with fail
      refine (HU.out _ ?_ ?_ ?_ ?_).mono ?_
      · rfl
      · rfl
      · rfl
      · rfl
      rintro e w3 ⟨rfl, hr⟩
      have HK := Hid_of hr
      clear hr HU
      go_wp2
      go_end0
      exact HK.out
end Go.Proofs.Ytpfmdchmgaaakaa
