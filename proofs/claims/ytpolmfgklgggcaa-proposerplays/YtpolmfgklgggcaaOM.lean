/-
  What a proposer has said: by one ballot each slot once; its ballots rise.
-/
import Derived.Test.YtpolmfgklgggcaaPM
namespace Go.Proofs.Ytpolmfgklgggcaa.M
set_option linter.unusedVariables false

theorem cmp_le {a b : E} : cmpE a b ≤ 0 ↔ (a.i < b.i ∨ (a.i = b.i ∧ a.t ≤ b.t)) := by
  rcases cmpE_three a b with ⟨h, e⟩ | ⟨h, e⟩ | ⟨h, e⟩ <;> rw [e] <;> omega
theorem cmp_lt' {a b : E} : 0 < cmpE a b ↔ (b.i < a.i ∨ (a.i = b.i ∧ b.t < a.t)) := by
  rcases cmpE_three a b with ⟨h, e⟩ | ⟨h, e⟩ | ⟨h, e⟩ <;> rw [e] <;> omega
/-- Two votes are not for one slot by one ballot. -/
def Dif (x y : V) : Prop := ¬ (x.s = y.s ∧ x.b.i = y.b.i ∧ x.b.t = y.b.t)
/-- What holds of all that was said. -/
structure Onc (s : S) (own : E) (l : List V) : Prop where
  dif : l.Pairwise Dif
  top : ∀ v ∈ l, cmpE v.b s.b ≤ 0
  cur : ∀ v ∈ l, v.b.i = s.b.i → v.b.t = s.b.t → 2 ≤ s.st ∧ s.ask ≤ v.s ∧ v.s < s.nx ∧ (s.st = 2 → s.fin ≤ v.s)
  own : cmpE own s.b ≤ 0
theorem Onc.zero (n me : Int) : Onc (S0 n me) ⟨0, 0⟩ [] := ⟨List.Pairwise.nil, by simp, by simp, by rw [cmp_le]; simp [S0]⟩
/-- By a greater ballot all begins anew. -/
theorem Onc.anew {s s' : S} {o : E} {l : List V} (h : Onc s o l) (hb : 0 < cmpE s'.b s.b) : Onc s' o l := by
  rw [cmp_lt'] at hb
  refine ⟨h.dif, fun v hv => ?_, fun v hv h1 h2 => ?_, ?_⟩
  · have := h.top v hv; rw [cmp_le] at this ⊢; omega
  · have := h.top v hv; rw [cmp_le] at this; omega
  · have := h.own; rw [cmp_le] at this ⊢; omega
theorem grt_ge (a b : E) : cmpE b (grt a b) ≤ 0 ∧ cmpE a (grt a b) ≤ 0 := by
  unfold grt
  split
  · next h => rw [cmp_lt'] at h; constructor <;> (rw [cmp_le]; omega)
  · next h => rw [cmp_lt'] at h; constructor <;> (rw [cmp_le]; omega)
theorem lde_is {s : S} (ok : Ok s) {a : E} {k : Int} (h : ldc s a k = 0) : 0 < cmpE (lde s a k) s.b ∧ (lde s a k).t = s.me ∧ (lds s a k).b = lde s a k := by
  have hv : vld a = true ∧ ¬ 2147483647 ≤ (grt a s.b).i := by
    unfold ldc at h
    split at h
    · next h1 =>
      simp only [Bool.and_eq_true] at h1
      refine ⟨h1.1, fun h2 => ?_⟩
      rw [if_pos h2] at h
      omega
    · omega
  obtain ⟨hv, hg⟩ := hv
  unfold vld at hv
  simp only [Bool.and_eq_true, decide_eq_true_eq] at hv
  obtain ⟨g1, g2⟩ := grt_ge a s.b
  have hm0 := ok.m0
  have hm1 := ok.m1
  have hn := ok.n7
  have e1 : lde s a k = nxt (grt a s.b) s.me := by unfold lde; rw [if_pos h]
  have e2 : lds s a k = { enter s 1 (nxt (grt a s.b) s.me) with ask := k, fin := k, nx := k } := by unfold lds; rw [if_pos h]
  rw [cmp_le] at g1 g2
  have e3 : nxt (grt a s.b) s.me = ⟨(grt a s.b).i + 1, nod s.me⟩ := by unfold nxt; rw [if_neg (by omega)]
  have e4 : nod s.me = s.me := by unfold nod; omega
  rw [e1, e2, e3, e4]
  refine ⟨?_, rfl, rfl⟩
  rw [cmp_lt']
  simp only
  omega
theorem Onc.lead {s : S} {o : E} {l : List V} (h : Onc s o l) (ok : Ok s) {a : E} {k : Int} (hc : ldc s a k = 0) : Onc (lds s a k) (lde s a k) l ∧ 0 < cmpE (lde s a k) o ∧ (lde s a k).t = s.me := by
  obtain ⟨h1, h2, h3⟩ := lde_is ok hc
  have h4 := h.anew (s' := lds s a k) (by rw [h3]; exact h1)
  refine ⟨⟨h4.dif, h4.top, h4.cur, ?_⟩, ?_, h2⟩
  · rw [h3, cmp_le]; omega
  · have := h.own
    rw [cmp_le] at this
    rw [cmp_lt'] at h1 ⊢
    omega
theorem lds_no {s : S} {a : E} {k : Int} (hc : ldc s a k ≠ 0) : lds s a k = s := by unfold lds; rw [if_neg hc]
theorem prs_b (s : S) (k : Int) (b : E) (l : List V) : (prs s k b l).b = s.b := by
  unfold prs
  have h1 := (cntL_keep l { s with who := wset s.who k.toNat }).2.2.2.1
  split
  · split
    · exact h1
    · exact h1
  · rfl
theorem Onc.promise {s : S} {o : E} {l : List V} (h : Onc s o l) (k : Int) (b : E) (vs : List V) : Onc (prs s k b vs) o l := by
  have hb := prs_b s k b vs
  cases hp : prm s k b with
  | false =>
    have e : prs s k b vs = s := by unfold prs; rw [hp]; rfl
    rw [e]; exact h
  | true =>
    have h1 : s.st = 1 := by
      unfold prm at hp
      simp only [Bool.and_eq_true, decide_eq_true_eq] at hp
      exact hp.1.1.1.1
    refine ⟨h.dif, fun v hv => by rw [hb]; exact h.top v hv, fun v hv h2 h3 => ?_, by rw [hb]; exact h.own⟩
    rw [hb] at h2 h3
    have := (h.cur v hv h2 h3).1
    omega
theorem Onc.step {s : S} {o : E} {l : List V} (h : Onc s o l) (b : E) : Onc (sts s b) o l := by
  unfold sts
  split
  · next e =>
    unfold stb at e
    simp only [Bool.and_eq_true, decide_eq_true_eq] at e
    exact h.anew e.2
  · exact h
theorem Onc.fill {s : S} {o : E} {l : List V} (h : Onc s o l) (ok : Ok s) : Onc (fls s) o (l ++ flo s) := by
  unfold fls flo
  split
  · next e =>
    have hmem : ∀ v ∈ fl s (s.fin - s.ask).toNat, v.b = s.b ∧ s.ask ≤ v.s ∧ v.s < s.fin := by
      intro v hv
      unfold fl at hv
      obtain ⟨j, hj, rfl⟩ := List.mem_map.1 hv
      rw [List.mem_range] at hj
      refine ⟨rfl, ?_, ?_⟩ <;> (simp only [fl1]; omega)
    have := ok.fx
    refine ⟨?_, ?_, ?_, h.own⟩
    · rw [List.pairwise_append]
      refine ⟨h.dif, ?_, fun x hx y hy hxy => ?_⟩
      · unfold fl
        rw [List.pairwise_map]
        refine List.Pairwise.imp ?_ List.pairwise_lt_range
        intro i j hij hd
        simp only [fl1] at hd
        omega
      · obtain ⟨hy1, hy2, hy3⟩ := hmem y hy
        rw [hy1] at hxy
        have := (h.cur x hx hxy.2.1 hxy.2.2).2.2.2 e
        omega
    · intro v hv
      rcases List.mem_append.1 hv with hv | hv
      · exact h.top v hv
      · show cmpE v.b s.b ≤ 0
        rw [(hmem v hv).1, cmp_le]; omega
    · intro v hv h1 h2
      rcases List.mem_append.1 hv with hv | hv
      · have := h.cur v hv h1 h2
        exact ⟨by simp, this.2.1, this.2.2.1, by simp⟩
      · obtain ⟨_, h3, h4⟩ := hmem v hv
        exact ⟨by simp, h3, by show v.s < s.nx; omega, by simp⟩
  · rw [List.append_nil]; exact h
theorem Onc.propose {s : S} {o : E} {l : List V} (h : Onc s o l) (ok : Ok s) {v : ByteArray} (hc : ppc s v = 0) : Onc (pps s v) o (l ++ [ppv s v]) := by
  have e1 : ppv s v = ⟨s.nx, s.b, v⟩ := by unfold ppv; rw [if_pos hc]
  have e2 : pps s v = { s with nx := s.nx + 1 } := by unfold pps; rw [if_pos hc]
  have h2 : 2 ≤ s.st := by
    unfold ppc at hc
    split at hc
    · omega
    · split at hc
      · omega
      · split at hc
        · omega
        · omega
  have := ok.fx
  have := ok.af
  rw [e1, e2]
  refine ⟨?_, ?_, ?_, h.own⟩
  · rw [List.pairwise_append]
    refine ⟨h.dif, List.pairwise_singleton _ _, fun x hx y hy hxy => ?_⟩
    rw [List.mem_singleton] at hy
    subst hy
    simp only at hxy
    have := (h.cur x hx hxy.2.1 hxy.2.2).2.2.1
    omega
  · intro x hx
    rcases List.mem_append.1 hx with hx | hx
    · exact h.top x hx
    · rw [List.mem_singleton] at hx
      subst hx
      show cmpE s.b s.b ≤ 0
      rw [cmp_le]; omega
  · intro x hx h3 h4
    rcases List.mem_append.1 hx with hx | hx
    · have := h.cur x hx h3 h4
      exact ⟨h2, this.2.1, by show x.s < s.nx + 1; omega, this.2.2.2⟩
    · rw [List.mem_singleton] at hx
      subst hx
      exact ⟨h2, by show s.ask ≤ s.nx; omega, by show s.nx < s.nx + 1; omega, fun _ => by show s.fin ≤ s.nx; omega⟩
theorem pps_no {s : S} {v : ByteArray} (hc : ppc s v ≠ 0) : pps s v = s := by unfold pps; rw [if_neg hc]
theorem flo_len (s : S) (ok : Ok s) : (flo s).length ≤ 1024 := by
  unfold flo
  split
  · rw [fl_len]
    have := ok.a0; have := ok.af; have := ok.fx; have := ok.x1
    omega
  · simp
theorem prs_c (s : S) (k : Int) (b : E) (l : List V) : (prs s k b l).c ≤ s.c + l.length := by
  unfold prs
  have h1 : (cntL { s with who := wset s.who k.toNat } l).c ≤ s.c + l.length := (cntL_keep l { s with who := wset s.who k.toNat }).2.2.2.2.2.2
  split
  · split
    · exact h1
    · exact h1
  · exact Nat.le_add_right _ _
theorem lds_c (s : S) (a : E) (k : Int) : (lds s a k).c = s.c := by unfold lds; split <;> rfl
theorem sts_c (s : S) (b : E) : (sts s b).c = s.c := by unfold sts; split <;> rfl
theorem fls_c (s : S) : (fls s).c = s.c := by unfold fls; split <;> rfl
theorem pps_c (s : S) (v : ByteArray) : (pps s v).c = s.c := by unfold pps; split <;> rfl
theorem lds_me (s : S) (a : E) (k : Int) : (lds s a k).me = s.me := by unfold lds; split <;> rfl
theorem sts_me (s : S) (b : E) : (sts s b).me = s.me := by unfold sts; split <;> rfl
theorem fls_me (s : S) : (fls s).me = s.me := by unfold fls; split <;> rfl
theorem pps_me (s : S) (v : ByteArray) : (pps s v).me = s.me := by unfold pps; split <;> rfl
theorem prs_me (s : S) (k : Int) (b : E) (l : List V) : (prs s k b l).me = s.me := by
  unfold prs
  have h1 := (cntL_keep l { s with who := wset s.who k.toNat }).2.1
  split
  · split
    · exact h1
    · exact h1
  · rfl
theorem Onc.pair {s : S} {o : E} {l : List V} (h : Onc s o l) (i k : Nat) (hk : k < i) (hi : i < l.length) : Dif (l[k]'(by omega)) l[i] :=
  (List.pairwise_iff_getElem.1 h.dif) k i (by omega) hi hk
end Go.Proofs.Ytpolmfgklgggcaa.M
