/-
  A cache never has more bytes than it may; what is pinned does not go for want of room.
-/
import Derived.Test.YtpfmdchmgaaakaaQ
import Derived.Test.YtpfmdchmgaaakaaP
import Derived.Test.YtpfmdchmgaaakaaR
import Derived.OpenShut
namespace Go.Proofs.Ytpfmdchmgaaakaa
open Go.ChangeShapes Go.WideShapes Go.ChangeAt Go.RowKit
set_option linter.unusedVariables false
open M (K)

theorem row3 {w : World} {k : Nat} {v0 v1 v2 : Value} {t : TypeId} (h : w.heap[k]? = some (.cells #[v0, v1, v2] t (0, 0))) :
    w.cell? ⟨k, 0, none⟩ = some v0 ∧ w.cell? ⟨k, 1, none⟩ = some v1 ∧ w.cell? ⟨k, 2, none⟩ = some v2 :=
  ⟨by rw [cell_of_row w k 0 _ _ _ h]; rfl, by rw [cell_of_row w k 1 _ _ _ h]; rfl, by rw [cell_of_row w k 2 _ _ _ h]; rfl⟩
theorem CI.keepBut {w w' : World} {c m n : Nat} {most : Int} {L : List (Nat × K)} (h : CI w c m n most L) (hc : w'.heap[c]? = w.heap[c]?) (hm : w'.heap[m]? = w.heap[m]?) (hl : ∀ b ∈ bs L, w'.heap[b]? = w.heap[b]?) : CI w' c m n most L :=
  ⟨hc.trans h.row, h.lk.keep hl, h.mi.keep hm, h.nd, h.nc, h.g, h.lo, h.hi, h.wf⟩
theorem ks_length (L : List (Nat × K)) : (ks L).length = L.length := by simp [ks]
/-- The loop's relation: a cache, and a row of keys that are pinned in it. -/
structure BR (w0 w : World) (c m n : Nat) (most : Int) (L : List (Nat × K)) (p pp : List Int) (v : Value) (k : Nat) : Prop where
  s : CS w0 w c m n most L
  n : n ≤ k
  len : L.length ≤ k
  plen : p.length ≤ k
  own : OwnI w w0.heap.size v p
  ap : ∀ b, v.ownBlock = some b → b ≠ c ∧ b ≠ m ∧ b ∉ bs L
  pins : ∀ j ∈ pp, ∃ e ∈ ks L, e.key = j ∧ e.pin = true
theorem BR.keep {w0 w w' : World} {c m n : Nat} {most : Int} {L : List (Nat × K)} {p pp : List Int} {v : Value} {k : Nat} (h : BR w0 w c m n most L p pp v k) (hb : Below w.heap.size w w') : BR w0 w' c m n most L p pp v k :=
  ⟨h.s.keep hb, h.n, h.len, h.plen, h.own.keep hb, h.ap, h.pins⟩
/-- .. with a deed that stands in a block of its own. -/
structure BX (w0 w : World) (c m n : Nat) (most : Int) (L : List (Nat × K)) (p pp : List Int) (v : Value) (k q : Nat) (dk dy : Int) (sv : ByteArray) : Prop where
  r : BR w0 w c m n most L p pp v k
  box : w.heap[q]? = some (.cells #[.int .i64 dk, .int .i64 dy, .string sv] 32 (0, 0))
  nq : q ≠ c ∧ q ≠ m ∧ q ∉ bs L
  nv : v.ownBlock ≠ some q
section
variable {w0 w w' : World} {c m n n' : Nat} {most : Int} {L L' : List (Nat × K)} {p p' pp pp' : List Int} {v v' : Value} {k k' q : Nat} {dk dy : Int} {sv : ByteArray}
theorem BX.lt (h : BX w0 w c m n most L p pp v k q dk dy sv) : q < w.heap.size := (Array.getElem?_eq_some_iff.1 h.box).1
theorem BX.keep (h : BX w0 w c m n most L p pp v k q dk dy sv) (hb : Below w.heap.size w w') : BX w0 w' c m n most L p pp v k q dk dy sv :=
  ⟨h.r.keep hb, (hb.block q h.lt).trans h.box, h.nq, h.nv⟩
theorem BX.up (h : BX w0 w c m n most L p pp v k q dk dy sv) (hk : k ≤ k') : BX w0 w c m n most L p pp v k' q dk dy sv :=
  ⟨⟨h.r.s, Nat.le_trans h.r.n hk, Nat.le_trans h.r.len hk, Nat.le_trans h.r.plen hk, h.r.own, h.r.ap, h.r.pins⟩, h.box, h.nq, h.nv⟩
theorem BX.step (h : BX w0 w c m n most L p pp v k q dk dy sv) (hi : CI w' c m n' most L') (hf : Fr w c m L w' L') (hk : k ≤ k') (hn : n' ≤ k') (hl : L'.length ≤ k') (hp : ∀ j ∈ pp', ∃ e ∈ ks L', e.key = j ∧ e.pin = true) : BX w0 w' c m n' most L' p pp' v k' q dk dy sv := by
  have hq := h.lt
  refine ⟨⟨h.r.s.step hi hf, hn, hl, Nat.le_trans h.r.plen hk, h.r.own.keepBut hf.os hf.tape hf.output hf.size fun b hb hv => ?_, fun b hv => ?_, hp⟩, (hf.block q hq h.nq.1 h.nq.2.1 h.nq.2.2).trans h.box, ⟨h.nq.1, h.nq.2.1, fun e => ?_⟩, h.nv⟩
  · obtain ⟨a1, a2, a3⟩ := h.r.ap b hv
    exact hf.block b hb a1 a2 a3
  · obtain ⟨a1, a2, a3⟩ := h.r.ap b hv
    refine ⟨a1, a2, fun e => ?_⟩
    rcases hf.new b e with h' | h'
    · exact a3 h'
    · have := (h.r.own.lt hv).2
      omega
  · rcases hf.new q e with h' | h'
    · exact h.nq.2.2 h'
    · omega
theorem BX.row (h : BX w0 w c m n most L p pp v k q dk dy sv) (ho : OwnI w' w.heap.size v' p') (hb : Below w.heap.size w w') (hl : p'.length ≤ p.length) : BX w0 w' c m n most L p' pp v' k q dk dy sv := by
  have hk := h.keep hb
  have hq := h.lt
  refine ⟨⟨hk.r.s, hk.r.n, hk.r.len, Nat.le_trans hl hk.r.plen, ho.low h.r.s.bel.size, fun b hv => ?_, h.r.pins⟩, hk.box, hk.nq, fun e => ?_⟩
  · have h1 := (ho.lt hv).1
    have h2 := h.r.s.ci.lt
    have h3 := h.r.s.ci.mi.lt
    refine ⟨by omega, by omega, fun e => ?_⟩
    have := h.r.s.ci.lk.lt b e
    omega
  · have := (ho.lt e).1
    omega
theorem BX.app (h : BX w0 w c m n most L p pp v k q dk dy sv) (ho : OwnI w' w0.heap.size v' (p ++ [dy])) (hr : Rw w v w' v') (hj : ∃ e ∈ ks L, e.key = dy ∧ e.pin = true) : BX w0 w' c m n most L (p ++ [dy]) (pp ++ [dy]) v' (k + 1) q dk dy sv := by
  have hq := h.lt
  have hc := h.r.s.ci.lt
  have hm := h.r.s.ci.mi.lt
  have hb : ∀ b, b < w.heap.size → v.ownBlock ≠ some b → w'.heap[b]? = w.heap[b]? := fun b hb hne => hr.g.block b hb (fun e => hne e.symm)
  have nc : v.ownBlock ≠ some c := fun e => (h.r.ap c e).1 rfl
  have nm : v.ownBlock ≠ some m := fun e => (h.r.ap m e).2.1 rfl
  have nl : ∀ b ∈ bs L, v.ownBlock ≠ some b := fun b hb e => (h.r.ap b e).2.2 hb
  refine ⟨⟨⟨h.r.s.ci.keepBut (hb c hc nc) (hb m hm nm) (fun b hbl => hb b (h.r.s.ci.lk.lt b hbl) (nl b hbl)), h.r.s.bel.trans (hr.below (fun b hv => (h.r.own.lt hv).1) h.r.s.bel.size), h.r.s.c, h.r.s.m, h.r.s.l⟩, Nat.le_succ_of_le h.r.n, Nat.le_succ_of_le h.r.len, by have := h.r.plen; simp; omega, ho, fun b hv => ?_, fun j hj' => ?_⟩, (hb q hq h.nv).trans h.box, h.nq, fun e => ?_⟩
  · rcases hr.n b hv with h' | h'
    · exact h.r.ap b h'
    · refine ⟨by omega, by omega, fun e => ?_⟩
      have := h.r.s.ci.lk.lt b e
      omega
  · rcases List.mem_append.1 hj' with h' | h'
    · exact h.r.pins j h'
    · simp at h'
      subst h'
      exact hj
  · rcases hr.n q e with h' | h'
    · exact h.nv h'
    · omega
end
set_option maxRecDepth 100000 in
set_option maxHeartbeats 8000000 in
theorem bound_walk (most : Int) (a : Option Addr) (cap : Nat) (l : List Dd) (w : World) (hl : l.length ≤ maxLen) (hd : Dds w a l) (hok : ∀ d ∈ l, d.ok) :
    Calls Try.prog 4 #[.int .i64 most, .slice a l.length cap] w fun e w' => e = .returned (.bool true) ∧ Below w.heap.size w w' := by
  go_enter Try.func4, Try.ntmps4
  go_wp2_with fail
  refine (few_any a cap l w hl hd hok).mono ?_
  rintro x w1 ⟨b, rfl, hfew, rfl⟩
  cases b with
  | false =>
    clear hfew hd hok
    go_wp2_with fail
    refine (awake_any _).mono ?_
    rintro x w2 ⟨rfl, hb⟩
    go_wp2
    go_ret
    exact ⟨rfl, hb⟩
  | true =>
    obtain ⟨hl80, hf7⟩ := hfew rfl
    have HOK := Hid_of hok
    have HF7 := Hid_of hf7
    clear hfew hok hf7
    go_wp2_with fail
    refine (new_any most w1).mono ?_
    rintro x w2 ⟨c, m, rfl, I2, hc, hm, B2⟩
    have HG : Hid (BR w1 w2 c m 0 (lim most) [] [] [] (.slice none 0 0) 0) := ⟨⟨I2, B2, hc, hm, by simp [bs]⟩, Nat.le_refl _, by simp, by simp, OwnI.nil _ _, by simp [Value.ownBlock], by simp⟩
    clear I2 hc hm B2
    obtain ⟨lm, hlm⟩ : ∃ lm, lim most = lm := ⟨_, rfl⟩
    obtain ⟨mx, hmx⟩ : ∃ mx, max most 0 = mx := ⟨_, rfl⟩
    have hmn : min mx 65536 = lm := by rw [← hlm, ← hmx]; rfl
    rw [hlm] at HG
    go_wp2
    go_loopw [6, 7] (fun v i wr => ∃ (k n : Nat) (L : List (Nat × K)) (p : List Int), k ≤ l.length ∧ i = .int .i64 k ∧ BR w1 wr c m n lm L p p v k) (fun _ i _ => l.length - (intOf i).toNat)
    case atStart => exact ⟨0, 0, [], [], by omega, rfl, HG.out⟩
    case round =>
      obtain ⟨k, n, L, p, hk, rfl, R⟩ := hrel
      clear HG
      by_cases hlt : k < l.length
      · obtain ⟨bb, off, rfl, c0, c1, c2⟩ := (hd.keep R.s.bel) k hlt
        obtain ⟨ok0, ok1, ok2⟩ := HOK.out l[k] (List.getElem_mem hlt)
        have hsz7 := HF7.out l[k] (List.getElem_mem hlt)
        clear hd ok0 ok2
        generalize l[k].val = sv at *
        generalize l[k].k = dk at *
        generalize l[k].key = dy at *
        have HB0 := Hid_of (bel1 wr (.cells #[.int .i64 dk, .int .i64 dy, .string sv] 32))
        obtain ⟨W1, HW1⟩ : ∃ W1, Hid (wr.alloc (.cells #[.int .i64 dk, .int .i64 dy, .string sv] 32) = W1) := ⟨_, rfl⟩
        have HX : Hid (BX w1 W1 c m n lm L p p u6 k wr.heap.size dk dy sv) := by
          rw [← HW1.out]
          refine ⟨R.keep HB0.out, heap_alloc_last wr _, ⟨by have := R.s.ci.lt; omega, by have := R.s.ci.mi.lt; omega, fun e => by have := R.s.ci.lk.lt _ e; omega⟩, fun e => ?_⟩
          have := (R.own.lt e).2
          omega
        obtain ⟨av, cv, rfl⟩ := R.own.slice
        clear R HB0
        obtain ⟨q, hq⟩ : ∃ q, wr.heap.size = q := ⟨_, rfl⟩
        rw [hq] at HX
        obtain ⟨q0, q1, q2⟩ := row3 HX.out.box
        have hpl : p.length ≤ 1000000 := by have := HX.out.r.plen; omega
        have HAV : Hid (AtI W1 av p) := by
          obtain ⟨a', c', hv, hat, _⟩ := HX.out.r.own.at
          cases hv
          exact hat
        -- the tail: the bytes
        have HTL : Hid (∀ W n' L' p' v', BX w1 W c m n' lm L' p' p' v' (k + 1) q dk dy sv → Calls Try.prog 22 #[.pointer (some ⟨c, 0, none⟩)] W fun e w' => ∃ nb : Nat, e = .returned (.int .i64 nb) ∧ decide (lm < (nb : Int)) = false ∧ w' = W) := by
          intro W n' L' p' v' X
          refine (bytes_any c m n' lm L' W X.r.s.ci).mono ?_
          rintro e w' ⟨rfl, rfl⟩
          have := X.r.s.ci.g.le
          exact ⟨_, rfl, by simp; omega, rfl⟩
        by_cases hk0 : dk = 0
        · subst hk0
          have hwo := lwithout_any av cv p dy W1 hpl HAV.out
          go_wp2_with fail
          rw [HW1.out]
          refine hwo.mono ?_
          rintro x w3 ⟨v3, rfl, o3, b3⟩
          have HX3 := Hid_of (HX.out.row o3 b3 (List.length_filter_le _ _))
          have HP3 : Hid (∀ j ∈ p.filter (fun j => j != dy), ∃ e ∈ ks L, e.key = j ∧ e.pin = true) := fun j hj => HX.out.r.pins j (List.mem_filter.1 hj).1
          have hfl : (p.filter (fun j => j != dy)).length ≤ 1000000 := Nat.le_trans (List.length_filter_le _ _) hpl
          obtain ⟨a3, c3, rfl, _, _, _⟩ := o3.at
          have hput := put_any c m n lm L dy sv w3 HX3.out.r.s.ci (by have := HX3.out.r.len; omega) (by have := HX3.out.r.n; unfold maxLen; omega) ok1 (by unfold maxLen; omega)
          obtain ⟨r0, r1, r2⟩ := row3 HX3.out.box
          clear hwo HX o3 b3 HW1 q0 q1 q2 HAV
          go_wp2_with fail
          refine hput.mono ?_
          rintro x w4 ⟨u4, L4, n4, rfl, I4, hn4, e4, o4, F4, ap4⟩
          have hpl4 := M.put_len lm (ks L) dy sv
          have HX4 : Hid (BX w1 w4 c m n4 lm L4 (p.filter (fun j => j != dy)) (p.filter (fun j => j != dy)) (.slice a3 (p.filter (fun j => j != dy)).length c3) (k + 1) q 0 dy sv) := by
            refine HX3.out.step I4 F4 (Nat.le_succ k) (by have := HX3.out.r.n; omega) ?_ (fun j hj => ?_)
            · have h1 := ks_len e4
              have h3 := HX3.out.r.len
              rw [ks_length] at hpl4
              omega
            · obtain ⟨hj1, hj2⟩ := List.mem_filter.1 hj
              obtain ⟨e, he, h1, h2⟩ := HP3.out j hj
              exact ⟨e, by rw [e4]; exact M.put_stay HX3.out.r.s.ci.g dy sv e he h2 (by rw [h1]; simpa using hj2), h1, h2⟩
          have HGN : Hid (∀ j ∈ (M.put lm (ks L) dy sv).2, j ≠ dy ∧ ∀ i ∈ p.filter (fun j => j != dy), i ≠ j) := by
            intro j hj
            obtain ⟨h1, e, he, h2, h3⟩ := M.put_gone HX3.out.r.s.ci.g dy sv j hj
            refine ⟨h1, fun i hi hij => ?_⟩
            obtain ⟨e', he', h4, h5⟩ := HP3.out i hi
            have := HX3.out.r.s.ci.g.uniq he he' (by rw [h2, h4, hij])
            rw [this, h5] at h3
            cases h3
          have hol : (M.put lm (ks L) dy sv).2.length ≤ 1000000 := by
            have h3 := HX3.out.r.len
            have h2 := hpl4.2
            rw [ks_length] at h2
            omega
          obtain ⟨a4, c4, rfl, at4, _, _⟩ := o4.at
          have HA4 := Hid_of at4
          clear hput HX3 HP3 I4 F4 ap4 o4 e4 at4 r0 r1 r2 hpl4
          generalize (M.put lm (ks L) dy sv).2 = out at *
          generalize hfp : p.filter (fun j => j != dy) = fp at *
          clear hfp
          have hin := fun W j hW hj => in_no a3 c3 fp j W hfl hW hj
          go_wp2
          go_loopw [10] (fun i wr => ∃ j : Nat, j ≤ out.length ∧ i = .int .i64 j ∧ BX w1 wr c m n4 lm L4 fp fp (.slice a3 fp.length c3) (k + 1) q 0 dy sv ∧ AtI wr a4 out) (fun i _ => out.length - (intOf i).toNat)
          case atStart => exact ⟨0, by omega, rfl, HX4.out, HA4.out⟩
          case round =>
            obtain ⟨j, hj, rfl, X, A⟩ := hrel
            clear HX4 HA4
            by_cases hjl : j < out.length
            · obtain ⟨b1, o1, rfl, c1'⟩ := A j hjl
              obtain ⟨g1, g2⟩ := HGN.out out[j] (List.getElem_mem hjl)
              have HFP : Hid (AtI wr a3 fp) := by
                obtain ⟨a', c', hv, hat, _⟩ := X.r.own.at
                cases hv
                exact hat
              have hin2 : ∀ i, Calls Try.prog 25 #[.slice a3 fp.length c3, .int .i64 out[j]] (wr.drewN i) fun e w' => e = .returned (.bool false) ∧ w' = wr.drewN i := fun i => hin _ _ (HFP.out.keepBut fun _ _ _ => rfl) g2
              have hne : (out[j] == dy) = false := by simpa using g1
              obtain ⟨t0, t1, t2⟩ := row3 X.box
              have HXN : Hid (∀ i, BX w1 (wr.drewN i) c m n4 lm L4 fp fp (.slice a3 fp.length c3) (k + 1) q 0 dy sv) := fun i => X.keep (below_drewN (Below.refl _ _) i)
              have HAN : Hid (∀ i, AtI (wr.drewN i) (some ⟨b1, o1, none⟩) out) := fun i => A.keepBut fun _ _ _ => rfl
              clear X A hin HGN HFP g1 g2
              generalize out[j] = oj at *
              go_wp2_with fail
              go_quiet ((go_at_call 25; refine Calls.quiet_of_same (hin2 _)))
              go_wp2
              go_roundw
              case rel => exact ⟨j + 1, by omega, by go_num, HXN.out _, HAN.out _⟩
              case measure => simp [intOf]; omega
            · have HX5 := Hid_of X
              have hby := HTL.out wr _ _ _ _ HX5.out
              clear X A hin HGN HTL
              go_wp2_with fail
              refine hby.mono ?_
              rintro x w5 ⟨nb, rfl, hnb, rfl⟩
              clear hby
              go_wp2
              go_roundw
              case rel => exact ⟨k + 1, n4, L4, _, by omega, by go_num, HX5.out.r⟩
              case measure => simp [intOf]; omega
        · have e0 : (dk == 0) = false := by simpa using hk0
          by_cases hk23 : dk = 2 ∨ dk = 3
          · have hpn := pin_any c m n lm L dy (dk == 2) W1 HX.out.r.s.ci ok1
            have HPN : Hid (∀ x W, DrOut W1 c m n lm L (M.pnd (ks L) dy (dk == 2)) (.bool (M.has (ks L) dy)) x W → x = .returned (.bool (M.has (ks L) dy)) ∧ ∃ L', ks L' = M.pnd (ks L) dy (dk == 2) ∧ (M.has (ks L) dy = false → BX w1 W c m n lm L' p p (.slice av p.length cv) (k + 1) q dk dy sv) ∧ BX w1 W c m n lm L' p (p.filter (fun j => j != dy)) (.slice av p.length cv) k q dk dy sv) := by
              rintro x W ⟨rfl, L', I', e', F'⟩
              have hlen : L'.length ≤ k := by
                have h1 := ks_len e'
                have h2 := M.pnd_len (ks L) dy (dk == 2)
                have h3 := HX.out.r.len
                rw [ks_length] at h2
                omega
              refine ⟨rfl, L', e', fun hno => ?_, ?_⟩
              · refine HX.out.step I' F' (Nat.le_succ k) (Nat.le_succ_of_le HX.out.r.n) (Nat.le_succ_of_le hlen) (fun j hj => ?_)
                rw [e', M.pnd_no _ _ _ (M.has_false hno)]
                exact HX.out.r.pins j hj
              · refine HX.out.step I' F' (Nat.le_refl k) HX.out.r.n hlen (fun j hj => ?_)
                obtain ⟨hj1, hj2⟩ := List.mem_filter.1 hj
                obtain ⟨e, he, h1, h2⟩ := HX.out.r.pins j hj1
                exact ⟨e, by rw [e']; exact M.pnd_other he (by rw [h1]; simpa using hj2), h1, h2⟩
            have HFIN : Hid (M.has (ks L) dy = true → ∀ L', ks L' = M.pnd (ks L) dy (dk == 2) → (dk == 2) = true → ∃ e ∈ ks L', e.key = dy ∧ e.pin = true) := fun h L' e' h2 => by
              rw [e', h2]
              exact M.pnd_mem h
            have h23 : ((dk == 2) = true) ∨ ((dk == 2) = false ∧ (dk == 3) = true) := by
              rcases hk23 with rfl | rfl
              · exact .inl rfl
              · exact .inr ⟨rfl, rfl⟩
            clear hk0 hk23 HX HAV
            generalize hhas : M.has (ks L) dy = hs at *
            clear hhas
            rcases h23 with e2 | ⟨e2, e3⟩
            · rw [e2] at hpn HPN HFIN
              go_wp2_with fail
              rw [HW1.out]
              refine hpn.mono ?_
              rintro x w3 hx3
              obtain ⟨rfl, L3, e3, h3n, h3y⟩ := HPN.out x w3 hx3
              clear hpn HPN hx3 HW1 q0 q1 q2
              cases hs with
              | false =>
                have HX3 := Hid_of (h3n rfl)
                have hby := HTL.out w3 _ _ _ _ HX3.out
                clear h3n h3y HTL HFIN
                go_wp2_with fail
                refine hby.mono ?_
                rintro x w5 ⟨nb, rfl, hnb, rfl⟩
                clear hby
                go_wp2
                go_roundw
                case rel => exact ⟨k + 1, n, L3, _, by omega, by go_num, HX3.out.r⟩
                case measure => simp [intOf]; omega
              | true =>
                have HX3 := Hid_of h3y
                have HPI := Hid_of (HFIN.out (by first | rfl | trivial) L3 e3 (by first | rfl | trivial))
                obtain ⟨r0, r1, r2⟩ := row3 HX3.out.box
                have hwo : Calls Try.prog 24 #[.slice av p.length cv, .int .i64 dy] w3 (KyOut w3 (p.filter (fun j => j != dy))) := by
                  obtain ⟨a', c', hv, hat, _⟩ := HX3.out.r.own.at
                  cases hv
                  exact lwithout_any _ _ p dy w3 hpl hat
                clear h3n h3y HFIN e3
                go_wp2_with fail
                refine hwo.mono ?_
                rintro x w4 ⟨v4, rfl, o4, b4⟩
                have HX4 := Hid_of (HX3.out.row o4 b4 (List.length_filter_le _ _))
                have hfl : (p.filter (fun j => j != dy)).length ≤ 1000000 := Nat.le_trans (List.length_filter_le _ _) hpl
                obtain ⟨s0, s1', s2'⟩ := row3 HX4.out.box
                obtain ⟨a4, c4, rfl, _, _, _⟩ := o4.at
                have HO4 : Hid (w4.ownsRow w1.heap.size 3 1 (.slice a4 (p.filter (fun j => j != dy)).length c4) (p.filter (fun j => j != dy)).length ((p.filter (fun j => j != dy)).map (Value.int .i64))) := HX4.out.r.own
                have hsz4 := HX4.out.r.s.bel.size
                clear hwo HX3 o4 b4 r0 r1 r2
                generalize hfp : p.filter (fun j => j != dy) = fp at *
                clear hfp
                go_wp2_with (first | (at_builtin; refine wpList_append_lies _ rfl _ _ 33 rfl w1.heap.size 3 Try.t3 _ 1 8 Try.underlying33 hi3 hz3 hs3 hb3 rfl (by decide) _ _ _ rfl (HO4.out.alloc _) ⟨w4.heap.size, 0, none⟩ 1 1 [.int .i64 dy] rfl rfl (cell_one _ _ _ _ (heap_alloc_last _ _)) (by simp; rfl) (by decide) (by unfold maxLen; omega) (by omega) (by simp; omega) _ rfl ?_; intro g3 cp w5 hown5 hgrow hat hlt5; have hrw := rw_lies (v := .slice a4 fp.length c4) (n := fp.length + 1) (cp := cp) hgrow hat rfl; have HX5 : Hid (BX w1 w5 c m n lm L3 (fp ++ [dy]) (fp ++ [dy]) (.slice (some ⟨g3, 0, none⟩) (fp.length + 1) cp) (k + 1) q dk dy sv) := (HX4.out.keep (bel1 w4 _)).app (by unfold OwnI; rw [List.map_append, List.length_append, List.length_singleton]; exact hown5) hrw HPI.out; have hby := HTL.out w5 _ _ _ _ HX5.out; clear hrw hgrow hat) | fail)
                refine hby.mono ?_
                rintro x w6 ⟨nb, rfl, hnb, rfl⟩
                clear hby
                go_wp2
                go_roundw
                case rel => exact ⟨k + 1, n, L3, _, by omega, by go_num, HX5.out.r⟩
                case measure => simp [intOf]; omega
            · rw [e2] at hpn HPN
              clear HFIN
              go_wp2_with fail
              rw [HW1.out]
              refine hpn.mono ?_
              rintro x w3 hx3
              obtain ⟨rfl, L3, e3', h3n, h3y⟩ := HPN.out x w3 hx3
              clear hpn HPN hx3 HW1 q0 q1 q2 e3'
              cases hs with
              | false =>
                have HX3 := Hid_of (h3n rfl)
                have hby := HTL.out w3 _ _ _ _ HX3.out
                clear h3n h3y HTL
                go_wp2_with fail
                refine hby.mono ?_
                rintro x w5 ⟨nb, rfl, hnb, rfl⟩
                clear hby
                go_wp2
                go_roundw
                case rel => exact ⟨k + 1, n, L3, _, by omega, by go_num, HX3.out.r⟩
                case measure => simp [intOf]; omega
              | true =>
                have HX3 := Hid_of h3y
                obtain ⟨r0, r1, r2⟩ := row3 HX3.out.box
                have hwo : Calls Try.prog 24 #[.slice av p.length cv, .int .i64 dy] w3 (KyOut w3 (p.filter (fun j => j != dy))) := by
                  obtain ⟨a', c', hv, hat, _⟩ := HX3.out.r.own.at
                  cases hv
                  exact lwithout_any _ _ p dy w3 hpl hat
                clear h3n h3y
                go_wp2_with fail
                refine hwo.mono ?_
                rintro x w4 ⟨v4, rfl, o4, b4⟩
                have HX4 := Hid_of ((HX3.out.row o4 b4 (List.length_filter_le _ _)).up (Nat.le_succ k))
                obtain ⟨s0, s1', s2'⟩ := row3 HX4.out.box
                obtain ⟨a4, c4, rfl, _, _, _⟩ := o4.at
                have hby := HTL.out w4 _ _ _ _ HX4.out
                clear hwo HX3 o4 b4 r0 r1 r2 HTL
                go_wp2_with fail
                refine hby.mono ?_
                rintro x w5 ⟨nb, rfl, hnb, rfl⟩
                clear hby
                go_wp2
                go_roundw
                case rel => exact ⟨k + 1, n, L3, _, by omega, by go_num, HX4.out.r⟩
                case measure => simp [intOf]; omega
          · have e2 : (dk == 2) = false := by simp; omega
            have e3 : (dk == 3) = false := by simp; omega
            by_cases hk4 : dk = 4
            · subst hk4
              have hwo := lwithout_any av cv p dy W1 hpl HAV.out
              clear hk0 hk23
              go_wp2_with fail
              rw [HW1.out]
              refine hwo.mono ?_
              rintro x w3 ⟨v3, rfl, o3, b3⟩
              have HX3 := Hid_of (HX.out.row o3 b3 (List.length_filter_le _ _))
              obtain ⟨a3, c3, rfl, _, _, _⟩ := o3.at
              have hdr := drop_any c m n lm L dy w3 HX3.out.r.s.ci ok1
              obtain ⟨r0, r1, r2⟩ := row3 HX3.out.box
              clear hwo HX o3 b3 HW1 q0 q1 q2 HAV
              go_wp2_with fail
              refine hdr.mono ?_
              rintro x w4 ⟨rfl, L4, I4, e4, F4⟩
              have HX4 : Hid (BX w1 w4 c m n lm L4 (p.filter (fun j => j != dy)) (p.filter (fun j => j != dy)) (.slice a3 (p.filter (fun j => j != dy)).length c3) (k + 1) q 4 dy sv) := by
                refine HX3.out.step I4 F4 (Nat.le_succ k) (Nat.le_succ_of_le HX3.out.r.n) ?_ (fun j hj => ?_)
                · have h1 := ks_len e4
                  have h2 := M.drp_len (ks L) dy
                  have h3 := HX3.out.r.len
                  rw [ks_length] at h2
                  omega
                · obtain ⟨hj1, hj2⟩ := List.mem_filter.1 hj
                  obtain ⟨e, he, h1, h2⟩ := HX3.out.r.pins j hj1
                  exact ⟨e, by rw [e4]; exact M.drp_mem he (by rw [h1]; simpa using hj2), h1, h2⟩
              have hby := HTL.out w4 _ _ _ _ HX4.out
              clear hdr HX3 I4 F4 e4 HTL r0 r1 r2
              go_wp2_with fail
              refine hby.mono ?_
              rintro x w5 ⟨nb, rfl, hnb, rfl⟩
              clear hby
              go_wp2
              go_roundw
              case rel => exact ⟨k + 1, n, L4, _, by omega, by go_num, HX4.out.r⟩
              case measure => simp [intOf]; omega
            · have e4 : (dk == 4) = false := by simpa using hk4
              have HX1 := Hid_of (HX.out.up (Nat.le_succ k))
              have hby := HTL.out W1 _ _ _ _ HX1.out
              clear HTL HX hk0 hk23 hk4
              go_wp2_with fail
              rw [HW1.out]
              refine hby.mono ?_
              rintro x w3 ⟨nb, rfl, hnb, rfl⟩
              clear hby HW1
              go_wp2
              go_roundw
              case rel => exact ⟨k + 1, n, L, p, by omega, by go_num, HX1.out.r⟩
              case measure => simp [intOf]; omega
      · have HB := Hid_of R.s.bel
        clear R hd
        go_wp2_with fail
        refine (awake_any _).mono ?_
        rintro x w3 ⟨rfl, b3⟩
        have HB3 := Hid_of (bel_up HB.out b3 (Nat.le_refl _))
        clear b3 HB
        go_wp2
        go_ret
        exact ⟨rfl, HB3.out⟩
end Go.Proofs.Ytpfmdchmgaaakaa
