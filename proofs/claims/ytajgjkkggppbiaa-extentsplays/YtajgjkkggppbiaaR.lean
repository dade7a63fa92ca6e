/-
  A file's calls: Look, All.
-/
import Derived.Test.YtajgjkkggppbiaaQ
namespace Go.Proofs.Ytajgjkkggppbiaa
open Go.RowKit
set_option linter.unusedVariables false
open M (E)

theorem Own.low {w : World} {base base' : Nat} {v : Value} {l : List E} (h : Own w base v l) (hb : base' ≤ base) : Own w base' v l := by
  refine ⟨h.1, ?_⟩
  rcases h.2 with h' | ⟨g, cap, cur, hv, hg, rest⟩
  · exact .inl h'
  · exact .inr ⟨g, cap, cur, hv, Nat.le_trans hb hg, rest⟩
/-- What Look returns: pieces in new memory. -/
def LookOut (w : World) (F : Int → Option (Int × Int)) (x : Ending) (w' : World) : Prop := ∃ v' Q, x = .returned v' ∧ Own w' w.heap.size v' Q ∧ M.G Q ∧ (∀ i, M.rep Q i = F i) ∧ Below w.heap.size w w'
set_option maxRecDepth 100000 in
set_option maxHeartbeats 8000000 in
theorem look_any (base b : Nat) (v : Value) (P : List E) (at' n : Int) (w : World) (h : XI w base b v P) (ha : -9223372036854775808 ≤ at') (hn : n ≤ 9223372036854775807) :
    Calls Try.prog 17 #[.pointer (some ⟨b, 0, none⟩), .int .i64 at', .int .i64 n] w (LookOut w fun i => if wlo at' 16384 ≤ i ∧ i < whi at' n 16384 then M.rep P i else none) := by
  obtain ⟨a, cap, hv, hat, hbk, hcap⟩ := owns_atE h.own
  have hw := within_any at' n 16384 w (by decide) ⟨by decide, by decide⟩ ha hn
  obtain ⟨h0, h1, h2⟩ := w_le at' n 16384 (by decide)
  have hG := h.g
  have hlen := h.len
  have c0 := h.c0
  rw [hv] at c0
  generalize wlo at' 16384 = lo at *
  generalize whi at' n 16384 = hi at *
  by_cases heq : lo = hi
  · have hdd : (lo == hi) = true := by simpa using heq
    have HK : Hid (LookOut w (fun i => if lo ≤ i ∧ i < hi then M.rep P i else none) (.returned (.slice none 0 0)) w) := ⟨_, [], rfl, World.ownsRow_nil _ _ _ _, M.G_nil, fun i => by show M.rep [] i = (if lo ≤ i ∧ i < hi then M.rep P i else none); rw [if_neg (by omega)]; rfl, Below.refl _ _⟩
    clear heq h hat hbk hcap hG
    go_enter Try.func17, Try.ntmps17
    go_wp2_with fail
    refine hw.mono ?_
    rintro x w1 ⟨rfl, rfl⟩
    go_wp2
    go_ret
    exact HK.out
  · have hdd : (lo == hi) = false := by simpa using heq
    have hlt : lo < hi := by omega
    have hsl : Sm lo := ⟨by omega, by omega⟩
    have hsh : Sm hi := ⟨by omega, by omega⟩
    have hw1 : IntKind.i64.wrap (lo + 1) = lo + 1 := by rw [IntKind.wrap_i64]; omega
    have s1 := search_ending a cap P (lo + 1) w hlen hat (sm_of_G hG) (mono_kE hG)
    have HX : Hid (∀ w', Below w.heap.size w w' → XI w' base b (.slice a P.length cap) P) := fun w' hb' => by rw [← hv]; exact h.keep hb'
    have HAT : Hid (∀ w', Below w.heap.size w w' → AtE w' a P) := fun w' hb' => hat.keep hb'
    clear ha hn
    go_enter Try.func17, Try.ntmps17
    go_wp2_with fail
    refine hw.mono ?_
    rintro x w1 ⟨rfl, rfl⟩
    go_wp2_with fail
    refine s1.mono ?_
    rintro x w2 h2'
    obtain ⟨r1, rfl, S1, B2⟩ := h2'
    have c2 := (HX.out w2 B2).c0
    have s2 := search_beginning a cap P hi w2 hlen (HAT.out w2 B2) (sm_of_G hG) (mono_kB hG)
    clear s1 hw
    go_wp2_with fail
    refine s2.mono ?_
    rintro x w3 h3'
    obtain ⟨r2, rfl, S2, B3'⟩ := h3'
    have B3 : Below w1.heap.size w1 w3 := bel_up B2 B3' (Nat.le_refl _)
    have X3 := HX.out w3 B3
    have c3 := X3.c0
    have hat3 := HAT.out w3 B3
    have hr12 : r1 ≤ r2 := srch_le hG S1 S2 (by omega)
    have hr2 := S2.le
    obtain ⟨near, hnear⟩ : ∃ near, near = mid P r1 r2 := ⟨_, rfl⟩
    have hnl : near.length = r2 - r1 := by rw [hnear]; exact mid_len P r1 r2 hr2
    have hcmx : cap ≤ 9223372036854775807 := by
      rcases X3.own.row with ⟨hq, _⟩ | ⟨g, cp, cur, hq, _, hr⟩
      · simp at hq; omega
      · simp at hq; have := hr.mx; unfold maxLen at this; omega
    have HF : Hid (∃ g, a = none ∧ P.length = 0 ∧ cap = 0 ∨ a = some ⟨g, 0, none⟩) := by
      rcases X3.own.row with ⟨hq, hp⟩ | ⟨g, cp, cur, hq, _, hr⟩
      · simp at hq; exact ⟨0, .inl ⟨hq.1, by rw [hp]; rfl, hq.2.2⟩⟩
      · simp at hq; exact ⟨g, .inr hq.1⟩
    have HLS : Hid _ := M.look_spec (A := P.take r1) (near := mid P r1 r2) (D := P.drop r2) (lo := lo) (hi := hi) (by rw [mid_parts P r1 r2 hr12]; exact hG) (fun p hp => by have := srch_take S1 p hp; unfold kE at this; omega) (fun p hp => by have := srch_mid S1 S2 p hp; unfold kE kB at this; omega) (fun p hp => srch_drop S2 p hp) hlt
    rw [mid_parts P r1 r2 hr12, ← hnear] at HLS
    have HOK : Hid (∀ p ∈ near, M.Ok p) := by
      intro p hp
      apply hG.1
      rw [← mid_parts P r1 r2 hr12, ← hnear]
      simp [hp]
    clear s2 B2 B3' c2
    go_upto_region 9 with fail
    go_cut [44, 45, 46] from 38 to 46 (fun s t z wx => wx = w3 ∧ z = .int .i64 0 ∧ ∃ a' cp, s = .slice a' near.length cp ∧ t = .int .i64 near.length ∧ AtE w3 a' near)
    case first =>
      obtain ⟨g, ⟨rfl, hp0, rfl⟩ | rfl⟩ := HF.out
      · have hr10 : r1 = 0 := by omega
        have hr20 : r2 = 0 := by omega
        have hn0 : near = [] := List.eq_nil_of_length_eq_zero (by omega)
        clear HF HX HAT hnear hnl S1 S2 hat3 X3 B3 hat hbk h hG hv HLS HOK
        subst hr10 hr20 hn0
        go_wp2_with fail
        go_meet
        case rel => exact ⟨rfl, rfl, none, 0, rfl, rfl, fun j h => by simp at h⟩
      · by_cases hc : cap = r1
        · have hn0 : near = [] := List.eq_nil_of_length_eq_zero (by omega)
          have hr1l : r2 = r1 := by omega
          clear HF HX HAT hnear hnl S1 S2 hat3 X3 B3 hat hbk h hG hv HLS HOK
          subst hn0 hr1l
          go_wp2_with fail
          go_meet
          case rel => exact ⟨rfl, rfl, _, _, rfl, rfl, fun j h => by simp at h⟩
        · have hm : AtE w3 (some ⟨g, r1 * 4, none⟩) near := by rw [hnear]; exact hat3.mid (cap := cap) r1 r2 hr2
          have HM : Hid _ := hm
          have HNL : Hid (near.length = r2 - r1) := hnl
          have hr2c : r2 ≤ cap := by omega
          have hii : ((r2 - r1 : Nat) : Int) = (r2 : Int) - r1 := by omega
          clear HF HX HAT hnear hnl S1 S2 hat3 X3 B3 hat hbk h hG hv hm HLS HOK
          go_wp2_with fail
          go_meet
          case rel => exact ⟨rfl, rfl, some ⟨g, r1 * 4, none⟩, _, by rw [HNL.out], by rw [HNL.out]; first | rfl | (rw [hii]), HM.out⟩
    case rest =>
      obtain ⟨rfl, rfl, a', cp', rfl, rfl, hatn⟩ := hcut
      have hnl2 : near.length ≤ 16384 := by omega
      have HAN : Hid (AtE wc a' near) := hatn
      have HB3 : Hid (Below w1.heap.size w1 wc) := B3
      clear hatn hnear hG S1 S2 X3 B3 h hv HF HX HAT hat hbk hat3 c3 hnl
      go_wp2
      go_loopw [11, 46] (fun x i wr => ∃ k : Nat, k ≤ near.length ∧ i = .int .i64 k ∧ Own wr wc.heap.size x ((near.take k).map (M.part · lo hi)) ∧ Below wc.heap.size wc wr) (fun x i _ => near.length - (intOf i).toNat)
      case atStart => exact ⟨0, by omega, rfl, World.ownsRow_nil _ _ _ _, Below.refl _ _⟩
      case round =>
        obtain ⟨k, hk, rfl, hown, hbel⟩ := hrel
        by_cases hltk : k < near.length
        · obtain ⟨bb, off, rfl, d0, d1, d2, d3⟩ := (HAN.out.keep hbel) k hltk
          have hok := HOK.out near[k] (List.getElem_mem hltk)
          have hsm := sm_of_ok hok
          have hpt := part_any near[k].a near[k].n near[k].d near[k].f lo hi (wr.alloc (.cells #[.int .i64 near[k].a, .int .i64 near[k].n, .int .i64 near[k].d, .int .i64 near[k].f] 32)) hsm.1 hsm.2.1 hsm.2.2 hsl hsh
          have HEQ : Hid (EV (M.part ⟨near[k].a, near[k].n, near[k].d, near[k].f⟩ lo hi) = .agg #[.int .i64 (M.part near[k] lo hi).a, .int .i64 (M.part near[k] lo hi).n, .int .i64 (M.part near[k] lo hi).d, .int .i64 (M.part near[k] lo hi).f]) := rfl
          rw [HEQ.out] at hpt
          have hsz := hbel.size
          obtain ⟨LL, hLL⟩ : ∃ LL, (near.take k).map (M.part · lo hi) = LL := ⟨_, rfl⟩
          have HLL : Hid ((near.take (k + 1)).map (M.part · lo hi) = LL ++ [M.part near[k] lo hi]) := by
            show _ = _
            rw [← hLL, List.take_succ_eq_append_getElem hltk, List.map_append]
            rfl
          have hLk : LL.length ≤ 16384 := by rw [← hLL]; simp; omega
          rw [hLL] at hown
          obtain ⟨ax, cx, rfl, _, _, _⟩ := owns_atE hown
          have HO : Hid (Own wr wc.heap.size (.slice ax LL.length cx) LL) := hown
          have HB : Hid (Below wc.heap.size wc wr) := hbel
          clear hok hsm HEQ hown hbel hLL
          generalize M.part near[k] lo hi = pt at *
          generalize near[k].a = pa at *
          generalize near[k].n = pn at *
          generalize near[k].d = pd at *
          generalize near[k].f = pf at *
          go_wp2_with fail
          refine hpt.mono ?_
          rintro x w4 ⟨rfl, hb4⟩
          have HO4 : Hid (w4.ownsRow wc.heap.size 32 4 (.slice ax LL.length cx) LL.length (EC LL)) := (HO.out.keep (bel1 wr _)).keep hb4
          have HB4 : Hid (Below wc.heap.size wc w4) := bel_up (bel_up HB.out (bel1 wr _) (Nat.le_refl _)) hb4 (Nat.le_refl _)
          have hsz4 := HB4.out.size
          clear hb4 hpt HO HB d0 d1 d2 d3
          go_wp2_with (at_builtin; refine wpList_append_lies _ rfl _ _ 40 rfl wc.heap.size 32 Try.t32 _ 4 32 Try.underlying40 hi32 hz32 hs32 hb32 rfl (by decide) _ _ _ rfl (HO4.out.alloc _) ⟨w4.heap.size, 0, none⟩ 1 1 [.int .i64 pt.a, .int .i64 pt.n, .int .i64 pt.d, .int .i64 pt.f] rfl rfl (cell_four _ _ _ _ _ _ _ (heap_alloc_last _ _)) (by simp; exact ⟨rfl, rfl, rfl, rfl⟩) (by decide) (by unfold maxLen; omega) (by omega) (by simp; omega) _ rfl ?_; intro g3 cp w5 hown5 hgrow hat5 hlt5)
          have hrw := rw_lies (v := .slice ax LL.length cx) (n := LL.length + 1) (cp := cp) hgrow hat5 rfl
          have HB5 : Hid (Below wc.heap.size wc w5) := by
            have b0 : Below wc.heap.size wc (w4.alloc (.cells #[.int .i64 pt.a, .int .i64 pt.n, .int .i64 pt.d, .int .i64 pt.f] 32)) := HB4.out.alloc hsz4 _
            exact b0.trans (hrw.below (fun k hk => (World.ownsRow.lt HO4.out k hk).1) (by simp; omega))
          clear hrw hgrow hat5 HB4 HO4
          go_roundw
          case rel =>
            refine ⟨k + 1, by omega, by go_num, ?_, HB5.out⟩
            rw [HLL.out]
            unfold Own
            rw [EC_app, List.length_append]
            exact hown5
          case measure => simp [intOf]; omega
        · have hkn : k = near.length := by omega
          subst hkn
          rw [List.take_length] at hown
          go_wp2
          go_ret
          refine ⟨_, _, rfl, hown.low HB3.out.size, HLS.out.1, HLS.out.2, ?_⟩
          exact HB3.out.trans (hbel.mono HB3.out.size)

set_option maxRecDepth 100000 in
set_option maxHeartbeats 1000000 in
theorem all_any (base b : Nat) (v : Value) (P : List E) (w : World) (h : XI w base b v P) :
    Calls Try.prog 15 #[.pointer (some ⟨b, 0, none⟩)] w fun x w' => ∃ v', x = .returned v' ∧ Own w' w.heap.size v' P ∧ Below w.heap.size w w' := by
  have hl := look_any base b v P 0 16384 w h (by decide) (by decide)
  have HP : Hid (∀ x w', LookOut w (fun i => if wlo 0 16384 ≤ i ∧ i < whi 0 16384 16384 then M.rep P i else none) x w' → ∃ v', x = .returned v' ∧ Own w' w.heap.size v' P ∧ Below w.heap.size w w') := by
    rintro x w' ⟨v', Q, h1, h2, h3, h4, h5⟩
    have e : Q = P := M.uniq h3 h.g fun i => by
      rw [h4]
      show (if wlo 0 16384 ≤ i ∧ i < whi 0 16384 16384 then M.rep P i else none) = _
      rw [show wlo 0 16384 = 0 from rfl, show whi 0 16384 16384 = 16384 from rfl]
      by_cases hi : 0 ≤ i ∧ i < 16384
      · rw [if_pos hi]
      · rw [if_neg hi, M.rep_out h.g i (by omega)]
    subst e
    exact ⟨v', h1, h2, h5⟩
  go_enter Try.func15, Try.ntmps15
  go_wp2_with fail
  refine hl.mono ?_
  rintro x w1 hx
  obtain ⟨v', rfl, o1, b1⟩ := HP.out x w1 hx
  have HK : Hid (∃ v'', Ending.returned v' = .returned v'' ∧ Own w1 w.heap.size v'' P ∧ Below w.heap.size w w1) := ⟨v', rfl, o1, b1⟩
  clear hl HP hx o1 b1
  go_wp2
  go_ret
  exact HK.out
end Go.Proofs.Ytajgjkkggppbiaa
