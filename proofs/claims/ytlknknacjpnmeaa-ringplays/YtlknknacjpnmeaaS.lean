/-
  The document's bounded row: a text goes in; the first go.
-/
import Derived.Test.YtlknknacjpnmeaaR
import Derived.Deep.CutRange
namespace Go.Proofs.Ytlknknacjpnmeaa
open Go.RowKit
set_option linter.unusedVariables false

set_option maxRecDepth 100000 in
set_option maxHeartbeats 1000000 in
theorem rput_no (mo : Int) (a : Option Addr) (cap : Nat) (l : List ByteArray) (s : ByteArray) (w : World) (hss : s.size ≤ maxLen) (hl : l.length ≤ 1000) (hx : XT w a cap l) (hno : M.ok mo l s = false) :
    Calls Try.prog 11 #[.agg #[.int .i64 mo, .slice a l.length cap], .string s] w (DpR w mo a cap l l (.bool false)) := by
  obtain ⟨W1, HW1, B1, hs1, hfr⟩ := hx.boxed mo
  obtain ⟨h0, h1, _, _⟩ := hfr W1 (Below.refl _ _)
  obtain ⟨⟨c0, c1⟩, cf⟩ := row2 h0
  obtain ⟨⟨e0, e1⟩, ef⟩ := row2 h1
  have ef0 := ef 0
  have ef1 := ef 1
  obtain ⟨q1, q2, _⟩ := laid2 (v0 := .int .i64 mo) (v1 := .slice a l.length cap) h1 B1 (by omega)
  have HQ1 := Hid_of q1
  have HK : Hid (DpR w mo a cap l l (.bool false) (.returned (.tuple #[.agg #[.int .i64 mo, .slice a l.length cap], .bool false])) ((W1.setCell ⟨w.heap.size + 1, 0, none⟩ (.int .i64 mo)).setCell ⟨w.heap.size + 1, 1, none⟩ (.slice a l.length cap))) := ⟨_, rfl, .inl ⟨rfl, rfl⟩, q2⟩
  obtain ⟨ho, _⟩ := M.ok_no hno
  unfold maxLen at hss
  clear hfr hx B1 cf ef h0 h1 q1 q2 hno
  by_cases hfull : mo ≤ (l.length : Int)
  · have hd : decide (mo ≤ (l.length : Int)) = true := by simpa using hfull
    clear ho
    go_enter Try.func11, Try.ntmps11
    go_upto_region 1 with fail
    rw [HW1.out]
    clear HW1
    go_wp2
    refine bodyPost_ret (v := .tuple #[.agg #[.int .i64 mo, .slice a l.length cap], .bool false]) ?_ rfl HK.out
    exact res_cell_tmp f11_res _ _ (w.heap.size + 1) _ _ rfl HQ1.out
  · have hd : decide (mo ≤ (l.length : Int)) = false := by simpa using hfull
    have hsz : 65536 < s.size := by omega
    clear ho
    go_enter Try.func11, Try.ntmps11
    go_upto_region 1 with fail
    rw [HW1.out]
    clear HW1
    go_wp2
    refine bodyPost_ret (v := .tuple #[.agg #[.int .i64 mo, .slice a l.length cap], .bool false]) ?_ rfl HK.out
    exact res_cell_tmp f11_res _ _ (w.heap.size + 1) _ _ rfl HQ1.out
set_option maxRecDepth 100000 in
set_option maxHeartbeats 1000000 in
theorem rput_yes (mo : Int) (a : Option Addr) (cap : Nat) (l : List ByteArray) (s : ByteArray) (w : World) (hl : l.length ≤ 1000) (hx : XT w a cap l) (hok : M.ok mo l s = true) :
    Calls Try.prog 11 #[.agg #[.int .i64 mo, .slice a l.length cap], .string s] w (DpR w mo a cap l (l ++ [s]) (.bool true)) := by
  obtain ⟨W1, HW1, B1, hs1, hfr⟩ := hx.boxed mo
  obtain ⟨h0, h1, hX1, _⟩ := hfr W1 (Below.refl _ _)
  obtain ⟨⟨c0, c1⟩, cf⟩ := row2 h0
  obtain ⟨hlt, hsz, _⟩ := M.ok_yes hok
  have hd : decide (mo ≤ (l.length : Int)) = false := by simpa using hlt
  obtain ⟨a2, cp2, w2, hrun1, o2, B2⟩ := run_copy W1 a cap l hX1.at' (by omega)
  have hszw : W1.heap.size ≤ (w2.alloc (.cells #[.string s] 9)).heap.size := by have := B2.size; simp; omega
  obtain ⟨g3, cp3, w3, hrun2, o3, rw3⟩ := (o2.keep (bel1 w2 (.cells #[.string s] 9))).tl.app s ⟨w2.heap.size, 0, none⟩ 1 (cell_one _ w2.heap.size (.string s) 9 (heap_alloc_last w2 _)) (by omega) hszw 0
  have B3 : Below W1.heap.size W1 w3 := (B2.alloc B2.size _).trans (rw3.below (fun k hk => (o2.lt hk).1) hszw)
  obtain ⟨r0, r1, _, rB⟩ := hfr w3 B3
  obtain ⟨W4, HW4, p0, p1, p2, p3⟩ := stored (r := .bool true) hs1 r0 r1 o3 rB
  obtain ⟨⟨d0, d1⟩, df⟩ := row2 r0
  have df1 := df 1
  obtain ⟨⟨e0, e1⟩, _⟩ := row2 p0
  obtain ⟨⟨f0, f1⟩, ff⟩ := row2 p1
  have ff0 := ff 0
  have ff1 := ff 1
  have HP2 := Hid_of p2
  have HK := Hid_of p3
  have hrunA : ∀ ty, (Builtin.append_ #[27, 27] ty #[.slice a2 l.length cp2, .slice (some ⟨w2.heap.size, 0, none⟩) 1 1]).run Try.prog (w2.alloc (.cells #[.string s] 9)) = .ok (.slice (some ⟨g3, 0, none⟩) (l.length + 1) cp3) w3 := fun _ => hrun2
  clear hfr hx hX1 h0 h1 cf hok B1 o2 B2 o3 rw3 B3 r0 r1 rB p0 p1 p2 p3 df ff hrun2 hszw hlt
  generalize l ++ [s] = ls at *
  go_enter Try.func11, Try.ntmps11
  go_upto_region 1 with fail
  rw [HW1.out]
  clear HW1
  go_upto_region 4 with (first
    | (at_builtin; refine wpList_append_known rfl (.const (.slice none 0 0)) (.tmp 19) 27 rfl _ _ (by simp [Act.eval]) (by simp [Act.eval]) _ _ (hrun1 _) ?_)
    | (at_builtin; refine wpList_append_known rfl (.tmp 20) (.tmp 22) 27 rfl _ _ (by simp [Act.eval]) (by simp [Act.eval]) _ _ (hrunA _) ?_))
  rw [HW4.out]
  clear HW4 c0 c1 d0 d1 df1 hrun1 hrunA
  go_wp2
  refine bodyPost_ret (v := .tuple #[.agg #[.int .i64 mo, .slice (some ⟨g3, 0, none⟩) (l.length + 1) cp3], .bool true]) ?_ rfl HK.out
  exact res_cell_tmp f11_res _ _ (w.heap.size + 1) _ _ rfl HP2.out
theorem rput_any (mo : Int) (a : Option Addr) (cap : Nat) (l : List ByteArray) (s : ByteArray) (w : World) (hss : s.size ≤ maxLen) (hl : l.length ≤ 1000) (hx : XT w a cap l) :
    Calls Try.prog 11 #[.agg #[.int .i64 mo, .slice a l.length cap], .string s] w (DpR w mo a cap l (M.put mo l s) (.bool (M.ok mo l s))) := by
  cases hok : M.ok mo l s with
  | false => rw [(M.ok_no hok).2]; exact rput_no mo a cap l s w hss hl hx hok
  | true => rw [(M.ok_yes hok).2.2]; exact rput_yes mo a cap l s w hl hx hok
set_option maxRecDepth 100000 in
set_option maxHeartbeats 1000000 in
theorem rdrop_any (mo : Int) (a : Option Addr) (cap : Nat) (l : List ByteArray) (n : Int) (w : World) (hl : l.length ≤ 1000) (hx : XT w a cap l) :
    Calls Try.prog 14 #[.agg #[.int .i64 mo, .slice a l.length cap], .int .i64 n] w (DpR w mo a cap l (l.drop (M.cut l n)) (.int .i64 (M.cut l n))) := by
  obtain ⟨W1, HW1, B1, hs1, hfr⟩ := hx.boxed mo
  obtain ⟨h0, h1, hX1, _⟩ := hfr W1 (Below.refl _ _)
  obtain ⟨⟨c0, c1⟩, cf⟩ := row2 h0
  have hce := M.cut_eq l n
  have hcl := M.cut_le l n
  obtain ⟨mx, hmx⟩ : ∃ x, max n 0 = x := ⟨_, rfl⟩
  rw [hmx] at hce
  generalize M.cut l n = k at *
  have hle := hx.le
  have hmx' : cap ≤ 9223372036854775807 := by have := hx.mx; unfold maxLen at this; omega
  -- the source, wherever it lies
  have hsrc : ∃ a1, (cap = k → a1 = a) ∧ (¬ cap = k → a1 = a.map (·.add k)) ∧ AtT W1 a1 (l.drop k) := by
    by_cases hc : cap = k
    · have : l.drop k = [] := List.drop_of_length_le (by omega)
      exact ⟨a, fun _ => rfl, fun h => absurd hc h, by rw [this]; exact AtT.nil _ _⟩
    · cases a with
      | none => exact absurd (hx.nil rfl) (by have := hx.nil rfl; omega)
      | some ad =>
        obtain ⟨b, off, sp⟩ := ad
        have hsp := hx.pl _ rfl
        simp only at hsp
        subst hsp
        refine ⟨some ⟨b, off + k, none⟩, fun h => absurd h hc, fun _ => by simp [Addr.add], hX1.at'.drop k⟩
  obtain ⟨a1, ha1, ha2, hat1⟩ := hsrc
  have hld : (l.drop k).length = l.length - k := by simp
  obtain ⟨a2, cp2, w2, hrun1, o2, B2⟩ := run_copy W1 a1 (cap - k) (l.drop k) hat1 (by omega)
  obtain ⟨r0, r1, _, rB⟩ := hfr w2 B2
  obtain ⟨W4, HW4, p0, p1, p2, p3⟩ := stored (r := .int .i64 (k : Int)) hs1 r0 r1 o2 rB
  obtain ⟨⟨d0, d1⟩, df⟩ := row2 r0
  have df1 := df 1
  obtain ⟨⟨e0, e1⟩, _⟩ := row2 p0
  obtain ⟨⟨f0, f1⟩, ff⟩ := row2 p1
  have ff0 := ff 0
  have ff1 := ff 1
  have HP2 := Hid_of p2
  have HK := Hid_of p3
  have hkc : k ≤ cap := by omega
  have hki : (k : Int) ≤ (l.length : Int) := by omega
  clear hfr hX1 h0 h1 cf B1 o2 B2 r0 r1 rB p0 p1 p2 p3 df ff hat1
  rw [hld] at hrun1 HW4 HP2 HK e1
  generalize l.drop k = ld at *
  generalize hll : l.length = ll at *
  clear hld hll
  by_cases hc : cap = k
  · obtain rfl := ha1 hc
    subst hc
    obtain rfl : ll = cap := by omega
    simp only [Nat.sub_self] at hrun1 HW4 HP2 HK e1
    clear hx ha1 ha2
    go_enter Try.func14, Try.ntmps14
    go_upto_region 1 with fail
    rw [HW1.out]
    clear HW1
    go_upto_region 3 with (at_builtin; refine wpList_append_known rfl (.const (.slice none 0 0)) (.tmp 15) 27 rfl _ _ (by simp [Act.eval]) (by simp [Act.eval]) _ _ (hrun1 _) ?_)
    rw [HW4.out]
    clear HW4 c0 c1 d0 d1 df1 hrun1
    go_wp2
    refine bodyPost_ret (v := .tuple #[.agg #[.int .i64 mo, .slice a2 0 cp2], .int .i64 ll]) ?_ rfl HK.out
    exact res_cell_tmp f14_res _ _ (w.heap.size + 1) _ _ rfl HP2.out
  · obtain ⟨b, off, rfl⟩ : ∃ b off, a = some ⟨b, off, none⟩ := by
      cases a with
      | none => exact absurd (hx.nil rfl) (by omega)
      | some ad =>
        obtain ⟨b, off, sp⟩ := ad
        have hsp := hx.pl _ rfl
        simp only at hsp
        subst hsp
        exact ⟨b, off, rfl⟩
    obtain rfl : a1 = some ⟨b, off + k, none⟩ := by rw [ha2 hc]; simp [Addr.add]
    clear hx ha1 ha2
    go_enter Try.func14, Try.ntmps14
    go_upto_region 1 with fail
    rw [HW1.out]
    clear HW1
    go_upto_region 3 with (at_builtin; refine wpList_append_known rfl (.const (.slice none 0 0)) (.tmp 15) 27 rfl _ _ (by simp [Act.eval]) (by simp [Act.eval]) _ _ (hrun1 _) ?_)
    rw [HW4.out]
    clear HW4 c0 c1 d0 d1 df1 hrun1
    go_wp2
    refine bodyPost_ret (v := .tuple #[.agg #[.int .i64 mo, .slice a2 (ll - k) cp2], .int .i64 k]) ?_ rfl HK.out
    exact res_cell_tmp f14_res _ _ (w.heap.size + 1) _ _ rfl HP2.out
end Go.Proofs.Ytlknknacjpnmeaa
