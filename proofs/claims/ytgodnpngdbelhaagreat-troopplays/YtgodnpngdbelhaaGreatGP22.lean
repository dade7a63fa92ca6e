import Derived.Test.YtgodnpngdbelhaaGreatGP21
set_option maxRecDepth 100000
set_option maxHeartbeats 8000000
set_option linter.unusedVariables false
set_option linter.unusedSimpArgs false
open Go.Proofs.Tryz
namespace Go.Proofs.YtgodnpngdbelhaaGreat.Dn
open Go.Proofs.YtgodnpngdbelhaaGreat.M (E V)
open Go.Proofs.YtgodnpngdbelhaaGreat.Rm (NT R)
structure DR where
 n : Int
 me : Int
 a : Na.M.S
 p : Np.M.R
 l : Dl.X
def d0 (n me : Int) : DR := ⟨n, me, Na.M.S0, Np.M.r0 n me, Dl.x0 n 0⟩
def ldD (x : DR) (k : Int) : DR := if Np.M.rlc x.p x.a.p k = 0 then { x with p := Np.M.rls x.p x.a.p k, a := Na.M.prs x.a (Np.M.rle x.p x.a.p k) k } else x
def ppD (x : DR) (v : ByteArray) : DR := { x with p := Np.M.rpp x.p v }
def crD (x : DR) : DR := { x with p := Np.M.r0 x.n x.me, l := Dl.x0 x.n x.a.base }
def stD (x : DR) (b : E) : DR := { x with p := Np.M.rss x.p b }
def q1b (x : DR) (b : E) (s : Int) : Bool := Rm.slt s && Na.M.prb x.a b s
def q1D (x : DR) (b : E) (s : Int) : DR := { x with p := Np.M.rss x.p b, a := if q1b x b s then Na.M.prs x.a b s else x.a }
def q2D (x : DR) (f : Int) (b : E) (v : List V) : DR := { x with p := if Np.M.rpb x.p f b then Np.M.rfs (Np.M.rps x.p f b v) else Np.M.rps x.p f b v }
def q3D (x : DR) (u : V) : DR := { x with p := Np.M.rss x.p u.b, a := Na.M.acs x.a u }
def q4D (x : DR) (f : Int) (u : V) : DR := { x with l := Dl.hear x.l f u }
def q6L (l : Dl.X) (v : List V) : Dl.X := v.foldl (fun l u => Dl.tell l u.s u.v) l
def q6D (x : DR) (v : List V) : DR := { x with l := q6L x.l v }
structure Rl (m : Nat) (r : R) (x : DR) : Prop where
 n : x.n = r.n
 me : x.me = r.me
 a : x.a = r.a
 p : Np.M.Rel r.p x.p
 pb : Np.M.Bnd x.p
 l : Dl.Rel r.l x.l
 pl : x.p.l.length ≤ 1024 * m
 tl : x.l.td.length ≤ 1024 * m
 vl : x.l.vs.length ≤ m
structure Fit (r : R) : Prop where
 n : 1 ≤ r.n ∧ r.n ≤ 7
 me : 0 ≤ r.me ∧ r.me < r.n
 ok : Np.M.Ok r.p
 pn : r.p.n = r.n
 pm : r.p.me = r.me
 ak : Na.M.Ok r.a
 a0 : r.a.base = 0
 ln : r.l.n = r.n
 l0 : r.l.base = 0
theorem fit_of {n : Nat} {i : Nat} {P : Int → E} {H : Tm.Hs} {A : List V} {L : Tm.Ls} {r : R} (h : Tm.Nd n (i : Int) P H A L r) (hn : 1 ≤ n ∧ n ≤ 7) (hi : i < n) : Fit r :=
 ⟨by rw [h.nn]; omega, by rw [h.me, h.nn]; omega, h.p.ok, by rw [h.p.nn, h.nn], by rw [h.p.me, h.me], h.a.ok, h.a.b0, by rw [h.l.nn, h.nn], h.l.base⟩
section
variable {m : Nat} {r : R} {x : DR}
theorem Rl.up (h : Rl m r x) {k : Nat} (hk : m ≤ k) : Rl k r x := ⟨h.n, h.me, h.a, h.p, h.pb, h.l, by have := h.pl; omega, by have := h.tl; omega, by have := h.vl; omega⟩
theorem Rl.zero {n me : Int} (hn : 1 ≤ n ∧ n ≤ 7) : Rl 0 (Rm.r0 n me) (d0 n me) :=
 ⟨rfl, rfl, rfl, Np.M.Rel.zero n me, ⟨Int.le_refl _, show (0 : Int) ≤ 1024 by decide, show (-1 : Int) + 1 ≤ 1024 by decide⟩, Dl.Rel.zero hn, Nat.le_refl _, Nat.le_refl _, Nat.le_refl _⟩
theorem rls_len (y : Np.M.R) (a : E) (k : Int) : (Np.M.rls y a k).l.length ≤ y.l.length := by
 unfold Np.M.rls; split
 ·exact Nat.zero_le _
 ·exact Nat.le_refl _
theorem Rl.lead (h : Rl m r x) : Np.M.rlc x.p x.a.p (Nl.M.nx r.l) = Rm.ldc r ∧ Np.M.rle x.p x.a.p (Nl.M.nx r.l) = Rm.ldb r ∧ Rl (m + 1) (Rm.ldS r) (ldD x (Nl.M.nx r.l)) := by
 obtain ⟨e1, e2, e3⟩ := h.p.lead r.a.p (Nl.M.nx r.l); rw [h.a]; refine ⟨e1, e2, ?_⟩; have hb := h.pb.lead r.a.p (Nl.M.nx r.l); have hl := rls_len x.p r.a.p (Nl.M.nx r.l); unfold Rm.ldS ldD; rw [h.a, e1, show Np.M.ldc r.p r.a.p (Nl.M.nx r.l) = Rm.ldc r from rfl]; split
 ·refine ⟨h.n, h.me, ?_, e3, hb, h.l, ?_, by have := h.tl; show x.l.td.length ≤ _; omega, by have := h.vl; show x.l.vs.length ≤ _; omega⟩
  ·show Na.M.prs r.a (Np.M.rle x.p r.a.p (Nl.M.nx r.l)) (Nl.M.nx r.l) = Na.M.prs r.a (Rm.ldb r) (Nl.M.nx r.l); rw [e2]; rfl
  ·show (Np.M.rls x.p r.a.p (Nl.M.nx r.l)).l.length ≤ _; have := h.pl; omega
 ·exact h.up (Nat.le_succ m)
theorem Rl.setP (h : Rl m r x) {s' : Np.M.S} {y : Np.M.R} (hp : Np.M.Rel s' y) (hb : Np.M.Bnd y) (hl : y.l.length ≤ 1024 * (m + 1)) : Rl (m + 1) { r with p := s' } { x with p := y } :=
 ⟨h.n, h.me, h.a, hp, hb, h.l, hl, by have := h.tl; show x.l.td.length ≤ _; omega, by have := h.vl; show x.l.vs.length ≤ _; omega⟩
theorem Rl.propose (h : Rl m r x) (v : ByteArray) : Np.M.rpc x.p v = Np.M.ppc r.p v ∧ Np.M.rpv x.p v = Np.M.ppv r.p v ∧ Rl (m + 1) (Rm.ppS r v) (ppD x v) := by
 obtain ⟨e1, e2, e3⟩ := h.p.propose v; obtain ⟨f1, f2⟩ := Np.M.rpp_fr x.p v; exact ⟨e1, e2, h.setP e3 (h.pb.of f1 f2) (by rw [f2]; have := h.pl; omega)⟩
theorem Rl.step (h : Rl m r x) (b : E) : Rl (m + 1) { r with p := Np.M.sts r.p b } (stD x b) := by
 obtain ⟨e1, e3⟩ := h.p.step b; obtain ⟨f1, f2⟩ := Np.M.rss_fr x.p b; exact h.setP e3 (h.pb.of f1 f2) (by rw [f2]; have := h.pl; omega)
theorem Rl.setA (h : Rl m r x) (a' : Na.M.S) : Rl m { r with a := a' } { x with a := a' } := ⟨h.n, h.me, rfl, h.p, h.pb, h.l, h.pl, h.tl, h.vl⟩
theorem Rl.q1 (h : Rl m r x) (b : E) (s : Int) : q1b x b s = Rm.q1b r b s ∧ Rl (m + 1) (Rm.q1S r b s) (q1D x b s) := by
 have e : q1b x b s = Rm.q1b r b s := by unfold q1b Rm.q1b; rw [h.a]
 refine ⟨e, ?_⟩; have h1 := (h.step b).setA (if Rm.q1b r b s then Na.M.prs r.a b s else r.a); unfold q1D; rw [e, h.a]; exact h1
theorem Rl.q2 (h : Rl m r x) (ok : Np.M.Ok r.p) (f : Int) (b : E) (v : List V) (hv : v.length ≤ 1024) : Np.M.rpb x.p f b = Np.M.prb r.p f b ∧ (Np.M.rpb x.p f b = true → Np.M.rfo (Np.M.rps x.p f b v) = Np.M.flo (Rm.q2P r f b v)) ∧ Rl (m + 1) (Rm.q2S r f b v) (q2D x f b v) := by
 obtain ⟨e1, e2⟩ := h.p.promise ok f b v; obtain ⟨g1, g2⟩ := e2.fill (ok.prs f b v); have hb := h.pb.promise f b v; have hl := Np.M.rps_len x.p f b v; have hpl := h.pl; refine ⟨e1, fun _ => g1, ?_⟩; unfold Rm.q2S q2D; rw [e1]; split
 ·obtain ⟨f1, f2⟩ := Np.M.rfs_fr (Np.M.rps x.p f b v); exact h.setP g2 (hb.of f1 f2) (by rw [f2]; omega)
 ·exact h.setP e2 hb (by omega)
theorem Rl.q3 (h : Rl m r x) (u : V) : Rl (m + 1) (Rm.q3S r u) (q3D x u) := by
 have h1 := (h.step u.b).setA (Na.M.acs r.a u); unfold q3D; rw [h.a]; exact h1
theorem tell_len (x : Dl.X) (k : Int) (v : ByteArray) : (Dl.tell x k v).td.length ≤ x.td.length + 1 ∧ (Dl.tell x k v).vs = x.vs := by
 unfold Dl.tell; split
 ·exact ⟨by simp, rfl⟩
 ·exact ⟨Nat.le_succ _, rfl⟩
theorem hr1_len (x : Dl.X) (f : Int) (u : V) : (Dl.hr1 x f u).vs.length ≤ x.vs.length + 1 ∧ (Dl.hr1 x f u).td = x.td := by
 refine ⟨?_, rfl⟩; show (Dl.rest x.vs f u.s ++ [(f, u)]).length ≤ _; rw [List.length_append]; have : (Dl.rest x.vs f u.s).length ≤ x.vs.length := List.length_filter_le _ _; show _ + 1 ≤ _; omega
theorem hear_len (x : Dl.X) (f : Int) (u : V) : (Dl.hear x f u).td.length ≤ x.td.length + 1 ∧ (Dl.hear x f u).vs.length ≤ x.vs.length + 1 := by
 obtain ⟨h1, h2⟩ := hr1_len x f u; obtain ⟨t1, t2⟩ := tell_len (Dl.hr1 x f u) u.s u.v; unfold Dl.hear; split
 ·split
  ·exact ⟨Nat.le_succ _, Nat.le_succ _⟩
  ·split
   ·exact ⟨by rw [h2]; exact Nat.le_succ _, h1⟩
   ·exact ⟨by rw [h2] at t1; exact t1, by rw [t2]; exact h1⟩
 ·exact ⟨Nat.le_succ _, Nat.le_succ _⟩
theorem Rl.q4 (h : Rl m r x) (f : Int) (u : V) : Rl (m + 1) (Rm.q4S r f u) (q4D x f u) := by
 obtain ⟨h1, h2⟩ := hear_len x.l f u; have := h.pl; have := h.tl; have := h.vl; exact ⟨h.n, h.me, h.a, h.p, h.pb, h.l.hear f u, by show x.p.l.length ≤ _; omega, by show (Dl.hear x.l f u).td.length ≤ _; omega, by show (Dl.hear x.l f u).vs.length ≤ _; omega⟩
theorem q6_rel : ∀ (v : List V) {s : Nl.M.S} {y : Dl.X}, Dl.Rel s y → Dl.Rel (Rm.q6L s v) (q6L y v)
 | [], _, _, h => h
 | u :: v, _, _, h => q6_rel v (h.tell u.s u.v)
theorem q6_len : ∀ (v : List V) (y : Dl.X), (q6L y v).td.length ≤ y.td.length + v.length ∧ (q6L y v).vs = y.vs
 | [], y => ⟨Nat.le_refl _, rfl⟩
 | u :: v, y => by
  obtain ⟨h1, h2⟩ := q6_len v (Dl.tell y u.s u.v); obtain ⟨t1, t2⟩ := tell_len y u.s u.v; have e : q6L y (u :: v) = q6L (Dl.tell y u.s u.v) v := rfl; rw [e, List.length_cons]; exact ⟨by omega, by rw [h2, t2]⟩
theorem q6_take (y : Dl.X) (v : List V) (j : Nat) (h : j < v.length) : q6L y (v.take (j + 1)) = Dl.tell (q6L y (v.take j)) v[j].s v[j].v := by
 unfold q6L; rw [List.take_succ_eq_append_getElem h, List.foldl_append]; rfl
theorem Rl.q6 (h : Rl m r x) (v : List V) (hv : v.length ≤ 1024) : Rl (m + 1) (Rm.q6S r v) (q6D x v) := by
 obtain ⟨h1, h2⟩ := q6_len v x.l; have := h.pl; have := h.tl; have := h.vl; exact ⟨h.n, h.me, h.a, h.p, h.pb, q6_rel v h.l, by show x.p.l.length ≤ _; omega, by show (q6L x.l v).td.length ≤ _; omega, by show (q6L x.l v).vs.length ≤ _; rw [h2]; omega⟩
theorem lf_zero (n : Int) : Rm.lf n 0 = Nl.M.s0 n := by
 unfold Rm.lf Nl.M.tr; have e : Nl.M.tb (Rm.lfT n (0 : Int).toNat) 0 = 0 := by
  unfold Nl.M.tb Nl.M.nx; show max (0 : Int) (min 0 (0 + _)) = 0; omega
 rw [e]; show (⟨n, 0, fun k => if k < 0 then none else none, fun _ => [], 0⟩ : Nl.M.S) = Nl.M.s0 n; unfold Nl.M.s0; congr 1; funext k
 split <;> rfl
theorem Rl.crash (h : Rl m r x) (hf : Fit r) : Rl m (Rm.crS r) (crD x) := by
 unfold Rm.crS crD; rw [h.n, h.me, h.a, hf.a0, lf_zero]; exact ⟨rfl, rfl, rfl, Np.M.Rel.zero _ _, ⟨Int.le_refl _, show (0 : Int) ≤ 1024 by decide, show (-1 : Int) + 1 ≤ 1024 by decide⟩, Dl.Rel.zero hf.n, Nat.zero_le _, Nat.zero_le _, Nat.zero_le _⟩
end
end Go.Proofs.YtgodnpngdbelhaaGreat.Dn
namespace Go.Proofs.YtgodnpngdbelhaaGreat
open Go.RowKit Go.Maps
open M (E V)
open Rm (NT R)
open Na
abbrev WC (l : List RN) : List Value := nl.cells l
theorem WC_len (l : List RN) : (WC l).length = l.length * 7 := nl.clen l
theorem WC_take (l : List RN) (k : Nat) : (WC l).take (k * 7) = WC (l.take k) := nl.take l k
theorem WC_drop (l : List RN) (k : Nat) : (WC l).drop (k * 7) = WC (l.drop k) := nl.drop l k
theorem WC_one (l : List RN) : ∀ v ∈ WC l, v.oneCell' = true := nl.ones l
theorem WC_app (l q : List RN) : WC (l ++ q) = WC l ++ WC q := nl.app l q
theorem WC_tl (L : List RN) (i : Nat) (hi : i ≤ L.length) : (WC (L.take i)).length = i * 7 := by rw [WC_len, List.length_take, Nat.min_eq_left hi]
theorem Tryz.size72 : (prog.info? 72).map (·.size) = some 7 := by kernel_rfl
theorem run_clear7 {P : Program} (w : World) (t e ty : TypeId) (z : Value) (ht : P.underlying t = some (.slice e)) (hv : ∀ w, (zeroValue e).run P w = .ok z w) (hz : z.cells.size = 7) (h1 : ∀ v ∈ z.cells.toList, v.oneCell' = true)
  (g off n c : Nat) (a : Addr) (cur : List Value) (tt : TypeId) (hg : w.heap[g]? = some (.cells cur.toArray tt (0, 0))) (ha : 0 < n → a = ⟨g, off, none⟩) (hfit : off + n * 7 ≤ cur.length) :
  (Builtin.clear_ #[t] ty #[.slice (some a) n c]).run P w = .ok (.tuple #[]) (w.setRow g (splice cur off (Builtin.zeroCells z.cells n).toList).toArray) := by
 rcases Nat.eq_zero_or_pos n with h0 | hp
 ·subst h0; have e0 : (Builtin.zeroCells z.cells 0).toList = [] := List.eq_nil_of_length_eq_zero (by simp [size_zeroCells]); rw [e0, show splice cur off [] = cur by simp [splice], setRow_self w g _ _ _ hg]; simp [Builtin.clear_, run_underlying ht]
 ·obtain rfl := ha hp; have hone : ∀ v ∈ (Builtin.zeroCells z.cells n).toList, v.oneCell' = true := by
   intro v hv'; apply h1; simp [Builtin.zeroCells] at hv'; obtain ⟨k, hk, rfl⟩ := hv'; have hk4 : k % z.cells.size < z.cells.size := Nat.mod_lt _ (by omega); rw [getElem!_pos z.cells _ hk4]; simp
  have hst := run_storeCells_at P g off tt (Builtin.zeroCells z.cells n).toList 0 cur.toArray w hg (by simp [size_zeroCells, hz]; omega) hone; have hst' : (storeCells ⟨g, off, none⟩ (Builtin.zeroCells z.cells n).toList).run P w = .ok () (w.setRow g (splice cur off (Builtin.zeroCells z.cells n).toList).toArray) := by
   have := hst; simp only [Nat.add_zero] at this; simpa [splice] using this
  obtain ⟨k, rfl⟩ : ∃ k, n = k + 1 := ⟨n - 1, by omega⟩; simp [Builtin.clear_, run_underlying ht, hv, hst']
theorem run_append_fit7 {P : Program} (w : World) (t ty e : TypeId) (ht : P.underlying t = some (.slice e)) (hs : (P.info? e).map (·.size) = some 7)
  (g k cap : Nat) (sp : Option Addr) (m sc : Nat) (cur : List Value) (tt : TypeId) (cs : List Value) (hg : w.heap[g]? = some (.cells cur.toArray tt (0, 0))) (hn : cs.length = m * 7)
  (hsrc : 0 < m → ∃ ad, sp = some ad ∧ ∀ j v, cs[j]? = some v → w.cell? (ad.add j) = some v) (hfit : k * 7 + cs.length ≤ cur.length) (hroom : k + m ≤ cap) (h1 : ∀ v ∈ cs, v.oneCell' = true) :
  (Builtin.append_ #[t, t] ty #[.slice (some ⟨g, 0, none⟩) k cap, .slice sp m sc]).run P w = .ok (.slice (some ⟨g, 0, none⟩) (k + m) cap) (w.setRow g (splice cur (k * 7) cs).toArray) := by
 cases hq : P.info? e with
 | none => simp [hq] at hs
 | some i =>
  have hi : i.size = 7 := by simpa [hq] using hs
  have hst := run_storeCells_at P g (k * 7) tt cs 0 cur.toArray w hg (by simpa using hfit) h1; have hst' : (storeCells ⟨g, k * 7, none⟩ cs).run P w = .ok () (w.setRow g (splice cur (k * 7) cs).toArray) := by
   have := hst; simp only [Nat.add_zero] at this; simpa [splice] using this
  have hadd : (⟨g, 0, none⟩ : Addr).add (k * 7) = ⟨g, k * 7, none⟩ := by unfold Addr.add; split <;> simp_all
  rcases Nat.eq_zero_or_pos m with h0 | hp
  ·subst h0; obtain rfl : cs = [] := List.eq_nil_of_length_eq_zero (by simpa using hn); cases sp with
   | none => simp [Builtin.append_, run_underlying ht, Builtin.lenOf, Builtin.firstCells, sizeOf, typeInfo, hq, hi, hadd, hst', show k ≤ cap by omega]
   | some ad =>
    have hl := run_loadCells_list (P := P) w ad [] (by simp); simp at hl; simp [Builtin.append_, run_underlying ht, Builtin.lenOf, Builtin.firstCells, sizeOf, typeInfo, hq, hi, hadd, hl, hst', show k ≤ cap by omega]
  ·obtain ⟨ad, rfl, hc⟩ := hsrc hp; have hl := run_loadCells_list (P := P) w ad cs hc; rw [hn] at hl; simp [Builtin.append_, run_underlying ht, Builtin.lenOf, Builtin.firstCells, sizeOf, typeInfo, hq, hi, hadd, hl, hst', hroom]
structure RowW (w : World) (g cap : Nat) (cur : List Value) (P : List RN) : Prop where
 h : w.heap[g]? = some (.cells cur.toArray 72 (0, 0))
 le : P.length ≤ cap
 mx : cap ≤ maxLen
 sz : cur.length = cap * 7
 eq : cur.take (P.length * 7) = WC P
theorem RowW.own {w : World} {g cap base : Nat} {cur : List Value} {P : List RN} (h : RowW w g cap cur P) (hb : base ≤ g) : OwnL nl 72 w base (.slice (some ⟨g, 0, none⟩) P.length cap) P :=
 ⟨WC_len P, .inr ⟨g, cap, cur.toArray, rfl, hb, h.h, h.le, h.mx, by rw [List.size_toArray]; exact h.sz, by rw [List.toList_toArray]; exact h.eq⟩⟩
theorem OwnL.rowW {w : World} {base : Nat} {v : Value} {P : List RN} (h : OwnL nl 72 w base v P) : (v = .slice none 0 0 ∧ P = []) ∨ ∃ g cap cur, v = .slice (some ⟨g, 0, none⟩) P.length cap ∧ base ≤ g ∧ RowW w g cap cur P := by
 rcases h.2 with ⟨hv, h0⟩ | ⟨g, cap, cur, hv, hb, hh, hc, hm, hs, ht⟩
 ·exact .inl ⟨hv, List.length_eq_zero_iff.1 h0⟩
 ·exact .inr ⟨g, cap, cur.toList, hv, hb, ⟨by simpa using hh, hc, hm, by rw [Array.length_toList]; exact hs, ht⟩⟩
theorem RowW.at {w : World} {g cap : Nat} {cur : List Value} {P : List RN} (h : RowW w g cap cur P) (i : Nat) : ∀ j v, (WC (P.drop i))[j]? = some v → w.cell? ((⟨g, i * 7, none⟩ : Addr).add j) = some v := by
 intro j v hj; rw [← WC_drop, List.getElem?_drop, ← h.eq, List.getElem?_take] at hj
 split at hj
 ·rw [show ((⟨g, i * 7, none⟩ : Addr).add j) = ⟨g, i * 7 + j, none⟩ by unfold Addr.add; split <;> simp_all, cell_of_row w g (i * 7 + j) _ _ _ h.h]
  simpa using hj
 ·cases hj
theorem RowW.pre {w : World} {g cap : Nat} {cur : List Value} {P : List RN} (h : RowW w g cap cur P) (i : Nat) (hi : i ≤ P.length) : cur.take (i * 7) = WC (P.take i) := by
 rw [← WC_take, ← h.eq, List.take_take, Nat.min_eq_left (by omega)]
theorem zvN (w : World) : (zeroValue 72).run prog w = .ok (.agg #[.int .i64 0, .int .i64 0, .int .i64 0, .int .i64 0, .int .i64 0, .int .i64 0, .slice none 0 0]) w := by simp
def InsW (w : World) (base : Nat) (v : Value) (l : List RN) (x : Ending) (w' : World) : Prop := ∃ v', x = .returned v' ∧ OwnL nl 72 w' base v' l ∧ Rw w v w' v'
theorem deleteW {w : World} {g cap base : Nat} {cur : List Value} {P : List RN} (i : Nat) (hbg : base ≤ g) (hr : RowW w g cap cur P) (hi : i < P.length) (hP : P.length ≤ 1000000) :
  Calls prog 75 #[.slice (some ⟨g, 0, none⟩) P.length cap, .int .i64 i, .int .i64 ((i : Int) + 1)] w (InsW w base (.slice (some ⟨g, 0, none⟩) P.length cap) (P.take i ++ P.drop (i + 1))) := by
 have hmx : cap ≤ 9223372036854775807 := by have := hr.mx; unfold maxLen at this; omega
 have hsz := hr.sz; have hle := hr.le; have hdl : (WC (P.drop (i + 1))).length = (P.length - (i + 1)) * 7 := by rw [WC_len, List.length_drop]
 have hpl := WC_tl P i (by omega); obtain ⟨t, ht'⟩ : ∃ t, i + (P.length - (i + 1)) = t := ⟨_, rfl⟩; have htn : t = P.length - 1 := by omega
 have HAP : Hid (∀ sp sc, (0 < P.length - (i + 1) → sp = some ⟨g, (i + 1) * 7, none⟩) → ∀ ty, (Builtin.append_ #[28, 28] ty #[.slice (some ⟨g, 0, none⟩) i cap, .slice sp (P.length - (i + 1)) sc]).run prog w.drew = .ok (.slice (some ⟨g, 0, none⟩) t cap) (w.drew.setRow g (splice cur (i * 7) (WC (P.drop (i + 1)))).toArray)) := by
  intro sp sc hsp ty; rw [← ht']; exact run_append_fit7 w.drew 28 ty 72 underlying28 Tryz.size72 g i cap sp (P.length - (i + 1)) sc cur 72 (WC (P.drop (i + 1))) hr.h hdl (fun h => ⟨_, hsp h, hr.at (i + 1)⟩) (by rw [hdl, hsz]; omega) (by omega) (WC_one _)
 have hl1 : (splice cur (i * 7) (WC (P.drop (i + 1)))).length = cap * 7 := by rw [length_splice _ _ _ (by rw [hdl, hsz]; omega), hsz]
 have ht1 : (splice cur (i * 7) (WC (P.drop (i + 1)))).take (t * 7) = WC (P.take i ++ P.drop (i + 1)) := by
  have h1 := splice_at cur (WC (P.take i)) (WC (P.drop (i + 1))) (by rw [hpl]; exact hr.pre i (by omega)); rw [hpl] at h1; rw [h1, ← List.append_assoc, List.take_append_of_le_length (by simp only [List.length_append]; rw [hpl, hdl]; omega), List.take_of_length_le (by simp only [List.length_append]; rw [hpl, hdl]; omega), WC_app]
 obtain ⟨c1, hc1⟩ := Nq (splice cur (i * 7) (WC (P.drop (i + 1)))); rw [hc1] at HAP hl1 ht1; obtain ⟨W1, hW1⟩ := Nq (w.drew.setRow g c1.toArray); rw [hW1] at HAP; have hh1 : W1.heap[g]? = some (.cells c1.toArray 72 (0, 0)) := by rw [← hW1]; exact setRow_heap w.drew g _ _ _ _ hr.h
 have hG : InG w W1 g := by rw [← hW1]; exact (InG.refl w g).drew.set _
 obtain ⟨W3, hW3⟩ := Nq (W1.setRow g (splice c1 (t * 7) (Builtin.zeroCells (Value.agg #[.int .i64 0, .int .i64 0, .int .i64 0, .int .i64 0, .int .i64 0, .int .i64 0, .slice none 0 0]).cells (P.length - t)).toList).toArray); have hzl : (Builtin.zeroCells (Value.agg #[.int .i64 0, .int .i64 0, .int .i64 0, .int .i64 0, .int .i64 0, .int .i64 0, .slice none 0 0]).cells (P.length - t)).toList.length = (P.length - t) * 7 := by simp [size_zeroCells, Value.cells]
 have hcl : ∀ ty c, (Builtin.clear_ #[28] ty #[.slice (some ⟨g, t * 7, none⟩) (P.length - t) c]).run prog W1 = .ok (.tuple #[]) W3 := by
  intro ty c; rw [← hW3]; exact run_clear7 (P := prog) W1 28 72 ty _ underlying28 zvN rfl (by simp [Value.cells]; exact ⟨rfl, rfl⟩) g (t * 7) (P.length - t) c ⟨g, t * 7, none⟩ c1 72 hh1 (fun _ => rfl) (by rw [hl1]; omega)
 have HK : Hid (InsW w base (.slice (some ⟨g, 0, none⟩) P.length cap) (P.take i ++ P.drop (i + 1)) (.returned (.slice (some ⟨g, 0, none⟩) t cap)) W3) := by
  have hl3 : (P.take i ++ P.drop (i + 1)).length = t := by simp; omega
  rw [← hW3]; refine ⟨_, rfl, ?_, (hG.set _).rw⟩; have key : OwnL nl 72 (W1.setRow g (splice c1 (t * 7) (Builtin.zeroCells (Value.agg #[.int .i64 0, .int .i64 0, .int .i64 0, .int .i64 0, .int .i64 0, .int .i64 0, .slice none 0 0]).cells (P.length - t)).toList).toArray) base (.slice (some ⟨g, 0, none⟩) (P.take i ++ P.drop (i + 1)).length cap) (P.take i ++ P.drop (i + 1)) :=
   RowW.own ⟨setRow_heap W1 g _ _ _ _ hh1, by rw [hl3]; omega, hr.mx, by rw [length_splice _ _ _ (by rw [hzl, hl1]; omega), hl1], by rw [hl3, splice_take _ _ _ _ Lr (by rw [hl1]; omega)]; exact ht1⟩ hbg
  rw [hl3] at key; exact key
 generalize (P.take i ++ P.drop (i + 1)) = RR at *; generalize hn' : P.length = n at *; have hz1 : ¬ ((i : Int) = (i : Int) + 1) := by omega
 have hb1 : (0 : Int) ≤ (i : Int) + 1 := by omega
 have hb2 : (i : Int) + 1 ≤ (n : Int) := by omega
 have hb3 : ((i : Int) + 1).toNat = i + 1 := by omega
 have hb4 : i ≤ n := by omega
 have hb5 : i + 1 ≤ n := by omega
 have hb6 : t ≤ n := by omega
 have hb7 : t ≤ cap := by omega
 have hb8 : (t : Int) ≤ (n : Int) := by omega
 have hb9 : ¬ (cap = t) := by omega
 have hb10 : ¬ (n = i) := by omega
 have hb11 : i ≤ cap := by omega
 clear hr hh1 hl1 hc1 hW1 hdl hsz hn' ht1 ht' hG hW3 hzl hpl; by_cases hct : cap = i + 1
 ·have hrun := HAP.out (some ⟨g, 0, none⟩) 0 (fun h => by omega); have hni : n = i + 1 := by omega
  subst hct; subst hni; have hti : t = i := by omega
  subst hti; rw [Nat.sub_self] at hrun; rw [show t + 1 - t = 1 by omega] at hcl; have hb12 : (t : Int) ≤ (t : Int) + 1 := by omega
  clear htn HAP; go_enter func75, ntmps75; go_wp2_with fail; go_region_law (refine step_append_run rfl _ _ 28 rfl _ _ (by simp [Act.eval, Act.put]) (by simp [Act.eval, Act.put]) _ _ (hrun _) ?_)
  all_goals
   go_wp2_with (at_builtin; refine wpList_clear_runI _ rfl _ 28 rfl _ rfl (hcl _ _) ?_); go_ret; exact HK.out
 ·have hrun := HAP.out (some ⟨g, (i + 1) * 7, none⟩) (cap - (i + 1)) (fun h => rfl); clear htn HAP; go_enter func75, ntmps75; go_wp2_with fail; go_region_law (refine step_append_run rfl _ _ 28 rfl _ _ (by simp [Act.eval, Act.put]) (by simp [Act.eval, Act.put]) _ _ (hrun _) ?_)
  all_goals
   go_wp2_with (at_builtin; refine wpList_clear_runI _ rfl _ 28 rfl _ rfl (hcl _ _) ?_); go_ret; exact HK.out
end Go.Proofs.YtgodnpngdbelhaaGreat
namespace Go.Proofs.YtgodnpngdbelhaaGreat
open Go.RowKit Go.Maps
open M (E V)
open Rm (NT R)
open Tm (T)
def pl : Ly Nat := ⟨1, fun b => [ptr b], fun _ => rfl, fun x v h => by simp at h; subst h; rfl, by decide⟩
theorem tiP : Ti pl 62 65 := ⟨underlying62, Tryz.t65, .pointer none, by kernel_rfl, rfl, rfl, by decide, rfl⟩
structure Fx (w : World) (F X : Nat → Prop) (w' : World) (G : Nat → Prop) : Prop where
 os : w'.os = w.os
 tape : w'.tape = w.tape
 output : w'.output = w.output
 size : w.heap.size ≤ w'.heap.size
 block : ∀ k, k < w.heap.size → ¬ F k → ¬ X k → w'.heap[k]? = w.heap[k]?
 n : ∀ k, G k → F k ∨ w.heap.size ≤ k
def or2 (F X : Nat → Prop) (k : Nat) : Prop := F k ∨ X k
section
variable {w0 w w' w1 w2 : World} {F G H X : Nat → Prop}
theorem Fx.fr (h : Fx w F X w' G) : Fr w (or2 F X) w' (or2 G X) := ⟨h.os, h.tape, h.output, h.size, fun k hk hn => h.block k hk (fun e => hn (.inl e)) (fun e => hn (.inr e)), fun k hk => by
 rcases hk with hk | hk
 ·exact (h.n k hk).imp .inl id
 ·exact .inl (.inr hk)⟩
theorem Fr.fx (h : Fr w F w' G) (X : Nat → Prop) : Fx w F X w' G := ⟨h.os, h.tape, h.output, h.size, fun k hk hn _ => h.block k hk hn, h.n⟩
theorem Fx.fr0 (h : Fx w F (fun _ => False) w' G) : Fr w F w' G := ⟨h.os, h.tape, h.output, h.size, fun k hk hn => h.block k hk hn id, h.n⟩
theorem Fx.trans (h : Fx w F X w1 G) (k : Fx w1 G X w2 H) : Fx w F X w2 H := by
 refine ⟨k.os.trans h.os, k.tape.trans h.tape, k.output.trans h.output, Nat.le_trans h.size k.size, fun j hj hn hx => ?_, fun j hj => ?_⟩
 ·rw [k.block j (Nat.lt_of_lt_of_le hj h.size) (fun e => ?_) hx]
  ·exact h.block j hj hn hx
  ·rcases h.n j e with h' | h'
   ·exact hn h'
   ·omega
 ·rcases k.n j hj with h' | h'
  ·exact h.n j h'
  ·exact .inr (Nat.le_trans h.size h')
theorem Fx.up (h : Fx w F X w1 G) (k : Bl w1 w2) : Fx w F X w2 G := h.trans ((Fr.ofBelow k).fx X)
theorem Fx.not (h : Fx w F X w' G) {k : Nat} (hk : ¬ F k) (hl : k < w.heap.size) : ¬ G k := fun e => by
 rcases h.n k e with h' | h'
 ·exact hk h'
 ·omega
end
abbrev trow (g c n : Nat) (u : Value) : Obj := .cells #[.slice (some ⟨g, 0, none⟩) n c, u] 64 (0, 0)
def NG (b n : Nat) (F : Nat → Nat → Prop) (k : Nat) : Prop := k = b ∨ ∃ i, i < n ∧ F i k
def TG (b n : Nat) (F : Nat → Nat → Prop) (u : Value) (k : Nat) : Prop := NG b n F k ∨ u.ownBlock = some k
def upF (F : Nat → Nat → Prop) (i : Nat) (G : Nat → Prop) : Nat → Nat → Prop := fun j => if j = i then G else F j
theorem upF_same (F : Nat → Nat → Prop) (i : Nat) (G : Nat → Prop) : upF F i G i = G := if_pos rfl
theorem upF_other (F : Nat → Nat → Prop) {i j : Nat} (G : Nat → Prop) (h : j ≠ i) : upF F i G j = F j := if_neg h
structure TP (w0 w : World) (b g c : Nat) (F : Nat → Nat → Prop) (bs : Nat → Nat) (u : Value) (ys : List RN) (t : T) : Prop where
 hn : 1 ≤ t.n ∧ t.n ≤ 7
 row : w.heap[b]? = some (trow g c t.n u)
 nod : XL pl w (some ⟨g, 0, none⟩) c ((List.range t.n).map bs)
 gz : g < w.heap.size
 rs : ∀ i, i < t.n → RS w0 w (F i) (bs i) (t.rs i)
 ap : ∀ i j, i < t.n → j < t.n → i ≠ j → ∀ k, F i k → ¬ F j k
 nb : ∀ i, i < t.n → ¬ F i b
 ng : ¬ NG b t.n F g
 ug : u.ownBlock ≠ some g
 ob : OB w w0.heap.size (NG b t.n F) u ys
 my : ys.map RN.x = t.way
 lo : w0.heap.size ≤ b
 lg : w0.heap.size ≤ g
def US (g : Nat) (ys : List RN) (k : Nat) : Prop := k = g ∨ ∃ y ∈ ys, blk y.ad k
def UG (b n : Nat) (F : Nat → Nat → Prop) (u : Value) (g : Nat) (ys : List RN) (k : Nat) : Prop := TG b n F u k ∨ US g ys k
theorem fr_ug {w w' : World} {b n g : Nat} {F F' : Nat → Nat → Prop} {u u' : Value} {ys ys' : List RN} (h : Fr w (TG b n F u) w' (TG b n F' u')) (hs : ∀ z ∈ ys', z ∈ ys ∨ ∀ k, blk z.ad k → w.heap.size ≤ k) : Fr w (UG b n F u g ys) w' (UG b n F' u' g ys') := by
 refine ⟨h.os, h.tape, h.output, h.size, fun k hk hn => h.block k hk (fun e => hn (.inl e)), fun k hk => ?_⟩; rcases hk with hk | hk | ⟨z, hz, hk⟩
 ·exact (h.n k hk).imp .inl id
 ·exact .inl (.inr (.inl hk))
 ·rcases hs z hz with h' | h'
  ·exact .inl (.inr (.inr ⟨z, h', hk⟩))
  ·exact .inr (h' k hk)
def TO (w0 w : World) (G : Nat → Prop) (b : Nat) (t : T) : Prop := ∃ g c F bs u ys, G = UG b t.n F u g ys ∧ TP w0 w b g c F bs u ys t
section
variable {w0 w w' w1 : World} {b g c : Nat} {F : Nat → Nat → Prop} {bs : Nat → Nat} {u u' : Value} {ys ys' : List RN} {t : T} {G X : Nat → Prop}
theorem TP.to (h : TP w0 w b g c F bs u ys t) : TO w0 w (UG b t.n F u g ys) b t := ⟨_, _, _, _, _, _, rfl, h⟩
theorem TP.lt (h : TP w0 w b g c F bs u ys t) : b < w.heap.size := (Array.getElem?_eq_some_iff.1 h.row).1
theorem TP.bel (h : TP w0 w b g c F bs u ys t) : Bl w0 w := (h.rs 0 (by have := h.hn; omega)).bel
theorem TP.mineN (h : TP w0 w b g c F bs u ys t) : ∀ k, NG b t.n F k → w0.heap.size ≤ k ∧ k < w.heap.size := by
 rintro k (rfl | ⟨i, hi, hk⟩)
 ·exact ⟨h.lo, h.lt⟩
 ·exact (h.rs i hi).mine k hk
theorem TP.mine (h : TP w0 w b g c F bs u ys t) : ∀ k, TG b t.n F u k → w0.heap.size ≤ k ∧ k < w.heap.size := by
 rintro k (hk | hk)
 ·exact h.mineN k hk
 ·exact h.ob.ow.own.lt hk
theorem TP.mineU (h : TP w0 w b g c F bs u ys t) : ∀ k, UG b t.n F u g ys k → w0.heap.size ≤ k ∧ k < w.heap.size := by
 rintro k (hk | hk | ⟨y, hy, hk⟩)
 ·exact h.mine k hk
 ·subst hk; exact ⟨h.lg, h.gz⟩
 ·exact ⟨((h.ob.ow.all y hy).blk k hk).2.1, ((h.ob.ow.all y hy).blk k hk).1⟩
theorem TP.len (h : TP w0 w b g c F bs u ys t) : ys.length = t.way.length := by rw [← h.my, List.length_map]
theorem TP.keep (h : TP w0 w b g c F bs u ys t) (hb : Bl w w') : TP w0 w' b g c F bs u ys t :=
 ⟨h.hn, Br h.row hb, h.nod.keep hb, Nat.lt_of_lt_of_le h.gz hb.size, fun i hi => (h.rs i hi).keep hb, h.ap, h.nb, h.ng, h.ug, h.ob.fr (Fr.ofBelow hb), h.my, h.lo, h.lg⟩
theorem blk_add {g k o : Nat} (h : blk (some ⟨g, o, none⟩) k) : k = g := by obtain ⟨off, s, e⟩ := h; cases e; rfl
theorem TP.node (h : TP w0 w b g c F bs u ys t) (hX : ∀ k, X k → ¬ TG b t.n F u k ∧ w0.heap.size ≤ k ∧ k ≠ g ∧ ∀ y ∈ ys, ¬ blk y.ad k) {i : Nat} (hi : i < t.n) {r' : R} {G' : Nat → Prop} (hr : RS w0 w' G' (bs i) r') (hf : Fx w (F i) X w' G') :
  TP w0 w' b g c (upF F i G') bs u ys { t with rs := Tm.upR t.rs i r' } ∧ Fx w (TG b t.n F u) X w' (TG b t.n (upF F i G') u) := by
 have hfr := hf.fr; have hlo : ∀ k, or2 (F i) X k → w0.heap.size ≤ k := fun k hk => by
  rcases hk with hk | hk
  ·exact ((h.rs i hi).mine k hk).1
  ·exact (hX k hk).2.1
 have hNG : ∀ k, NG b t.n (upF F i G') k → NG b t.n F k ∨ w.heap.size ≤ k := by
  rintro k (e | ⟨j, hj, hk⟩)
  ·exact .inl (.inl e)
  ·by_cases hji : j = i
   ·subst hji; rw [upF_same] at hk; exact (hf.n k hk).imp (fun e => .inr ⟨j, hj, e⟩) id
   ·rw [upF_other _ _ hji] at hk; exact .inl (.inr ⟨j, hj, hk⟩)
 have hXn : ∀ k, X k → ¬ NG b t.n F k := fun k hk e => (hX k hk).1 (.inl e); have hub : ∀ k, u.ownBlock = some k → w'.heap[k]? = w.heap[k]? := fun k hk => hf.block k (h.ob.ow.own.lt hk).2 (fun e => h.ob.own k hk (.inr ⟨i, hi, e⟩)) (fun e => (hX k e).1 (.inr hk)); refine ⟨⟨h.hn, ?_, ?_, Nat.lt_of_lt_of_le h.gz hf.size, fun j hj => ?_, fun j l hj hl hjl k => ?_, fun j hj => ?_, ?_, h.ug, ⟨⟨h.ob.ow.own.keepBut fun k _ hk2 => hub k hk2, fun y hy => ?_⟩, fun k hk e => ?_, fun y hy k hk e => ?_⟩, h.my, h.lo, h.lg⟩, hf.os, hf.tape, hf.output, hf.size, fun k hk hn hx => ?_, ?_⟩
 ·exact (hf.block b h.lt (h.nb i hi) (fun e => (hX b e).1 (.inl (.inl rfl)))).trans h.row
 ·exact h.nod.keepBut fun k hk hk2 => by
   obtain rfl := blk_add hk2; exact hf.block k hk (fun e => h.ng (.inr ⟨i, hi, e⟩)) (fun e => (hX k e).2.2.1 rfl)
 ·by_cases hji : j = i
  ·subst hji; simp only [upF_same, Tm.upR, if_pos]; exact hr
  ·simp only [upF_other _ _ hji, Tm.upR, if_neg hji]; refine (h.rs j hj).step hfr (fun k hk e => ?_) hlo; rcases e with e | e
   ·exact h.ap j i hj hi hji k hk e
   ·exact hXn k e (.inr ⟨j, hj, hk⟩)
 ·have key : ∀ j, j < t.n → j ≠ i → ∀ k, F j k → ¬ G' k := fun j hj hji k hk => hf.not (h.ap j i hj hi hji k hk) ((h.rs j hj).mine k hk).2; by_cases h1 : j = i
  ·subst h1; by_cases h2 : l = j
   ·exact absurd h2.symm hjl
   ·rw [upF_same, upF_other _ _ h2]; exact fun hk e => key l hl h2 k e hk
  ·by_cases h2 : l = i
   ·subst h2; rw [upF_same, upF_other _ _ h1]; exact key j hj h1 k
   ·rw [upF_other _ _ h1, upF_other _ _ h2]; exact h.ap j l hj hl hjl k
 ·by_cases h1 : j = i
  ·subst h1; rw [upF_same]; exact hf.not (h.nb j hj) h.lt
  ·rw [upF_other _ _ h1]; exact h.nb j hj
 ·intro e; rcases hNG g e with h' | h'
  ·exact h.ng h'
  ·have := h.gz; omega
 ·have h1 := h.ob.ow.all y hy; exact ⟨h1.xl.keepBut fun k hk hk2 => hf.block k hk (fun e => h.ob.all y hy k hk2 (.inr ⟨i, hi, e⟩)) (fun e => (hX k e).2.2.2 y hy hk2), fun k hk => ⟨Nat.lt_of_lt_of_le (h1.blk k hk).1 hf.size, (h1.blk k hk).2⟩⟩
 ·rcases hNG k e with h' | h'
  ·exact h.ob.own k hk h'
  ·have := (h.ob.ow.own.lt hk).2; omega
 ·rcases hNG k e with h' | h'
  ·exact h.ob.all y hy k hk h'
  ·have := ((h.ob.ow.all y hy).blk k hk).1; omega
 ·exact hf.block k hk (fun e => hn (.inl (.inr ⟨i, hi, e⟩))) hx
 ·rintro k (e | e)
  ·exact (hNG k e).imp .inl id
  ·exact .inl (.inr e)
theorem TP.app (h : TP w0 w b g c F bs u ys t) (ho : OW w' w0.heap.size u' ys') (hr : Rw w u w' u') (hnew : ∀ y ∈ ys', y ∈ ys ∨ ∀ k, blk y.ad k → ¬ NG b t.n F k) :
  TP w0 (w'.setCell ⟨b, 1, none⟩ u') b g c F bs u' ys' { t with way := ys'.map RN.x } ∧ Fr w (TG b t.n F u) (w'.setCell ⟨b, 1, none⟩ u') (TG b t.n F u') := by
 have hf := rw_fr hr; have hfo := fr_one w' b 1 u'; have hrow : w'.heap[b]? = some (trow g c t.n u) := (hf.block b h.lt (fun e => h.ob.own b e (.inl rfl))).trans h.row; have hbl : ∀ k, k = b → w0.heap.size ≤ k := fun k e => by have := h.lo; omega
 have hug : u'.ownBlock ≠ some g := fun e => by
  rcases hr.n g e with h' | h'
  ·exact h.ug h'
  ·have := h.gz; omega
 have hun : ∀ k, u'.ownBlock = some k → ¬ NG b t.n F k := fun k hk e => by
  rcases hr.n k hk with h' | h'
  ·exact h.ob.own k h' e
  ·have := (h.mineN k e).2; omega
 have hvn : ∀ y ∈ ys', ∀ k, blk y.ad k → ¬ NG b t.n F k := fun y hy => by
  rcases hnew y hy with h' | h'
  ·exact h.ob.all y h'
  ·exact h'
 have hgb : g ≠ b := fun e => h.ng (.inl e); refine ⟨⟨h.hn, ?_, ?_, ?_, fun i hi => ?_, h.ap, h.nb, h.ng, hug, (OB.mk ho hun hvn).fr (G' := NG b t.n F) ⟨hfo.os, hfo.tape, hfo.output, hfo.size, fun k hk hn => hfo.block k hk (fun e => hn (.inl e)), fun k hk => .inl hk⟩, rfl, h.lo, h.lg⟩, ?_⟩
 ·rw [heap_setCell_same w' b 1 _ _ _ hrow]; rfl
 ·refine (h.nod.keepBut (w' := w') fun k hk hk2 => ?_).keepBut fun k hk hk2 => ?_
  ·obtain rfl := blk_add hk2; exact hf.block k hk h.ug
  ·obtain rfl := blk_add hk2; exact hfo.block k hk hgb
 ·exact Nat.lt_of_lt_of_le h.gz (Nat.le_trans hf.size hfo.size)
 ·refine ((h.rs i hi).step hf (fun k hk e => h.ob.own k e (.inr ⟨i, hi, hk⟩)) (fun k e => (h.ob.ow.own.lt e).1)).step hfo (fun k hk e => h.nb i hi (e ▸ hk)) hbl
 ·have f1 : Fr w (TG b t.n F u) w' (TG b t.n F u') := ⟨hf.os, hf.tape, hf.output, hf.size, fun k hk hn => hf.block k hk (fun e => hn (.inr e)), fun k hk => by
   rcases hk with hk | hk
   ·exact .inl (.inl hk)
   ·exact (hf.n k hk).imp .inr id⟩
  exact f1.trans ⟨hfo.os, hfo.tape, hfo.output, hfo.size, fun k hk hn => hfo.block k hk (fun e => hn (.inl (.inl e))), fun k hk => .inl hk⟩
end
theorem log_nil (w : World) : Calls prog 36 #[.pointer none] w fun e w' => e = .returned (.slice none 0 0) ∧ w' = w := by
 go_enter func36, ntmps36; go_wp2; go_ret; exact ⟨rfl, rfl⟩
theorem leads_nil (w : World) : Calls prog 37 #[.pointer none] w fun e w' => e = .returned (.bool false) ∧ w' = w := by
 go_enter func37, ntmps37; go_wp2; go_ret; exact ⟨rfl, rfl⟩
theorem AtL.getP {w : World} {a : Option Addr} {l : List Nat} (h : AtL pl w a l) (j : Nat) (hj : j < l.length) : ∃ b off, a = some ⟨b, off, none⟩ ∧ w.cell? ⟨b, off + j * 1, none⟩ = some (ptr l[j]) := by
 obtain ⟨b, off, e, h0⟩ := h j hj; exact ⟨b, off, e, h0 0 (by decide)⟩
section
variable {w0 w w' w1 : World} {b g c : Nat} {F : Nat → Nat → Prop} {bs : Nat → Nat} {u u' : Value} {ys ys' : List RN} {t : T} {G X : Nat → Prop}
def nodeV (t : T) (bs : Nat → Nat) (i : Int) : Value := if Tm.isT t i = true then ptr (bs i.toNat) else .pointer none
theorem TP.node' (h : TP w0 w b g c F bs u ys t) (i : Int) : Calls prog 35 #[ptr b, .int .i64 i] w fun e w' => e = .returned (nodeV t bs i) ∧ w' = w := by
 obtain ⟨c0, _⟩ := row2 h.row; have hn := h.hn; by_cases h0 : i < 0
 ·have hv : Hid (nodeV t bs i = .pointer none) := by
   unfold nodeV Tm.isT; rw [if_neg (by simp; omega)]; rfl
  have hd : decide (i < 0) = true := decide_eq_true h0; clear h; go_enter func35, ntmps35; go_wp2; go_ret; exact ⟨by rw [hv.out]; rfl, rfl⟩
 ·have hd : decide (i < 0) = false := decide_eq_false h0; by_cases h1 : (t.n : Int) ≤ i
  ·have hv : Hid (nodeV t bs i = .pointer none) := by
    unfold nodeV Tm.isT; rw [if_neg (by simp; omega)]; rfl
   clear h; go_enter func35, ntmps35; go_wp2; go_ret; exact ⟨by rw [hv.out]; rfl, rfl⟩
  ·obtain ⟨j, rfl⟩ : ∃ j : Nat, i = (j : Int) := ⟨i.toNat, by omega⟩; have hv : Hid (nodeV t bs (j : Int) = ptr (bs j)) := by
    unfold nodeV Tm.isT; rw [if_pos (by simp; omega)]; rfl
   have hj : j < t.n := by omega
   obtain ⟨g', off, e, x0⟩ := AtL.getP h.nod.at' j (by simpa using hj); cases e; simp only [List.getElem_map, List.getElem_range, Nat.zero_add, Nat.mul_one] at x0; have hji : (j : Int) < (t.n : Int) := by omega
   clear h; generalize t.n = n at *; go_enter func35, ntmps35; go_wp2; go_ret; exact ⟨by rw [hv.out]; rfl, rfl⟩
theorem TP.log (h : TP w0 w b g c F bs u ys t) (i : Int) : Calls prog 14 #[ptr b, .int .i64 i] w fun e w' => ∃ ad c, e = .returned (.slice ad (Tm.logT t i).length c) ∧ XL Nl.tl w' ad c (Tm.logT t i) ∧ (∀ j, blk ad j → w.heap.size ≤ j ∧ j < w'.heap.size) ∧ Bl w w' := by
 have cn := h.node' i; by_cases hi : Tm.isT t i = true
 ·obtain ⟨ba, bp, bl, Fa, Fp, Fl, hF, hp⟩ := h.rs i.toNat (Tm.isT_yes hi); have cl := hp.log; have hL : Tm.logT t i = Rm.logL (t.rs i.toNat) := by unfold Tm.logT; rw [if_pos hi]
  rw [hL]; unfold nodeV at cn; rw [if_pos hi] at cn; clear h hp hF hi hL; go_enter func14, ntmps14; go_wp2_with fail; refine cn.mono ?_; rintro e w1 ⟨rfl, rfl⟩; clear cn; go_wp2_with fail; refine cl.mono ?_; clear cl; rintro e w2 ⟨ad, c, rfl, h1, h2, h3⟩; have H1 := Hf h1; have H2 := Hf h2; have H3 := Hf h3; clear h1 h2 h3; go_wp2; go_ret; exact ⟨ad, c, rfl, H1.out, H2.out, H3.out⟩
 ·have hL : Tm.logT t i = [] := by unfold Tm.logT; rw [if_neg hi]
  rw [hL]; unfold nodeV at cn; rw [if_neg hi] at cn; clear h hi hL; go_enter func14, ntmps14; go_wp2_with fail; refine cn.mono ?_; rintro e w1 ⟨rfl, rfl⟩; clear cn; go_wp2_with fail; refine (log_nil _).mono ?_; rintro e w2 ⟨rfl, rfl⟩; go_wp2; go_ret; exact ⟨none, 0, rfl, XL.emp _, fun j hj => (by obtain ⟨o, s, e⟩ := hj; cases e), Below.refl _ _⟩
def leadT (t : T) (i : Int) : Bool := Tm.isT t i && decide (2 ≤ (t.rs i.toNat).p.st)
theorem TP.leads (h : TP w0 w b g c F bs u ys t) (i : Int) : Calls prog 15 #[ptr b, .int .i64 i] w fun e w' => e = .returned (.bool (leadT t i)) ∧ w' = w := by
 have cn := h.node' i; by_cases hi : Tm.isT t i = true
 ·obtain ⟨ba, bp, bl, Fa, Fp, Fl, hF, hp⟩ := h.rs i.toNat (Tm.isT_yes hi); have cl := hp.leads; have hL : leadT t i = decide (2 ≤ (t.rs i.toNat).p.st) := by unfold leadT; rw [hi]; rfl
  rw [hL]; unfold nodeV at cn; rw [if_pos hi] at cn; clear h hp hF hi hL; go_enter func15, ntmps15; go_wp2_with fail; refine cn.mono ?_; rintro e w1 ⟨rfl, rfl⟩; clear cn; go_wp2_with fail; refine cl.mono ?_; clear cl; rintro e w2 ⟨rfl, rfl⟩; go_wp2; go_ret; exact ⟨rfl, rfl⟩
 ·have hL : leadT t i = false := by unfold leadT; rw [Bool.eq_false_iff.2 hi]; rfl
  rw [hL]; unfold nodeV at cn; rw [if_neg hi] at cn; clear h hi hL; go_enter func15, ntmps15; go_wp2_with fail; refine cn.mono ?_; rintro e w1 ⟨rfl, rfl⟩; clear cn; go_wp2_with fail; refine (leads_nil _).mono ?_; rintro e w2 ⟨rfl, rfl⟩; go_wp2; go_ret; exact ⟨rfl, rfl⟩
theorem TP.slice (h : TP w0 w b g c F bs u ys t) : ∃ ad cc, u = .slice ad t.way.length cc ∧ XS w (fun k => w0.heap.size ≤ k) ad cc ys := by
 obtain ⟨ad, cc, e, hx⟩ := h.ob.ow.at; exact ⟨ad, cc, by rw [e, h.len], hx⟩
theorem TP.waiting (h : TP w0 w b g c F bs u ys t) : Calls prog 10 #[ptr b] w fun e w' => e = .returned (.int .i64 t.way.length) ∧ w' = w := by
 obtain ⟨c0, _⟩ := row2 h.row; obtain ⟨ad, cc, rfl, -⟩ := h.slice; clear h; go_enter func10, ntmps10; go_wp2; go_ret; exact ⟨rfl, rfl⟩
theorem at_rem (k : Int) (m : Nat) (hm : 0 < m) : Int.tmod (Int.tmod k m + m) m = ((Tm.at' k m : Nat) : Int) := by
 unfold Tm.at'; have hm' : (0 : Int) < (m : Int) := by omega
 have h1 := Int.emod_nonneg k (show (m : Int) ≠ 0 by omega); have h2 := Int.emod_lt_of_pos k hm'; have hx : 0 ≤ Int.tmod k m + m := by
  have := Int.lt_tmod_of_pos k hm'; omega
 rw [Int.tmod_eq_emod_of_nonneg hx, Int.add_emod_right, Int.toNat_of_nonneg h1, Int.tmod_eq_emod]; split
 ·simp
 ·have h3 : (k % (m : Int) - ((m : Int).natAbs : Int)) % (m : Int) = k % (m : Int) := by
   rw [show ((m : Int).natAbs : Int) = (m : Int) by omega, Int.sub_emod_right, Int.emod_emod]
  exact h3
def placeV (t : T) (k : Int) : Value := if t.way.length = 0 then .tuple #[.int .i64 0, .bool false] else .tuple #[.int .i64 ((Tm.at' k t.way.length : Nat) : Int), .bool true]
end
end Go.Proofs.YtgodnpngdbelhaaGreat
