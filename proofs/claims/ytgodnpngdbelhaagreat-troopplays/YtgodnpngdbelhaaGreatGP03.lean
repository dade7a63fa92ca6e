import Derived.Test.YtgodnpngdbelhaaGreatGP02
set_option maxRecDepth 100000
set_option maxHeartbeats 8000000
set_option linter.unusedVariables false
set_option linter.unusedSimpArgs false
namespace Go.Proofs.YtgodnpngdbelhaaGreat.Rm
open Go.Proofs.YtgodnpngdbelhaaGreat.M (E V)
structure NT where
 k : Int
 f : Int
 t : Int
 s : Int
 b : E
 v : List V
structure R where
 n : Int
 me : Int
 a : Na.M.S
 p : Np.M.S
 l : Nl.M.S
def e0 : E := ⟨0, 0⟩
def r0 (n me : Int) : R := ⟨n, me, Na.M.S0, Np.M.S0 n me, Nl.M.s0 n⟩
def isN (r : R) (x : Int) : Bool := decide (0 ≤ x) && decide (x < r.n)
def toF (r : R) (k s : Int) (b : E) (v : List V) (j : Nat) : List NT := (List.range j).map fun (i : Nat) => ⟨k, r.me, (i : Int), s, b, v⟩
theorem toF_succ (r : R) (k s : Int) (b : E) (v : List V) (j : Nat) : toF r k s b v (j + 1) = toF r k s b v j ++ [⟨k, r.me, (j : Int), s, b, v⟩] := by
 unfold toF; rw [List.range_succ, List.map_append]; rfl
theorem toF_len (r : R) (k s : Int) (b : E) (v : List V) (j : Nat) : (toF r k s b v j).length = j := by unfold toF; simp
def toE (r : R) (k : Int) (x : V) : List NT := toF r k 0 e0 [x] r.n.toNat
def ldc (r : R) : Int := Np.M.ldc r.p r.a.p (Nl.M.nx r.l)
def ldb (r : R) : E := Np.M.lde r.p r.a.p (Nl.M.nx r.l)
def ldS (r : R) : R := if ldc r = 0 then { r with p := Np.M.lds r.p r.a.p (Nl.M.nx r.l), a := Na.M.prs r.a (ldb r) (Nl.M.nx r.l) } else r
def ldN (r : R) : List NT := if ldc r = 0 then toF r 1 (Nl.M.nx r.l) (ldb r) [] r.n.toNat else []
def ppN (r : R) (v : ByteArray) : List NT := if Np.M.ppc r.p v = 0 then toE r 3 (Np.M.ppv r.p v) else []
def ppS (r : R) (v : ByteArray) : R := { r with p := Np.M.pps r.p v }
def akN (r : R) (to : Int) : List NT := if isN r to then [⟨5, r.me, to, Nl.M.nx r.l, e0, []⟩] else []
def lfT (n : Int) : Nat → Nl.M.S
 | 0 => Nl.M.s0 n
 | j + 1 => Nl.M.ts (lfT n j) (j : Int) ⟨#[]⟩
def lf (n : Int) (base : Int) : Nl.M.S := Nl.M.tr (lfT n base.toNat) base
def crS (r : R) : R := { r with p := Np.M.S0 r.n r.me, l := lf r.n r.a.base }
def logL (r : R) : List ByteArray := Nl.M.lgs r.l r.l.base
def slt (s : Int) : Bool := decide (0 ≤ s) && decide (s < 1024)
def q1b (r : R) (b : E) (s : Int) : Bool := slt s && Na.M.prb r.a b s
def q1S (r : R) (b : E) (s : Int) : R := { r with p := Np.M.sts r.p b, a := if q1b r b s then Na.M.prs r.a b s else r.a }
def q1N (r : R) (f : Int) (b : E) (s : Int) : List NT := if q1b r b s then [⟨2, r.me, f, 0, b, Na.M.prl r.a b s⟩] else []
def q2P (r : R) (f : Int) (b : E) (v : List V) : Np.M.S := Np.M.prs r.p f b v
def q2S (r : R) (f : Int) (b : E) (v : List V) : R := { r with p := if Np.M.prb r.p f b then Np.M.fls (q2P r f b v) else q2P r f b v }
def q2F (r : R) (l : List V) : List NT := l.flatMap fun x => toE r 3 x
def q2N (r : R) (f : Int) (b : E) (v : List V) : List NT := if Np.M.prb r.p f b then q2F r (Np.M.flo (q2P r f b v)) else []
def q3S (r : R) (x : V) : R := { r with p := Np.M.sts r.p x.b, a := Na.M.acs r.a x }
def q3N (r : R) (x : V) : List NT := if Na.M.acb r.a x then toE r 4 x else []
def q4S (r : R) (f : Int) (x : V) : R := { r with l := Nl.M.hs r.l f x }
def vts (s : Int) (l : List ByteArray) (j : Nat) : List V := (List.range j).map fun (i : Nat) => ⟨s + (i : Int), e0, l.getD i ⟨#[]⟩⟩
theorem vts_succ (s : Int) (l : List ByteArray) (j : Nat) : vts s l (j + 1) = vts s l j ++ [⟨s + (j : Int), e0, l.getD j ⟨#[]⟩⟩] := by
 unfold vts; rw [List.range_succ, List.map_append]; rfl
theorem vts_len (s : Int) (l : List ByteArray) (j : Nat) : (vts s l j).length = j := by unfold vts; simp
def q5n (r : R) (s : Int) : Nat := (Nl.M.lgs r.l s).length
def q5N (r : R) (f s : Int) : List NT := if s < r.l.base then [] else if q5n r s = 0 then [] else [⟨6, r.me, f, 0, e0, vts s (Nl.M.lgs r.l s) (min (q5n r s) 8)⟩]
def q6L (l : Nl.M.S) (v : List V) : Nl.M.S := v.foldl (fun l x => Nl.M.ts l x.s x.v) l
def q6S (r : R) (v : List V) : R := { r with l := q6L r.l v }
def kd (x : NT) : Nat := if x.k = 1 then 1 else if x.k = 2 then 2 else if x.k = 3 ∧ x.v.length = 1 then 3 else if x.k = 4 ∧ x.v.length = 1 then 4 else if x.k = 5 then 5 else if x.k = 6 then 6 else 0
def v0 : V := ⟨0, e0, ⟨#[]⟩⟩
def doS (r : R) (x : NT) : R := match kd x with
 | 1 => q1S r x.b x.s
 | 2 => q2S r x.f x.b x.v
 | 3 => q3S r (x.v.headD v0)
 | 4 => q4S r x.f (x.v.headD v0)
 | 6 => q6S r x.v
 | _ => r
def doN (r : R) (x : NT) : List NT := match kd x with
 | 1 => q1N r x.f x.b x.s
 | 2 => q2N r x.f x.b x.v
 | 3 => q3N r (x.v.headD v0)
 | 5 => q5N r x.f x.s
 | _ => []
def tkb (r : R) (x : NT) : Bool := decide (x.t = r.me) && isN r x.f
def tkS (r : R) (x : NT) : R := if tkb r x then doS r x else r
def tkN (r : R) (x : NT) : List NT := if tkb r x then doN r x else []
end Go.Proofs.YtgodnpngdbelhaaGreat.Rm
