/-
  The chapter's example on plain data.
-/
import Derived.Test.YtfjlanhekheecaaRK
namespace Go.Proofs.Ytfjlanhekheecaa
set_option linter.unusedVariables false
open M (E V)
open Rm (NT R)
def exX : ByteArray := ⟨#[120]⟩
def a1 : R := Rm.ppS (Rm.r0 1 0) exX
def a2 : R := Rm.ldS a1
def a3 : R := Rm.stl 50 a2 (Rm.ldN a1) 0
def a4 : R := Rm.ppS a3 exX
def a5 : R := Rm.stl 50 a4 (Rm.ppN a3 exX) 0
def a6 : R := Rm.crS a5
def a7 : R := Rm.ldS a6
def a8 : R := Rm.stl 50 a7 (Rm.ldN a6) 0
theorem ex0 : Np.M.nde 1 0 = true ∧ Np.M.nde 3 3 = false := ⟨by kernel_rfl, by kernel_rfl⟩
theorem ex1 : Np.M.ppc (Rm.r0 1 0).p exX = 16 := by kernel_rfl
theorem ex2 : Rm.stOk 50 a2 (Rm.ldN a1) 0 = true := by kernel_rfl
theorem ex3 : Np.M.ppc a3.p exX = 0 := by kernel_rfl
theorem ex4 : Rm.stOk 50 a4 (Rm.ppN a3 exX) 0 = true := by kernel_rfl
theorem ex5 : Rm.logL a5 = [exX] := by kernel_rfl
theorem ex6 : decide (2 ≤ a5.p.st) = true := by kernel_rfl
theorem ex7 : Rm.logL a6 = [] := by kernel_rfl
theorem ex8 : Rm.stOk 50 a7 (Rm.ldN a6) 0 = true := by kernel_rfl
theorem ex9 : Rm.logL a8 = [exX] := by kernel_rfl
theorem ex10 : Nl.M.nx a8.l = 1 := by kernel_rfl
end Go.Proofs.Ytfjlanhekheecaa
