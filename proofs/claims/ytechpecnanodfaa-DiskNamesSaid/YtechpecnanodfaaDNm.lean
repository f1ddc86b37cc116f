/-
  The states of DiskNames.
-/
import Derived.Test.YtechpecnanodfaaDFi
namespace Go.Proofs.Ytechpecnanodfaa
open Go Go.RowKit Go.Maps
set_option maxRecDepth 100000
set_option linter.unusedSimpArgs false
set_option linter.unusedVariables false

def nS0 : DS := DS.new 1024
def nS1 : DS := nS0.fail 2
def nS2 : DS := nS1.wr 3 (fullL 1)
def nS3 : DS := nS2.wr 2 (fullL 2)
def nS4 : DS := nS3.fail 5
def nS5 : DS := nS4.boot [-1, 129, 7]
def nS6 : DS := { nS5 with ops := 11 }
def nS7 : DS := (nS6.fail 1).fail (-3)
def nS8 : DS := { nS7 with ops := 13 }
def nS9 : DS := nS8.wr 5 (fullL 120)
def nS10 : DS := nS9.wr 5 (fullL 121)
def nS11 : DS := nS10.fail 1
def nS12 : DS := nS11.wr 6 (fullL 122)
def nS13 : DS := nS12.boot [128, 127]

set_option profiler true
theorem n0 : isD nS0 1023 (fullL 0) = true ∧ nS0.wrE 1024 (fullL 1) = 1 ∧ nS0.wrE (-1) (fullL 1) = 1 ∧ nS0.wrE 0 ((fullL 1).drop 1) = 1 ∧ nS0.wrE 0 (fullL 1 ++ [120]) = 1 ∧ nS0.bootE = 7 ∧ nS0.ops = 0 ∧ (dL nS0.wet).length = 0 := by decide +kernel
theorem n1 : nS1.wrE 0 [] = 1 ∧ nS1.wrE 3 (fullL 1) = 0 ∧ nS2.off = false ∧ nS2.wrE 2 (fullL 2) = 0 ∧ nS3.off = true ∧ nS3.ops = 2 ∧ dL nS3.wet = [2, 3] := by decide +kernel
theorem n2 : nS3.rdE 0 = 42 ∧ nS4.off = true ∧ nS4.bootE = 0 ∧ nS5.off = false ∧ isD nS5 2 (fullL 0) = true ∧ isD nS5 3 (fullL 1) = true := by decide +kernel
theorem n3 : nS5.ops = 2 ∧ nS5.left = 0 ∧ nS7.offE = 0 ∧ nS8.wrE 5 (fullL 120) = 0 ∧ nS9.wrE 5 (fullL 121) = 0 ∧ nS11.wrE 6 (fullL 122) = 0 ∧ nS12.bootE = 0 := by decide +kernel
theorem n4 : isD nS13 5 (fullL 121) = true ∧ isD nS13 6 ((fullL 122).take 127 ++ [0]) = true ∧ nS13.ops = 16 := by decide +kernel
end Go.Proofs.Ytechpecnanodfaa
