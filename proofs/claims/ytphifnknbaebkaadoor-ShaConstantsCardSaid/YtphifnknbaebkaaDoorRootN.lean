/-
  ShaConstants: the table's words are the roots' bits, by the kernel (first half).
-/
import Derived.Test.YtphifnknbaebkaaDoorRootM
namespace Go.Proofs.YtphifnknbaebkaaDoor

theorem good_0 : ((List.range 8).all fun i => goodRoot (0 + i) 3 (kc (0 + i))) = true := by kernel_rfl
theorem good_1 : ((List.range 8).all fun i => goodRoot (8 + i) 3 (kc (8 + i))) = true := by kernel_rfl
theorem good_2 : ((List.range 8).all fun i => goodRoot (16 + i) 3 (kc (16 + i))) = true := by kernel_rfl
theorem good_3 : ((List.range 8).all fun i => goodRoot (24 + i) 3 (kc (24 + i))) = true := by kernel_rfl
end Go.Proofs.YtphifnknbaebkaaDoor
