/-
  ShaConstants: the table's words are the roots' bits, by the kernel (second half).
-/
import Derived.Test.YtphifnknbaebkaaDoorRootM
namespace Go.Proofs.YtphifnknbaebkaaDoor

theorem good_4 : ((List.range 8).all fun i => goodRoot (32 + i) 3 (kc (32 + i))) = true := by kernel_rfl
theorem good_5 : ((List.range 8).all fun i => goodRoot (40 + i) 3 (kc (40 + i))) = true := by kernel_rfl
theorem good_6 : ((List.range 8).all fun i => goodRoot (48 + i) 3 (kc (48 + i))) = true := by kernel_rfl
theorem good_7 : ((List.range 8).all fun i => goodRoot (56 + i) 3 (kc (56 + i))) = true := by kernel_rfl
end Go.Proofs.YtphifnknbaebkaaDoor
