/- A look at the roots 16384 to 32767. No program. -/
import Derived.Test.YtihhnginnmfoiaaTreK
import Derived.KernelRfl
namespace Go.Proofs.Ytihhnginnmfoiaa

theorem look4 : allLook 4096 16384 = true := by kernel_rfl
theorem look5 : allLook 4096 20480 = true := by kernel_rfl
theorem look6 : allLook 4096 24576 = true := by kernel_rfl
theorem look7 : allLook 4096 28672 = true := by kernel_rfl

end Go.Proofs.Ytihhnginnmfoiaa
