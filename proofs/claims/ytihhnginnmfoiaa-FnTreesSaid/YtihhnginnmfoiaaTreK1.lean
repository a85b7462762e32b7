/- A look at the roots 0 to 16383. No program. -/
import Derived.Test.YtihhnginnmfoiaaTreK
import Derived.KernelRfl
namespace Go.Proofs.Ytihhnginnmfoiaa

theorem look0 : allLook 4096 0 = true := by kernel_rfl
theorem look1 : allLook 4096 4096 = true := by kernel_rfl
theorem look2 : allLook 4096 8192 = true := by kernel_rfl
theorem look3 : allLook 4096 12288 = true := by kernel_rfl

end Go.Proofs.Ytihhnginnmfoiaa
