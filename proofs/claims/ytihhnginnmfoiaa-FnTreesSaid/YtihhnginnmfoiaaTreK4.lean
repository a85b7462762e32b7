/- A look at the roots 49152 to 65535. No program. -/
import Derived.Test.YtihhnginnmfoiaaTreK
import Derived.KernelRfl
namespace Go.Proofs.Ytihhnginnmfoiaa

theorem look12 : allLook 4096 49152 = true := by kernel_rfl
theorem look13 : allLook 4096 53248 = true := by kernel_rfl
theorem look14 : allLook 4096 57344 = true := by kernel_rfl
theorem look15 : allLook 4096 61440 = true := by kernel_rfl

end Go.Proofs.Ytihhnginnmfoiaa
