/- A look at the roots 32768 to 49151. No program. -/
import Derived.Test.YtihhnginnmfoiaaTreK
import Derived.KernelRfl
namespace Go.Proofs.Ytihhnginnmfoiaa

theorem look8 : allLook 4096 32768 = true := by kernel_rfl
theorem look9 : allLook 4096 36864 = true := by kernel_rfl
theorem look10 : allLook 4096 40960 = true := by kernel_rfl
theorem look11 : allLook 4096 45056 = true := by kernel_rfl

end Go.Proofs.Ytihhnginnmfoiaa
