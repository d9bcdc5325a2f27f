/- The sum of three letters, by the kernel's own reckoning. -/
import Derived.Test.YtidibhphnkiacaaDoorSha
import Derived.KernelRfl
namespace Go.Proofs.YtidibhphnkiacaaDoor
theorem abc : sha [97, 98, 99] = [221, 175, 53, 161, 147, 97, 122, 186, 204, 65, 115, 73, 174, 32, 65, 49, 18, 230, 250, 78, 137, 169, 126, 162, 10, 158, 238, 230, 75, 85, 211, 154, 33, 146, 153, 42, 39, 79, 193, 168, 54, 186, 60, 35, 163, 254, 235, 189, 69, 77, 68, 35, 100, 60, 232, 14, 42, 154, 201, 79, 165, 76, 164, 159] := by kernel_rfl
end Go.Proofs.YtidibhphnkiacaaDoor
