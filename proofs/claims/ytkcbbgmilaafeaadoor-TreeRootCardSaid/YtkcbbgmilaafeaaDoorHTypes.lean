/-
  The types of the hash functions, as the program lays them.
-/
import Derived.Test.YtkcbbgmilaafeaaDoorMem
namespace Go.Proofs.YtkcbbgmilaafeaaDoor
open Go.RowKit

theorem Tryd.infoU32 : (Tryd.prog.info? 48).map (fun i => (i.zero, i.size, i.bytes)) = some (some (.int .u32 0), 1, 4) := by kernel_rfl
theorem Tryd.size64 : (Tryd.prog.info? 49).map (·.size) = some 64 := by kernel_rfl
theorem Tryd.size80 : (Tryd.prog.info? 60).map (·.size) = some 80 := by kernel_rfl
theorem Tryd.size8 : (Tryd.prog.info? 64).map (·.size) = some 8 := by kernel_rfl
theorem Tryd.size5 : (Tryd.prog.info? 57).map (·.size) = some 5 := by kernel_rfl
theorem Tryd.zero80 (w : World) : (zeroValue 60).run Tryd.prog w = .ok (.agg (ints .u32 (List.replicate 80 0)).toArray) w := by kernel_rfl
theorem Tryd.zero64 (w : World) : (zeroValue 49).run Tryd.prog w = .ok (.agg (ints .u32 (List.replicate 64 0)).toArray) w := by kernel_rfl
end Go.Proofs.YtkcbbgmilaafeaaDoor
