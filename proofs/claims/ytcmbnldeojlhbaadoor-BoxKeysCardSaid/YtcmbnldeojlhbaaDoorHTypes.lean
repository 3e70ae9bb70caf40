/-
  The types of the hash functions, as the program lays them.
-/
import Derived.Test.YtcmbnldeojlhbaaDoorMem
namespace Go.Proofs.YtcmbnldeojlhbaaDoor
open Go.RowKit

theorem Tryd.infoU32 : (Tryd.prog.info? 62).map (fun i => (i.zero, i.size, i.bytes)) = some (some (.int .u32 0), 1, 4) := by kernel_rfl
theorem Tryd.size64 : (Tryd.prog.info? 72).map (·.size) = some 64 := by kernel_rfl
theorem Tryd.size80 : (Tryd.prog.info? 81).map (·.size) = some 80 := by kernel_rfl
theorem Tryd.size8 : (Tryd.prog.info? 85).map (·.size) = some 8 := by kernel_rfl
theorem Tryd.size5 : (Tryd.prog.info? 78).map (·.size) = some 5 := by kernel_rfl
theorem Tryd.zero80 (w : World) : (zeroValue 81).run Tryd.prog w = .ok (.agg (ints .u32 (List.replicate 80 0)).toArray) w := by kernel_rfl
theorem Tryd.zero64 (w : World) : (zeroValue 72).run Tryd.prog w = .ok (.agg (ints .u32 (List.replicate 64 0)).toArray) w := by kernel_rfl
end Go.Proofs.YtcmbnldeojlhbaaDoor
