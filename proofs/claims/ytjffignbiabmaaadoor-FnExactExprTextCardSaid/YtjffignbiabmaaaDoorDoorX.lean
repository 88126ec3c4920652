/-
  What the listed tables give the walks: Go's table of powers of ten and the table of signs read as their texts lay them; and a start that meets the condition.
-/
import Derived.Test.YtjffignbiabmaaaDoorTxt
import Derived.Test.YtjffignbiabmaaaDoorDoorS
namespace Go.Proofs.YtjffignbiabmaaaDoor.W.T
open Go.ChangeShapes Go.WideShapes Go.ChangeAt Go.RowKit

def laidX : List (String × DataW Unit) := [("math/bits.deBruijn32tab", Rows.laid_math_bits_deBruijn32tab), ("math/bits.deBruijn64tab", Rows.laid_math_bits_deBruijn64tab), ("internal/strconv.uint64pow10", Rows.laid_internal_strconv_uint64pow10), ("loop.example/g00339/impl.signRows", Rows.laid_loop_example_g00339_impl_signRows)]

theorem door_metX (os : Os) (args : Array Value) : laidMetH Tryd.prog laidX ((World.doorLaid Tryd.prog 89 os).forCall (fun _ _ => 0) ⟨#[], args, []⟩).memory :=
  laidMetH_of_parts3 (fuel := 8) (laidMet_of_run' 8 (by kernel_rfl) (by kernel_rfl)) (by kernel_rfl) (by kernel_rfl)

theorem pow_isX : (Rows.laid_internal_strconv_uint64pow10 : DataW Unit) = Lib.tabData .u64 Lib.pow10Tab := by kernel_rfl
theorem tPowX : (Tryd.prog.globals[4]?).map (·.type) = some 203 := by kernel_rfl

theorem tab_of_laidX {W : World} (h : laidMetH Tryd.prog laidX W) : Tab W := by
  rw [MakeChecks.laidMetH_plain _ _ _ (by kernel_rfl)] at h
  have h2 := h.tail.tail
  rw [pow_isX] at h2
  exact Lib.tabIs_of_head gPow tPowX Tryd.underlying203 Tryd.underlying62 (by kernel_rfl) (by kernel_rfl) h2
theorem sg_of_laidX {W : World} (h : laidMetH Tryd.prog laidX W) : SgTab W := by
  rw [MakeChecks.laidMetH_plain _ _ _ (by kernel_rfl)] at h
  exact sg_of_head h.tail.tail.tail
end Go.Proofs.YtjffignbiabmaaaDoor.W.T
