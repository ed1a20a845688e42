/-
  What the small readers of packages chars and ver answer (Digit, Small, inPart, Every), in the words of the plain functions.
-/
import Derived.Test.YtccnagkfnmffpaaDoorProg
import Derived.Test.YtccnagkfnmffpaaDoorVerPlain
import Derived.WalkKit
import Derived.LaidEql
import Derived.Stop.Asserts
import Derived.RowKitTokens
import Derived.Deep.QuietTactic
import Derived.BigQuiet
namespace Go.Proofs.YtccnagkfnmffpaaDoor
open Go.RowKit
namespace Ve

theorem hid {p : Prop} (h : p) : Hid p := h

theorem ret_bool {a b : Bool} (h : a = b) : Ending.returned (.bool a) = .returned (.bool b) := by rw [h]
theorem ret_int {k : IntKind} {a b : Int} (h : a = b) : Ending.returned (.int k a) = .returned (.int k b) := by rw [h]

end Ve
end Go.Proofs.YtccnagkfnmffpaaDoor
