
import Derived.Test.YtemhofbhmnnijaaGreatDoorPj30
import Derived.Test.YtemhofbhmnnijaaGreatDoorPj27
import Derived.Test.YtemhofbhmnnijaaGreatDoorPj28
namespace Go.Proofs.YtemhofbhmnnijaaGreatDoor
namespace Ve
end Ve
end Go.Proofs.YtemhofbhmnnijaaGreatDoor


namespace Go.Proofs.YtemhofbhmnnijaaGreatDoor
open Go.RowKit
namespace Ve
set_option maxHeartbeats 1000000 in
theorem coded3_any (A : Nat → Addr) (c : Nat) (w : World) (S : Er.Sen w A) (hc : c ≤ 10) :
    Calls Tryz.prog 6 #[errA A c, .int .i64 ((c : Nat) : Int)] w fun e w' => e = .returned (.bool true) ∧ Below w.heap.size w w' := by
  have HC := hid (show Calls Tryz.prog 15 #[errA A c] w fun e w' => e = .returned (.tuple #[.int .i64 (c : Nat), .int .i64 (-1)]) ∧ Below w.heap.size w w' by
    cases c with
    | zero => exact (Er.code_nil w).mono fun e w' h => ⟨h.1, by rw [h.2]; exact Below.refl _ _⟩
    | succ j => exact Er.code_sen A j w S (by omega))
  generalize errA A c = x at *
  generalize ((c : Nat) : Int) = z at *
  have e1 : (z == z) = true := beq_self_eq_true z
  clear S hc
  go_enter Tryz.func6, Tryz.ntmps6
  go_wp2_with fail
  refine HC.out.mono ?_
  rintro e w1 ⟨rfl, hb⟩
  have HB := hid hb
  clear hb
  go_wp2_with fail
  go_ret
  exact ⟨rfl, HB.out⟩
end Ve
end Go.Proofs.YtemhofbhmnnijaaGreatDoor
