/-
  What coded of the statements answers of an error with its own number: true; nothing old in memory turns.
-/
import Derived.Test.YtmgpapghdbopiaaGreatDoorCode
import Derived.Deep.QuietTactic
import Derived.BigQuiet
namespace Go.Proofs.YtmgpapghdbopiaaGreatDoor
open Go.RowKit Go.Extern.Stop Go.Stop Go.Extern
namespace Er

set_option maxHeartbeats 1000000 in
/-- coded, out of what plain.Code answers. -/
theorem coded_of (v : Value) (c at_ n : Int) (w : World) (hc : ∀ W, W = w → Calls Tryz.prog 43 #[v] W fun e w' => e = .returned (.tuple #[.int .i64 c, .int .i64 at_]) ∧ Below w.heap.size w w') (h1 : (c == n) = true) (h2 : (at_ == -1) = true) :
    Calls Tryz.prog 9 #[v, .int .i64 n] w fun e w' => e = .returned (.bool true) ∧ Below w.heap.size w w' := by
  have HC := hid hc
  clear hc
  go_enter Tryz.func9, Tryz.ntmps9
  go_wp2_with fail
  refine (HC.out _ rfl).mono ?_
  rintro e w1 ⟨rfl, hb⟩
  have HB := hid hb
  clear hb
  go_wp2_with fail
  go_ret
  exact ⟨rfl, HB.out⟩

theorem coded_nil (w : World) : Calls Tryz.prog 9 #[.nilIface, .int .i64 0] w fun e w' => e = .returned (.bool true) ∧ Below w.heap.size w w' :=
  coded_of .nilIface 0 (-1) 0 w (fun W hW => by rw [hW]; exact (code_nil w).mono fun e w' h => ⟨h.1, by rw [h.2]; exact Below.refl _ _⟩) rfl rfl
theorem coded_sen (A : Nat → Addr) (j : Nat) (w : World) (S : Sen w A) (hj : j < 10) : Calls Tryz.prog 9 #[.iface 201 (.pointer (some (A j))), .int .i64 ((j : Int) + 1)] w fun e w' => e = .returned (.bool true) ∧ Below w.heap.size w w' :=
  coded_of _ ((j : Int) + 1) (-1) ((j : Int) + 1) w (fun W hW => by rw [hW]; exact code_sen A j w S hj) (by simp) (by simp)
end Er
end Go.Proofs.YtmgpapghdbopiaaGreatDoor
