/-
  The card of pewholderlaw2.GraphWays: true for every input; the input reads as it did. Conditions: the row's own cells, which the card ties.
-/
import Derived.Test.YtnkgjddkdikikaaGreatDoorCards
import Derived.Test.YtnkgjddkdikikaaGreatDoorTie
import Derived.SevenTiedAt
import Derived.Test.YtnkgjddkdikikaaGreatDoorPq4
import Derived.Test.YtnkgjddkdikikaaGreatDoorPq10
import Derived.Test.YtnkgjddkdikikaaGreatDoorPq7
import Derived.Test.YtnkgjddkdikikaaGreatDoorPq49
import Derived.Test.YtnkgjddkdikikaaGreatDoorPq55
import Derived.Test.YtnkgjddkdikikaaGreatDoorPq56F
namespace Go.Proofs.YtnkgjddkdikikaaGreatDoor
open Go.ChangeShapes Go.WideShapes Go.ChangeAt Go.RowKit Go.ChangeMaps Go.Joins
theorem graphWays_row_holds : Rows.GraphWaysSaid :=
  OpenClaim.holds_of_wide 4 Tryz.f4 rfl rfl rfl rfl rfl rfl rfl ⟨rfl, rfl, rfl, rfl, rfl⟩ rfl rfl rfl rfl rfl (by kernel_rfl) Tryz.func4 graphWays_facts
    (of_decide_eq_true (by kernel_rfl)) (by unfold Func.isWrapper; rw [if_neg (of_decide_eq_false (by kernel_rfl))]; exact ⟨rfl, rfl⟩)
    (fun os started H enc _ => Ve.graphWays_lifted os started H enc)
theorem graphWays_cardG : Rows.graphWaysRow.goesBy Tryz.pinned.checked.prog = false := by kernel_rfl
theorem graphWays_cardM : Tryz.pinned.checked.prog.mainIs = some (Rows.graphWaysCard.stood.harness.fst, Rows.graphWaysCard.stood.harness.snd.toList) := by kernel_rfl
theorem graphWays_cardW : OpenClaim.wfByText (OpenSpec.ofChange Rows.graphWaysSpec) Rows.graphWaysRow = true := by kernel_rfl
theorem graphWays_cardL : true = Tryz.pinned.checked.prog.looks [] := by kernel_rfl
theorem graphWays_cardF : Tryz.prog.funcNamed Rows.graphWaysRow.func = some 4 := by kernel_rfl
theorem graphWays_holds : Rows.GraphWaysCardSaid :=
  Claim7.holds_tied_plain_at .later [] Rows.graphWaysCard.laidKinds true Rows.graphWaysCard.stood.harness true
    graphWays_row_holds (fun _ h => by cases h) graphWays_cardW (fun _ h => by cases h) graphWays_row_tie rfl ⟨rfl,rfl⟩ graphWays_cardM rfl
    (fun f fn hf hfn => by
      obtain rfl : f = 4 := Option.some.inj (graphWays_cardF.symm.trans hf) |>.symm
      obtain rfl : fn = Tryz.f4 := (Option.some.inj (Tryz.func4.symm.trans hfn)).symm
      exact ⟨graphWays_cardL, fun j t ht => Ve.wants2 t (Array.mem_of_getElem? ht)⟩)
    graphWays_cardG.symm
#print axioms graphWays_holds
end Go.Proofs.YtnkgjddkdikikaaGreatDoor
