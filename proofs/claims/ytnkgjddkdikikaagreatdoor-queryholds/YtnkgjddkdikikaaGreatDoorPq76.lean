/-
  The card of pewholderlaw3.QueryHolds: true for every input; the input reads as it did. Conditions: the row's own cells, which the card ties.
-/
import Derived.Test.YtnkgjddkdikikaaGreatDoorCards
import Derived.Test.YtnkgjddkdikikaaGreatDoorTie
import Derived.SevenTiedAt
import Derived.Test.YtnkgjddkdikikaaGreatDoorPq4
import Derived.Test.YtnkgjddkdikikaaGreatDoorPq10
import Derived.Test.YtnkgjddkdikikaaGreatDoorPq7
import Derived.Test.YtnkgjddkdikikaaGreatDoorPq5
import Derived.Test.YtnkgjddkdikikaaGreatDoorPq61
import Derived.Test.YtnkgjddkdikikaaGreatDoorPq75
import Derived.Test.YtnkgjddkdikikaaGreatDoorPq76F
namespace Go.Proofs.YtnkgjddkdikikaaGreatDoor
open Go.ChangeShapes Go.WideShapes Go.ChangeAt Go.RowKit Go.ChangeMaps Go.Joins
theorem queryHolds_row_holds : Rows.QueryHoldsSaid :=
  OpenClaim.holds_of_wide 6 Tryz.f6 rfl rfl rfl rfl rfl rfl rfl ⟨rfl, rfl, rfl, rfl, rfl⟩ rfl rfl rfl rfl rfl (by kernel_rfl) Tryz.func6 queryHolds_facts
    (of_decide_eq_true (by kernel_rfl)) (by unfold Func.isWrapper; rw [if_neg (of_decide_eq_false (by kernel_rfl))]; exact ⟨rfl, rfl⟩)
    (fun os started H enc _ => Ve.queryHolds_lifted os started H enc)
theorem queryHolds_cardG : Rows.queryHoldsRow.goesBy Tryz.pinned.checked.prog = false := by kernel_rfl
theorem queryHolds_cardM : Tryz.pinned.checked.prog.mainIs = some (Rows.queryHoldsCard.stood.harness.fst, Rows.queryHoldsCard.stood.harness.snd.toList) := by kernel_rfl
theorem queryHolds_cardW : OpenClaim.wfByText (OpenSpec.ofChange Rows.queryHoldsSpec) Rows.queryHoldsRow = true := by kernel_rfl
theorem queryHolds_cardL : true = Tryz.pinned.checked.prog.looks [] := by kernel_rfl
theorem queryHolds_cardF : Tryz.prog.funcNamed Rows.queryHoldsRow.func = some 6 := by kernel_rfl
theorem queryHolds_holds : Rows.QueryHoldsCardSaid :=
  Claim7.holds_tied_plain_at .later [] Rows.queryHoldsCard.laidKinds true Rows.queryHoldsCard.stood.harness true
    queryHolds_row_holds (fun _ h => by cases h) queryHolds_cardW (fun _ h => by cases h) queryHolds_row_tie rfl ⟨rfl,rfl⟩ queryHolds_cardM rfl
    (fun f fn hf hfn => by
      obtain rfl : f = 6 := Option.some.inj (queryHolds_cardF.symm.trans hf) |>.symm
      obtain rfl : fn = Tryz.f6 := (Option.some.inj (Tryz.func6.symm.trans hfn)).symm
      exact ⟨queryHolds_cardL, fun j t ht => Ve.wants2 t (Array.mem_of_getElem? ht)⟩)
    queryHolds_cardG.symm
#print axioms queryHolds_holds
end Go.Proofs.YtnkgjddkdikikaaGreatDoor
