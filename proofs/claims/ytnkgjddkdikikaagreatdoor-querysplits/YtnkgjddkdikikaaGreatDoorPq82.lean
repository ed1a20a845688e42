/-
  The card of pewholderlaw3.QuerySplits: true for every input; the input reads as it did. Conditions: the row's own cells, which the card ties.
-/
import Derived.Test.YtnkgjddkdikikaaGreatDoorCards
import Derived.Test.YtnkgjddkdikikaaGreatDoorTie
import Derived.SevenTiedAt
import Derived.Test.YtnkgjddkdikikaaGreatDoorPq4
import Derived.Test.YtnkgjddkdikikaaGreatDoorPq10
import Derived.Test.YtnkgjddkdikikaaGreatDoorPq7
import Derived.Test.YtnkgjddkdikikaaGreatDoorPq5
import Derived.Test.YtnkgjddkdikikaaGreatDoorPq61
import Derived.Test.YtnkgjddkdikikaaGreatDoorPq81
import Derived.Test.YtnkgjddkdikikaaGreatDoorPq82F
namespace Go.Proofs.YtnkgjddkdikikaaGreatDoor
open Go.ChangeShapes Go.WideShapes Go.ChangeAt Go.RowKit Go.ChangeMaps Go.Joins
theorem querySplits_row_holds : Rows.QuerySplitsSaid :=
  OpenClaim.holds_of_wide 8 Tryz.f8 rfl rfl rfl rfl rfl rfl rfl ⟨rfl, rfl, rfl, rfl, rfl⟩ rfl rfl rfl rfl rfl (by kernel_rfl) Tryz.func8 querySplits_facts
    (of_decide_eq_true (by kernel_rfl)) (by unfold Func.isWrapper; rw [if_neg (of_decide_eq_false (by kernel_rfl))]; exact ⟨rfl, rfl⟩)
    (fun os started H enc _ => Ve.querySplits_lifted os started H enc)
theorem querySplits_cardG : Rows.querySplitsRow.goesBy Tryz.pinned.checked.prog = false := by kernel_rfl
theorem querySplits_cardM : Tryz.pinned.checked.prog.mainIs = some (Rows.querySplitsCard.stood.harness.fst, Rows.querySplitsCard.stood.harness.snd.toList) := by kernel_rfl
theorem querySplits_cardW : OpenClaim.wfByText (OpenSpec.ofChange Rows.querySplitsSpec) Rows.querySplitsRow = true := by kernel_rfl
theorem querySplits_cardL : true = Tryz.pinned.checked.prog.looks [] := by kernel_rfl
theorem querySplits_cardF : Tryz.prog.funcNamed Rows.querySplitsRow.func = some 8 := by kernel_rfl
theorem querySplits_holds : Rows.QuerySplitsCardSaid :=
  Claim7.holds_tied_plain_at .later [] Rows.querySplitsCard.laidKinds true Rows.querySplitsCard.stood.harness true
    querySplits_row_holds (fun _ h => by cases h) querySplits_cardW (fun _ h => by cases h) querySplits_row_tie rfl ⟨rfl,rfl⟩ querySplits_cardM rfl
    (fun f fn hf hfn => by
      obtain rfl : f = 8 := Option.some.inj (querySplits_cardF.symm.trans hf) |>.symm
      obtain rfl : fn = Tryz.f8 := (Option.some.inj (Tryz.func8.symm.trans hfn)).symm
      exact ⟨querySplits_cardL, fun j t ht => Ve.wants2 t (Array.mem_of_getElem? ht)⟩)
    querySplits_cardG.symm
#print axioms querySplits_holds
end Go.Proofs.YtnkgjddkdikikaaGreatDoor
