/-
  The card of pewholderlaw3.QueryPicks: true for every input; the input reads as it did. Conditions: the row's own cells, which the card ties.
-/
import Derived.Test.YtnkgjddkdikikaaGreatDoorCards
import Derived.Test.YtnkgjddkdikikaaGreatDoorTie
import Derived.SevenTiedAt
import Derived.Test.YtnkgjddkdikikaaGreatDoorPq4
import Derived.Test.YtnkgjddkdikikaaGreatDoorPq10
import Derived.Test.YtnkgjddkdikikaaGreatDoorPq7
import Derived.Test.YtnkgjddkdikikaaGreatDoorPq5
import Derived.Test.YtnkgjddkdikikaaGreatDoorPq61
import Derived.Test.YtnkgjddkdikikaaGreatDoorPq77
import Derived.Test.YtnkgjddkdikikaaGreatDoorPq78F
namespace Go.Proofs.YtnkgjddkdikikaaGreatDoor
open Go.ChangeShapes Go.WideShapes Go.ChangeAt Go.RowKit Go.ChangeMaps Go.Joins
theorem queryPicks_row_holds : Rows.QueryPicksSaid :=
  OpenClaim.holds_of_wide 7 Tryz.f7 rfl rfl rfl rfl rfl rfl rfl ⟨rfl, rfl, rfl, rfl, rfl⟩ rfl rfl rfl rfl rfl (by kernel_rfl) Tryz.func7 queryPicks_facts
    (of_decide_eq_true (by kernel_rfl)) (by unfold Func.isWrapper; rw [if_neg (of_decide_eq_false (by kernel_rfl))]; exact ⟨rfl, rfl⟩)
    (fun os started H enc _ => Ve.queryPicks_lifted os started H enc)
theorem queryPicks_cardG : Rows.queryPicksRow.goesBy Tryz.pinned.checked.prog = false := by kernel_rfl
theorem queryPicks_cardM : Tryz.pinned.checked.prog.mainIs = some (Rows.queryPicksCard.stood.harness.fst, Rows.queryPicksCard.stood.harness.snd.toList) := by kernel_rfl
theorem queryPicks_cardW : OpenClaim.wfByText (OpenSpec.ofChange Rows.queryPicksSpec) Rows.queryPicksRow = true := by kernel_rfl
theorem queryPicks_cardL : true = Tryz.pinned.checked.prog.looks [] := by kernel_rfl
theorem queryPicks_cardF : Tryz.prog.funcNamed Rows.queryPicksRow.func = some 7 := by kernel_rfl
theorem queryPicks_holds : Rows.QueryPicksCardSaid :=
  Claim7.holds_tied_plain_at .later [] Rows.queryPicksCard.laidKinds true Rows.queryPicksCard.stood.harness true
    queryPicks_row_holds (fun _ h => by cases h) queryPicks_cardW (fun _ h => by cases h) queryPicks_row_tie rfl ⟨rfl,rfl⟩ queryPicks_cardM rfl
    (fun f fn hf hfn => by
      obtain rfl : f = 7 := Option.some.inj (queryPicks_cardF.symm.trans hf) |>.symm
      obtain rfl : fn = Tryz.f7 := (Option.some.inj (Tryz.func7.symm.trans hfn)).symm
      exact ⟨queryPicks_cardL, fun j t ht => Ve.wants2 t (Array.mem_of_getElem? ht)⟩)
    queryPicks_cardG.symm
#print axioms queryPicks_holds
end Go.Proofs.YtnkgjddkdikikaaGreatDoor
