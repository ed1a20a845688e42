/-
  The card of pewholderlaw1.IndexLatest: true for every input; the input reads as it did. Conditions: the row's own cells, which the card ties.
-/
import Derived.Test.YtnkgjddkdikikaaGreatDoorCards
import Derived.Test.YtnkgjddkdikikaaGreatDoorTie
import Derived.SevenTiedAt
import Derived.Test.YtnkgjddkdikikaaGreatDoorPq4
import Derived.Test.YtnkgjddkdikikaaGreatDoorPq10
import Derived.Test.YtnkgjddkdikikaaGreatDoorPq7
import Derived.Test.YtnkgjddkdikikaaGreatDoorPq5
import Derived.Test.YtnkgjddkdikikaaGreatDoorPq43
import Derived.Test.YtnkgjddkdikikaaGreatDoorPq44F
namespace Go.Proofs.YtnkgjddkdikikaaGreatDoor
open Go.ChangeShapes Go.WideShapes Go.ChangeAt Go.RowKit Go.ChangeMaps Go.Joins
theorem indexLatest_row_holds : Rows.IndexLatestSaid :=
  OpenClaim.holds_of_wide 3 Tryz.f3 rfl rfl rfl rfl rfl rfl rfl ⟨rfl, rfl, rfl, rfl, rfl⟩ rfl rfl rfl rfl rfl (by kernel_rfl) Tryz.func3 indexLatest_facts
    (of_decide_eq_true (by kernel_rfl)) (by unfold Func.isWrapper; rw [if_neg (of_decide_eq_false (by kernel_rfl))]; exact ⟨rfl, rfl⟩)
    (fun os started H enc _ => Ve.indexLatest_lifted os started H enc)
theorem indexLatest_cardG : Rows.indexLatestRow.goesBy Tryz.pinned.checked.prog = false := by kernel_rfl
theorem indexLatest_cardM : Tryz.pinned.checked.prog.mainIs = some (Rows.indexLatestCard.stood.harness.fst, Rows.indexLatestCard.stood.harness.snd.toList) := by kernel_rfl
theorem indexLatest_cardW : OpenClaim.wfByText (OpenSpec.ofChange Rows.indexLatestSpec) Rows.indexLatestRow = true := by kernel_rfl
theorem indexLatest_cardL : true = Tryz.pinned.checked.prog.looks [] := by kernel_rfl
theorem indexLatest_cardF : Tryz.prog.funcNamed Rows.indexLatestRow.func = some 3 := by kernel_rfl
theorem indexLatest_holds : Rows.IndexLatestCardSaid :=
  Claim7.holds_tied_plain_at .later [] Rows.indexLatestCard.laidKinds true Rows.indexLatestCard.stood.harness true
    indexLatest_row_holds (fun _ h => by cases h) indexLatest_cardW (fun _ h => by cases h) indexLatest_row_tie rfl ⟨rfl,rfl⟩ indexLatest_cardM rfl
    (fun f fn hf hfn => by
      obtain rfl : f = 3 := Option.some.inj (indexLatest_cardF.symm.trans hf) |>.symm
      obtain rfl : fn = Tryz.f3 := (Option.some.inj (Tryz.func3.symm.trans hfn)).symm
      exact ⟨indexLatest_cardL, fun j t ht => Ve.wants1 t (Array.mem_of_getElem? ht)⟩)
    indexLatest_cardG.symm
#print axioms indexLatest_holds
end Go.Proofs.YtnkgjddkdikikaaGreatDoor
