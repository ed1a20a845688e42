/-
  The card of pewholderlaw1.VerTells: true for every input; the input reads as it did. Conditions: the row's own cells, which the card ties.
-/
import Derived.Test.YtmgpapghdbopiaaGreatDoorVerTellsLift
import Derived.Test.YtmgpapghdbopiaaGreatDoorCards
import Derived.Test.YtmgpapghdbopiaaGreatDoorTie
import Derived.SevenTiedAt
namespace Go.Proofs.YtmgpapghdbopiaaGreatDoor
open Go.ChangeShapes Go.WideShapes Go.ChangeAt Go.RowKit Go.ChangeMaps

theorem verTells_factI : (Rows.verTellsRow.inPlace == Tryz.pinned.checked.prog.inPlace 3) = true := by kernel_rfl
theorem verTells_factU : (Rows.verTellsRow.unfollowed == Tryz.pinned.checked.prog.unfollowed 3) = true := by kernel_rfl
theorem verTells_factR : (Rows.verTellsRow.recurses == Tryz.pinned.checked.prog.recurses 3) = true := by kernel_rfl
theorem verTells_factN : (Rows.verTellsRow.named == Tryz.pinned.checked.prog.varsNamed 3) = true := by kernel_rfl
theorem verTells_facts : joinedFacts Tryz.pinned.checked.prog 3 Tryz.f3 Rows.verTellsSpec Rows.verTellsRow = true := by
  unfold joinedFacts
  rw [verTells_factI, verTells_factU, verTells_factR, verTells_factN]
  kernel_rfl

theorem verTells_row_holds : Rows.VerTellsSaid :=
  OpenClaim.holds_of_wide 3 Tryz.f3 rfl rfl rfl rfl rfl rfl rfl ⟨rfl, rfl, rfl, rfl, rfl⟩ rfl rfl rfl rfl rfl (by kernel_rfl) Tryz.func3 verTells_facts
    (of_decide_eq_true (by kernel_rfl)) (by unfold Func.isWrapper; rw [if_neg (of_decide_eq_false (by kernel_rfl))]; exact ⟨rfl, rfl⟩)
    (fun os started H enc _ => Ve.verTells_lifted os started H enc)

theorem verTells_holds : Rows.VerTellsCardSaid :=
  Claim7.holds_tied_plain_at .later [] Rows.verTellsCard.laidKinds true Rows.verTellsCard.stood.harness true
    verTells_row_holds (fun _ h => by cases h) (by kernel_rfl) (fun _ h => by cases h) verTells_row_tie rfl ⟨rfl, rfl⟩ (by kernel_rfl) rfl
    (fun f fn hf hfn => by
      obtain rfl : f = 3 := Option.some.inj ((show Tryz.prog.funcNamed Rows.verTellsRow.func = some 3 by kernel_rfl).symm.trans hf) |>.symm
      obtain rfl : fn = Tryz.f3 := (Option.some.inj (Tryz.func3.symm.trans hfn)).symm
      exact ⟨by kernel_rfl, fun j t ht => Ve.wants3 t (Array.mem_of_getElem? ht)⟩)
    (by kernel_rfl)
#print axioms verTells_holds
end Go.Proofs.YtmgpapghdbopiaaGreatDoor
