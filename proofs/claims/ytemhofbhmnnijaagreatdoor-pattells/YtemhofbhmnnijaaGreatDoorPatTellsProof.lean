/-
  The card of pewholderlaw3.PatTells: true for every input; the input reads as it did. Conditions: the row's own cells, which the card ties.
-/
import Derived.Test.YtemhofbhmnnijaaGreatDoorPj52
import Derived.Test.YtemhofbhmnnijaaGreatDoorCards
import Derived.Test.YtemhofbhmnnijaaGreatDoorTie
import Derived.SevenTiedAt
namespace Go.Proofs.YtemhofbhmnnijaaGreatDoor
open Go.ChangeShapes Go.WideShapes Go.ChangeAt Go.RowKit Go.ChangeMaps Go.Joins

theorem patTells_factI : (Rows.patTellsRow.inPlace == Tryz.pinned.checked.prog.inPlace 3) = true := by kernel_rfl
theorem patTells_factU : (Rows.patTellsRow.unfollowed == Tryz.pinned.checked.prog.unfollowed 3) = true := by kernel_rfl
theorem patTells_factR : (Rows.patTellsRow.recurses == Tryz.pinned.checked.prog.recurses 3) = true := by kernel_rfl
theorem patTells_factN : (Rows.patTellsRow.named == Tryz.pinned.checked.prog.varsNamed 3) = true := by kernel_rfl
theorem patTells_facts : joinedFacts Tryz.pinned.checked.prog 3 Tryz.f3 Rows.patTellsSpec Rows.patTellsRow = true := by
  unfold joinedFacts
  rw [patTells_factI, patTells_factU, patTells_factR, patTells_factN]
  kernel_rfl

theorem patTells_row_holds : Rows.PatTellsSaid :=
  OpenClaim.holds_of_wide 3 Tryz.f3 rfl rfl rfl rfl rfl rfl rfl ⟨rfl, rfl, rfl, rfl, rfl⟩ rfl rfl rfl rfl rfl (by kernel_rfl) Tryz.func3 patTells_facts
    (of_decide_eq_true (by kernel_rfl)) (by unfold Func.isWrapper; rw [if_neg (of_decide_eq_false (by kernel_rfl))]; exact ⟨rfl, rfl⟩)
    (fun os started H enc _ => Ve.patTells_lifted os started H enc)

theorem patTells_holds : Rows.PatTellsCardSaid :=
  Claim7.holds_tied_plain_at .later [] Rows.patTellsCard.laidKinds true Rows.patTellsCard.stood.harness true
    patTells_row_holds (fun _ h => by cases h) (by kernel_rfl) (fun _ h => by cases h) patTells_row_tie rfl ⟨rfl, rfl⟩ (by kernel_rfl) rfl
    (fun f fn hf hfn => by
      obtain rfl : f = 3 := Option.some.inj ((show Tryz.prog.funcNamed Rows.patTellsRow.func = some 3 by kernel_rfl).symm.trans hf) |>.symm
      obtain rfl : fn = Tryz.f3 := (Option.some.inj (Tryz.func3.symm.trans hfn)).symm
      exact ⟨by kernel_rfl, fun j t ht => Ve.wants2 t (Array.mem_of_getElem? ht)⟩)
    (by kernel_rfl)
#print axioms patTells_holds
end Go.Proofs.YtemhofbhmnnijaaGreatDoor
