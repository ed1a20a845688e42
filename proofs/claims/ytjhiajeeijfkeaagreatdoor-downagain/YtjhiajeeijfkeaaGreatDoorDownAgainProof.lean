/-
  The card of pewholderlaw2.DownAgain: true for every input; the input reads as it did. Conditions: the row's own cells, which the card ties.
-/
import Derived.Test.YtjhiajeeijfkeaaGreatDoorDn9
import Derived.Test.YtjhiajeeijfkeaaGreatDoorCards
import Derived.Test.YtjhiajeeijfkeaaGreatDoorTie
import Derived.SevenTiedAt
namespace Go.Proofs.YtjhiajeeijfkeaaGreatDoor
open Go.ChangeShapes Go.WideShapes Go.ChangeAt Go.RowKit Go.ChangeMaps Go.Joins

theorem downAgain_factI : (Rows.downAgainRow.inPlace == Tryz.pinned.checked.prog.inPlace 5) = true := by kernel_rfl
theorem downAgain_factU : (Rows.downAgainRow.unfollowed == Tryz.pinned.checked.prog.unfollowed 5) = true := by kernel_rfl
theorem downAgain_factR : (Rows.downAgainRow.recurses == Tryz.pinned.checked.prog.recurses 5) = true := by kernel_rfl
theorem downAgain_factN : (Rows.downAgainRow.named == Tryz.pinned.checked.prog.varsNamed 5) = true := by kernel_rfl
theorem downAgain_facts : joinedFacts Tryz.pinned.checked.prog 5 Tryz.f5 Rows.downAgainSpec Rows.downAgainRow = true := by
  unfold joinedFacts
  rw [downAgain_factI, downAgain_factU, downAgain_factR, downAgain_factN]
  kernel_rfl

theorem downAgain_row_holds : Rows.DownAgainSaid :=
  OpenClaim.holds_of_wide 5 Tryz.f5 rfl rfl rfl rfl rfl rfl rfl ⟨rfl, rfl, rfl, rfl, rfl⟩ rfl rfl rfl rfl rfl (by kernel_rfl) Tryz.func5 downAgain_facts
    (of_decide_eq_true (by kernel_rfl)) (by unfold Func.isWrapper; rw [if_neg (of_decide_eq_false (by kernel_rfl))]; exact ⟨rfl, rfl⟩)
    (fun os started H enc _ => Ve.downAgain_lifted os started H enc)

theorem downAgain_holds : Rows.DownAgainCardSaid :=
  Claim7.holds_tied_plain_at .later [] Rows.downAgainCard.laidKinds true Rows.downAgainCard.stood.harness true
    downAgain_row_holds (fun _ h => by cases h) (by kernel_rfl) (fun _ h => by cases h) downAgain_row_tie rfl ⟨rfl, rfl⟩ (by kernel_rfl) rfl
    (fun f fn hf hfn => by
      obtain rfl : f = 5 := Option.some.inj ((show Tryz.prog.funcNamed Rows.downAgainRow.func = some 5 by kernel_rfl).symm.trans hf) |>.symm
      obtain rfl : fn = Tryz.f5 := (Option.some.inj (Tryz.func5.symm.trans hfn)).symm
      exact ⟨by kernel_rfl, fun j t ht => Ve.wants3 t (Array.mem_of_getElem? ht)⟩)
    (by kernel_rfl)
#print axioms downAgain_holds
end Go.Proofs.YtjhiajeeijfkeaaGreatDoor
