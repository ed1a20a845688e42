/-
  The card of pewholderlaw2.DownCaps: true for every input; the input reads as it did. Conditions: the row's own cells, which the card ties.
-/
import Derived.Test.YtjhiajeeijfkeaaGreatDoorDn8
import Derived.Test.YtjhiajeeijfkeaaGreatDoorCards
import Derived.Test.YtjhiajeeijfkeaaGreatDoorTie
import Derived.SevenTiedAt
namespace Go.Proofs.YtjhiajeeijfkeaaGreatDoor
open Go.ChangeShapes Go.WideShapes Go.ChangeAt Go.RowKit Go.ChangeMaps Go.Joins

theorem downCaps_factI : (Rows.downCapsRow.inPlace == Tryz.pinned.checked.prog.inPlace 3) = true := by kernel_rfl
theorem downCaps_factU : (Rows.downCapsRow.unfollowed == Tryz.pinned.checked.prog.unfollowed 3) = true := by kernel_rfl
theorem downCaps_factR : (Rows.downCapsRow.recurses == Tryz.pinned.checked.prog.recurses 3) = true := by kernel_rfl
theorem downCaps_factN : (Rows.downCapsRow.named == Tryz.pinned.checked.prog.varsNamed 3) = true := by kernel_rfl
theorem downCaps_facts : joinedFacts Tryz.pinned.checked.prog 3 Tryz.f3 Rows.downCapsSpec Rows.downCapsRow = true := by
  unfold joinedFacts
  rw [downCaps_factI, downCaps_factU, downCaps_factR, downCaps_factN]
  kernel_rfl

theorem downCaps_row_holds : Rows.DownCapsSaid :=
  OpenClaim.holds_of_wide 3 Tryz.f3 rfl rfl rfl rfl rfl rfl rfl ⟨rfl, rfl, rfl, rfl, rfl⟩ rfl rfl rfl rfl rfl (by kernel_rfl) Tryz.func3 downCaps_facts
    (of_decide_eq_true (by kernel_rfl)) (by unfold Func.isWrapper; rw [if_neg (of_decide_eq_false (by kernel_rfl))]; exact ⟨rfl, rfl⟩)
    (fun os started H enc _ => Ve.downCaps_lifted os started H enc)

theorem downCaps_holds : Rows.DownCapsCardSaid :=
  Claim7.holds_tied_plain_at .later [] Rows.downCapsCard.laidKinds true Rows.downCapsCard.stood.harness true
    downCaps_row_holds (fun _ h => by cases h) (by kernel_rfl) (fun _ h => by cases h) downCaps_row_tie rfl ⟨rfl, rfl⟩ (by kernel_rfl) rfl
    (fun f fn hf hfn => by
      obtain rfl : f = 3 := Option.some.inj ((show Tryz.prog.funcNamed Rows.downCapsRow.func = some 3 by kernel_rfl).symm.trans hf) |>.symm
      obtain rfl : fn = Tryz.f3 := (Option.some.inj (Tryz.func3.symm.trans hfn)).symm
      exact ⟨by kernel_rfl, fun j t ht => Ve.wants3 t (Array.mem_of_getElem? ht)⟩)
    (by kernel_rfl)
#print axioms downCaps_holds
end Go.Proofs.YtjhiajeeijfkeaaGreatDoor
