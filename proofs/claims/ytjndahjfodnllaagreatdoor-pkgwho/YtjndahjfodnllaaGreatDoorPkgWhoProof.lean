/-
  The card of pewholderlaw3.PkgWho: true for every input; the input reads as it did. Conditions: the row's own cells, which the card ties.
-/
import Derived.Test.YtjndahjfodnllaaGreatDoorPw11
import Derived.Test.YtjndahjfodnllaaGreatDoorCards
import Derived.Test.YtjndahjfodnllaaGreatDoorTie
import Derived.SevenTiedAt
namespace Go.Proofs.YtjndahjfodnllaaGreatDoor
open Go.ChangeShapes Go.WideShapes Go.ChangeAt Go.RowKit Go.ChangeMaps Go.Joins

theorem pkgWho_factI : (Rows.pkgWhoRow.inPlace == Tryz.pinned.checked.prog.inPlace 5) = true := by kernel_rfl
theorem pkgWho_factU : (Rows.pkgWhoRow.unfollowed == Tryz.pinned.checked.prog.unfollowed 5) = true := by kernel_rfl
theorem pkgWho_factR : (Rows.pkgWhoRow.recurses == Tryz.pinned.checked.prog.recurses 5) = true := by kernel_rfl
theorem pkgWho_factN : (Rows.pkgWhoRow.named == Tryz.pinned.checked.prog.varsNamed 5) = true := by kernel_rfl
theorem pkgWho_facts : joinedFacts Tryz.pinned.checked.prog 5 Tryz.f5 Rows.pkgWhoSpec Rows.pkgWhoRow = true := by
  unfold joinedFacts
  rw [pkgWho_factI, pkgWho_factU, pkgWho_factR, pkgWho_factN]
  kernel_rfl

theorem pkgWho_row_holds : Rows.PkgWhoSaid :=
  OpenClaim.holds_of_wide 5 Tryz.f5 rfl rfl rfl rfl rfl rfl rfl ⟨rfl, rfl, rfl, rfl, rfl⟩ rfl rfl rfl rfl rfl (by kernel_rfl) Tryz.func5 pkgWho_facts
    (of_decide_eq_true (by kernel_rfl)) (by unfold Func.isWrapper; rw [if_neg (of_decide_eq_false (by kernel_rfl))]; exact ⟨rfl, rfl⟩)
    (fun os started H enc _ => Ve.pkgWho_lifted os started H enc)

theorem pkgWho_holds : Rows.PkgWhoCardSaid :=
  Claim7.holds_tied_plain_at .later [] Rows.pkgWhoCard.laidKinds true Rows.pkgWhoCard.stood.harness true
    pkgWho_row_holds (fun _ h => by cases h) (by kernel_rfl) (fun _ h => by cases h) pkgWho_row_tie rfl ⟨rfl, rfl⟩ (by kernel_rfl) rfl
    (fun f fn hf hfn => by
      obtain rfl : f = 5 := Option.some.inj ((show Tryz.prog.funcNamed Rows.pkgWhoRow.func = some 5 by kernel_rfl).symm.trans hf) |>.symm
      obtain rfl : fn = Tryz.f5 := (Option.some.inj (Tryz.func5.symm.trans hfn)).symm
      exact ⟨by kernel_rfl, fun j t ht => Ve.wants2 t (Array.mem_of_getElem? ht)⟩)
    (by kernel_rfl)
#print axioms pkgWho_holds
end Go.Proofs.YtjndahjfodnllaaGreatDoor
