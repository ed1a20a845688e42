/-
  The card of pewholderlaw3.PkgTells: true for every input; the input reads as it did. Conditions: the row's own cells, which the card ties.
-/
import Derived.Test.YtnkgjddkdikikaaGreatDoorCards
import Derived.Test.YtnkgjddkdikikaaGreatDoorTie
import Derived.SevenTiedAt
import Derived.Test.YtnkgjddkdikikaaGreatDoorPq4
import Derived.Test.YtnkgjddkdikikaaGreatDoorPq10
import Derived.Test.YtnkgjddkdikikaaGreatDoorPq7
import Derived.Test.YtnkgjddkdikikaaGreatDoorPq5
import Derived.Test.YtnkgjddkdikikaaGreatDoorPq49
import Derived.Test.YtnkgjddkdikikaaGreatDoorPq84
import Derived.Test.YtnkgjddkdikikaaGreatDoorPq14
import Derived.Test.YtnkgjddkdikikaaGreatDoorPq98
import Derived.Test.YtnkgjddkdikikaaGreatDoorPq99F
namespace Go.Proofs.YtnkgjddkdikikaaGreatDoor
open Go.ChangeShapes Go.WideShapes Go.ChangeAt Go.RowKit Go.ChangeMaps Go.Joins
theorem pkgTells_row_holds : Rows.PkgTellsSaid :=
  OpenClaim.holds_of_wide 10 Tryz.f10 rfl rfl rfl rfl rfl rfl rfl ⟨rfl, rfl, rfl, rfl, rfl⟩ rfl rfl rfl rfl rfl (by kernel_rfl) Tryz.func10 pkgTells_facts
    (of_decide_eq_true (by kernel_rfl)) (by unfold Func.isWrapper; rw [if_neg (of_decide_eq_false (by kernel_rfl))]; exact ⟨rfl, rfl⟩)
    (fun os started H enc _ => Ve.pkgTells_lifted os started H enc)
theorem pkgTells_cardG : Rows.pkgTellsRow.goesBy Tryz.pinned.checked.prog = false := by kernel_rfl
theorem pkgTells_cardM : Tryz.pinned.checked.prog.mainIs = some (Rows.pkgTellsCard.stood.harness.fst, Rows.pkgTellsCard.stood.harness.snd.toList) := by kernel_rfl
theorem pkgTells_cardW : OpenClaim.wfByText (OpenSpec.ofChange Rows.pkgTellsSpec) Rows.pkgTellsRow = true := by kernel_rfl
theorem pkgTells_cardL : true = Tryz.pinned.checked.prog.looks [] := by kernel_rfl
theorem pkgTells_cardF : Tryz.prog.funcNamed Rows.pkgTellsRow.func = some 10 := by kernel_rfl
theorem pkgTells_holds : Rows.PkgTellsCardSaid :=
  Claim7.holds_tied_plain_at .later [] Rows.pkgTellsCard.laidKinds true Rows.pkgTellsCard.stood.harness true
    pkgTells_row_holds (fun _ h => by cases h) pkgTells_cardW (fun _ h => by cases h) pkgTells_row_tie rfl ⟨rfl,rfl⟩ pkgTells_cardM rfl
    (fun f fn hf hfn => by
      obtain rfl : f = 10 := Option.some.inj (pkgTells_cardF.symm.trans hf) |>.symm
      obtain rfl : fn = Tryz.f10 := (Option.some.inj (Tryz.func10.symm.trans hfn)).symm
      exact ⟨pkgTells_cardL, fun j t ht => Ve.wants2 t (Array.mem_of_getElem? ht)⟩)
    pkgTells_cardG.symm
#print axioms pkgTells_holds
end Go.Proofs.YtnkgjddkdikikaaGreatDoor
