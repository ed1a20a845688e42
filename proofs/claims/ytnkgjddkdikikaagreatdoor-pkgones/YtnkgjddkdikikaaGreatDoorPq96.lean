/-
  The card of pewholderlaw3.PkgOnes: true for every input; the input reads as it did. Conditions: the row's own cells, which the card ties.
-/
import Derived.Test.YtnkgjddkdikikaaGreatDoorCards
import Derived.Test.YtnkgjddkdikikaaGreatDoorTie
import Derived.SevenTiedAt
import Derived.Test.YtnkgjddkdikikaaGreatDoorPq4
import Derived.Test.YtnkgjddkdikikaaGreatDoorPq10
import Derived.Test.YtnkgjddkdikikaaGreatDoorPq7
import Derived.Test.YtnkgjddkdikikaaGreatDoorPq5
import Derived.Test.YtnkgjddkdikikaaGreatDoorPq49
import Derived.Test.YtnkgjddkdikikaaGreatDoorPq84
import Derived.Test.YtnkgjddkdikikaaGreatDoorPq14
import Derived.Test.YtnkgjddkdikikaaGreatDoorPq95
import Derived.Test.YtnkgjddkdikikaaGreatDoorPq96F
namespace Go.Proofs.YtnkgjddkdikikaaGreatDoor
open Go.ChangeShapes Go.WideShapes Go.ChangeAt Go.RowKit Go.ChangeMaps Go.Joins
theorem pkgOnes_row_holds : Rows.PkgOnesSaid :=
  OpenClaim.holds_of_wide 9 Tryz.f9 rfl rfl rfl rfl rfl rfl rfl ⟨rfl, rfl, rfl, rfl, rfl⟩ rfl rfl rfl rfl rfl (by kernel_rfl) Tryz.func9 pkgOnes_facts
    (of_decide_eq_true (by kernel_rfl)) (by unfold Func.isWrapper; rw [if_neg (of_decide_eq_false (by kernel_rfl))]; exact ⟨rfl, rfl⟩)
    (fun os started H enc _ => Ve.pkgOnes_lifted os started H enc)
theorem pkgOnes_cardG : Rows.pkgOnesRow.goesBy Tryz.pinned.checked.prog = false := by kernel_rfl
theorem pkgOnes_cardM : Tryz.pinned.checked.prog.mainIs = some (Rows.pkgOnesCard.stood.harness.fst, Rows.pkgOnesCard.stood.harness.snd.toList) := by kernel_rfl
theorem pkgOnes_cardW : OpenClaim.wfByText (OpenSpec.ofChange Rows.pkgOnesSpec) Rows.pkgOnesRow = true := by kernel_rfl
theorem pkgOnes_cardL : true = Tryz.pinned.checked.prog.looks [] := by kernel_rfl
theorem pkgOnes_cardF : Tryz.prog.funcNamed Rows.pkgOnesRow.func = some 9 := by kernel_rfl
theorem pkgOnes_holds : Rows.PkgOnesCardSaid :=
  Claim7.holds_tied_plain_at .later [] Rows.pkgOnesCard.laidKinds true Rows.pkgOnesCard.stood.harness true
    pkgOnes_row_holds (fun _ h => by cases h) pkgOnes_cardW (fun _ h => by cases h) pkgOnes_row_tie rfl ⟨rfl,rfl⟩ pkgOnes_cardM rfl
    (fun f fn hf hfn => by
      obtain rfl : f = 9 := Option.some.inj (pkgOnes_cardF.symm.trans hf) |>.symm
      obtain rfl : fn = Tryz.f9 := (Option.some.inj (Tryz.func9.symm.trans hfn)).symm
      exact ⟨pkgOnes_cardL, fun j t ht => Ve.wants2 t (Array.mem_of_getElem? ht)⟩)
    pkgOnes_cardG.symm
#print axioms pkgOnes_holds
end Go.Proofs.YtnkgjddkdikikaaGreatDoor
