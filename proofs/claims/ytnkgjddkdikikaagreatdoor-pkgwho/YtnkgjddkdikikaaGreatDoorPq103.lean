/-
  The card of pewholderlaw3.PkgWho: true for every input; the input reads as it did. Conditions: the row's own cells, which the card ties.
-/
import Derived.Test.YtnkgjddkdikikaaGreatDoorCards
import Derived.Test.YtnkgjddkdikikaaGreatDoorTie
import Derived.SevenTiedAt
import Derived.Test.YtnkgjddkdikikaaGreatDoorPq4
import Derived.Test.YtnkgjddkdikikaaGreatDoorPq10
import Derived.Test.YtnkgjddkdikikaaGreatDoorPq7
import Derived.Test.YtnkgjddkdikikaaGreatDoorPq5
import Derived.Test.YtnkgjddkdikikaaGreatDoorPq49
import Derived.Test.YtnkgjddkdikikaaGreatDoorPq84
import Derived.Test.YtnkgjddkdikikaaGreatDoorPq14
import Derived.Test.YtnkgjddkdikikaaGreatDoorPq102
import Derived.Test.YtnkgjddkdikikaaGreatDoorPq103F
namespace Go.Proofs.YtnkgjddkdikikaaGreatDoor
open Go.ChangeShapes Go.WideShapes Go.ChangeAt Go.RowKit Go.ChangeMaps Go.Joins
theorem pkgWho_row_holds : Rows.PkgWhoSaid :=
  OpenClaim.holds_of_wide 11 Tryz.f11 rfl rfl rfl rfl rfl rfl rfl ⟨rfl, rfl, rfl, rfl, rfl⟩ rfl rfl rfl rfl rfl (by kernel_rfl) Tryz.func11 pkgWho_facts
    (of_decide_eq_true (by kernel_rfl)) (by unfold Func.isWrapper; rw [if_neg (of_decide_eq_false (by kernel_rfl))]; exact ⟨rfl, rfl⟩)
    (fun os started H enc _ => Ve.pkgWho_lifted os started H enc)
theorem pkgWho_cardG : Rows.pkgWhoRow.goesBy Tryz.pinned.checked.prog = false := by kernel_rfl
theorem pkgWho_cardM : Tryz.pinned.checked.prog.mainIs = some (Rows.pkgWhoCard.stood.harness.fst, Rows.pkgWhoCard.stood.harness.snd.toList) := by kernel_rfl
theorem pkgWho_cardW : OpenClaim.wfByText (OpenSpec.ofChange Rows.pkgWhoSpec) Rows.pkgWhoRow = true := by kernel_rfl
theorem pkgWho_cardL : true = Tryz.pinned.checked.prog.looks [] := by kernel_rfl
theorem pkgWho_cardF : Tryz.prog.funcNamed Rows.pkgWhoRow.func = some 11 := by kernel_rfl
theorem pkgWho_holds : Rows.PkgWhoCardSaid :=
  Claim7.holds_tied_plain_at .later [] Rows.pkgWhoCard.laidKinds true Rows.pkgWhoCard.stood.harness true
    pkgWho_row_holds (fun _ h => by cases h) pkgWho_cardW (fun _ h => by cases h) pkgWho_row_tie rfl ⟨rfl,rfl⟩ pkgWho_cardM rfl
    (fun f fn hf hfn => by
      obtain rfl : f = 11 := Option.some.inj (pkgWho_cardF.symm.trans hf) |>.symm
      obtain rfl : fn = Tryz.f11 := (Option.some.inj (Tryz.func11.symm.trans hfn)).symm
      exact ⟨pkgWho_cardL, fun j t ht => Ve.wants2 t (Array.mem_of_getElem? ht)⟩)
    pkgWho_cardG.symm
#print axioms pkgWho_holds
end Go.Proofs.YtnkgjddkdikikaaGreatDoor
