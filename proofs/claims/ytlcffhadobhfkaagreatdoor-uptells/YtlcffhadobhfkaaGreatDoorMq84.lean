/-
  The card of pewholderlaw2.UpTells: true for every input; the input reads as it did. Conditions: the row's own cells, which the card ties.
-/
import Derived.Test.YtlcffhadobhfkaaGreatDoorMq3
import Derived.Test.YtlcffhadobhfkaaGreatDoorMq6
import Derived.Test.YtlcffhadobhfkaaGreatDoorMq9
import Derived.Test.YtlcffhadobhfkaaGreatDoorMq22
import Derived.Test.YtlcffhadobhfkaaGreatDoorMq45
import Derived.Test.YtlcffhadobhfkaaGreatDoorMq73
import Derived.Test.YtlcffhadobhfkaaGreatDoorMq35
import Derived.Test.YtlcffhadobhfkaaGreatDoorMq83
import Derived.Test.YtlcffhadobhfkaaGreatDoorMq84F
namespace Go.Proofs.YtlcffhadobhfkaaGreatDoor
open Go.ChangeShapes Go.WideShapes Go.ChangeAt Go.RowKit Go.ChangeMaps Go.Joins
theorem upTells_row_holds : Rows.UpTellsSaid:=
  OpenClaim.holds_of_wide 9 Tryz.f9 rfl rfl rfl rfl rfl rfl rfl ⟨rfl,rfl,rfl,rfl,rfl⟩ rfl rfl rfl rfl rfl (by kernel_rfl) Tryz.func9 upTells_facts
    (of_decide_eq_true (by kernel_rfl)) (by unfold Func.isWrapper; rw [if_neg (of_decide_eq_false (by kernel_rfl))]; exact ⟨rfl,rfl⟩)
    (fun os started H enc _=>Ve.upTells_lifted os started H enc)
theorem upTells_cardG : Rows.upTellsRow.goesBy Tryz.pinned.checked.prog = false := by kernel_rfl
theorem upTells_cardM : Tryz.pinned.checked.prog.mainIs = some (Rows.upTellsCard.stood.harness.fst, Rows.upTellsCard.stood.harness.snd.toList) := by kernel_rfl
theorem upTells_cardW : OpenClaim.wfByText (OpenSpec.ofChange Rows.upTellsSpec) Rows.upTellsRow = true := by kernel_rfl
theorem upTells_cardL : true = Tryz.pinned.checked.prog.looks [] := by kernel_rfl
theorem upTells_cardF : Tryz.prog.funcNamed Rows.upTellsRow.func = some 9 := by kernel_rfl
theorem upTells_holds : Rows.UpTellsCardSaid:=
  Claim7.holds_tied_plain_at .later [] Rows.upTellsCard.laidKinds true Rows.upTellsCard.stood.harness true
    upTells_row_holds (fun _ h=>by cases h) upTells_cardW (fun _ h=>by cases h) upTells_row_tie rfl ⟨rfl,rfl⟩ upTells_cardM rfl
    (fun f fn hf hfn=>by
      obtain rfl : f = 9:=Option.some.inj (upTells_cardF.symm.trans hf) |>.symm
      obtain rfl : fn = Tryz.f9:=(Option.some.inj (Tryz.func9.symm.trans hfn)).symm
      exact ⟨upTells_cardL,fun j t ht=>Ve.wants2 t (Array.mem_of_getElem? ht)⟩)
    upTells_cardG.symm
#print axioms upTells_holds
end Go.Proofs.YtlcffhadobhfkaaGreatDoor
