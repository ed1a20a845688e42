/-
  The card of pewholderlaw2.TrimTells: true for every input; the input reads as it did. Conditions: the row's own cells, which the card ties.
-/
import Derived.Test.YtlcffhadobhfkaaGreatDoorMq3
import Derived.Test.YtlcffhadobhfkaaGreatDoorMq6
import Derived.Test.YtlcffhadobhfkaaGreatDoorMq9
import Derived.Test.YtlcffhadobhfkaaGreatDoorMq22
import Derived.Test.YtlcffhadobhfkaaGreatDoorMq45
import Derived.Test.YtlcffhadobhfkaaGreatDoorMq110
import Derived.Test.YtlcffhadobhfkaaGreatDoorMq111F
namespace Go.Proofs.YtlcffhadobhfkaaGreatDoor
open Go.ChangeShapes Go.WideShapes Go.ChangeAt Go.RowKit Go.ChangeMaps Go.Joins
theorem trimTells_row_holds : Rows.TrimTellsSaid:=
  OpenClaim.holds_of_wide 14 Tryz.f14 rfl rfl rfl rfl rfl rfl rfl ⟨rfl,rfl,rfl,rfl,rfl⟩ rfl rfl rfl rfl rfl (by kernel_rfl) Tryz.func14 trimTells_facts
    (of_decide_eq_true (by kernel_rfl)) (by unfold Func.isWrapper; rw [if_neg (of_decide_eq_false (by kernel_rfl))]; exact ⟨rfl,rfl⟩)
    (fun os started H enc _=>Ve.trimTells_lifted os started H enc)
theorem trimTells_cardG : Rows.trimTellsRow.goesBy Tryz.pinned.checked.prog = false := by kernel_rfl
theorem trimTells_cardM : Tryz.pinned.checked.prog.mainIs = some (Rows.trimTellsCard.stood.harness.fst, Rows.trimTellsCard.stood.harness.snd.toList) := by kernel_rfl
theorem trimTells_cardW : OpenClaim.wfByText (OpenSpec.ofChange Rows.trimTellsSpec) Rows.trimTellsRow = true := by kernel_rfl
theorem trimTells_cardL : true = Tryz.pinned.checked.prog.looks [] := by kernel_rfl
theorem trimTells_cardF : Tryz.prog.funcNamed Rows.trimTellsRow.func = some 14 := by kernel_rfl
theorem trimTells_holds : Rows.TrimTellsCardSaid:=
  Claim7.holds_tied_plain_at .later [] Rows.trimTellsCard.laidKinds true Rows.trimTellsCard.stood.harness true
    trimTells_row_holds (fun _ h=>by cases h) trimTells_cardW (fun _ h=>by cases h) trimTells_row_tie rfl ⟨rfl,rfl⟩ trimTells_cardM rfl
    (fun f fn hf hfn=>by
      obtain rfl : f = 14:=Option.some.inj (trimTells_cardF.symm.trans hf) |>.symm
      obtain rfl : fn = Tryz.f14:=(Option.some.inj (Tryz.func14.symm.trans hfn)).symm
      exact ⟨trimTells_cardL,fun j t ht=>Ve.wants3 t (Array.mem_of_getElem? ht)⟩)
    trimTells_cardG.symm
#print axioms trimTells_holds
end Go.Proofs.YtlcffhadobhfkaaGreatDoor
