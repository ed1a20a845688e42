/-
  The card of pewholderlaw2.DownTells: true for every input; the input reads as it did. Conditions: the row's own cells, which the card ties.
-/
import Derived.Test.YtlcffhadobhfkaaGreatDoorMq3
import Derived.Test.YtlcffhadobhfkaaGreatDoorMq6
import Derived.Test.YtlcffhadobhfkaaGreatDoorMq9
import Derived.Test.YtlcffhadobhfkaaGreatDoorMq22
import Derived.Test.YtlcffhadobhfkaaGreatDoorMq45
import Derived.Test.YtlcffhadobhfkaaGreatDoorMq88
import Derived.Test.YtlcffhadobhfkaaGreatDoorMq97
import Derived.Test.YtlcffhadobhfkaaGreatDoorMq98F
namespace Go.Proofs.YtlcffhadobhfkaaGreatDoor
open Go.ChangeShapes Go.WideShapes Go.ChangeAt Go.RowKit Go.ChangeMaps Go.Joins
theorem downTells_row_holds : Rows.DownTellsSaid:=
  OpenClaim.holds_of_wide 11 Tryz.f11 rfl rfl rfl rfl rfl rfl rfl ⟨rfl,rfl,rfl,rfl,rfl⟩ rfl rfl rfl rfl rfl (by kernel_rfl) Tryz.func11 downTells_facts
    (of_decide_eq_true (by kernel_rfl)) (by unfold Func.isWrapper; rw [if_neg (of_decide_eq_false (by kernel_rfl))]; exact ⟨rfl,rfl⟩)
    (fun os started H enc _=>Ve.downTells_lifted os started H enc)
theorem downTells_cardG : Rows.downTellsRow.goesBy Tryz.pinned.checked.prog = false := by kernel_rfl
theorem downTells_cardM : Tryz.pinned.checked.prog.mainIs = some (Rows.downTellsCard.stood.harness.fst, Rows.downTellsCard.stood.harness.snd.toList) := by kernel_rfl
theorem downTells_cardW : OpenClaim.wfByText (OpenSpec.ofChange Rows.downTellsSpec) Rows.downTellsRow = true := by kernel_rfl
theorem downTells_cardL : true = Tryz.pinned.checked.prog.looks [] := by kernel_rfl
theorem downTells_cardF : Tryz.prog.funcNamed Rows.downTellsRow.func = some 11 := by kernel_rfl
theorem downTells_holds : Rows.DownTellsCardSaid:=
  Claim7.holds_tied_plain_at .later [] Rows.downTellsCard.laidKinds true Rows.downTellsCard.stood.harness true
    downTells_row_holds (fun _ h=>by cases h) downTells_cardW (fun _ h=>by cases h) downTells_row_tie rfl ⟨rfl,rfl⟩ downTells_cardM rfl
    (fun f fn hf hfn=>by
      obtain rfl : f = 11:=Option.some.inj (downTells_cardF.symm.trans hf) |>.symm
      obtain rfl : fn = Tryz.f11:=(Option.some.inj (Tryz.func11.symm.trans hfn)).symm
      exact ⟨downTells_cardL,fun j t ht=>Ve.wants3 t (Array.mem_of_getElem? ht)⟩)
    downTells_cardG.symm
#print axioms downTells_holds
end Go.Proofs.YtlcffhadobhfkaaGreatDoor
