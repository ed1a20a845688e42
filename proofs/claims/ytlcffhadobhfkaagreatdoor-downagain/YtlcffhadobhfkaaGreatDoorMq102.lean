/-
  The card of pewholderlaw2.DownAgain: true for every input; the input reads as it did. Conditions: the row's own cells, which the card ties.
-/
import Derived.Test.YtlcffhadobhfkaaGreatDoorMq3
import Derived.Test.YtlcffhadobhfkaaGreatDoorMq6
import Derived.Test.YtlcffhadobhfkaaGreatDoorMq9
import Derived.Test.YtlcffhadobhfkaaGreatDoorMq22
import Derived.Test.YtlcffhadobhfkaaGreatDoorMq45
import Derived.Test.YtlcffhadobhfkaaGreatDoorMq88
import Derived.Test.YtlcffhadobhfkaaGreatDoorMq101
import Derived.Test.YtlcffhadobhfkaaGreatDoorMq102F
namespace Go.Proofs.YtlcffhadobhfkaaGreatDoor
open Go.ChangeShapes Go.WideShapes Go.ChangeAt Go.RowKit Go.ChangeMaps Go.Joins
theorem downAgain_row_holds : Rows.DownAgainSaid:=
  OpenClaim.holds_of_wide 12 Tryz.f12 rfl rfl rfl rfl rfl rfl rfl ⟨rfl,rfl,rfl,rfl,rfl⟩ rfl rfl rfl rfl rfl (by kernel_rfl) Tryz.func12 downAgain_facts
    (of_decide_eq_true (by kernel_rfl)) (by unfold Func.isWrapper; rw [if_neg (of_decide_eq_false (by kernel_rfl))]; exact ⟨rfl,rfl⟩)
    (fun os started H enc _=>Ve.downAgain_lifted os started H enc)
theorem downAgain_cardG : Rows.downAgainRow.goesBy Tryz.pinned.checked.prog = false := by kernel_rfl
theorem downAgain_cardM : Tryz.pinned.checked.prog.mainIs = some (Rows.downAgainCard.stood.harness.fst, Rows.downAgainCard.stood.harness.snd.toList) := by kernel_rfl
theorem downAgain_cardW : OpenClaim.wfByText (OpenSpec.ofChange Rows.downAgainSpec) Rows.downAgainRow = true := by kernel_rfl
theorem downAgain_cardL : true = Tryz.pinned.checked.prog.looks [] := by kernel_rfl
theorem downAgain_cardF : Tryz.prog.funcNamed Rows.downAgainRow.func = some 12 := by kernel_rfl
theorem downAgain_holds : Rows.DownAgainCardSaid:=
  Claim7.holds_tied_plain_at .later [] Rows.downAgainCard.laidKinds true Rows.downAgainCard.stood.harness true
    downAgain_row_holds (fun _ h=>by cases h) downAgain_cardW (fun _ h=>by cases h) downAgain_row_tie rfl ⟨rfl,rfl⟩ downAgain_cardM rfl
    (fun f fn hf hfn=>by
      obtain rfl : f = 12:=Option.some.inj (downAgain_cardF.symm.trans hf) |>.symm
      obtain rfl : fn = Tryz.f12:=(Option.some.inj (Tryz.func12.symm.trans hfn)).symm
      exact ⟨downAgain_cardL,fun j t ht=>Ve.wants3 t (Array.mem_of_getElem? ht)⟩)
    downAgain_cardG.symm
#print axioms downAgain_holds
end Go.Proofs.YtlcffhadobhfkaaGreatDoor
