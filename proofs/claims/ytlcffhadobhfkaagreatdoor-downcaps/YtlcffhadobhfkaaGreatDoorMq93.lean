/-
  The card of pewholderlaw2.DownCaps: true for every input; the input reads as it did. Conditions: the row's own cells, which the card ties.
-/
import Derived.Test.YtlcffhadobhfkaaGreatDoorMq3
import Derived.Test.YtlcffhadobhfkaaGreatDoorMq6
import Derived.Test.YtlcffhadobhfkaaGreatDoorMq9
import Derived.Test.YtlcffhadobhfkaaGreatDoorMq22
import Derived.Test.YtlcffhadobhfkaaGreatDoorMq45
import Derived.Test.YtlcffhadobhfkaaGreatDoorMq88
import Derived.Test.YtlcffhadobhfkaaGreatDoorMq92
import Derived.Test.YtlcffhadobhfkaaGreatDoorMq93F
namespace Go.Proofs.YtlcffhadobhfkaaGreatDoor
open Go.ChangeShapes Go.WideShapes Go.ChangeAt Go.RowKit Go.ChangeMaps Go.Joins
theorem downCaps_row_holds : Rows.DownCapsSaid:=
  OpenClaim.holds_of_wide 10 Tryz.f10 rfl rfl rfl rfl rfl rfl rfl ⟨rfl,rfl,rfl,rfl,rfl⟩ rfl rfl rfl rfl rfl (by kernel_rfl) Tryz.func10 downCaps_facts
    (of_decide_eq_true (by kernel_rfl)) (by unfold Func.isWrapper; rw [if_neg (of_decide_eq_false (by kernel_rfl))]; exact ⟨rfl,rfl⟩)
    (fun os started H enc _=>Ve.downCaps_lifted os started H enc)
theorem downCaps_cardG : Rows.downCapsRow.goesBy Tryz.pinned.checked.prog = false := by kernel_rfl
theorem downCaps_cardM : Tryz.pinned.checked.prog.mainIs = some (Rows.downCapsCard.stood.harness.fst, Rows.downCapsCard.stood.harness.snd.toList) := by kernel_rfl
theorem downCaps_cardW : OpenClaim.wfByText (OpenSpec.ofChange Rows.downCapsSpec) Rows.downCapsRow = true := by kernel_rfl
theorem downCaps_cardL : true = Tryz.pinned.checked.prog.looks [] := by kernel_rfl
theorem downCaps_cardF : Tryz.prog.funcNamed Rows.downCapsRow.func = some 10 := by kernel_rfl
theorem downCaps_holds : Rows.DownCapsCardSaid:=
  Claim7.holds_tied_plain_at .later [] Rows.downCapsCard.laidKinds true Rows.downCapsCard.stood.harness true
    downCaps_row_holds (fun _ h=>by cases h) downCaps_cardW (fun _ h=>by cases h) downCaps_row_tie rfl ⟨rfl,rfl⟩ downCaps_cardM rfl
    (fun f fn hf hfn=>by
      obtain rfl : f = 10:=Option.some.inj (downCaps_cardF.symm.trans hf) |>.symm
      obtain rfl : fn = Tryz.f10:=(Option.some.inj (Tryz.func10.symm.trans hfn)).symm
      exact ⟨downCaps_cardL,fun j t ht=>Ve.wants3 t (Array.mem_of_getElem? ht)⟩)
    downCaps_cardG.symm
#print axioms downCaps_holds
end Go.Proofs.YtlcffhadobhfkaaGreatDoor
