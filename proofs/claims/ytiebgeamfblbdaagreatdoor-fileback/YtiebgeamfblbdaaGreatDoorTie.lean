/-
  DERIVED. GIVEN WITH THE SEED: THE PROGRAM's TIES (one call each: nine closed facts by the kernel) AND EACH ROW's TIE, after the 31st guide's Derived/Test/Toyas{Tie, Card}.lean. No idea stands in it: it is a product of the set-up. Laid BY PROGRAM, IN A SANDBOX (cutbox-door.mjs). By AI agents, Wed Nov 11 2026. No macro, syntax, notation, axiom, sorry.
-/
import Derived.Test.YtiebgeamfblbdaaGreatDoorRows
import Derived.LaidByTextLater
import Derived.SevenTiedAt
import Derived.LaidSub
import Derived.LaidOnce
namespace Go.Proofs.YtiebgeamfblbdaaGreatDoor
open Go
set_option maxRecDepth 100000
theorem seatTie1 : Tryz.prog.laidByTextLater [("unicode/utf8.acceptRanges", Rows.laid_unicode_utf8_acceptRanges), ("errors.errorType", Rows.laid_errors_errorType), ("pewholder/api.ErrText", Rows.laid_pewholder_api_ErrText), ("pewholder/api.ErrBound", Rows.laid_pewholder_api_ErrBound), ("pewholder/api.ErrShape", Rows.laid_pewholder_api_ErrShape), ("pewholder/api.ErrMajor", Rows.laid_pewholder_api_ErrMajor), ("pewholder/api.ErrNone", Rows.laid_pewholder_api_ErrNone), ("pewholder/api.ErrFull", Rows.laid_pewholder_api_ErrFull), ("pewholder/api.ErrOrder", Rows.laid_pewholder_api_ErrOrder), ("pewholder/api.ErrClash", Rows.laid_pewholder_api_ErrClash)] [.data, .handle, .sentinel, .sentinel, .sentinel, .sentinel, .sentinel, .sentinel, .sentinel, .sentinel] true :=
  Program.laidByTextLater_by_one 178 8 33 (by kernel_rfl) (by kernel_rfl) (by kernel_rfl) (by kernel_rfl) (by kernel_rfl) (by kernel_rfl) (fun _ _ => by kernel_rfl)
theorem pin_laid_unicode_utf8_first : Tryz.pinned.checked.prog.pinnedFits "unicode/utf8.first" = true := by kernel_rfl
theorem noOwnUnsafe : Tryz.pinned.checked.prog.headLifts.contains "ownunsafe" = false := by kernel_rfl
theorem fits1 : Tryz.pinned.checked.prog.listedFits [("unicode/utf8.acceptRanges", Rows.laid_unicode_utf8_acceptRanges), ("errors.errorType", Rows.laid_errors_errorType), ("pewholder/api.ErrText", Rows.laid_pewholder_api_ErrText), ("pewholder/api.ErrBound", Rows.laid_pewholder_api_ErrBound), ("pewholder/api.ErrShape", Rows.laid_pewholder_api_ErrShape), ("pewholder/api.ErrMajor", Rows.laid_pewholder_api_ErrMajor), ("pewholder/api.ErrNone", Rows.laid_pewholder_api_ErrNone), ("pewholder/api.ErrFull", Rows.laid_pewholder_api_ErrFull), ("pewholder/api.ErrOrder", Rows.laid_pewholder_api_ErrOrder), ("pewholder/api.ErrClash", Rows.laid_pewholder_api_ErrClash), ("unicode/utf8.first", Rows.laid_unicode_utf8_first)] = true := by
  unfold Program.listedFits
  rw [noOwnUnsafe]
  kernel_rfl
theorem tie : Tryz.prog.laidByTextLater [("unicode/utf8.acceptRanges", Rows.laid_unicode_utf8_acceptRanges), ("errors.errorType", Rows.laid_errors_errorType), ("pewholder/api.ErrText", Rows.laid_pewholder_api_ErrText), ("pewholder/api.ErrBound", Rows.laid_pewholder_api_ErrBound), ("pewholder/api.ErrShape", Rows.laid_pewholder_api_ErrShape), ("pewholder/api.ErrMajor", Rows.laid_pewholder_api_ErrMajor), ("pewholder/api.ErrNone", Rows.laid_pewholder_api_ErrNone), ("pewholder/api.ErrFull", Rows.laid_pewholder_api_ErrFull), ("pewholder/api.ErrOrder", Rows.laid_pewholder_api_ErrOrder), ("pewholder/api.ErrClash", Rows.laid_pewholder_api_ErrClash)] [.data, .handle, .sentinel, .sentinel, .sentinel, .sentinel, .sentinel, .sentinel, .sentinel, .sentinel] true :=
  Program.laidByTextLater.sub seatTie1 ["unicode/utf8.acceptRanges", "errors.errorType", "pewholder/api.ErrText", "pewholder/api.ErrBound", "pewholder/api.ErrShape", "pewholder/api.ErrMajor", "pewholder/api.ErrNone", "pewholder/api.ErrFull", "pewholder/api.ErrOrder", "pewholder/api.ErrClash"] (by kernel_rfl) (by kernel_rfl)
theorem fileBack_row_tie : Rows.fileBackRow.laidByTextAt .later Tryz.pinned [.data, .handle, .sentinel, .sentinel, .sentinel, .sentinel, .sentinel, .sentinel, .sentinel, .sentinel, .pinned] true :=
  OpenClaim.laidByTextAt_pinned rfl rfl tie rfl rfl rfl rfl (fun y hy _e => by
    simp only [Rows.fileBackRow, List.zip_cons_cons, List.zip_nil_right, List.mem_cons, List.mem_nil_iff, or_false] at hy
    rcases hy with rfl | rfl | rfl | rfl | rfl | rfl | rfl | rfl | rfl | rfl | rfl
    · cases _e
    · cases _e
    · cases _e
    · cases _e
    · cases _e
    · cases _e
    · cases _e
    · cases _e
    · cases _e
    · cases _e
    · exact ⟨pin_laid_unicode_utf8_first, by kernel_rfl⟩) fits1
theorem fileBackUpto_row_tie : Rows.fileBackUptoRow.laidByTextAt .later Tryz.pinned [.data, .handle, .sentinel, .sentinel, .sentinel, .sentinel, .sentinel, .sentinel, .sentinel, .sentinel, .pinned] true :=
  OpenClaim.laidByTextAt_pinned rfl rfl tie rfl rfl rfl rfl (fun y hy _e => by
    simp only [Rows.fileBackUptoRow, List.zip_cons_cons, List.zip_nil_right, List.mem_cons, List.mem_nil_iff, or_false] at hy
    rcases hy with rfl | rfl | rfl | rfl | rfl | rfl | rfl | rfl | rfl | rfl | rfl
    · cases _e
    · cases _e
    · cases _e
    · cases _e
    · cases _e
    · cases _e
    · cases _e
    · cases _e
    · cases _e
    · cases _e
    · exact ⟨pin_laid_unicode_utf8_first, by kernel_rfl⟩) fits1
end Go.Proofs.YtiebgeamfblbdaaGreatDoor
