/-
  The card of pewholderlaw1.VerTells: true for every input; the input reads as it did. Conditions: the row's own cells, which the card ties.
-/
import Derived.Test.YtmgpapghdbopiaaGreatDoorCards
import Derived.Test.YtmgpapghdbopiaaGreatDoorTie
import Derived.Test.YtmgpapghdbopiaaGreatDoorVerTell
import Derived.Test.YtmgpapghdbopiaaGreatDoorWrap
import Derived.Test.YtmgpapghdbopiaaGreatDoorTen
import Derived.MakeChecks
import Derived.SevenTiedAt
import Derived.ChangeMaps5
namespace Go.Proofs.YtmgpapghdbopiaaGreatDoor
open Go.ChangeShapes Go.WideShapes Go.ChangeAt Go.RowKit Go.ChangeMaps
namespace Ve

theorem own : ownKnob Tryz.prog.godebug = none := by kernel_rfl

/-- The row's plain variables. -/
def plainOf : List (String × DataW Unit) := Rows.verTellsRow.laid.filter fun x => x.2.handleName?.isNone
/-- The witness's world: what start-up lays, the listed variables laid over it. -/
noncomputable def startW (os : Go.Os) : World := (World.doorLaid Tryz.prog 400 os).layVars Tryz.prog plainOf

/-- Of laid variables and the world's shape: what the walk asks. -/
theorem te_of_laid {W : World} (h : laidMetH Tryz.prog Rows.verTellsRow.laid W) (hsh : W.ShapedOpen Tryz.prog) : ∃ A m, Te W A m := by
  have h' : laidMet Tryz.prog (("math/bits.deBruijn32tab", Rows.laid_math_bits_deBruijn32tab) :: ("math/bits.deBruijn64tab", Rows.laid_math_bits_deBruijn64tab) :: (powName, Lib.tabData .u64 Lib.pow10Tab) :: ("unicode/utf8.acceptRanges", Rows.laid_unicode_utf8_acceptRanges) ::
      ((tens.map fun x => (x.1, DataW.iface "*errors.errorString" (.ptr (.agg [.lit (.string x.2.2)])))) ++ [("unicode/utf8.first", Rows.laid_unicode_utf8_first)])) W ∧ handlesMet Tryz.prog [("errors.errorType", Rows.laid_errors_errorType)] W := h
  obtain ⟨hl, hh⟩ := h'
  have htab := Lib.tabIs_of_head powAt gPt Tryz.underlying188 Tryz.underlying146 cellsU cellsPow hl.tail.tail
  obtain ⟨A, hA⟩ := sen_of [("unicode/utf8.first", Rows.laid_unicode_utf8_first)] hl.tail.tail.tail.tail hh
  obtain ⟨m, hm⟩ := ml_of hsh
  exact ⟨A, m, hA, hm, htab⟩

theorem start_met (os : Go.Os) (args : Array Value) : laidMetH Tryz.prog Rows.verTellsRow.laid ((startW os).forCall (fun _ _ => 0) ⟨#[], args, []⟩).memory :=
  laidMetH_of_parts (laidMet_over args (by kernel_rfl) (by kernel_rfl)) (by kernel_rfl)

theorem wants3 : ∀ t, t ∈ Tryz.f3.params → Tryz.prog.wantsStandIn t = false := by
  have h : (Tryz.f3.params.toList.all fun t => Tryz.prog.wantsStandIn t == false) = true := by kernel_rfl
  intro t ht
  simpa using List.all_eq_true.1 h t (by simpa using ht)

set_option maxRecDepth 100000 in
theorem verTells_lifted (os : Go.Os) (started : os.Started) (H : Type) (enc : TypeId × Value → H) :
    ReturnsInHanded {} Tryz.checked os 3 .any (fun w args => (Rows.verTellsSpec.pre enc Tryz.prog Tryz.f3 [] false w args ∧ laidMetH Tryz.prog Rows.verTellsRow.laid w) ∧ sizedMet enc Tryz.prog Tryz.f3 (OpenSpec.ofChange Rows.verTellsSpec) false w args)
      (Rows.verTellsSpec.post enc Tryz.prog Tryz.f3 false true false false) := by
  refine wrap_and_shaped (C := Tryz.checked) (X := fun w _ => laidMetH Tryz.prog Rows.verTellsRow.laid w) (fun _ _ _ hh h => h.of_heap hh) own started (by kernel_rfl) Tryz.func3
    (ChangeSpec.witness_shaped (enc := enc) (C := Tryz.checked) (os := os) (X := fun w _ => laidMetH Tryz.prog Rows.verTellsRow.laid w) false (startW os) #[.string ⟨#[]⟩, .string ⟨#[]⟩, .string ⟨#[]⟩] 8 (World.layVars_os _ _ _)
      (World.shaped_of_ZipB (by kernel_rfl) (by kernel_rfl)) (by kernel_rfl) (by kernel_rfl) (by kernel_rfl) (start_met os _)) ?_
  intro W base args ds gs before hval0 hW hL hsh
  have hval : ∀ (j : Nat) t v, Tryz.f3.params[j]? = some t → args[j]? = some v → Value.okWide Tryz.prog W .any base t v := hval0
  have hW' := hW
  obtain ⟨p, q, hA0, hV, rfl, _, _⟩ := hW
  have hA : DataW.TrodAll enc Tryz.prog W 0 (fun _ => true) true Tryz.f3.params.toList args.toList ds p := hA0
  rw [Tryz.params3] at hA hval
  obtain ⟨v0, v1, v2, d0, d1, d2, p0, p1, p2, rfl, rfl, rfl, h0, h1, h2⟩ := trodAll_three hA
  obtain ⟨rfl, rfl⟩ := trodVars_none hV
  obtain ⟨s0, rfl, rfl, rfl, w0⟩ := open_string Tryz.underlying9 (hval 0 9 v0 rfl rfl) h0
  obtain ⟨s1, rfl, rfl, rfl, w1⟩ := open_string Tryz.underlying9 (hval 1 9 v1 rfl rfl) h1
  obtain ⟨s2, rfl, rfl, rfl, w2⟩ := open_string Tryz.underlying9 (hval 2 9 v2 rfl rfl) h2
  clear hA0 hval0 hA
  obtain ⟨A, m, S⟩ := te_of_laid hL hsh
  refine (verTells_any s0 s1 s2 A m W S w0 w1 w2).mono fun e W' ⟨he, hb⟩ => ?_
  subst he
  have e1 : Rows.verTellsSpec.fn H ([.lit (.string s0.data.toList), .lit (.string s1.data.toList), .lit (.string s2.data.toList)] ++ []) = { results := [.lit (.bool true)], args := [.lit (.string s0.data.toList), .lit (.string s1.data.toList), .lit (.string s2.data.toList)] } := rfl
  refine ⟨_, rfl, _, _, _, [], [], [], hW', ?_, ?_, ?_, hb.frame _, fun h => by cases h⟩
  · rw [e1]; exact trodAll_mk1 (shut_bool Tryz.underlying4 true)
  · rw [e1]; exact trodAll_mk3 (shut_string Tryz.underlying9 w0) (shut_string Tryz.underlying9 w1) (shut_string Tryz.underlying9 w2)
  · rw [e1]; rfl
end Ve

end Go.Proofs.YtmgpapghdbopiaaGreatDoor
