/-
  The card of pewholderlaw1.ModTells: true for every input; the input reads as it did. Conditions: the row's own cells, which the card ties.
-/
import Derived.Test.YtmgpapghdbopiaaGreatDoorCards
import Derived.Test.YtmgpapghdbopiaaGreatDoorTie
import Derived.Test.YtmgpapghdbopiaaGreatDoorModTells
import Derived.Test.YtmgpapghdbopiaaGreatDoorWrap
import Derived.Test.YtmgpapghdbopiaaGreatDoorTen
import Derived.MakeChecks
import Derived.SevenTiedAt
import Derived.ChangeMaps5
import Derived.Lib.SmallJoins
namespace Go.Proofs.YtmgpapghdbopiaaGreatDoor
open Go.ChangeShapes Go.WideShapes Go.ChangeAt Go.RowKit Go.ChangeMaps Go.Joins
namespace Ve

theorem own : ownKnob Tryz.prog.godebug = none := by kernel_rfl
theorem cellsMod : Tryz.prog.cellsOf 45 = 2 := by kernel_rfl

/-- The row's plain variables. -/
def plainOf : List (String × DataW Unit) := Rows.modTellsRow.laid.filter fun x => x.2.handleName?.isNone
/-- The witness's world: what start-up lays, the listed variables laid over it. -/
noncomputable def startW (os : Go.Os) : World := (World.doorLaid Tryz.prog 400 os).layVars Tryz.prog plainOf

/-- Of laid variables and the world's shape: what the walk asks. -/
theorem te_of_laid {W : World} (h : laidMetH Tryz.prog Rows.modTellsRow.laid W) (hsh : W.ShapedOpen Tryz.prog) : ∃ A m, Te W A m := by
  have h' : laidMet Tryz.prog (("unicode/utf8.acceptRanges", Rows.laid_unicode_utf8_acceptRanges) ::
      ((tens.map fun x => (x.1, DataW.iface "*errors.errorString" (.ptr (.agg [.lit (.string x.2.2)])))) ++ [("unicode/utf8.first", Rows.laid_unicode_utf8_first)])) W ∧ handlesMet Tryz.prog [("errors.errorType", Rows.laid_errors_errorType)] W := h
  obtain ⟨hl, hh⟩ := h'
  obtain ⟨A, hA⟩ := sen_of [("unicode/utf8.first", Rows.laid_unicode_utf8_first)] hl.tail hh
  obtain ⟨m, hm⟩ := ml_of hsh
  exact ⟨A, m, hA, hm⟩

theorem start_met (os : Go.Os) (args : Array Value) : laidMetH Tryz.prog Rows.modTellsRow.laid ((startW os).forCall (fun _ _ => 0) ⟨#[], args, []⟩).memory :=
  laidMetH_of_parts (laidMet_over args (by kernel_rfl) (by kernel_rfl)) (by kernel_rfl)

theorem wants3 : ∀ t, t ∈ Tryz.f5.params → Tryz.prog.wantsStandIn t = false := by
  have h : (Tryz.f5.params.toList.all fun t => Tryz.prog.wantsStandIn t == false) = true := by kernel_rfl
  intro t ht
  simpa using List.all_eq_true.1 h t (by simpa using ht)

set_option maxRecDepth 100000 in
/-- A module by value, opened; and shut. -/
theorem open_mod {H : Type} {enc : TypeId × Value → H} {w : World} {base : Nat} {sp : Nat → Bool} {held : Bool} {r : Reach} {b0 : Nat} {v : Value} {d : DataW H} {p : List MemPlace}
    (hv : Value.okWide Tryz.prog w r b0 45 v) (h : DataW.Trod enc Tryz.prog w base sp held 45 v d p) :
    ∃ a b : ByteArray, v = .agg #[.string a, .string b] ∧ d = .agg [.lit (.string a.data.toList), .lit (.string b.data.toList)] ∧ p = [] ∧ a.size ≤ maxLen ∧ b.size ≤ maxLen := by
  obtain ⟨c0, c1, y0, y1, n, rfl, rfl, rfl, hy0, hy1⟩ := open_agg2 Tryz.underlying45 (by kernel_rfl) cellsMod hv h
  obtain ⟨a, e0, rfl, wa⟩ := DataW.trod_string Tryz.underlying9 hy0
  obtain ⟨b, e1, rfl, wb⟩ := DataW.trod_string Tryz.underlying9 hy1
  simp at e0 e1
  subst e0 e1
  exact ⟨a, b, rfl, rfl, rfl, wa, wb⟩
theorem shut_mod {H : Type} {enc : TypeId × Value → H} {w : World} {base : Nat} {sp : Nat → Bool} {held : Bool} {a b : ByteArray} (wa : a.size ≤ maxLen) (wb : b.size ≤ maxLen) :
    DataW.Trod enc Tryz.prog w base sp held 45 (.agg #[.string a, .string b]) (.agg [.lit (.string a.data.toList), .lit (.string b.data.toList)]) [] :=
  shut_agg2 (y0 := (.lit (.string a.data.toList), [])) (y1 := (.lit (.string b.data.toList), [])) Tryz.underlying45 (by kernel_rfl) cellsMod ⟨1, by simp [DataW.trod, Tryz.underlying9, wa]⟩ ⟨1, by simp [DataW.trod, Tryz.underlying9, wb]⟩

set_option maxRecDepth 100000 in
theorem modTells_lifted (os : Go.Os) (started : os.Started) (H : Type) (enc : TypeId × Value → H) :
    ReturnsInHanded {} Tryz.checked os 5 .any (fun w args => (Rows.modTellsSpec.pre enc Tryz.prog Tryz.f5 [] false w args ∧ laidMetH Tryz.prog Rows.modTellsRow.laid w) ∧ sizedMet enc Tryz.prog Tryz.f5 (OpenSpec.ofChange Rows.modTellsSpec) false w args)
      (Rows.modTellsSpec.post enc Tryz.prog Tryz.f5 false true false false) := by
  refine wrap_and_shaped (C := Tryz.checked) (X := fun w _ => laidMetH Tryz.prog Rows.modTellsRow.laid w) (fun _ _ _ hh h => h.of_heap hh) own started (by kernel_rfl) Tryz.func5
    (ChangeSpec.witness_shaped (enc := enc) (C := Tryz.checked) (os := os) (X := fun w _ => laidMetH Tryz.prog Rows.modTellsRow.laid w) false (startW os) #[.string ⟨#[]⟩, .agg #[.string ⟨#[]⟩, .string ⟨#[]⟩], .agg #[.string ⟨#[]⟩, .string ⟨#[]⟩]] 8 (World.layVars_os _ _ _)
      (World.shaped_of_ZipB (by kernel_rfl) (by kernel_rfl)) (by kernel_rfl) (by kernel_rfl) (by kernel_rfl) (start_met os _)) ?_
  intro W base args ds gs before hval0 hW hL hsh
  have hval : ∀ (j : Nat) t v, Tryz.f5.params[j]? = some t → args[j]? = some v → Value.okWide Tryz.prog W .any base t v := hval0
  have hW' := hW
  obtain ⟨p, q, hA0, hV, rfl, _, _⟩ := hW
  have hA : DataW.TrodAll enc Tryz.prog W 0 (fun _ => true) true Tryz.f5.params.toList args.toList ds p := hA0
  rw [Tryz.params5] at hA hval
  obtain ⟨v0, v1, v2, d0, d1, d2, p0, p1, p2, rfl, rfl, rfl, h0, h1, h2⟩ := trodAll_three hA
  obtain ⟨rfl, rfl⟩ := trodVars_none hV
  obtain ⟨s, rfl, rfl, rfl, ws⟩ := open_string Tryz.underlying9 (hval 0 9 v0 rfl rfl) h0
  obtain ⟨a, av, rfl, rfl, rfl, wa, wav⟩ := open_mod (hval 1 45 v1 rfl rfl) h1
  obtain ⟨b, bv, rfl, rfl, rfl, wb, wbv⟩ := open_mod (hval 2 45 v2 rfl rfl) h2
  clear hA0 hval0 hA
  obtain ⟨A, m, S⟩ := te_of_laid hL hsh
  refine (modTells_any s a av b bv A m W S wa wav wb wbv ws).mono fun e W' ⟨he, hb⟩ => ?_
  subst he
  have e1 : Rows.modTellsSpec.fn H ([.lit (.string s.data.toList), .agg [.lit (.string a.data.toList), .lit (.string av.data.toList)], .agg [.lit (.string b.data.toList), .lit (.string bv.data.toList)]] ++ []) = { results := [.lit (.bool true)], args := [.lit (.string s.data.toList), .agg [.lit (.string a.data.toList), .lit (.string av.data.toList)], .agg [.lit (.string b.data.toList), .lit (.string bv.data.toList)]] } := rfl
  refine ⟨_, rfl, _, _, _, [], [], [], hW', ?_, ?_, ?_, hb.frame _, fun h => by cases h⟩
  · rw [e1]; exact trodAll_mk1 (shut_bool Tryz.underlying4 true)
  · rw [e1]; exact trodAll_mk3 (shut_string Tryz.underlying9 ws) (shut_mod wa wav) (shut_mod wb wbv)
  · rw [e1]; rfl
end Ve

theorem modTells_row_holds : Rows.ModTellsSaid :=
  OpenClaim.holds_of_wide 5 Tryz.f5 rfl rfl rfl rfl rfl rfl rfl ⟨rfl, rfl, rfl, rfl, rfl⟩ rfl rfl rfl rfl rfl (by kernel_rfl) Tryz.func5 (by kernel_rfl)
    (of_decide_eq_true (by kernel_rfl)) (by unfold Func.isWrapper; rw [if_neg (of_decide_eq_false (by kernel_rfl))]; exact ⟨rfl, rfl⟩)
    (fun os started H enc _ => Ve.modTells_lifted os started H enc)

theorem modTells_holds : Rows.ModTellsCardSaid :=
  Claim7.holds_tied_plain_at .later [] Rows.modTellsCard.laidKinds true Rows.modTellsCard.stood.harness true
    modTells_row_holds (fun _ h => by cases h) (by kernel_rfl) (fun _ h => by cases h) modTells_row_tie rfl ⟨rfl, rfl⟩ (by kernel_rfl) rfl
    (fun f fn hf hfn => by
      obtain rfl : f = 5 := Option.some.inj ((show Tryz.prog.funcNamed Rows.modTellsRow.func = some 5 by kernel_rfl).symm.trans hf) |>.symm
      obtain rfl : fn = Tryz.f5 := (Option.some.inj (Tryz.func5.symm.trans hfn)).symm
      exact ⟨by kernel_rfl, fun j t ht => Ve.wants3 t (Array.mem_of_getElem? ht)⟩)
    (by kernel_rfl)
#print axioms modTells_holds
end Go.Proofs.YtmgpapghdbopiaaGreatDoor
