
import Derived.Test.YtemhofbhmnnijaaGreatDoorCards
import Derived.Test.YtemhofbhmnnijaaGreatDoorTie
import Derived.Test.YtemhofbhmnnijaaGreatDoorPj50
import Derived.Test.YtemhofbhmnnijaaGreatDoorPj51
import Derived.Test.YtemhofbhmnnijaaGreatDoorPj17
import Derived.Test.YtemhofbhmnnijaaGreatDoorPj3
import Derived.Test.YtemhofbhmnnijaaGreatDoorPj31
import Derived.MakeChecks
import Derived.SevenTiedAt
import Derived.ChangeMaps5
import Derived.Carry
namespace Go.Proofs.YtemhofbhmnnijaaGreatDoor
open Go.ChangeShapes Go.WideShapes Go.ChangeAt Go.RowKit Go.ChangeMaps Go.Joins
namespace Ve
theorem own : ownKnob Tryz.prog.godebug = none := by kernel_rfl
theorem laidOut : laidOutB Tryz.prog = true := by kernel_rfl
def plainOf : List (String × DataW Unit) := Rows.patTellsRow.laid.filter fun x => x.2.handleName?.isNone
noncomputable def startW (os : Go.Os) : World := (World.doorLaid Tryz.prog 400 os).layVars Tryz.prog plainOf
theorem te_of_sen {W : World} {A : Nat → Addr} {m : Int} (h : Er.Sen W A) (hm : W.cell? ⟨11, 0, none⟩ = some (.int .i64 m)) : Te W A m :=
  ⟨⟨h.g0, h.g1, h.g2, h.g3, h.g4, h.g6, h.g7, h.et⟩, ⟨h.g0, h.g1, h.blk 0 (by omega), h.blk 1 (by omega), h.inj 0 1 (by omega) (by omega) (by omega), hm⟩⟩
theorem te_of_laid {W : World} (h : laidMetH Tryz.prog Rows.patTellsRow.laid W) (hsh : W.ShapedOpen Tryz.prog) : ∃ A m, Te W A m ∧ Er.Sen W A := by
  have h' : laidMet Tryz.prog (("unicode/utf8.acceptRanges", Rows.laid_unicode_utf8_acceptRanges) ::
      ((tens.map fun x => (x.1, DataW.iface "*errors.errorString" (.ptr (.agg [.lit (.string x.2.2)])))) ++ [("unicode/utf8.first", Rows.laid_unicode_utf8_first)])) W ∧ handlesMet Tryz.prog [("errors.errorType", Rows.laid_errors_errorType)] W := h
  obtain ⟨hl, hh⟩ := h'
  obtain ⟨A, hA⟩ := sen_of [("unicode/utf8.first", Rows.laid_unicode_utf8_first)] hl.tail hh
  obtain ⟨m, hm⟩ := ml_of hsh
  exact ⟨A, m, te_of_sen hA hm, hA⟩
theorem start_met (os : Go.Os) (args : Array Value) : laidMetH Tryz.prog Rows.patTellsRow.laid ((startW os).forCall (fun _ _ => 0) ⟨#[], args, []⟩).memory :=
  laidMetH_of_parts (laidMet_over args (by kernel_rfl) (by kernel_rfl)) (by kernel_rfl)
theorem wants2 : ∀ t, t ∈ Tryz.f3.params → Tryz.prog.wantsStandIn t = false := by
  have h : (Tryz.f3.params.toList.all fun t => Tryz.prog.wantsStandIn t == false) = true := by kernel_rfl
  intro t ht
  simpa using List.all_eq_true.1 h t (by simpa using ht)
set_option maxRecDepth 100000 in
theorem patTells_lifted (os : Go.Os) (started : os.Started) (H : Type) (enc : TypeId × Value → H) :
    ReturnsInHanded {} Tryz.checked os 3 .any (fun w args => (Rows.patTellsSpec.pre enc Tryz.prog Tryz.f3 [] false w args ∧ laidMetH Tryz.prog Rows.patTellsRow.laid w) ∧ sizedMet enc Tryz.prog Tryz.f3 (OpenSpec.ofChange Rows.patTellsSpec) false w args)
      (Rows.patTellsSpec.post enc Tryz.prog Tryz.f3 false true false false) := by
  refine wrap_and_shaped (C := Tryz.checked) (X := fun w _ => laidMetH Tryz.prog Rows.patTellsRow.laid w) (fun _ _ _ hh h => h.of_heap hh) own started (by kernel_rfl) Tryz.func3
    (ChangeSpec.witness_shaped (enc := enc) (C := Tryz.checked) (os := os) (X := fun w _ => laidMetH Tryz.prog Rows.patTellsRow.laid w) false (startW os) #[.string ⟨#[]⟩, .slice none 0 0] 8 (World.layVars_os _ _ _)
      (World.shaped_of_ZipB (by kernel_rfl) (by kernel_rfl)) (by kernel_rfl) (by kernel_rfl) (by kernel_rfl) (start_met os _)) ?_
  intro W base args ds gs before hval0 hW hL hsh
  have hval : ∀ (j : Nat) t v, Tryz.f3.params[j]? = some t → args[j]? = some v → Value.okWide Tryz.prog W .any base t v := hval0
  have hW' := hW
  obtain ⟨p3, q, hA0, hV, rfl, _, _⟩ := hW
  have hA : DataW.TrodAll enc Tryz.prog W 0 (fun _ => true) true Tryz.f3.params.toList args.toList ds p3 := hA0
  rw [Tryz.params3] at hA hval
  obtain ⟨v0, v1, d0, d1, p0, p1, rfl, rfl, rfl, h0, h1⟩ := trodAll_two hA
  obtain ⟨rfl, rfl⟩ := trodVars_none hV
  obtain ⟨s0, rfl, rfl, rfl, w0⟩ := open_string Tryz.underlying9 (hval 0 9 v0 rfl rfl) h0
  obtain ⟨a1, len1, cap1, rfl⟩ := okWide_slice Tryz.underlying22 (hval 1 22 v1 rfl rfl)
  have h1k := h1
  obtain ⟨fuel1, hf1⟩ := h1
  obtain ⟨X, hX⟩ := open_txt (v := .slice a1 len1 cap1) hf1
  clear hA0 hval0 hA
  simp only [List.append_nil] at hW'
  have hlt : ∀ x ∈ p1, x.block < W.heap.size := fun x hx => by
    first | simpa using hW'.lt x hx | simpa using hW'.lt x (by simpa using hx)
  obtain ⟨A, m, S, N⟩ := te_of_laid hL hsh
  obtain ⟨a2, c2, e2, -⟩ := id hX
  injection e2 with e3 e4 e5
  subst e3 e4 e5
  refine (patTells_any (T := Tw A m) (A := A) (match_c A m) (wild_c A m) (pchk_c A m) (some_c A m) (fun _ _ h hb => h.below hb) s0 X _ _ W ⟨S, N⟩ (fun W' hb => N.below hb) hX).mono ?_
  intro e W' ⟨he, hb⟩
  subst he
  have g1 := Below.trod laidOut (by kernel_rfl) (of_decide_eq_true (by kernel_rfl)) h1k hb hlt
  have e1 : Rows.patTellsSpec.fn H ([.lit (.string s0.data.toList), d1] ++ []) = { results := [.lit (.bool true)], args := [.lit (.string s0.data.toList), d1] } := rfl
  refine ⟨_, rfl, _, _, _, [], [] ++ p1, [], by simpa using hW', ?_, ?_, ?_, hb.frame _, fun h => by cases h⟩
  · rw [e1]; exact trodAll_mk1 (shut_bool Tryz.underlying4 true)
  · rw [e1]; exact trodAll_mk2 (shut_string Tryz.underlying9 w0) g1
  · rw [e1]; rfl
end Ve
end Go.Proofs.YtemhofbhmnnijaaGreatDoor
