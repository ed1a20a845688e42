/-
  The card of pewholderlaw1.ModBack: true for every input; the input reads as it did. Conditions: the row's own cells, which the card ties.
-/
import Derived.Test.YtmgpapghdbopiaaDoorCards
import Derived.Test.YtmgpapghdbopiaaDoorTie
import Derived.Test.YtmgpapghdbopiaaDoorModBack
import Derived.Test.YtmgpapghdbopiaaDoorWrap
import Derived.Test.YtmgpapghdbopiaaDoorLaid
import Derived.ProofKit
import Derived.LaidMore
import Derived.Lay
import Derived.Stop.Joined
import Derived.Stop.LaidTwo
import Derived.HandedShaped
import Derived.MakeChecks
import Derived.Shelf.Vars
import Derived.Carry
import Derived.SevenTiedAt
import Derived.ChangeMaps5
import Derived.Lib.SmallJoins
namespace Go.Proofs.YtmgpapghdbopiaaDoor
open Go.ChangeShapes Go.WideShapes Go.ChangeAt Go.RowKit Go.ChangeMaps Go.Joins
namespace Ve

theorem own : ownKnob Tryd.prog.godebug = none := by kernel_rfl
theorem cellsS : Tryd.prog.cellsOf 149 = 1 := by kernel_rfl
theorem cellsStr : Tryd.prog.cellsOf 9 = 1 := by kernel_rfl
theorem cellsMod : Tryd.prog.cellsOf 36 = 2 := by kernel_rfl
theorem star : "*" ++ "errors.errorString" = "*errors.errorString" := by decide
theorem rowS (u : TypeId) (h : Tryd.prog.typeName? 3 u = some "*errors.errorString") : u = 135 :=
  typeName_ptr_named (nm := "errors.errorString") (by rw [star]; kernel_rfl) (by kernel_rfl) (by decide) u (by rw [star]; exact h)
theorem plainLaid : (Rows.modBackRow.laid.all fun x => x.2.handleName?.isNone) = true := by kernel_rfl

/-- The three errors. -/
def threeE : List (String × Nat × List UInt8) :=
  [("pewholder/api.ErrText", 0, [112, 101, 119, 104, 111, 108, 100, 101, 114, 58, 32, 116, 101, 120, 116]),
   ("pewholder/api.ErrBound", 2, [112, 101, 119, 104, 111, 108, 100, 101, 114, 58, 32, 98, 111, 117, 110, 100]),
   ("pewholder/api.ErrMajor", 1, [112, 101, 119, 104, 111, 108, 100, 101, 114, 58, 32, 109, 97, 106, 111, 114])]
theorem threeE_named : ∀ x, x ∈ threeE → Tryd.prog.globalNamed x.1 = some x.2.1 ∧ (Tryd.prog.globals[x.2.1]?).map (·.type) = some 38 := by
  have h : (threeE.all fun x => Tryd.prog.globalNamed x.1 == some x.2.1 && (Tryd.prog.globals[x.2.1]?).map (·.type) == some 38) = true := by kernel_rfl
  intro x hx
  simpa using List.all_eq_true.1 h x hx

/-- Of laid variables and the world's shape: what the walk asks. -/
theorem te_of_laid {W : World} (h : laidMetH Tryd.prog Rows.modBackRow.laid W) (hsh : W.ShapedOpen Tryd.prog) : ∃ A m, Te W A m := by
  rw [MakeChecks.laidMetH_plain _ _ _ plainLaid] at h
  have h' : laidMet Tryd.prog (("unicode/utf8.acceptRanges", Rows.laid_unicode_utf8_acceptRanges) :: ((threeE.map fun x => (x.1, DataW.iface "*errors.errorString" (.ptr (.agg [.lit (.string x.2.2)])))) ++ [("unicode/utf8.first", Rows.laid_unicode_utf8_first)])) W := h
  obtain ⟨m, hm⟩ := cell_of_shapedOpen_int (P := Tryd.prog) (g := 3) (t := 3) (zero := #[.int .i64 0]) hsh (of_decide_eq_true (by kernel_rfl)) (by kernel_rfl) rfl (by kernel_rfl) (by kernel_rfl) Tryd.underlying3
  obtain ⟨ps, hl, hnd, hrows⟩ := h'.tail
  obtain ⟨al, hlen, hsub, hall⟩ := Er.sens_rest Tryd.underlying38 rowS Tryd.underlying135 Tryd.underlying149 rfl rfl Tryd.underlying9 cellsS cellsStr [("unicode/utf8.first", Rows.laid_unicode_utf8_first)] threeE ps hl threeE_named hrows
  have h3 : al.length = 3 := hlen
  have get : ∀ k, k < 3 → al[k]? = some (al.getD k ⟨0, 0, none⟩) := fun k hk => by
    rw [List.getD_eq_getElem?_getD, List.getElem?_eq_getElem (by omega)]; rfl
  have k0 := hall 0 _ _ rfl (get 0 (by omega))
  have k1 := hall 1 _ _ rfl (get 1 (by omega))
  have k2 := hall 2 _ _ rfl (get 2 (by omega))
  have hne : al.getD 0 ⟨0, 0, none⟩ ≠ al.getD 1 ⟨0, 0, none⟩ := by
    have := Er.unlike hsub hnd (i := 0) (j := 1) (by omega) (by omega) (by omega)
    intro e
    apply this
    have h0' := get 0 (by omega)
    have h1' := get 1 (by omega)
    rw [List.getElem?_eq_getElem (by omega)] at h0' h1'
    rw [Option.some.inj h0', Option.some.inj h1']
    exact e
  exact ⟨fun k => al.getD (if k = 3 then 2 else k) ⟨0, 0, none⟩, m, ⟨k0.1, k1.1, k2.1⟩, ⟨k0.1, k1.1, k0.2, k1.2, hne, hm⟩⟩

theorem wants3 : ∀ t, t ∈ Tryd.f4.params → Tryd.prog.wantsStandIn t = false := by
  have h : (Tryd.f4.params.toList.all fun t => Tryd.prog.wantsStandIn t == false) = true := by kernel_rfl
  intro t ht
  simpa using List.all_eq_true.1 h t (by simpa using ht)

set_option maxRecDepth 100000 in
/-- A module by value, opened; and shut. -/
theorem open_mod {H : Type} {enc : TypeId × Value → H} {w : World} {base : Nat} {sp : Nat → Bool} {held : Bool} {r : Reach} {b0 : Nat} {v : Value} {d : DataW H} {p : List MemPlace}
    (hv : Value.okWide Tryd.prog w r b0 36 v) (h : DataW.Trod enc Tryd.prog w base sp held 36 v d p) :
    ∃ a b : ByteArray, v = .agg #[.string a, .string b] ∧ d = .agg [.lit (.string a.data.toList), .lit (.string b.data.toList)] ∧ p = [] ∧ a.size ≤ maxLen ∧ b.size ≤ maxLen := by
  obtain ⟨c0, c1, y0, y1, n, rfl, rfl, rfl, hy0, hy1⟩ := open_agg2 Tryd.underlying36 (by kernel_rfl) cellsMod hv h
  obtain ⟨a, e0, rfl, wa⟩ := DataW.trod_string Tryd.underlying9 hy0
  obtain ⟨b, e1, rfl, wb⟩ := DataW.trod_string Tryd.underlying9 hy1
  simp at e0 e1
  subst e0 e1
  exact ⟨a, b, rfl, rfl, rfl, wa, wb⟩
theorem shut_mod {H : Type} {enc : TypeId × Value → H} {w : World} {base : Nat} {sp : Nat → Bool} {held : Bool} {a b : ByteArray} (wa : a.size ≤ maxLen) (wb : b.size ≤ maxLen) :
    DataW.Trod enc Tryd.prog w base sp held 36 (.agg #[.string a, .string b]) (.agg [.lit (.string a.data.toList), .lit (.string b.data.toList)]) [] :=
  shut_agg2 (y0 := (.lit (.string a.data.toList), [])) (y1 := (.lit (.string b.data.toList), [])) Tryd.underlying36 (by kernel_rfl) cellsMod ⟨1, by simp [DataW.trod, Tryd.underlying9, wa]⟩ ⟨1, by simp [DataW.trod, Tryd.underlying9, wb]⟩

set_option maxRecDepth 100000 in
theorem modBack_lifted (os : Go.Os) (started : os.Started) (H : Type) (enc : TypeId × Value → H) :
    ReturnsInHanded {} Tryd.checked os 4 .any (fun w args => (Rows.modBackSpec.pre enc Tryd.prog Tryd.f4 [] false w args ∧ laidMetH Tryd.prog Rows.modBackRow.laid w) ∧ sizedMet enc Tryd.prog Tryd.f4 (OpenSpec.ofChange Rows.modBackSpec) false w args)
      (Rows.modBackSpec.post enc Tryd.prog Tryd.f4 false true false false) := by
  refine wrap_and_shaped (C := Tryd.checked) (X := fun w _ => laidMetH Tryd.prog Rows.modBackRow.laid w) (fun _ _ _ hh h => h.of_heap hh) own started (by kernel_rfl) Tryd.func4
    (ChangeSpec.witness_shaped (enc := enc) (C := Tryd.checked) (os := os) (X := fun w _ => laidMetH Tryd.prog Rows.modBackRow.laid w) false (World.laidAll Tryd.prog os Rows.modBackRow.laid) #[.agg #[.string ⟨#[]⟩, .string ⟨#[]⟩], .agg #[.string ⟨#[]⟩, .string ⟨#[]⟩], .string ⟨#[]⟩] 8 (World.laidAll_os _ _ _)
      (World.shaped_of_ZipB (by kernel_rfl) (by kernel_rfl)) (by kernel_rfl) (by kernel_rfl) (by kernel_rfl)
      (by rw [MakeChecks.laidMetH_plain _ _ _ plainLaid]; exact laidMet_laidAll _ (by kernel_rfl) (by kernel_rfl))) ?_
  intro W base args ds gs before hval0 hW hL hsh
  have hval : ∀ (j : Nat) t v, Tryd.f4.params[j]? = some t → args[j]? = some v → Value.okWide Tryd.prog W .any base t v := hval0
  have hW' := hW
  obtain ⟨p, q, hA0, hV, rfl, _, _⟩ := hW
  have hA : DataW.TrodAll enc Tryd.prog W 0 (fun _ => true) true Tryd.f4.params.toList args.toList ds p := hA0
  rw [Tryd.params4] at hA hval
  obtain ⟨v0, v1, v2, d0, d1, d2, p0, p1, p2, rfl, rfl, rfl, h0, h1, h2⟩ := trodAll_three hA
  obtain ⟨rfl, rfl⟩ := trodVars_none hV
  obtain ⟨a, av, rfl, rfl, rfl, wa, wav⟩ := open_mod (hval 0 36 v0 rfl rfl) h0
  obtain ⟨b, bv, rfl, rfl, rfl, wb, wbv⟩ := open_mod (hval 1 36 v1 rfl rfl) h1
  obtain ⟨s, rfl, rfl, rfl, ws⟩ := open_string Tryd.underlying9 (hval 2 9 v2 rfl rfl) h2
  clear hA0 hval0 hA
  obtain ⟨A, m, S⟩ := te_of_laid hL hsh
  refine (modBack_any a av b bv s A m W S wa wav wb wbv ws).mono fun e W' ⟨he, hb⟩ => ?_
  subst he
  have e1 : Rows.modBackSpec.fn H ([.agg [.lit (.string a.data.toList), .lit (.string av.data.toList)], .agg [.lit (.string b.data.toList), .lit (.string bv.data.toList)], .lit (.string s.data.toList)] ++ []) = { results := [.lit (.bool true)], args := [.agg [.lit (.string a.data.toList), .lit (.string av.data.toList)], .agg [.lit (.string b.data.toList), .lit (.string bv.data.toList)], .lit (.string s.data.toList)] } := rfl
  refine ⟨_, rfl, _, _, _, [], [], [], hW', ?_, ?_, ?_, hb.frame _, fun h => by cases h⟩
  · rw [e1]; exact trodAll_mk1 (shut_bool Tryd.underlying4 true)
  · rw [e1]; exact trodAll_mk3 (shut_mod wa wav) (shut_mod wb wbv) (shut_string Tryd.underlying9 ws)
  · rw [e1]; rfl
end Ve

theorem modBack_row_holds : Rows.ModBackSaid :=
  OpenClaim.holds_of_wide 4 Tryd.f4 rfl rfl rfl rfl rfl rfl rfl ⟨rfl, rfl, rfl, rfl, rfl⟩ rfl rfl rfl rfl rfl (by kernel_rfl) Tryd.func4 (by kernel_rfl)
    (of_decide_eq_true (by kernel_rfl)) (by unfold Func.isWrapper; rw [if_neg (of_decide_eq_false (by kernel_rfl))]; exact ⟨rfl, rfl⟩)
    (fun os started H enc _ => Ve.modBack_lifted os started H enc)

theorem modBack_holds : Rows.ModBackCardSaid :=
  Claim7.holds_tied_plain_at .later [] Rows.modBackCard.laidKinds true Rows.modBackCard.stood.harness true
    modBack_row_holds (fun _ h => by cases h) (by kernel_rfl) (fun _ h => by cases h) modBack_row_tie rfl ⟨rfl, rfl⟩ (by kernel_rfl) rfl
    (fun f fn hf hfn => by
      obtain rfl : f = 4 := Option.some.inj ((show Tryd.prog.funcNamed Rows.modBackRow.func = some 4 by kernel_rfl).symm.trans hf) |>.symm
      obtain rfl : fn = Tryd.f4 := (Option.some.inj (Tryd.func4.symm.trans hfn)).symm
      exact ⟨by kernel_rfl, fun j t ht => Ve.wants3 t (Array.mem_of_getElem? ht)⟩)
    (by kernel_rfl)
#print axioms modBack_holds
end Go.Proofs.YtmgpapghdbopiaaDoor
