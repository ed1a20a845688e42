/-
  The card of pewholderlaw1.VerTexts: true for every input; the input reads as it did. Conditions: the row's own cells, which the card ties.
-/
import Derived.Test.YtmgpapghdbopiaaDoorCards
import Derived.Test.YtmgpapghdbopiaaDoorTie
import Derived.Test.YtmgpapghdbopiaaDoorVerP
import Derived.Test.YtmgpapghdbopiaaDoorWrap
import Derived.ProofKit
import Derived.LaidMore
import Derived.Lay
import Derived.Stop.Joined
import Derived.Stop.LaidTwo
import Derived.HandedShaped
import Derived.SliceStrings
import Derived.MakeChecks
import Derived.Shelf.Vars
import Derived.Carry
import Derived.SevenTiedAt
namespace Go.Proofs.YtmgpapghdbopiaaDoor
open Go.ChangeShapes Go.WideShapes Go.ChangeAt Go.RowKit
namespace Ve

theorem own : ownKnob Tryd.prog.godebug = none := by kernel_rfl
theorem laidOut : laidOutB Tryd.prog = true := by kernel_rfl
theorem cellsS : Tryd.prog.cellsOf 149 = 1 := by kernel_rfl
theorem cellsStr : Tryd.prog.cellsOf 9 = 1 := by kernel_rfl
theorem star : "*" ++ "errors.errorString" = "*errors.errorString" := by decide
theorem rowS (u : TypeId) (h : Tryd.prog.typeName? 3 u = some "*errors.errorString") : u = 135 :=
  typeName_ptr_named (nm := "errors.errorString") (by rw [star]; kernel_rfl) (by kernel_rfl) (by decide) u (by rw [star]; exact h)
theorem gTn : Tryd.prog.globalNamed "pewholder/api.ErrText" = some 0 := by kernel_rfl
theorem gBn : Tryd.prog.globalNamed "pewholder/api.ErrBound" = some 2 := by kernel_rfl
theorem gTt : (Tryd.prog.globals[(0 : Nat)]?).map (·.type) = some 38 := by kernel_rfl
theorem gBt : (Tryd.prog.globals[(2 : Nat)]?).map (·.type) = some 38 := by kernel_rfl
theorem gPt : (Tryd.prog.globals[(4 : Nat)]?).map (·.type) = some 119 := by kernel_rfl
theorem cellsU : Tryd.prog.cellsOf 99 = 1 := by kernel_rfl
theorem cellsPow : Tryd.prog.cellsOf 119 = 20 := by kernel_rfl
theorem plainLaid : (Rows.verTextsRow.laid.all fun x => x.2.handleName?.isNone) = true := by kernel_rfl

/-- Of laid variables and the world's shape: what the walk asks. -/
theorem vs_of_laid {W : World} (h : laidMetH Tryd.prog Rows.verTextsRow.laid W) (hsh : W.ShapedOpen Tryd.prog) : (∃ aT aB m, Vs W aT aB m) ∧ Lib.TabIs Tryd.prog W powName .u64 Lib.pow10Tab := by
  rw [MakeChecks.laidMetH_plain _ _ _ plainLaid] at h
  have h3 : laidMet Tryd.prog ((powName, Lib.tabData .u64 Lib.pow10Tab) :: ("unicode/utf8.acceptRanges", Rows.laid_unicode_utf8_acceptRanges) :: ("pewholder/api.ErrText", Rows.laid_pewholder_api_ErrText) :: ("pewholder/api.ErrBound", Rows.laid_pewholder_api_ErrBound) :: [("unicode/utf8.first", Rows.laid_unicode_utf8_first)]) W := h.tail.tail
  have htab := Lib.tabIs_of_head powAt gPt Tryd.underlying119 Tryd.underlying99 cellsU cellsPow h3
  obtain ⟨m, hm⟩ := cell_of_shapedOpen_int (P := Tryd.prog) (g := 3) (t := 3) (zero := #[.int .i64 0]) hsh (of_decide_eq_true (by kernel_rfl)) (by kernel_rfl) rfl (by kernel_rfl) (by kernel_rfl) Tryd.underlying3
  obtain ⟨a0, a1, s0, s1, c0, c1, t0, t1, v0, v1, _, _, _, _, _, _, hne, b0, b1⟩ := laid_sentinels2 h3.tail.tail gTn gTt gBn gBt Tryd.underlying38 rowS Tryd.underlying135 Tryd.underlying149 rfl rfl Tryd.underlying9 cellsS cellsStr
  exact ⟨⟨a0, a1, m, by simpa using World.var?_cell gTn v0 0, by simpa using World.var?_cell gBn v1 0, ⟨c0, t0, b0⟩, ⟨c1, t1, b1⟩, hne, hm⟩, htab⟩

theorem wants3 : ∀ t, t ∈ Tryd.f3.params → Tryd.prog.wantsStandIn t = false := by
  have h : (Tryd.f3.params.toList.all fun t => Tryd.prog.wantsStandIn t == false) = true := by kernel_rfl
  intro t ht
  simpa using List.all_eq_true.1 h t (by simpa using ht)

set_option maxRecDepth 100000 in
theorem verTexts_lifted (os : Os) (started : os.Started) (H : Type) (enc : TypeId × Value → H) :
    ReturnsInHanded {} Tryd.checked os 3 .any (fun w args => (Rows.verTextsSpec.pre enc Tryd.prog Tryd.f3 [] false w args ∧ laidMetH Tryd.prog Rows.verTextsRow.laid w) ∧ sizedMet enc Tryd.prog Tryd.f3 (OpenSpec.ofChange Rows.verTextsSpec) false w args)
      (Rows.verTextsSpec.post enc Tryd.prog Tryd.f3 false true false false) := by
  refine wrap_and_shaped (C := Tryd.checked) (X := fun w _ => laidMetH Tryd.prog Rows.verTextsRow.laid w) (fun _ _ _ hh h => h.of_heap hh) own started (by kernel_rfl) Tryd.func3
    (ChangeSpec.witness_shaped (enc := enc) (C := Tryd.checked) (os := os) (X := fun w _ => laidMetH Tryd.prog Rows.verTextsRow.laid w) false (World.laidAll Tryd.prog os Rows.verTextsRow.laid) #[.int .i64 0, .int .i64 0, .int .i64 0, .slice none 0 0] 8 (World.laidAll_os _ _ _)
      (World.shaped_of_ZipB (by kernel_rfl) (by kernel_rfl)) (by kernel_rfl) (by kernel_rfl) (by kernel_rfl)
      (by rw [MakeChecks.laidMetH_plain _ _ _ plainLaid]; exact laidMet_laidAll _ (by kernel_rfl) (by kernel_rfl))) ?_
  intro W base args ds gs before hval0 hW hL hsh
  have hval : ∀ (j : Nat) t v, Tryd.f3.params[j]? = some t → args[j]? = some v → Value.okWide Tryd.prog W .any base t v := hval0
  have hW' := hW
  obtain ⟨p, q, hA0, hV, rfl, _, _⟩ := hW
  have hA : DataW.TrodAll enc Tryd.prog W 0 (fun _ => true) true Tryd.f3.params.toList args.toList ds p := hA0
  rw [Tryd.params3] at hA hval
  obtain ⟨v0, v1, v2, v3, d0, d1, d2, d3, p0, p1, p2, p3, rfl, rfl, rfl, h0, h1, h2, h3⟩ := trodAll_four hA
  obtain ⟨rfl, rfl⟩ := trodVars_none hV
  obtain ⟨x0, rfl, rfl, rfl, w0⟩ := open_int Tryd.underlying3 (hval 0 3 v0 rfl rfl) h0
  obtain ⟨x1, rfl, rfl, rfl, w1⟩ := open_int Tryd.underlying3 (hval 1 3 v1 rfl rfl) h1
  obtain ⟨x2, rfl, rfl, rfl, w2⟩ := open_int Tryd.underlying3 (hval 2 3 v2 rfl rfl) h2
  obtain ⟨a0, len, cap, rfl⟩ := okWide_slice Tryd.underlying22 (hval 3 22 v3 rfl rfl)
  have h3k := h3
  obtain ⟨fuel, hf⟩ := h3
  clear hA0 hval0 hA
  simp only [List.append_nil, List.nil_append] at hW'
  have hlt : ∀ x ∈ p3, x.block < W.heap.size := fun x hx => by simpa using hW'.lt x hx
  have hargs : ∀ (W' : World), Below W.heap.size W W' → DataW.Trod enc Tryd.prog W' 0 (fun b => decide (b < W.heap.size)) true 22 (.slice a0 len cap) d3 p3 :=
    fun W' hn => Below.trod laidOut (by kernel_rfl) (of_decide_eq_true (by kernel_rfl)) h3k hn hlt
  obtain ⟨⟨aT, aB, m, S⟩, htab⟩ := vs_of_laid hL hsh
  have fin : ∀ e W', (e = Ending.returned (.bool true) ∧ Below W.heap.size W W') → ∃ v, e = Ending.returned v ∧ Rows.verTextsSpec.post enc Tryd.checked.prog Tryd.f3 false true false false W #[.int .i64 x0, .int .i64 x1, .int .i64 x2, .slice a0 len cap] v W' := by
    intro e W' ⟨he, hb⟩
    subst he
    have e1 : Rows.verTextsSpec.fn H ([.lit (.int .i64 x0), .lit (.int .i64 x1), .lit (.int .i64 x2), d3] ++ []) = { results := [.lit (.bool true)], args := [.lit (.int .i64 x0), .lit (.int .i64 x1), .lit (.int .i64 x2), d3] } := rfl
    refine ⟨_, rfl, _, _, _, [], p3, [], hW', ?_, ?_, ?_, hb.frame _, fun h => by cases h⟩
    · rw [e1]; exact trodAll_mk1 (shut_bool Tryd.underlying4 true)
    · rw [e1]; exact trodAll_mk4 (shut_int Tryd.underlying3 w0) (shut_int Tryd.underlying3 w1) (shut_int Tryd.underlying3 w2) (hargs _ hb)
    · rw [e1]; rfl
  rcases open_strings Tryd.underlying22 Tryd.underlying9 cellsStr hf with ⟨hcs, hx⟩ | ⟨a, len', cap', ss, hcs, _, hl, hm, hz, hx, hcell, _⟩
  · simp [Value.cells] at hcs
    obtain ⟨rfl, rfl, rfl⟩ := hcs
    exact (verTexts_any x0 x1 x2 none 0 [] aT aB m W S htab (fun h => absurd rfl h)).mono fin
  · simp [Value.cells] at hcs
    obtain ⟨rfl, rfl, rfl⟩ := hcs
    simp only [if_true] at hz
    have hlen : (ss.take len).length = len := by rw [List.length_take]; omega
    have := verTexts_any x0 x1 x2 (some a) cap (ss.take len) aT aB m W S htab (fun hne => by
      have h0l : 0 < len := by rw [← hlen]; exact List.length_pos_iff.2 hne
      obtain ⟨b, off, spot⟩ := a
      have hspot : spot = none := by simpa [Addr.add] using World.cell?_spot (hcell 0 (by omega))
      subst hspot
      refine ⟨b, off, rfl, fun j hj => ?_⟩
      have hj2 : j < len := by rw [← hlen]; exact hj
      rw [← add_plain, hcell j (by omega)]
      rw [List.getElem_take, List.getD_eq_getElem?_getD, List.getElem?_eq_getElem (by omega)]; rfl)
    rw [hlen] at this
    exact this.mono fin
end Ve

theorem verTexts_row_holds : Rows.VerTextsSaid :=
  OpenClaim.holds_of_wide 3 Tryd.f3 rfl rfl rfl rfl rfl rfl rfl ⟨rfl, rfl, rfl, rfl, rfl⟩ rfl rfl rfl rfl rfl (by kernel_rfl) Tryd.func3 (by kernel_rfl)
    (of_decide_eq_true (by kernel_rfl)) (by unfold Func.isWrapper; rw [if_neg (of_decide_eq_false (by kernel_rfl))]; exact ⟨rfl, rfl⟩)
    (fun os started H enc _ => Ve.verTexts_lifted os started H enc)

theorem verTexts_holds : Rows.VerTextsCardSaid :=
  Claim7.holds_tied_plain_at .later [] Rows.verTextsCard.laidKinds true Rows.verTextsCard.stood.harness true
    verTexts_row_holds (fun _ h => by cases h) (by kernel_rfl) (fun _ h => by cases h) verTexts_row_tie rfl ⟨rfl, rfl⟩ (by kernel_rfl) rfl
    (fun f fn hf hfn => by
      obtain rfl : f = 3 := Option.some.inj ((show Tryd.prog.funcNamed Rows.verTextsRow.func = some 3 by kernel_rfl).symm.trans hf) |>.symm
      obtain rfl : fn = Tryd.f3 := (Option.some.inj (Tryd.func3.symm.trans hfn)).symm
      exact ⟨by kernel_rfl, fun j t ht => Ve.wants3 t (Array.mem_of_getElem? ht)⟩)
    (by kernel_rfl)
#print axioms verTexts_holds
end Go.Proofs.YtmgpapghdbopiaaDoor
