/-
  The card of pewholderlaw1.VerOrder: true for every input; the input reads as it did. Conditions: the row's own cells, which the card ties.
-/
import Derived.Test.YtmgpapghdbopiaaGreatDoorCards
import Derived.Test.YtmgpapghdbopiaaGreatDoorTie
import Derived.Test.YtmgpapghdbopiaaGreatDoorOrdY
import Derived.Test.YtmgpapghdbopiaaGreatDoorWrap
import Derived.ProofKit
import Derived.LaidMore
import Derived.Lay
import Derived.Stop.Joined
import Derived.Stop.LaidTwo
import Derived.HandedShaped
import Derived.SliceStrings
import Derived.MakeChecks
import Derived.Shelf.Vars
import Derived.Carry
import Derived.SevenTiedAt
namespace Go.Proofs.YtmgpapghdbopiaaGreatDoor
open Go.ChangeShapes Go.WideShapes Go.ChangeAt Go.RowKit
namespace Ve

theorem own : ownKnob Tryz.prog.godebug = none := by kernel_rfl
theorem laidOut : laidOutB Tryz.prog = true := by kernel_rfl
theorem cellsS : Tryz.prog.cellsOf 219 = 1 := by kernel_rfl
theorem cellsStr : Tryz.prog.cellsOf 9 = 1 := by kernel_rfl
theorem star : "*" ++ "errors.errorString" = "*errors.errorString" := by decide
theorem rowS (u : TypeId) (h : Tryz.prog.typeName? 3 u = some "*errors.errorString") : u = 201 :=
  typeName_ptr_named (nm := "errors.errorString") (by rw [star]; kernel_rfl) (by kernel_rfl) (by decide) u (by rw [star]; exact h)
theorem gTn : Tryz.prog.globalNamed "pewholder/api.ErrText" = some 0 := by kernel_rfl
theorem gBn : Tryz.prog.globalNamed "pewholder/api.ErrBound" = some 2 := by kernel_rfl
theorem gTt : (Tryz.prog.globals[(0 : Nat)]?).map (·.type) = some 32 := by kernel_rfl
theorem gBt : (Tryz.prog.globals[(2 : Nat)]?).map (·.type) = some 32 := by kernel_rfl
theorem gPt : (Tryz.prog.globals[(12 : Nat)]?).map (·.type) = some 188 := by kernel_rfl
theorem cellsU : Tryz.prog.cellsOf 146 = 1 := by kernel_rfl
theorem cellsPow : Tryz.prog.cellsOf 188 = 20 := by kernel_rfl
theorem plainLaid : (Rows.verOrderRow.laid.all fun x => x.2.handleName?.isNone) = true := by kernel_rfl

/-- Of laid variables and the world's shape: what the walk asks. -/
theorem vs_of_laid {W : World} (h : laidMetH Tryz.prog Rows.verOrderRow.laid W) (hsh : W.ShapedOpen Tryz.prog) : (∃ aT aB m, Vs W aT aB m) ∧ Lib.TabIs Tryz.prog W powName .u64 Lib.pow10Tab := by
  rw [MakeChecks.laidMetH_plain _ _ _ plainLaid] at h
  have h3 : laidMet Tryz.prog ((powName, Lib.tabData .u64 Lib.pow10Tab) :: ("unicode/utf8.acceptRanges", Rows.laid_unicode_utf8_acceptRanges) :: ("pewholder/api.ErrText", Rows.laid_pewholder_api_ErrText) :: ("pewholder/api.ErrBound", Rows.laid_pewholder_api_ErrBound) :: [("unicode/utf8.first", Rows.laid_unicode_utf8_first)]) W := h.tail.tail
  have htab := Lib.tabIs_of_head powAt gPt Tryz.underlying188 Tryz.underlying146 cellsU cellsPow h3
  obtain ⟨m, hm⟩ := cell_of_shapedOpen_int (P := Tryz.prog) (g := 11) (t := 3) (zero := #[.int .i64 0]) hsh (of_decide_eq_true (by kernel_rfl)) (by kernel_rfl) rfl (by kernel_rfl) (by kernel_rfl) Tryz.underlying3
  obtain ⟨a0, a1, s0, s1, c0, c1, t0, t1, v0, v1, _, _, _, _, _, _, hne, b0, b1⟩ := laid_sentinels2 h3.tail.tail gTn gTt gBn gBt Tryz.underlying32 rowS Tryz.underlying201 Tryz.underlying219 rfl rfl Tryz.underlying9 cellsS cellsStr
  exact ⟨⟨a0, a1, m, by simpa using World.var?_cell gTn v0 0, by simpa using World.var?_cell gBn v1 0, ⟨c0, t0, b0⟩, ⟨c1, t1, b1⟩, hne, hm⟩, htab⟩

theorem wants3 : ∀ t, t ∈ Tryz.f4.params → Tryz.prog.wantsStandIn t = false := by
  have h : (Tryz.f4.params.toList.all fun t => Tryz.prog.wantsStandIn t == false) = true := by kernel_rfl
  intro t ht
  simpa using List.all_eq_true.1 h t (by simpa using ht)

set_option maxRecDepth 100000 in
theorem verOrder_lifted (os : Go.Os) (started : os.Started) (H : Type) (enc : TypeId × Value → H) :
    ReturnsInHanded {} Tryz.checked os 4 .any (fun w args => (Rows.verOrderSpec.pre enc Tryz.prog Tryz.f4 [] false w args ∧ laidMetH Tryz.prog Rows.verOrderRow.laid w) ∧ sizedMet enc Tryz.prog Tryz.f4 (OpenSpec.ofChange Rows.verOrderSpec) false w args)
      (Rows.verOrderSpec.post enc Tryz.prog Tryz.f4 false true false false) := by
  refine wrap_and_shaped (C := Tryz.checked) (X := fun w _ => laidMetH Tryz.prog Rows.verOrderRow.laid w) (fun _ _ _ hh h => h.of_heap hh) own started (by kernel_rfl) Tryz.func4
    (ChangeSpec.witness_shaped (enc := enc) (C := Tryz.checked) (os := os) (X := fun w _ => laidMetH Tryz.prog Rows.verOrderRow.laid w) false (World.laidAll Tryz.prog os Rows.verOrderRow.laid) #[.slice none 0 0] 8 (World.laidAll_os _ _ _)
      (World.shaped_of_ZipB (by kernel_rfl) (by kernel_rfl)) (by kernel_rfl) (by kernel_rfl) (by kernel_rfl)
      (by rw [MakeChecks.laidMetH_plain _ _ _ plainLaid]; exact laidMet_laidAll _ (by kernel_rfl) (by kernel_rfl))) ?_
  intro W base args ds gs before hval0 hW hL hsh
  have hval : ∀ (j : Nat) t v, Tryz.f4.params[j]? = some t → args[j]? = some v → Value.okWide Tryz.prog W .any base t v := hval0
  have hW' := hW
  obtain ⟨p3, q, hA0, hV, rfl, _, _⟩ := hW
  have hA : DataW.TrodAll enc Tryz.prog W 0 (fun _ => true) true Tryz.f4.params.toList args.toList ds p3 := hA0
  rw [Tryz.params4] at hA hval
  obtain ⟨v3, d3, rfl, rfl, h3⟩ := trodAll_one hA
  obtain ⟨rfl, rfl⟩ := trodVars_none hV
  obtain ⟨a0, len, cap, rfl⟩ := okWide_slice Tryz.underlying24 (hval 0 24 v3 rfl rfl)
  have h3k := h3
  obtain ⟨fuel, hf⟩ := h3
  clear hA0 hval0 hA
  simp only [List.append_nil] at hW'
  have hlt : ∀ x ∈ p3, x.block < W.heap.size := fun x hx => by simpa using hW'.lt x hx
  have hargs : ∀ (W' : World), Below W.heap.size W W' → DataW.Trod enc Tryz.prog W' 0 (fun b => decide (b < W.heap.size)) true 24 (.slice a0 len cap) d3 p3 :=
    fun W' hn => Below.trod laidOut (by kernel_rfl) (of_decide_eq_true (by kernel_rfl)) h3k hn hlt
  obtain ⟨⟨aT, aB, m, S⟩, htab⟩ := vs_of_laid hL hsh
  have fin : ∀ e W', (e = Ending.returned (.bool true) ∧ Below W.heap.size W W') → ∃ v, e = Ending.returned v ∧ Rows.verOrderSpec.post enc Tryz.checked.prog Tryz.f4 false true false false W #[.slice a0 len cap] v W' := by
    intro e W' ⟨he, hb⟩
    subst he
    have e1 : Rows.verOrderSpec.fn H ([d3] ++ []) = { results := [.lit (.bool true)], args := [d3] } := rfl
    refine ⟨_, rfl, _, _, _, [], p3, [], hW', ?_, ?_, ?_, hb.frame _, fun h => by cases h⟩
    · rw [e1]; exact trodAll_mk1 (shut_bool Tryz.underlying4 true)
    · rw [e1]; exact trodAll_mk1 (hargs _ hb)
    · rw [e1]; rfl
  rcases open_strings Tryz.underlying24 Tryz.underlying9 cellsStr hf with ⟨hcs, hx⟩ | ⟨a, len', cap', ss, hcs, _, hl, hm, hz, hx, hcell, hsz⟩
  · simp [Value.cells] at hcs
    obtain ⟨rfl, rfl, rfl⟩ := hcs
    exact (verOrder_any none 0 [] aT aB m W S htab (fun h => absurd rfl h) (fun _ h => by cases h)).mono fin
  · simp [Value.cells] at hcs
    obtain ⟨rfl, rfl, rfl⟩ := hcs
    simp only [if_true] at hz
    have hlen : (ss.take len).length = len := by rw [List.length_take]; omega
    have := verOrder_any (some a) cap (ss.take len) aT aB m W S htab (fun hne => by
      have h0l : 0 < len := by rw [← hlen]; exact List.length_pos_iff.2 hne
      obtain ⟨b, off, spot⟩ := a
      have hspot : spot = none := by simpa [Addr.add] using World.cell?_spot (hcell 0 (by omega))
      subst hspot
      refine ⟨b, off, rfl, fun j hj => ?_⟩
      have hj2 : j < len := by rw [← hlen]; exact hj
      rw [← add_plain, hcell j (by omega)]
      rw [List.getElem_take, List.getD_eq_getElem?_getD, List.getElem?_eq_getElem (by omega)]; rfl) (fun x hx => hsz x (List.mem_of_mem_take hx))
    rw [hlen] at this
    exact this.mono fin
end Ve

theorem verOrder_row_holds : Rows.VerOrderSaid :=
  OpenClaim.holds_of_wide 4 Tryz.f4 rfl rfl rfl rfl rfl rfl rfl ⟨rfl, rfl, rfl, rfl, rfl⟩ rfl rfl rfl rfl rfl (by kernel_rfl) Tryz.func4 (by kernel_rfl)
    (of_decide_eq_true (by kernel_rfl)) (by unfold Func.isWrapper; rw [if_neg (of_decide_eq_false (by kernel_rfl))]; exact ⟨rfl, rfl⟩)
    (fun os started H enc _ => Ve.verOrder_lifted os started H enc)

theorem verOrder_holds : Rows.VerOrderCardSaid :=
  Claim7.holds_tied_plain_at .later [] Rows.verOrderCard.laidKinds true Rows.verOrderCard.stood.harness true
    verOrder_row_holds (fun _ h => by cases h) (by kernel_rfl) (fun _ h => by cases h) verOrder_row_tie rfl ⟨rfl, rfl⟩ (by kernel_rfl) rfl
    (fun f fn hf hfn => by
      obtain rfl : f = 4 := Option.some.inj ((show Tryz.prog.funcNamed Rows.verOrderRow.func = some 4 by kernel_rfl).symm.trans hf) |>.symm
      obtain rfl : fn = Tryz.f4 := (Option.some.inj (Tryz.func4.symm.trans hfn)).symm
      exact ⟨by kernel_rfl, fun j t ht => Ve.wants3 t (Array.mem_of_getElem? ht)⟩)
    (by kernel_rfl)
#print axioms verOrder_holds
end Go.Proofs.YtmgpapghdbopiaaGreatDoor
