/-
  ver.Sort walked, of what slices.CompactFunc answers.
-/
import Derived.Test.YtanponneancajaaGreatDoorBi2
import Derived.Test.YtanponneancajaaGreatDoorVerM
import Derived.Lib.SliceRun
import Derived.Test.YtanponneancajaaGreatDoorBi1
import Derived.Test.YtanponneancajaaGreatDoorFileP
import Derived.Test.YtanponneancajaaGreatDoorCode
import Derived.Deep.QuietTactic
import Derived.BigQuiet
namespace Go.Proofs.YtanponneancajaaGreatDoor
open Go.RowKit
namespace Ve

def ba (t : List UInt8) : ByteArray := ⟨t.toArray⟩
theorem ba_list (t : List UInt8) : (ba t).data.toList = t := by simp [ba]
/-- What CompactFunc makes of a sorted row. -/
def CompactIs : Prop := ∀ (w0 W : World) (g cap : Nat) (D : List Rc), D ≠ [] → D.length ≤ 1000 → D.length ≤ cap → cap ≤ maxLen → srt D → Rw w0 W g D →
  Calls Tryz.prog 161 #[.slice (some ⟨g, 0, none⟩) D.length cap, .func (.func 162) #[] #[]] W fun e w' => ∃ E : List Rc, e = .returned (.slice (some ⟨g, 0, none⟩) E.length cap) ∧ E.length ≤ D.length ∧ rises (E.map (·.1)) ∧ (∀ t, t ∈ E.map (·.1) ↔ t ∈ D.map (·.1)) ∧ Rw w0 w' g E

theorem text_rc (r : Rc) (g : Nat) (aT aB : Addr) (m : Int) (w : World) (S : Vs w aT aB m) (htab : Lib.TabIs Tryz.prog w powName .u64 Lib.pow10Tab) (h : RcAt w g r) :
    Calls Tryz.prog 13 #[.agg #[.int .i64 (nAt r.1 0), .int .i64 (nAt r.1 1), .int .i64 (nAt r.1 2), r.2]] w fun e w' => e = .returned (.string (ba r.1)) ∧ Below w.heap.size w w' := by
  have hb := text_back r.1 h.1
  have h0 := h.1
  obtain ⟨hl, hz⟩ := pre_small h
  have h5 : (strs (preOf r.1)).length ≤ 1000 := by
    rw [strs_len]
    have := pre_len (l := r.1)
    have := h.2.1
    omega
  have hp : (preText (bl (strs (preOf r.1)))).length ≤ 1000000 := by
    have h2 := hb
    rw [bl_strs]
    rw [textOf_pre] at h2
    split at h2
    · have h3 := congrArg List.length h2
      rw [List.length_append] at h3
      have := h.2.1
      omega
    · exfalso
      rw [← h2] at h0
      revert h0
      decide
  refine (text_any _ _ _ (strs (preOf r.1)) r.2 aT aB m w S htab h5 hz hp ?_).mono fun e w' ⟨T, e1, e2, e3⟩ => ⟨?_, e3⟩
  · rcases h.2.2.1 with h | ⟨h1, b, h2, h3, h4⟩
    · exact Or.inl h
    · exact Or.inr ⟨h1, b, _, h2, Nat.le_refl _, h3, h4⟩
  · rw [e1]
    congr 2
    apply str_ext
    rw [e2, bl_strs, hb, ba_list]
theorem infoParts : (Tryz.prog.info? 30).map (fun i => (i.zero, i.size, i.bytes)) = some (some (.agg #[.int .i64 0, .int .i64 0, .int .i64 0, .slice none 0 0]), 4, 48) := by kernel_rfl
/-- The texts that are right. -/
def goods (L : List ByteArray) : List (List UInt8) := (bl L).filter fun t => decide (verErr t = 0)
theorem goods_snoc (L : List ByteArray) (k : Nat) (hk : k < L.length) : goods (L.take (k + 1)) = if verErr L[k].data.toList = 0 then goods (L.take k) ++ [L[k].data.toList] else goods (L.take k) := by
  unfold goods
  rw [bl_take_snoc L k hk, List.filter_append]
  by_cases h : verErr L[k].data.toList = 0
  · rw [if_pos h]; simp [h]
  · rw [if_neg h]; simp [h]
theorem kept_of {L : List ByteArray} {D E : List Rc} (hr : rises (E.map (·.1))) (hm : ∀ t, t ∈ E.map (·.1) ↔ t ∈ D.map (·.1)) (hD : ∀ t, t ∈ D.map (·.1) ↔ t ∈ goods L) : Kept L L.length (E.map fun r => ba r.1) := by
  have e : bl (E.map fun r => ba r.1) = E.map (·.1) := by
    unfold bl
    rw [List.map_map]
    refine List.map_congr_left fun r _ => ?_
    exact ba_list r.1
  refine ⟨by rw [e]; exact hr, fun t => ?_⟩
  rw [e, hm, hD, List.take_length]
  unfold goods
  rw [List.mem_filter, decide_eq_true_iff]

set_option maxRecDepth 100000 in
set_option maxHeartbeats 8000000 in
theorem vsort_some (HCI : CompactIs) (HS0 : ∀ W : World, Calls Tryz.prog 160 #[.slice none 0 0, .func (.func 58) #[] #[]] W fun e w' => e = .returned (.tuple #[]) ∧ Below W.heap.size W w')
    (HC0 : ∀ W : World, Calls Tryz.prog 161 #[.slice none 0 0, .func (.func 162) #[] #[]] W fun e w' => e = .returned (.slice none 0 0) ∧ Below W.heap.size W w') (b0 o0 cap : Nat) (L : List ByteArray) (aT aB : Addr) (m : Int) (w : World) (S : Vs w aT aB m) (htab : Lib.TabIs Tryz.prog w powName .u64 Lib.pow10Tab) (hL : ∀ j (h : j < L.length), w.cell? ⟨b0, o0 + j, none⟩ = some (.string L[j])) (h12 : L.length ≤ 1000) (hz : ∀ x, x ∈ L → x.size ≤ 80) :
    Calls Tryz.prog 119 #[.slice (some ⟨b0, o0, none⟩) L.length cap] w fun e w' => ∃ v X, e = .returned v ∧ w'.ownsRow w.heap.size 9 1 v X.length (X.map Value.string) ∧ Kept L L.length X ∧ Below w.heap.size w w' := by
  obtain ⟨i0, hi, hz0, hz1, hz2⟩ := info_parts infoStr
  obtain ⟨i1, hi1, hy0, hy1, hy2⟩ := info_parts infoParts
  have HL := hid hL
  have HZ := hid hz
  have HS := hid S
  have HTB := hid htab
  have HCF := hid HCI
  have HSN := hid HS0
  have HCN := hid HC0
  clear hL hz S htab HCI HS0 HC0
  go_enter Tryz.func119, Tryz.ntmps119
  go_wp2_with fail
  go_loopw [3, 13] (fun v i wr => ∃ (k : Nat) (D : List Rc), k ≤ L.length ∧ D.length ≤ k ∧ i = .int .i64 k ∧ Hid (D.map (·.1) = goods (L.take k)) ∧ Hid (Fd w wr v D)) (fun _ i _ => L.length - (intOf i).toNat)
  case atStart => exact ⟨0, [], Nat.zero_le _, Nat.le_refl _, rfl, hid rfl, hid ⟨World.ownsRow_nil _ _ _ _, fun _ => rfl, Below.refl _ _, fun r hr => by cases hr⟩⟩
  case round =>
    obtain ⟨k, D, hk, hDk, rfl, HG, HF⟩ := hrel
    by_cases hkL : k < L.length
    · have hcell := cell_below HF.out.bl (HL.out k hkL)
      have hq80 : L[k].size ≤ 80 := HZ.out _ (List.getElem_mem hkL)
      have HGS := hid (goods_snoc L k hkL)
      generalize L[k] = q at *
      have hkl : (k : Int) < (L.length : Int) := by omega
      have hk0 : (0 : Int) ≤ (k : Int) := by omega
      by_cases hv : verErr q.data.toList = 0
      · have HSP := hid (vsplit_is q aT aB m wr (by omega) (HS.out.below HF.out.bl) hv (strs (preOf q.data.toList)) (bl_strs _))
        rw [if_pos hv] at HGS
        have HV := hid hv
        clear hv
        go_wp2_with fail
        refine HSP.out.mono ?_
        rintro e w1 ⟨pv, rfl, hst, hb1⟩
        obtain ⟨pa, na, ca, rfl⟩ := hst.slice
        have HF1 := hid (HF.out.below hb1)
        have HBP := hid ((Below.refl w1.heap.size w1).alloc (Nat.le_refl _) (.cells #[.int .i64 (nAt q.data.toList 0), .int .i64 (nAt q.data.toList 1), .int .i64 (nAt q.data.toList 2), .slice pa na ca] 30))
        have HF2 := hid (HF1.out.below HBP.out)
        have HRR := hid (show verErr q.data.toList = 0 ∧ q.data.toList.length ≤ 80 ∧ StrsAt (w1.alloc (.cells #[.int .i64 (nAt q.data.toList 0), .int .i64 (nAt q.data.toList 1), .int .i64 (nAt q.data.toList 2), .slice pa na ca] 30)) (.slice pa na ca) (strs (preOf q.data.toList)) from ⟨HV.out, by rw [len_eq]; exact hq80, hst.below HBP.out⟩)
        have hwz := HF1.out.bl.size
        clear hst hb1 hcell
        go_wp2_with (at_builtin; refine wpList_append_own _ rfl _ _ 175 rfl w.heap.size 30 i1 (.agg #[.int .i64 0, .int .i64 0, .int .i64 0, .slice none 0 0]) 4 48 Tryz.underlying175 hi1 hy0 hy1 hy2 rfl (by decide) _ _ _ rfl (HF2.out.own.alloc _) ⟨w1.heap.size + 1, 0, none⟩ 1 1 (rcells (q.data.toList, .slice pa na ca)) rfl rfl ?c1 ?c2 ?c3 ?c4 ?c5 ?_)
        case c1 =>
          intro t u ht
          match t, ht with
          | 0, ht => simp [rcells] at ht; subst ht; simp [Addr.add]
          | 1, ht => simp [rcells] at ht; subst ht; simp [Addr.add]
          | 2, ht => simp [rcells] at ht; subst ht; simp [Addr.add]
          | 3, ht => simp [rcells] at ht; subst ht; simp [Addr.add]
          | t + 4, ht => simp [rcells] at ht
        case c2 => intro u hu; simp [rcells] at hu; rcases hu with rfl | rfl | rfl | rfl <;> rfl
        case c3 => unfold maxLen; omega
        case c4 => omega
        case c5 => simp; omega
        intro v' w3 hown' hgrow _
        have HF3 := hid (HF2.out.more (r := (q.data.toList, .slice pa na ca)) HRR.out hown' hgrow)
        have HG3 := hid (show (D ++ [((q.data.toList, .slice pa na ca) : Rc)]).map (·.1) = goods (L.take (k + 1)) by rw [HGS.out, List.map_append, HG.out]; rfl)
        clear hown' hgrow
        go_wp2_with fail
        go_roundw
        case rel => exact ⟨k + 1, D ++ [(q.data.toList, .slice pa na ca)], by omega, by simp; omega, by go_num, HG3, HF3⟩
        case measure => simp [intOf]; omega
      · have HSP := hid (vsplit_not q aT aB m wr (by omega) (HS.out.below HF.out.bl) hv)
        rw [if_neg hv] at HGS
        clear hv
        go_wp2_with fail
        refine HSP.out.mono ?_
        rintro e w1 ⟨a9, rfl, hb1⟩
        have HF1 := hid (HF.out.below hb1)
        have HF2 := hid (HF1.out.below ((Below.refl w1.heap.size w1).alloc (Nat.le_refl _) (.cells #[.int .i64 0, .int .i64 0, .int .i64 0, .slice none 0 0] 30)))
        clear hb1 hcell
        go_wp2_with fail
        go_roundw
        case rel => exact ⟨k + 1, D, by omega, by omega, by go_num, hid (HG.out.trans HGS.out.symm), HF2⟩
        case measure => simp [intOf]; omega
    · obtain rfl : k = L.length := by omega
      have HG2 := hid (show D.map (·.1) = goods L by rw [HG.out, List.take_length])
      by_cases hD : D = []
      · subst hD
        obtain rfl := HF.out.nl rfl
        go_wp2_with fail
        refine (HSN.out _).mono ?_
        rintro e w1 ⟨rfl, hb1⟩
        go_wp2_with fail
        refine (HCN.out _).mono ?_
        rintro e w2 ⟨rfl, hb2⟩
        have HB2 := hid (HF.out.bl.trans ((hb1.trans (hb2.mono hb1.size)).mono HF.out.bl.size))
        have HK0 := hid (kept_of (L := L) (D := []) (E := []) List.Pairwise.nil (fun t => Iff.rfl) (fun t => by rw [HG2.out]))
        clear hb1 hb2
        go_wp2_with fail
        go_loop [8, 35] (fun v i => v = .slice none 0 0 ∧ i = .int .i64 0) (fun _ _ => 0)
        case atStart => exact ⟨rfl, rfl⟩
        case round =>
          obtain ⟨rfl, rfl⟩ := hrel
          go_wp2_with fail
          go_ret
          exact ⟨_, rfl, [], World.ownsRow_nil _ _ _ _, HK0.out, HB2.out⟩
      · obtain ⟨g, cp, rfl, hRw⟩ := HF.out.rw hD
        obtain ⟨_, _, _, _, _, hcp1, hcp2, _, _⟩ := own_cells HF.out.own hD
        have HR0 := hid hRw
        clear hRw
        go_wp2_with fail
        refine (sort_rw w wr g cp D hD (by omega) HR0.out).mono ?_
        rintro e w1 ⟨rfl, D1, hp1, hs1, hR1⟩
        have hl1 : D1.length = D.length := hp1.length_eq
        have HD1 := hid (show ∀ t, t ∈ D1.map (·.1) ↔ t ∈ goods L from fun t => by rw [← HG2.out]; exact (hp1.map _).mem_iff)
        have HCC := hid (HCF.out w w1 g cp D1 (fun e => hD (by rw [e] at hl1; exact List.length_eq_zero_iff.1 hl1.symm)) (by omega) (by omega) (by omega) hs1 hR1)
        rw [hl1] at HCC
        clear hs1 hR1 hp1
        go_wp2_with fail
        refine HCC.out.mono ?_
        rintro e w2 ⟨E, rfl, hEl, hr, hm, hR2⟩
        have HR2 := hid hR2
        have HKE := hid (kept_of hr hm HD1.out)
        clear hr hm hR2
        have HSB := hid (fun W (h : Below w2.heap.size w2 W) => HS.out.below (HR2.out.bl.trans (h.mono HR2.out.bl.size)))
        have HTB2 := hid (fun W (h : Below w2.heap.size w2 W) => tab_below HTB.out (HR2.out.bl.trans (h.mono HR2.out.bl.size)))
        go_wp2_with fail
        go_loopw [8, 35] (fun v i wr' => ∃ k : Nat, k ≤ E.length ∧ i = .int .i64 k ∧ Hid (wr'.ownsRow w2.heap.size 9 1 v k (((E.take k).map fun r => ba r.1).map Value.string)) ∧ Hid (Below w2.heap.size w2 wr')) (fun _ i _ => E.length - (intOf i).toNat)
        case atStart => exact ⟨0, Nat.zero_le _, rfl, hid (World.ownsRow_nil _ _ _ _), hid (Below.refl _ _)⟩
        case round =>
          obtain ⟨k, hkE, rfl, HO, HB⟩ := hrel
          by_cases hkl : k < E.length
          · have HRK := hid (HR2.out.below HB.out)
            obtain ⟨y0, y1, y2, y3⟩ := HRK.out.at (j := k) (r := E[k]) (List.getElem?_eq_getElem hkl)
            have HRC := hid (HRK.out.rc E[k] (List.getElem_mem hkl))
            have HTK := hid (show ((E.take (k + 1)).map fun r => ba r.1).map Value.string = ((E.take k).map fun r => ba r.1).map Value.string ++ [.string (ba E[k].1)] by rw [List.take_succ_eq_append_getElem hkl, List.map_append, List.map_append]; rfl)
            obtain ⟨pa, na, ca, hpv⟩ := HRC.out.2.2.1.slice
            have HTX := hid (fun W (h : Below wr.heap.size wr W) => text_rc E[k] g aT aB m W (HSB.out W (HB.out.trans (h.mono HB.out.size))) (HTB2.out W (HB.out.trans (h.mono HB.out.size))) (HRC.out.below h))
            generalize E[k] = r at *
            rw [hpv] at y3 HTX
            generalize nAt r.1 0 = x0 at *
            generalize nAt r.1 1 = x1 at *
            generalize nAt r.1 2 = x2 at *
            generalize ba r.1 = tx at *
            have hk0 : (0 : Int) ≤ (k : Int) := by omega
            have hk1 : (k : Int) < (E.length : Int) := by omega
            have HBA := hid ((Below.refl wr.heap.size wr).alloc (Nat.le_refl _) (.cells #[.int .i64 x0, .int .i64 x1, .int .i64 x2, .slice pa na ca] 30))
            have hwz := HB.out.size
            have hE12 : E.length ≤ 1000 := by omega
            go_wp2_with fail
            refine (HTX.out _ HBA.out).mono ?_
            rintro e w3 ⟨rfl, hb3⟩
            have HB3 := hid (HBA.out.trans (hb3.mono HBA.out.size))
            have HO3 := hid (owns_below HO.out HB3.out)
            have HB4 := hid (HB.out.trans (HB3.out.mono HB.out.size))
            have hw3 := HB4.out.size
            clear hb3 y0 y1 y2 y3
            go_wp2_with (at_builtin; refine wpList_append_own _ rfl _ _ 24 rfl w2.heap.size 9 i0 (.string ByteArray.empty) 1 16 Tryz.underlying24 hi hz0 hz1 hz2 rfl (by decide) _ _ _ rfl (HO3.out.alloc _) ⟨w3.heap.size, 0, none⟩ 1 1 [.string tx] rfl rfl ?c1 ?c2 ?c3 ?c4 ?c5 ?_)
            case c1 =>
              intro t u ht
              match t, ht with
              | 0, ht => simp at ht; subst ht; simp [Addr.add]
            case c2 => intro u hu; simp at hu; subst hu; rfl
            case c3 => unfold maxLen; omega
            case c4 => omega
            case c5 => simp; omega
            intro v' w4 hown' hgrow _
            have HR := hid (rel_app hw3 HB4.out HO3.out (Below.refl _ _) hgrow)
            have HO4 := hid hown'
            clear hown' hgrow
            go_wp2_with fail
            go_roundw
            case rel => exact ⟨k + 1, by omega, by go_num, hid (by rw [HTK.out]; simpa using HO4.out), HR⟩
            case measure => simp [intOf]; omega
          · obtain rfl : k = E.length := by omega
            have HO2 := hid (show wr.ownsRow w.heap.size 9 1 u8 (E.map fun r => ba r.1).length ((E.map fun r => ba r.1).map Value.string) by
              have h := owns_mono HO.out (HR2.out.bl.size)
              rw [List.take_length] at h
              rw [List.length_map]; exact h)
            have HBF := hid (HR2.out.bl.trans (HB.out.mono HR2.out.bl.size))
            go_wp2_with fail
            go_ret
            exact ⟨u8, (E.map fun r => ba r.1), rfl, HO2.out, HKE.out, HBF.out⟩
end Ve
end Go.Proofs.YtanponneancajaaGreatDoor

/-
  A sorted row without what comes twice (plain).
-/
namespace Go.Proofs.YtanponneancajaaGreatDoor
namespace Ve

theorem srt_strict {D : List Rc} (hs : srt D) (hv : ∀ r, r ∈ D → verErr r.1 = 0) {i k : Nat} (hik : i ≤ k) (hk : k + 1 < D.length) (hne : ordV D[k + 1].1 (D[k]'(by omega)).1 ≠ 0) : ordV (D[i]'(by omega)).1 D[k + 1].1 < 0 := by
  unfold srt at hs
  rw [List.pairwise_iff_getElem] at hs
  have hi : i < D.length := by omega
  have hk' : k < D.length := by omega
  have v1 := hv D[i] (List.getElem_mem hi)
  have v2 := hv D[k + 1] (List.getElem_mem hk)
  have v3 := hv D[k] (List.getElem_mem hk')
  have h1 := hs i (k + 1) hi hk (by omega)
  have h2 := hs k (k + 1) hk' hk (by omega)
  rcases ordV_range D[i].1 D[k + 1].1 with e | e | e
  · omega
  · exfalso
    have e1 := (ordV_zero v1 v2).1 e
    rcases Nat.lt_or_ge i k with h | h
    · have h3 := hs i k hi hk' h
      rw [e1, ordV_swap D[k].1 D[k + 1].1] at h3
      have h4 : ordV D[k].1 D[k + 1].1 = 0 := by omega
      rw [ordV_swap D[k].1 D[k + 1].1] at hne
      omega
    · have : i = k := by omega
      subst this
      rw [ordV_swap D[i].1 D[i + 1].1, e] at hne
      exact hne rfl
  · omega
/-- What is kept of the first m. -/
structure Cp (D : List Rc) (m : Nat) (E : List Rc) : Prop where
  ri : rises (E.map (·.1))
  mem : ∀ t, t ∈ E.map (·.1) ↔ t ∈ (D.take m).map (·.1)
  len : E.length ≤ m
  sub : ∀ r, r ∈ E → r ∈ D
theorem take_snoc' (D : List Rc) (m : Nat) (hm : m < D.length) : (D.take (m + 1)).map (·.1) = (D.take m).map (·.1) ++ [D[m].1] := by
  rw [List.take_succ_eq_append_getElem hm, List.map_append]; rfl
theorem Cp.same {D E : List Rc} {m : Nat} (h : Cp D (m + 1) E) (hv : ∀ r, r ∈ D → verErr r.1 = 0) (hm : m + 1 < D.length) (he : ordV D[m + 1].1 (D[m]'(by omega)).1 = 0) : Cp D (m + 1 + 1) E := by
  have e1 := (ordV_zero (hv _ (List.getElem_mem hm)) (hv _ (List.getElem_mem (by omega)))).1 he
  refine ⟨h.ri, fun t => ?_, by have := h.len; omega, h.sub⟩
  rw [h.mem, take_snoc' D (m + 1) hm, List.mem_append, List.mem_singleton]
  constructor
  · exact Or.inl
  · rintro (a | a)
    · exact a
    · rw [a, e1, take_snoc' D m (by omega), List.mem_append]
      exact Or.inr (by simp)
theorem Cp.more {D E : List Rc} {m : Nat} (h : Cp D (m + 1) E) (hs : srt D) (hv : ∀ r, r ∈ D → verErr r.1 = 0) (hm : m + 1 < D.length) (he : ordV D[m + 1].1 (D[m]'(by omega)).1 ≠ 0) : Cp D (m + 1 + 1) (E ++ [D[m + 1]]) := by
  refine ⟨?_, fun t => ?_, by have := h.len; simp; omega, fun r hr => ?_⟩
  · unfold rises
    rw [List.map_append, List.pairwise_append]
    refine ⟨h.ri, List.pairwise_singleton _ _, fun a ha b hb => ?_⟩
    have hb' : b = D[m + 1].1 := by simpa using hb
    rw [hb']
    obtain ⟨r, hr, e⟩ := List.mem_map.1 ((h.mem a).1 ha)
    obtain ⟨i, hi, e2⟩ := List.mem_iff_getElem.1 hr
    rw [List.getElem_take] at e2
    simp at hi
    rw [← e, ← e2]
    exact srt_strict hs hv (by omega) hm he
  · rw [List.map_append, List.mem_append, h.mem, take_snoc' D (m + 1) hm, List.mem_append]
    simp
  · rcases List.mem_append.1 hr with hr | hr
    · exact h.sub r hr
    · rw [List.mem_singleton.1 hr]; exact List.getElem_mem hm
theorem Cp.start {D : List Rc} (hD : 0 < D.length) : Cp D 1 (D.take 1) := by
  match D, hD with
  | r :: R, _ => exact ⟨List.pairwise_singleton _ _, fun t => Iff.rfl, by simp, fun q hq => List.mem_of_mem_take hq⟩
theorem Cp.plain {D : List Rc} {m : Nat} (h : Cp D (m + 1) (D.take (m + 1))) (hs : srt D) (hv : ∀ r, r ∈ D → verErr r.1 = 0) (hm : m + 1 < D.length) (he : ordV D[m + 1].1 (D[m]'(by omega)).1 ≠ 0) : Cp D (m + 1 + 1) (D.take (m + 1 + 1)) := by
  have := h.more hs hv hm he
  rw [List.take_succ_eq_append_getElem hm]
  exact this
end Ve
end Go.Proofs.YtanponneancajaaGreatDoor

/-
  A row of records, one of them set, the last ones cleared.
-/
namespace Go.Proofs.YtanponneancajaaGreatDoor
open Go.RowKit
namespace Ve

theorem RcAt.set {W : World} {g : Nat} {r : Rc} (h : RcAt W g r) (o : Nat) (vs : List Value) : RcAt (W.setCells g o vs) g r := by
  refine ⟨h.1, h.2.1, ?_, h.2.2.2⟩
  rcases h.2.2.1 with h0 | ⟨hne, b, e1, e2, e3⟩
  · exact Or.inl h0
  · have hbg : b ≠ g := h.2.2.2 b 0 none _ _ e1
    refine Or.inr ⟨hne, b, e1, by rw [Go.Sort.size_setCells]; exact e2, fun j hj => ?_⟩
    rw [World.cell?_setCells_out g vs o W _ (fun e => absurd e hbg)]
    exact e3 j hj
theorem setCells_below {w0 W : World} {g : Nat} (h : Below w0.heap.size w0 W) (hg : w0.heap.size ≤ g) : ∀ (vs : List Value) (o : Nat), Below w0.heap.size w0 (W.setCells g o vs) := by
  intro vs
  induction vs generalizing W with
  | nil => intro o; exact h
  | cons v r ih => intro o; exact ih (h.setCell hg v) (o + 1)
theorem Rw.cell {w0 W : World} {g : Nat} {D : List Rc} (h : Rw w0 W g D) (j : Nat) (hj : j < D.length) (c : Nat) (hc : c < 4) : W.cell? ⟨g, j * 4 + c, none⟩ = (rcells D[j])[c]? := by
  match c, hc with
  | 0, _ => exact h.c0 j hj
  | 1, _ => exact h.c1 j hj
  | 2, _ => exact h.c2 j hj
  | 3, _ => exact h.c3 j hj
theorem Rw.of_cells {w0 W : World} {g : Nat} {D : List Rc} (h1 : Below w0.heap.size w0 W) (h2 : w0.heap.size ≤ g) (h3 : g < W.heap.size) (h4 : ∀ o, W.frozen? ⟨g, o, none⟩ = false) (h5 : ∀ r, r ∈ D → RcAt W g r)
    (h : ∀ j (hj : j < D.length) c (_ : c < 4), W.cell? ⟨g, j * 4 + c, none⟩ = (rcells D[j])[c]?) : Rw w0 W g D :=
  ⟨h1, h2, h3, h4, h5, fun j hj => h j hj 0 (by omega), fun j hj => h j hj 1 (by omega), fun j hj => h j hj 2 (by omega), fun j hj => h j hj 3 (by omega)⟩
theorem Rw.setAt {w0 W : World} {g : Nat} {D : List Rc} (h : Rw w0 W g D) (i : Nat) (hi : i < D.length) (r : Rc) (hr : RcAt W g r) : Rw w0 (W.setCells g (i * 4) (rcells r)) g (D.set i r) := by
  refine Rw.of_cells (setCells_below h.bl h.lo _ _) h.lo (by rw [Go.Sort.size_setCells]; exact h.hi) (fun o => by rw [World.frozen?_setCells]; exact h.fz o) (fun q hq => ?_) (fun j hj c hc => ?_)
  · rcases List.mem_or_eq_of_mem_set hq with hq | hq
    · exact (h.rc q hq).set _ _
    · rw [hq]; exact hr.set _ _
  · have hj' : j < D.length := by simpa using hj
    by_cases e : j = i
    · subst e
      have := World.cell?_setCells_in g (rcells r) (j * 4) W (fun t ht => by
        have h9 : t < 4 := ht
        rw [h.cell j hj' t h9]
        match t, h9 with
        | 0, _ => rfl
        | 1, _ => rfl
        | 2, _ => rfl
        | 3, _ => rfl) c hc
      rw [this]
      simp
      exact (List.getElem?_eq_getElem (show c < (rcells r).length from hc)).symm
    · rw [World.cell?_setCells_out g (rcells r) (i * 4) W _ (fun _ _ => by
        show j * 4 + c < i * 4 ∨ i * 4 + 4 ≤ j * 4 + c
        omega), h.cell j hj' c hc]
      rw [List.getElem_set_ne (by omega)]
theorem Rw.cleared {w0 W : World} {g : Nat} {D : List Rc} (h : Rw w0 W g D) (n : Nat) (hn : n ≤ D.length) (zs : List Value) : Rw w0 (W.setCells g (n * 4) zs) g (D.take n) := by
  refine Rw.of_cells (setCells_below h.bl h.lo _ _) h.lo (by rw [Go.Sort.size_setCells]; exact h.hi) (fun o => by rw [World.frozen?_setCells]; exact h.fz o) (fun q hq => (h.rc q (List.mem_of_mem_take hq)).set _ _) (fun j hj c hc => ?_)
  have hj' : j < n := by simp at hj; omega
  rw [World.cell?_setCells_out g zs (n * 4) W _ (fun _ _ => Or.inl (by show j * 4 + c < n * 4; omega)), h.cell j (by omega) c hc, List.getElem_take]
theorem run_clear_rw {w0 W : World} {g : Nat} {D : List Rc} (h : Rw w0 W g D) (n : Nat) (hn : n < D.length) :
    ∃ zs, ∀ ty c, (Builtin.clear_ #[175] ty #[.slice (some ⟨g, n * 4, none⟩) (D.length - n) c]).run Tryz.prog W = .ok (.tuple #[]) (W.setCells g (n * 4) zs) := by
  have hzl : (Builtin.zeroCells (Value.agg #[.int .i64 0, .int .i64 0, .int .i64 0, .slice none 0 0]).cells (D.length - n)).toList.length = (D.length - n) * 4 := by
    simp [Builtin.zeroCells, Value.cells]
  refine ⟨(Builtin.zeroCells (Value.agg #[.int .i64 0, .int .i64 0, .int .i64 0, .slice none 0 0]).cells (D.length - n)).toList, fun ty c => ?_⟩
  have hst := run_storeCells_cells (P := Tryz.prog) g (n * 4) (Builtin.zeroCells (Value.agg #[.int .i64 0, .int .i64 0, .int .i64 0, .slice none 0 0]).cells (D.length - n)).toList 0 W (fun j hj => by
    rw [hzl] at hj
    have e : n * 4 + 0 + j = (n + j / 4) * 4 + j % 4 := by omega
    rw [e, h.cell (n + j / 4) (by omega) (j % 4) (by omega)]
    have h9 : j % 4 < 4 := by omega
    match j % 4, h9 with
    | 0, _ => rfl
    | 1, _ => rfl
    | 2, _ => rfl
    | 3, _ => rfl) (fun j _ => h.fz _) (fun v hv => by
    simp only [Builtin.zeroCells, Value.cells] at hv
    simp at hv
    obtain ⟨t, _, rfl⟩ := hv
    have h9 : t % 4 < 4 := by omega
    match t % 4, h9 with
    | 0, _ => rfl
    | 1, _ => rfl
    | 2, _ => rfl
    | 3, _ => rfl)
  simp only [Nat.add_zero] at hst
  obtain ⟨m, hm⟩ : ∃ m, D.length - n = m + 1 := ⟨D.length - n - 1, by omega⟩
  rw [hm] at hst ⊢
  have hu := Tryz.underlying175
  have hv : ∀ w, (zeroValue 30).run Tryz.prog w = .ok (.agg #[.int .i64 0, .int .i64 0, .int .i64 0, .slice none 0 0]) w := fun w => Tryz.zeroValue30 w
  simp [Builtin.clear_, run_underlying hu, hv, hst]
end Ve
end Go.Proofs.YtanponneancajaaGreatDoor

/-
  slices.CompactFunc over a sorted row of records.
-/
namespace Go.Proofs.YtanponneancajaaGreatDoor
open Go.RowKit
namespace Ve

/-- Two records: are they one version? -/
theorem same_rc (r q : Rc) (g : Nat) (W : World) (hr : RcAt W g r) (hq : RcAt W g q) :
    Calls Tryz.prog 162 #[.agg #[.int .i64 (nAt r.1 0), .int .i64 (nAt r.1 1), .int .i64 (nAt r.1 2), r.2], .agg #[.int .i64 (nAt q.1 0), .int .i64 (nAt q.1 1), .int .i64 (nAt q.1 2), q.2]] W
      fun e w' => e = .returned (.bool (ordV r.1 q.1 == 0)) ∧ Below W.heap.size W w' := by
  have HB0 := hid (((Below.refl W.heap.size W).alloc (Nat.le_refl _) (.cells #[.int .i64 (nAt r.1 0), .int .i64 (nAt r.1 1), .int .i64 (nAt r.1 2), r.2] 30)).alloc (by simp) (.cells #[.int .i64 (nAt q.1 0), .int .i64 (nAt q.1 1), .int .i64 (nAt q.1 2), q.2] 30))
  have HC := hid (compare_rc r q g _ (hr.below HB0.out) (hq.below HB0.out))
  obtain ⟨pr, nr, cr, hrv⟩ := hr.2.2.1.slice
  obtain ⟨pq, nq, cq, hqv⟩ := hq.2.2.1.slice
  clear hr hq
  obtain ⟨tr, vr⟩ := r
  obtain ⟨tq, vq⟩ := q
  simp only at hrv hqv
  subst hrv hqv
  generalize ordV tr tq = od at *
  go_enter Tryz.func162, Tryz.ntmps162
  go_wp2_with fail
  refine HC.out.mono ?_
  rintro e w1 ⟨rfl, hb⟩
  have HB := hid (HB0.out.trans (hb.mono HB0.out.size))
  clear hb
  go_wp2_with fail
  go_ret
  exact ⟨rfl, HB.out⟩

theorem compact_nil (W : World) : Calls Tryz.prog 161 #[.slice none 0 0, .func (.func 162) #[] #[]] W fun e w' => e = .returned (.slice none 0 0) ∧ Below W.heap.size W w' := by
  go_enter Tryz.func161, Tryz.ntmps161
  go_wp2_with fail
  go_ret
  exact ⟨rfl, Below.refl _ _⟩

set_option maxRecDepth 100000 in
set_option maxHeartbeats 8000000 in
theorem compact_rw (w0 w : World) (g cap : Nat) (D : List Rc) (hD : D ≠ []) (h12 : D.length ≤ 1000) (hc : D.length ≤ cap) (_hcm : cap ≤ maxLen) (hs : srt D) (hR : Rw w0 w g D) :
    Calls Tryz.prog 161 #[.slice (some ⟨g, 0, none⟩) D.length cap, .func (.func 162) #[] #[]] w fun e w' => ∃ E : List Rc, e = .returned (.slice (some ⟨g, 0, none⟩) E.length cap) ∧ E.length ≤ D.length ∧ rises (E.map (·.1)) ∧ (∀ t, t ∈ E.map (·.1) ↔ t ∈ D.map (·.1)) ∧ Rw w0 w' g E := by
  have HR := hid hR
  have HS := hid hs
  have hpos : 0 < D.length := List.length_pos_iff.2 hD
  clear hR hs hD
  by_cases h2 : D.length < 2
  · have h2i : (D.length : Int) < 2 := by omega
    have HRI := hid (show rises (D.map (·.1)) by
      match D, h2 with
      | [], _ => exact List.Pairwise.nil
      | [r], _ => exact List.pairwise_singleton _ _)
    go_enter Tryz.func161, Tryz.ntmps161
    go_wp2_with fail
    go_ret
    exact ⟨D, rfl, Nat.le_refl _, HRI.out, fun _ => Iff.rfl, HR.out⟩
  · have h2i : ¬ (D.length : Int) < 2 := by omega
    go_enter Tryz.func161, Tryz.ntmps161
    go_wp2_with fail
    have HVV := hid (show ∀ r, r ∈ D → verErr r.1 = 0 from fun r hr => (HR.out.rc r hr).1)
    go_loopw [5] (fun i wr => ∃ k : Nat, k + 1 ≤ D.length ∧ i = .int .i64 ((k : Int) + 1) ∧ Hid (Cp D (k + 1) (D.take (k + 1))) ∧ Hid (Rw w0 wr g D)) (fun i _ => D.length - (intOf i).toNat)
    case atStart => exact ⟨0, by omega, rfl, hid (Cp.start hpos), HR⟩
    case round =>
      obtain ⟨k, hk, rfl, HCP, HRW⟩ := hrel
      by_cases hkn : k + 1 < D.length
      · have hi1 : (0 : Int) ≤ (k : Int) + 1 := by omega
        have hi2 : (k : Int) + 1 < (D.length : Int) := by omega
        have hi3 : (0 : Int) ≤ (k : Int) := by omega
        have hi4 : (k : Int) < (D.length : Int) := by omega
        have hi5 : (k : Int) + 1 - 1 = (k : Int) := by omega
        have hwp : IntKind.i64.wrap (k : Int) = (k : Int) := by rw [IntKind.wrap_i64]; omega
        have hwe : ((k : Int) + 1).toNat = k + 1 := by omega
        have hcap1 : (k : Int) + 1 ≤ (cap : Int) := by omega
        have hcap2 : (D.length : Int) ≤ (cap : Int) := by omega
        have HPL := hid (fun h => HCP.out.plain HS.out HVV.out hkn h)
        have HSA := hid (fun h => HCP.out.same HVV.out hkn h)
        have HY := hid (HRW.out.rc D[k] (List.getElem_mem (by omega)))
        have HX := hid (HRW.out.rc D[k + 1] (List.getElem_mem hkn))
        have hy2 : D[k]? = some D[k] := List.getElem?_eq_getElem (by omega)
        have hx2 : D[k + 1]? = some D[k + 1] := List.getElem?_eq_getElem hkn
        generalize D[k] = y at *
        generalize D[k + 1] = x at *
        obtain ⟨ty, vy⟩ := y
        obtain ⟨tx, vx⟩ := x
        obtain ⟨py, ny, cy, rfl⟩ := HY.out.2.2.1.slice
        obtain ⟨px, nx, cx, rfl⟩ := HX.out.2.2.1.slice
        have HCM := hid (fun W (hr : RcAt W g (tx, .slice px nx cx)) (hq : RcAt W g (ty, .slice py ny cy)) => (show Calls Tryz.prog 162 #[.agg #[.int .i64 (nAt tx 0), .int .i64 (nAt tx 1), .int .i64 (nAt tx 2), .slice px nx cx], .agg #[.int .i64 (nAt ty 0), .int .i64 (nAt ty 1), .int .i64 (nAt ty 2), .slice py ny cy]] W
            fun e w' => e = .returned (.bool (ordV tx ty == 0)) ∧ Below W.heap.size W w' from same_rc (tx, .slice px nx cx) (ty, .slice py ny cy) g W hr hq))
        have HTW := hid (fun (W : World) (h : Rw w0 W g D) => (show W.cell? ⟨g, k * 4, none⟩ = some (.int .i64 (nAt ty 0)) ∧ W.cell? ⟨g, k * 4 + 1, none⟩ = some (.int .i64 (nAt ty 1)) ∧ W.cell? ⟨g, k * 4 + 2, none⟩ = some (.int .i64 (nAt ty 2)) ∧ W.cell? ⟨g, k * 4 + 3, none⟩ = some (.slice py ny cy) ∧ W.cell? ⟨g, (k + 1) * 4, none⟩ = some (.int .i64 (nAt tx 0)) ∧ W.cell? ⟨g, (k + 1) * 4 + 1, none⟩ = some (.int .i64 (nAt tx 1)) ∧ W.cell? ⟨g, (k + 1) * 4 + 2, none⟩ = some (.int .i64 (nAt tx 2)) ∧ W.cell? ⟨g, (k + 1) * 4 + 3, none⟩ = some (.slice px nx cx) ∧ Hid (Rw w0 W g D) from h.two hy2 hx2))
        obtain ⟨a0, a1, a2, a3, b0, b1, b2, b3, _⟩ := HTW.out _ HRW.out
        clear hy2 hx2
        by_cases hod : ordV tx ty = 0
        · have HC2 := hid (HSA.out hod)
          rw [hod] at HCM
          clear hod
          go_wp2_with fail
          go_region_held (fun W => W.cell? ⟨g, k * 4, none⟩ = some (.int .i64 (nAt ty 0)) ∧ W.cell? ⟨g, k * 4 + 1, none⟩ = some (.int .i64 (nAt ty 1)) ∧ W.cell? ⟨g, k * 4 + 2, none⟩ = some (.int .i64 (nAt ty 2)) ∧ W.cell? ⟨g, k * 4 + 3, none⟩ = some (.slice py ny cy) ∧ W.cell? ⟨g, (k + 1) * 4, none⟩ = some (.int .i64 (nAt tx 0)) ∧ W.cell? ⟨g, (k + 1) * 4 + 1, none⟩ = some (.int .i64 (nAt tx 1)) ∧ W.cell? ⟨g, (k + 1) * 4 + 2, none⟩ = some (.int .i64 (nAt tx 2)) ∧ W.cell? ⟨g, (k + 1) * 4 + 3, none⟩ = some (.slice px nx cx) ∧ Hid (Rw w0 W g D)) (first | exact HTW.out _ HRa.out | exact HTW.out _ (HRW.out.below (below_drawn _ 1))) (first
            | (go_at_call 162; refine (HCM.out _ ?_ ?_).mono ?_; exact HX.out.below (below_drawn _ 1); exact HY.out.below (below_drawn _ 1); rintro e w' ⟨rfl, hb⟩; have HRa := hid ((HRW.out.below (below_drawn _ 1)).below hb); clear hb))
          all_goals
            have HN := hid (show (D.take (k + 1)).length = k + 1 by simp; omega)
            clear a0 a1 a2 a3 b0 b1 b2 b3
            go_wp2_with fail
            go_loopw [5, 7] (fun a b wr2 => ∃ (j : Nat) (E : List Rc), a = .int .i64 (E.length : Int) ∧ b = .int .i64 ((j : Int) + 1) ∧ k + 1 + (j + 1) ≤ D.length ∧ E.length ≤ k + 1 + j ∧ Hid (Cp D (k + 1 + j + 1) E) ∧ Hid (Rw w0 wr2 g (E ++ D.drop E.length))) (fun _ b _ => D.length - (intOf b).toNat)
            case atStart => exact ⟨0, D.take (k + 1), by rw [HN.out]; rfl, rfl, by omega, by rw [HN.out]; omega, HC2, hid (by rw [HN.out, List.take_append_drop]; exact HRa.out)⟩
            case round =>
              obtain ⟨j, E, rfl, rfl, hjD, hEj, HCE, HRV⟩ := hrel
              have HAT := hid (show ∀ i, E.length ≤ i → (E ++ D.drop E.length)[i]? = D[i]? from fun i hi => by rw [List.getElem?_append_right hi, List.getElem?_drop]; congr 1; omega)
              by_cases hj : k + 1 + (j + 1) < D.length
              · have g1 : (0 : Int) ≤ (j : Int) + 1 := by omega
                have g2 : (j : Int) + 1 < ((D.length - (k + 1) : Nat) : Int) := by omega
                have g3 : (0 : Int) ≤ (j : Int) := by omega
                have g4 : (j : Int) < ((D.length - (k + 1) : Nat) : Int) := by omega
                have g5 : (j : Int) + 1 - 1 = (j : Int) := by omega
                have gwp : IntKind.i64.wrap (j : Int) = (j : Int) := by rw [IntKind.wrap_i64]; omega
                have gwe : ((j : Int) + 1).toNat = j + 1 := by omega
                have HMO := hid (fun h => HCE.out.more HS.out HVV.out hj h)
                have HSM := hid (fun h => HCE.out.same HVV.out hj h)
                have hv2 : (E ++ D.drop E.length)[k + 1 + j]? = some D[k + 1 + j] := by rw [HAT.out _ hEj]; exact List.getElem?_eq_getElem (by omega)
                have hu2 : (E ++ D.drop E.length)[k + 1 + j + 1]? = some D[k + 1 + j + 1] := by rw [HAT.out _ (by omega)]; exact List.getElem?_eq_getElem hj
                have HVY := hid (HRV.out.rc D[k + 1 + j] (List.mem_of_getElem? hv2))
                have HVX := hid (HRV.out.rc D[k + 1 + j + 1] (List.mem_of_getElem? hu2))
                have HUM := hid (List.mem_of_getElem? hu2)
                generalize D[k + 1 + j] = y at *
                generalize D[k + 1 + j + 1] = x at *
                obtain ⟨sy, vy⟩ := y
                obtain ⟨sx, vx⟩ := x
                obtain ⟨qy, my, dy, rfl⟩ := HVY.out.2.2.1.slice
                obtain ⟨qx, mx, dx, rfl⟩ := HVX.out.2.2.1.slice
                have HCN := hid (fun W (hr : RcAt W g (sx, .slice qx mx dx)) (hq : RcAt W g (sy, .slice qy my dy)) => (show Calls Tryz.prog 162 #[.agg #[.int .i64 (nAt sx 0), .int .i64 (nAt sx 1), .int .i64 (nAt sx 2), .slice qx mx dx], .agg #[.int .i64 (nAt sy 0), .int .i64 (nAt sy 1), .int .i64 (nAt sy 2), .slice qy my dy]] W
                  fun e w' => e = .returned (.bool (ordV sx sy == 0)) ∧ Below W.heap.size W w' from same_rc (sx, .slice qx mx dx) (sy, .slice qy my dy) g W hr hq))
                have HTV := hid (fun (W : World) (h : Rw w0 W g (E ++ D.drop E.length)) => (show W.cell? ⟨g, (k + 1) * 4 + j * 4, none⟩ = some (.int .i64 (nAt sy 0)) ∧ W.cell? ⟨g, (k + 1) * 4 + j * 4 + 1, none⟩ = some (.int .i64 (nAt sy 1)) ∧ W.cell? ⟨g, (k + 1) * 4 + j * 4 + 2, none⟩ = some (.int .i64 (nAt sy 2)) ∧ W.cell? ⟨g, (k + 1) * 4 + j * 4 + 3, none⟩ = some (.slice qy my dy) ∧ W.cell? ⟨g, (k + 1) * 4 + (j + 1) * 4, none⟩ = some (.int .i64 (nAt sx 0)) ∧ W.cell? ⟨g, (k + 1) * 4 + (j + 1) * 4 + 1, none⟩ = some (.int .i64 (nAt sx 1)) ∧ W.cell? ⟨g, (k + 1) * 4 + (j + 1) * 4 + 2, none⟩ = some (.int .i64 (nAt sx 2)) ∧ W.cell? ⟨g, (k + 1) * 4 + (j + 1) * 4 + 3, none⟩ = some (.slice qx mx dx) ∧ Hid (Rw w0 W g (E ++ D.drop E.length)) by
                  have h2 := h.two hv2 hu2
                  unfold Two at h2
                  rw [show (k + 1 + j) * 4 = (k + 1) * 4 + j * 4 by omega, show (k + 1 + j + 1) * 4 = (k + 1) * 4 + (j + 1) * 4 by omega] at h2
                  exact h2))
                obtain ⟨a0, a1, a2, a3, b0, b1, b2, b3, _⟩ := HTV.out _ HRV.out
                clear hv2 hu2
                by_cases hoe : ordV sx sy = 0
                · have HC3 := hid (HSM.out hoe)
                  rw [hoe] at HCN
                  clear hoe
                  go_wp2_with fail
                  go_region_held (fun W => W.cell? ⟨g, (k + 1) * 4 + j * 4, none⟩ = some (.int .i64 (nAt sy 0)) ∧ W.cell? ⟨g, (k + 1) * 4 + j * 4 + 1, none⟩ = some (.int .i64 (nAt sy 1)) ∧ W.cell? ⟨g, (k + 1) * 4 + j * 4 + 2, none⟩ = some (.int .i64 (nAt sy 2)) ∧ W.cell? ⟨g, (k + 1) * 4 + j * 4 + 3, none⟩ = some (.slice qy my dy) ∧ W.cell? ⟨g, (k + 1) * 4 + (j + 1) * 4, none⟩ = some (.int .i64 (nAt sx 0)) ∧ W.cell? ⟨g, (k + 1) * 4 + (j + 1) * 4 + 1, none⟩ = some (.int .i64 (nAt sx 1)) ∧ W.cell? ⟨g, (k + 1) * 4 + (j + 1) * 4 + 2, none⟩ = some (.int .i64 (nAt sx 2)) ∧ W.cell? ⟨g, (k + 1) * 4 + (j + 1) * 4 + 3, none⟩ = some (.slice qx mx dx) ∧ Hid (Rw w0 W g (E ++ D.drop E.length))) (first | exact HTV.out _ HRb.out | exact HTV.out _ (HRV.out.below (below_drawn _ 1))) (first
                  | (go_at_call 162; refine (HCN.out _ ?_ ?_).mono ?_; exact HVX.out.below (below_drawn _ 1); exact HVY.out.below (below_drawn _ 1); rintro e w' ⟨rfl, hb⟩; have HRb := hid ((HRV.out.below (below_drawn _ 1)).below hb); clear hb))
                  all_goals
                    go_wp2_with fail
                    go_roundw
                    case rel => exact ⟨j + 1, E, rfl, by go_num, by omega, by omega, HC3, HRb⟩
                    case measure => simp [intOf]; omega
                · have HC3 := hid (HMO.out hoe)
                  have hob : (ordV sx sy == 0) = false := beq_eq_false_iff_ne.2 hoe
                  rw [hob] at HCN
                  clear hoe hob
                  go_wp2_with fail
                  go_region_held (fun W => W.cell? ⟨g, (k + 1) * 4 + j * 4, none⟩ = some (.int .i64 (nAt sy 0)) ∧ W.cell? ⟨g, (k + 1) * 4 + j * 4 + 1, none⟩ = some (.int .i64 (nAt sy 1)) ∧ W.cell? ⟨g, (k + 1) * 4 + j * 4 + 2, none⟩ = some (.int .i64 (nAt sy 2)) ∧ W.cell? ⟨g, (k + 1) * 4 + j * 4 + 3, none⟩ = some (.slice qy my dy) ∧ W.cell? ⟨g, (k + 1) * 4 + (j + 1) * 4, none⟩ = some (.int .i64 (nAt sx 0)) ∧ W.cell? ⟨g, (k + 1) * 4 + (j + 1) * 4 + 1, none⟩ = some (.int .i64 (nAt sx 1)) ∧ W.cell? ⟨g, (k + 1) * 4 + (j + 1) * 4 + 2, none⟩ = some (.int .i64 (nAt sx 2)) ∧ W.cell? ⟨g, (k + 1) * 4 + (j + 1) * 4 + 3, none⟩ = some (.slice qx mx dx) ∧ Hid (Rw w0 W g (E ++ D.drop E.length))) (first | exact HTV.out _ HRb.out | exact HTV.out _ (HRV.out.below (below_drawn _ 1))) (first
                  | (go_at_call 162; refine (HCN.out _ ?_ ?_).mono ?_; exact HVX.out.below (below_drawn _ 1); exact HVY.out.below (below_drawn _ 1); rintro e w' ⟨rfl, hb⟩; have HRb := hid ((HRV.out.below (below_drawn _ 1)).below hb); clear hb))
                  all_goals
                    clear a0 a1 a2 a3 b0 b1 b2 b3
                    obtain ⟨a0, a1, a2, a3, b0, b1, b2, b3, _⟩ := HTV.out _ HRb.out
                    have hfz := HRb.out.fz
                    have e1 : (0 : Int) ≤ (E.length : Int) := by omega
                    have e2 : (E.length : Int) < (D.length : Int) := by omega
                    have hEl : E.length < (E ++ D.drop E.length).length := by simp; omega
                    obtain ⟨z0, z1, z2, z3⟩ := HRb.out.at (j := E.length) (r := (E ++ D.drop E.length)[E.length]) (List.getElem?_eq_getElem hEl)
                    have HW4 := hid (show Rw w0 ((((w'.setCell ⟨g, E.length * 4, none⟩ (.int .i64 (nAt sx 0))).setCell ⟨g, E.length * 4 + 1, none⟩ (.int .i64 (nAt sx 1))).setCell ⟨g, E.length * 4 + 2, none⟩ (.int .i64 (nAt sx 2))).setCell ⟨g, E.length * 4 + 3, none⟩ (.slice qx mx dx)) g ((E ++ [((sx, .slice qx mx dx) : Rc)]) ++ D.drop (E ++ [((sx, .slice qx mx dx) : Rc)]).length) by
                      have h := HRb.out.setAt E.length hEl (sx, .slice qx mx dx) (HRb.out.rc _ HUM.out)
                      have e : (E ++ D.drop E.length).set E.length (sx, .slice qx mx dx) = (E ++ [((sx, .slice qx mx dx) : Rc)]) ++ D.drop (E ++ [((sx, .slice qx mx dx) : Rc)]).length := by
                        rw [List.set_append_right _ _ (Nat.le_refl _), Nat.sub_self, List.drop_eq_getElem_cons (show E.length < D.length by omega), List.set_cons_zero, List.length_append]
                        simp
                      rw [e] at h
                      exact h)
                    go_wp2_with fail
                    go_roundw
                    case rel => exact ⟨j + 1, E ++ [(sx, .slice qx mx dx)], by simp, by go_num, by omega, by simp; omega, HC3, HW4⟩
                    case measure => simp [intOf]; omega
              · have hje : k + 1 + (j + 1) = D.length := by omega
                have g2 : ¬ (j : Int) + 1 < ((D.length - (k + 1) : Nat) : Int) := by omega
                have hRl : (E ++ D.drop E.length).length = D.length := by simp; omega
                obtain ⟨zs, hcl⟩ := run_clear_rw HRV.out E.length (by omega)
                rw [hRl] at hcl
                have HEN := hid (show Cp D D.length E by have := HCE.out; rw [show k + 1 + j + 1 = D.length by omega] at this; exact this)
                have HRE := hid (show Rw w0 (wr.setCells g (E.length * 4) zs) g E by
                  have := HRV.out.cleared E.length (by omega) zs
                  rw [List.take_left'  rfl] at this
                  exact this)
                have c1 : (E.length : Int) ≤ (D.length : Int) := by omega
                have c2 : (E.length : Int) < (cap : Int) := by omega
                have c3 : (E.length : Int) ≤ (cap : Int) := by omega
                have c4 : (0 : Int) ≤ (E.length : Int) := by omega
                have c5 : E.length < cap := by omega
                go_wp2_with fail
                go_ret
                exact ⟨E, rfl, by omega, HEN.out.ri, fun t => by have h := HEN.out.mem t; rw [List.take_length] at h; simpa using h, HRE.out⟩
        · have HC2 := hid (HPL.out hod)
          have hob : (ordV tx ty == 0) = false := beq_eq_false_iff_ne.2 hod
          rw [hob] at HCM
          clear hod hob
          go_wp2_with fail
          go_region_held (fun W => W.cell? ⟨g, k * 4, none⟩ = some (.int .i64 (nAt ty 0)) ∧ W.cell? ⟨g, k * 4 + 1, none⟩ = some (.int .i64 (nAt ty 1)) ∧ W.cell? ⟨g, k * 4 + 2, none⟩ = some (.int .i64 (nAt ty 2)) ∧ W.cell? ⟨g, k * 4 + 3, none⟩ = some (.slice py ny cy) ∧ W.cell? ⟨g, (k + 1) * 4, none⟩ = some (.int .i64 (nAt tx 0)) ∧ W.cell? ⟨g, (k + 1) * 4 + 1, none⟩ = some (.int .i64 (nAt tx 1)) ∧ W.cell? ⟨g, (k + 1) * 4 + 2, none⟩ = some (.int .i64 (nAt tx 2)) ∧ W.cell? ⟨g, (k + 1) * 4 + 3, none⟩ = some (.slice px nx cx) ∧ Hid (Rw w0 W g D)) (first | exact HTW.out _ HRa.out | exact HTW.out _ (HRW.out.below (below_drawn _ 1))) (first
            | (go_at_call 162; refine (HCM.out _ ?_ ?_).mono ?_; exact HX.out.below (below_drawn _ 1); exact HY.out.below (below_drawn _ 1); rintro e w' ⟨rfl, hb⟩; have HRa := hid ((HRW.out.below (below_drawn _ 1)).below hb); clear hb))
          all_goals
            go_wp2_with fail
            go_roundw
            case rel => exact ⟨k + 1, by omega, by go_num, HC2, HRa⟩
            case measure => simp [intOf]; omega
      · obtain hke : k + 1 = D.length := by omega
        have HFI := hid (show Cp D D.length D by have := HCP.out; rw [hke, List.take_length] at this; exact this)
        have hi2 : ¬ (k : Int) + 1 < (D.length : Int) := by omega
        go_wp2_with fail
        go_ret
        exact ⟨D, rfl, Nat.le_refl _, HFI.out.ri, fun t => Iff.rfl, HRW.out⟩
end Ve
end Go.Proofs.YtanponneancajaaGreatDoor

/-
  The sorts of nothing; ver.Sort whole.
-/
namespace Go.Proofs.YtanponneancajaaGreatDoor
open Go.RowKit
namespace Ve

theorem ins_nil (W : World) : Calls Tryz.prog 241 #[.slice none 0 0, .int .i64 0, .int .i64 0, .func (.func 58) #[] #[]] W fun e w' => e = .returned (.tuple #[]) ∧ w' = W := by
  go_enter Tryz.func241, Tryz.ntmps241
  go_wp2_with fail
  go_loop [8] (fun i => i = .int .i64 1) (fun _ => 0)
  case atStart => rfl
  case round =>
    obtain rfl := hrel
    go_wp2_with fail
    go_end0
    exact ⟨rfl, rfl⟩
set_option maxRecDepth 100000 in
set_option maxHeartbeats 2000000 in
theorem pdq_nil (n : Int) (W : World) : Calls Tryz.prog 213 #[.slice none 0 0, .int .i64 0, .int .i64 0, .int .i64 n, .func (.func 58) #[] #[]] W fun e w' => e = .returned (.tuple #[]) ∧ w' = W := by
  have HI := hid (ins_nil W)
  go_enter Tryz.func213, Tryz.ntmps213
  go_wp2_with fail
  go_loop [1, 2, 3, 10, 11] (fun a b _ _ _ => a = .int .i64 0 ∧ b = .int .i64 0) (fun _ _ _ _ _ => 0)
  case atStart => exact ⟨rfl, rfl⟩
  case round =>
    obtain ⟨rfl, rfl⟩ := hrel
    go_wp2_with fail
    refine HI.out.mono ?_
    rintro e w' ⟨rfl, rfl⟩
    go_wp2_with fail
    first | (go_end0; exact ⟨rfl, rfl⟩) | (go_ret; exact ⟨rfl, rfl⟩) | (refine bodyPost_ret (v := .tuple #[]) (by simp [results, Tryz.results213]) rfl ⟨rfl, rfl⟩)
set_option maxHeartbeats 1000000 in
theorem sortf_nil (W : World) : Calls Tryz.prog 160 #[.slice none 0 0, .func (.func 58) #[] #[]] W fun e w' => e = .returned (.tuple #[]) ∧ Below W.heap.size W w' := by
  have HLN := hid (show Calls Tryz.prog 212 #[.int .u64 0] W fun e w' => e = .returned (.int .i64 (Lib.bitLen 0 : Nat)) ∧ w' = W from by
    have h := Any.bits_Len (SlLaysF0.n15.bits (P := Tryz.prog) (ρ := Tryz.sortParts_ren) { Tryz.sortParts with }) 0 W (by omega) (by omega)
    exact h)
  have HP := hid (fun n => pdq_nil n W)
  go_enter Tryz.func160, Tryz.ntmps160
  go_wp2_with fail
  refine HLN.out.mono ?_
  rintro e w' ⟨rfl, rfl⟩
  go_wp2_with fail
  refine (HP.out _).mono ?_
  rintro e w' ⟨rfl, rfl⟩
  go_wp2_with fail
  go_end0
  exact ⟨rfl, Below.refl _ _⟩

theorem compact_is : CompactIs := fun w0 W g cap D hD h12 hc hcm hs hR => compact_rw w0 W g cap D hD h12 hc hcm hs hR
/-- ver.Sort of a list that is there. -/
theorem vsort_any (b0 o0 cap : Nat) (L : List ByteArray) (aT aB : Addr) (m : Int) (w : World) (S : Vs w aT aB m) (htab : Lib.TabIs Tryz.prog w powName .u64 Lib.pow10Tab) (hL : ∀ j (h : j < L.length), w.cell? ⟨b0, o0 + j, none⟩ = some (.string L[j])) (h12 : L.length ≤ 1000) (hz : ∀ x, x ∈ L → x.size ≤ 80) :
    Calls Tryz.prog 119 #[.slice (some ⟨b0, o0, none⟩) L.length cap] w fun e w' => ∃ v X, e = .returned v ∧ w'.ownsRow w.heap.size 9 1 v X.length (X.map Value.string) ∧ Kept L L.length X ∧ Below w.heap.size w w' :=
  vsort_some compact_is sortf_nil compact_nil b0 o0 cap L aT aB m w S htab hL h12 hz
theorem kept_none : Kept [] 0 [] := ⟨List.Pairwise.nil, fun t => by simp [bl]⟩
set_option maxHeartbeats 1000000 in
theorem sortVers_none (W : World) : Calls Tryz.prog 178 #[.slice none 0 0] W fun e w' => e = .returned (.slice none 0 0) ∧ w' = W := by
  go_enter Tryz.func178, Tryz.ntmps178
  go_wp2_with fail
  go_loop [3, 4] (fun v i => v = .slice none 0 0 ∧ i = .int .i64 0) (fun _ _ => 0)
  case atStart => exact ⟨rfl, rfl⟩
  case round =>
    obtain ⟨rfl, rfl⟩ := hrel
    go_wp2_with fail
    go_ret
    exact ⟨rfl, rfl⟩
set_option maxHeartbeats 1000000 in
theorem vsort_none (W : World) : Calls Tryz.prog 119 #[.slice none 0 0] W fun e w' => e = .returned (.slice none 0 0) ∧ Below W.heap.size W w' := by
  have HSN := hid sortf_nil
  have HCN := hid compact_nil
  go_enter Tryz.func119, Tryz.ntmps119
  go_wp2_with fail
  go_loop [3, 13] (fun v i => v = .slice none 0 0 ∧ i = .int .i64 0) (fun _ _ => 0)
  case atStart => exact ⟨rfl, rfl⟩
  case round =>
    obtain ⟨rfl, rfl⟩ := hrel
    go_wp2_with fail
    refine (HSN.out _).mono ?_
    rintro e w1 ⟨rfl, hb1⟩
    go_wp2_with fail
    refine (HCN.out _).mono ?_
    rintro e w2 ⟨rfl, hb2⟩
    have HB2 := hid (hb1.trans (hb2.mono hb1.size))
    clear hb1 hb2
    go_wp2_with fail
    go_loop [8, 35] (fun v i => v = .slice none 0 0 ∧ i = .int .i64 0) (fun _ _ => 0)
    case atStart => exact ⟨rfl, rfl⟩
    case round =>
      obtain ⟨rfl, rfl⟩ := hrel
      go_wp2_with fail
      go_ret
      exact ⟨rfl, HB2.out⟩
end Ve
end Go.Proofs.YtanponneancajaaGreatDoor

/-
  What index.versions, Versions, Latest and Paths answer.
-/
namespace Go.Proofs.YtanponneancajaaGreatDoor
open Go.RowKit
namespace Ve

/-- The versions, the paths of a row of entries. -/
def verL (L : List Raw) : List ByteArray := L.map fun r => r.1.2
def pathL (L : List Raw) : List ByteArray := L.map fun r => r.1.1
theorem verL_len (L : List Raw) : (verL L).length = L.length := by simp [verL]
theorem pathL_len (L : List Raw) : (pathL L).length = L.length := by simp [pathL]
theorem verL_next {L : List Raw} {k : Nat} (hk : k < L.length) : verL (L.take (k + 1)) = verL (L.take k) ++ [L[k].1.2] := by
  unfold verL
  rw [List.take_succ_eq_append_getElem hk, List.map_append]; rfl
theorem pathL_next {L : List Raw} {k : Nat} (hk : k < L.length) : pathL (L.take (k + 1)) = pathL (L.take k) ++ [L[k].1.1] := by
  unfold pathL
  rw [List.take_succ_eq_append_getElem hk, List.map_append]; rfl
theorem own_nextT {W : World} {B : Nat} {e : TypeId} {v : Value} {X X' : List ByteArray} {x : ByteArray} (h : W.ownsRow B e 1 v (X.length + 1) (X.map Value.string ++ [.string x])) (hl : X' = X ++ [x]) : W.ownsRow B e 1 v X'.length (X'.map Value.string) := by
  subst hl
  rw [List.length_append, List.map_append]
  exact h
set_option maxHeartbeats 4000000 in
set_option maxRecDepth 100000 in
theorem versions_some (L : List Raw) (b o c : Nat) (w : World) (hL : L.length ≤ 1000) (hs : ∀ r, r ∈ L → slR r)
    (hc : ∀ j (h : j < L.length), w.cell? ⟨b, o + j * 5, none⟩ = some (.string L[j].1.1) ∧ w.cell? ⟨b, o + j * 5 + 1, none⟩ = some (.string L[j].1.2) ∧ w.cell? ⟨b, o + j * 5 + 2, none⟩ = some L[j].2.1 ∧ w.cell? ⟨b, o + j * 5 + 3, none⟩ = some L[j].2.2.1 ∧ w.cell? ⟨b, o + j * 5 + 4, none⟩ = some (.bool L[j].2.2.2))
    (Post : Value → World → Prop) (hk : ∀ u W, W.ownsRow w.heap.size 9 1 u (verL L).length ((verL L).map Value.string) → Below w.heap.size w W → Calls Tryz.prog 119 #[u] W fun e w' => ∃ x, e = .returned x ∧ Post x w') :
    Calls Tryz.prog 67 #[.slice (some ⟨b, o, none⟩) L.length c] w fun e w' => ∃ x, e = .returned x ∧ Post x w' := by
  obtain ⟨i0, hi, hz0, hz1, hz2⟩ := info_parts infoStr
  have HC := hid hc
  have HSL := hid hs
  have HK := hid hk
  clear hc hs hk
  go_enter Tryz.func67, Tryz.ntmps67
  go_wp2_with fail
  go_loopw [3, 8] (fun ov i wr => ∃ k : Nat, k ≤ L.length ∧ i = .int .i64 k ∧ Hid (wr.ownsRow w.heap.size 9 1 ov (verL (L.take k)).length ((verL (L.take k)).map Value.string)) ∧ Hid (Below w.heap.size w wr)) (fun _ i _ => L.length - (intOf i).toNat)
  case atStart => exact ⟨0, Nat.zero_le _, rfl, hid (World.ownsRow_nil _ _ _ _), hid (Below.refl _ _)⟩
  case round =>
    obtain ⟨k, hk, rfl, HO, HB⟩ := hrel
    by_cases hlt : k < L.length
    · obtain ⟨y0, y1, y2, y3, y4⟩ := HC.out k hlt
      have x0 := cell_below HB.out y0
      have x1 := cell_below HB.out y1
      have x2 := cell_below HB.out y2
      have x3 := cell_below HB.out y3
      have x4 := cell_below HB.out y4
      have hsl := HSL.out L[k] (List.getElem_mem hlt)
      have hkI : (k : Int) < (L.length : Int) := by omega
      have HLT := hid hlt
      have HY := hid (verL_next hlt)
      have hln : (verL (L.take k)).length = k := by rw [verL_len, List.length_take]; omega
      clear y0 y1 y2 y3 y4
      generalize L[k] = x at *
      obtain ⟨⟨p, q⟩, rv, pv, bk⟩ := x
      obtain ⟨⟨ra, rn, rc, hrv⟩, pa, pn, pc, hpv⟩ := hsl
      simp only at hrv hpv
      subst hrv
      subst hpv
      have HBa := hid (HB.out.alloc HB.out.size (.cells #[.string p, .string q, .slice ra rn rc, .slice pa pn pc, .bool bk] 54))
      have HOa := hid (HO.out.alloc (.cells #[.string p, .string q, .slice ra rn rc, .slice pa pn pc, .bool bk] 54))
      clear hlt
      have hzz := HB.out.size
      go_wp2_with (at_builtin; refine wpList_append_own _ rfl _ _ 24 rfl w.heap.size 9 i0 _ 1 16 Tryz.underlying24 hi hz0 hz1 hz2 rfl (by decide) _ _ _ rfl (HOa.out.alloc _) ⟨wr.heap.size + 1, 0, none⟩ 1 1 [.string q] rfl rfl ?c1 ?c2 ?c3 ?c4 ?c5 ?_)
      case c2 => rfl
      case c3 => unfold maxLen; omega
      case c4 => omega
      case c5 => omega
      intro v' w3 hown hgrow _
      have HR3 := hid (rel_app HBa.out.size HBa.out HOa.out (Below.refl _ _) hgrow)
      have HO3 := hid hown
      clear hown hgrow x0 x1 x2 x3 x4
      go_wp2_with fail
      go_roundw
      case rel => exact ⟨k + 1, by have := HLT.out; omega, by go_num, hid (own_nextT (X := verL (L.take k)) (by rw [hln]; exact HO3.out) HY.out), HR3⟩
      case measure => have := HLT.out; simp [intOf]; omega
    · have HTR := hid (show L.take k = L from List.take_of_length_le (by omega))
      rw [HTR.out] at HO
      have hkI : ¬ (k : Int) < (L.length : Int) := by omega
      have HKK := hid (HK.out _ _ HO.out HB.out)
      clear hlt
      go_wp2_with fail
      refine HKK.out.mono ?_
      rintro e w1 ⟨x, rfl, hp⟩
      have HP := hid hp
      clear hp
      go_wp2_with fail
      go_ret
      exact ⟨_, rfl, HP.out⟩
theorem versions_none (a : Option Addr) (c : Nat) (w : World)
    (Post : Value → World → Prop) (hk : Calls Tryz.prog 119 #[.slice none 0 0] w fun e w' => ∃ x, e = .returned x ∧ Post x w') :
    Calls Tryz.prog 67 #[.slice a 0 c] w fun e w' => ∃ x, e = .returned x ∧ Post x w' := by
  have HK := hid hk
  clear hk
  go_enter Tryz.func67, Tryz.ntmps67
  go_wp2_with fail
  go_loopw [3, 8] (fun ov i wr => ov = .slice none 0 0 ∧ i = .int .i64 0 ∧ wr = w) (fun _ i _ => 0)
  case atStart => exact ⟨rfl, rfl, rfl⟩
  case round =>
    obtain ⟨rfl, rfl, rfl⟩ := hrel
    go_wp2_with fail
    refine HK.out.mono ?_
    rintro e w1 ⟨x, rfl, hp⟩
    have HP := hid hp
    clear hp
    go_wp2_with fail
    go_ret
    exact ⟨_, rfl, HP.out⟩
set_option maxHeartbeats 4000000 in
set_option maxRecDepth 100000 in
theorem paths_some (L : List Raw) (b o c : Nat) (w : World) (hL : L.length ≤ 1000) (hs : ∀ r, r ∈ L → slR r)
    (hc : ∀ j (h : j < L.length), w.cell? ⟨b, o + j * 5, none⟩ = some (.string L[j].1.1) ∧ w.cell? ⟨b, o + j * 5 + 1, none⟩ = some (.string L[j].1.2) ∧ w.cell? ⟨b, o + j * 5 + 2, none⟩ = some L[j].2.1 ∧ w.cell? ⟨b, o + j * 5 + 3, none⟩ = some L[j].2.2.1 ∧ w.cell? ⟨b, o + j * 5 + 4, none⟩ = some (.bool L[j].2.2.2))
    (Post : Value → World → Prop) (hk : ∀ u W, W.ownsRow w.heap.size 9 1 u (pathL L).length ((pathL L).map Value.string) → Below w.heap.size w W → Calls Tryz.prog 66 #[u] W fun e w' => ∃ x, e = .returned x ∧ Post x w') :
    Calls Tryz.prog 24 #[.slice (some ⟨b, o, none⟩) L.length c] w fun e w' => ∃ x, e = .returned x ∧ Post x w' := by
  obtain ⟨i0, hi, hz0, hz1, hz2⟩ := info_parts infoStr
  have HC := hid hc
  have HSL := hid hs
  have HK := hid hk
  clear hc hs hk
  go_enter Tryz.func24, Tryz.ntmps24
  go_wp2_with fail
  go_loopw [3, 8] (fun ov i wr => ∃ k : Nat, k ≤ L.length ∧ i = .int .i64 k ∧ Hid (wr.ownsRow w.heap.size 9 1 ov (pathL (L.take k)).length ((pathL (L.take k)).map Value.string)) ∧ Hid (Below w.heap.size w wr)) (fun _ i _ => L.length - (intOf i).toNat)
  case atStart => exact ⟨0, Nat.zero_le _, rfl, hid (World.ownsRow_nil _ _ _ _), hid (Below.refl _ _)⟩
  case round =>
    obtain ⟨k, hk, rfl, HO, HB⟩ := hrel
    by_cases hlt : k < L.length
    · obtain ⟨y0, y1, y2, y3, y4⟩ := HC.out k hlt
      have x0 := cell_below HB.out y0
      have x1 := cell_below HB.out y1
      have x2 := cell_below HB.out y2
      have x3 := cell_below HB.out y3
      have x4 := cell_below HB.out y4
      have hsl := HSL.out L[k] (List.getElem_mem hlt)
      have hkI : (k : Int) < (L.length : Int) := by omega
      have HLT := hid hlt
      have HY := hid (pathL_next hlt)
      have hln : (pathL (L.take k)).length = k := by rw [pathL_len, List.length_take]; omega
      clear y0 y1 y2 y3 y4
      generalize L[k] = x at *
      obtain ⟨⟨p, q⟩, rv, pv, bk⟩ := x
      obtain ⟨⟨ra, rn, rc, hrv⟩, pa, pn, pc, hpv⟩ := hsl
      simp only at hrv hpv
      subst hrv
      subst hpv
      have HBa := hid (HB.out.alloc HB.out.size (.cells #[.string p, .string q, .slice ra rn rc, .slice pa pn pc, .bool bk] 54))
      have HOa := hid (HO.out.alloc (.cells #[.string p, .string q, .slice ra rn rc, .slice pa pn pc, .bool bk] 54))
      clear hlt
      have hzz := HB.out.size
      go_wp2_with (at_builtin; refine wpList_append_own _ rfl _ _ 24 rfl w.heap.size 9 i0 _ 1 16 Tryz.underlying24 hi hz0 hz1 hz2 rfl (by decide) _ _ _ rfl (HOa.out.alloc _) ⟨wr.heap.size + 1, 0, none⟩ 1 1 [.string p] rfl rfl ?c1 ?c2 ?c3 ?c4 ?c5 ?_)
      case c2 => rfl
      case c3 => unfold maxLen; omega
      case c4 => omega
      case c5 => omega
      intro v' w3 hown hgrow _
      have HR3 := hid (rel_app HBa.out.size HBa.out HOa.out (Below.refl _ _) hgrow)
      have HO3 := hid hown
      clear hown hgrow x0 x1 x2 x3 x4
      go_wp2_with fail
      go_roundw
      case rel => exact ⟨k + 1, by have := HLT.out; omega, by go_num, hid (own_nextT (X := pathL (L.take k)) (by rw [hln]; exact HO3.out) HY.out), HR3⟩
      case measure => have := HLT.out; simp [intOf]; omega
    · have HTR := hid (show L.take k = L from List.take_of_length_le (by omega))
      rw [HTR.out] at HO
      have hkI : ¬ (k : Int) < (L.length : Int) := by omega
      have HKK := hid (HK.out _ _ HO.out HB.out)
      clear hlt
      go_wp2_with fail
      refine HKK.out.mono ?_
      rintro e w1 ⟨x, rfl, hp⟩
      have HP := hid hp
      clear hp
      go_wp2_with fail
      go_ret
      exact ⟨_, rfl, HP.out⟩
theorem paths_none (a : Option Addr) (c : Nat) (w : World)
    (Post : Value → World → Prop) (hk : Calls Tryz.prog 66 #[.slice none 0 0] w fun e w' => ∃ x, e = .returned x ∧ Post x w') :
    Calls Tryz.prog 24 #[.slice a 0 c] w fun e w' => ∃ x, e = .returned x ∧ Post x w' := by
  have HK := hid hk
  clear hk
  go_enter Tryz.func24, Tryz.ntmps24
  go_wp2_with fail
  go_loopw [3, 8] (fun ov i wr => ov = .slice none 0 0 ∧ i = .int .i64 0 ∧ wr = w) (fun _ i _ => 0)
  case atStart => exact ⟨rfl, rfl, rfl⟩
  case round =>
    obtain ⟨rfl, rfl, rfl⟩ := hrel
    go_wp2_with fail
    refine HK.out.mono ?_
    rintro e w1 ⟨x, rfl, hp⟩
    have HP := hid hp
    clear hp
    go_wp2_with fail
    go_ret
    exact ⟨_, rfl, HP.out⟩
/-- index.versions. -/
theorem versions_any (L : List Raw) (v : Value) (aT aB : Addr) (m : Int) (w : World) (hL : L.length ≤ 1000) (hz : ∀ r, r ∈ L → r.1.2.size ≤ 80) (S : Vs w aT aB m) (htab : Lib.TabIs Tryz.prog w powName .u64 Lib.pow10Tab) (hv : EsAt w v L) :
    Calls Tryz.prog 67 #[v] w fun e w' => ∃ u, e = .returned u ∧ ∃ X, w'.ownsRow w.heap.size 9 1 u X.length (X.map Value.string) ∧ Kept (verL L) (verL L).length X ∧ Below w.heap.size w w' := by
  obtain ⟨a, c, rfl, _, hs, h⟩ := hv
  cases L with
  | nil => exact versions_none a c w (fun u w' => ∃ X, w'.ownsRow w.heap.size 9 1 u X.length (X.map Value.string) ∧ Kept (verL []) (verL []).length X ∧ Below w.heap.size w w') ((vsort_none w).mono fun e w' ⟨h1, h2⟩ => ⟨_, h1, [], World.ownsRow_nil _ _ _ _, kept_none, h2⟩)
  | cons x r =>
    obtain ⟨b, o, rfl, h2⟩ := h (by simp)
    refine versions_some (x :: r) b o c w hL hs h2 (fun u w' => ∃ X, w'.ownsRow w.heap.size 9 1 u X.length (X.map Value.string) ∧ Kept (verL (x :: r)) (verL (x :: r)).length X ∧ Below w.heap.size w w') fun u W ho hb => ?_
    obtain ⟨a', c', rfl, _, h3⟩ := own_tx ho
    obtain ⟨b', o', rfl, h4⟩ := h3 (by simp [verL])
    refine (vsort_any b' o' c' (verL (x :: r)) aT aB m W (S.below hb) (tab_below htab hb) h4 (by rw [verL_len]; exact hL) (fun y hy => ?_)).mono ?_
    · obtain ⟨r', hr', rfl⟩ := List.mem_map.1 hy
      exact hz r' hr'
    · rintro e w' ⟨u, X, rfl, h5, h6, h7⟩
      exact ⟨u, rfl, X, own_baseN h5 hb.size, h6, hb.trans (h7.mono hb.size)⟩
/-- index.Paths. -/
theorem paths_any (L : List Raw) (v : Value) (w : World) (hL : L.length ≤ 1000) (hv : EsAt w v L) :
    Calls Tryz.prog 24 #[v] w fun e w' => ∃ u, e = .returned u ∧ w'.ownsRow w.heap.size 9 1 u (tx (risB (bl (pathL L)))).length ((tx (risB (bl (pathL L)))).map Value.string) ∧ Below w.heap.size w w' := by
  obtain ⟨a, c, rfl, _, hs, h⟩ := hv
  cases L with
  | nil =>
    refine paths_none a c w _ ((rising_any [] (by simp) (.slice none 0 0) w ⟨none, 0, rfl, Nat.le_refl _, fun h => absurd rfl h⟩).mono fun e w' ⟨u, h1, h2, h3⟩ => ⟨u, h1, h2, h3⟩)
  | cons x r =>
    obtain ⟨b, o, rfl, h2⟩ := h (by simp)
    refine paths_some (x :: r) b o c w hL hs h2 _ fun u W ho hb => ?_
    refine (rising_any (pathL (x :: r)) (by rw [pathL_len]; omega) u W (own_tx ho)).mono ?_
    rintro e w' ⟨u', rfl, h5, h7⟩
    exact ⟨u', rfl, own_baseN h5 hb.size, hb.trans (h7.mono hb.size)⟩
end Ve
end Go.Proofs.YtanponneancajaaGreatDoor

/-
  What index.Versions, Best and Latest answer.
-/
namespace Go.Proofs.YtanponneancajaaGreatDoor
open Go.RowKit
namespace Ve

/-- The entries of a path whose version is one. -/
def ofP (t : ByteArray) (L : List Raw) : List Raw := L.filter (isP t)
theorem ofP_len (t : ByteArray) (L : List Raw) : (ofP t L).length ≤ L.length := List.length_filter_le _ _
theorem bestR_sub {L : List Raw} {r : Raw} (h : r ∈ bestR L) : r ∈ L := by
  unfold bestR at h
  split at h
  · exact (List.mem_filter.1 (List.mem_filter.1 h).1).1
  · split at h
    · exact (List.mem_filter.1 h).1
    · exact h
theorem bestR_len (L : List Raw) : (bestR L).length ≤ L.length := by
  unfold bestR
  split
  · exact Nat.le_trans (List.length_filter_le _ _) (List.length_filter_le _ _)
  · split
    · exact List.length_filter_le _ _
    · exact Nat.le_refl _
/-- The last of a row of texts, or none. -/
def lastT (X : List ByteArray) : ByteArray := X.getLast?.getD ⟨#[]⟩
theorem lastT_nil : lastT [] = ⟨#[]⟩ := rfl
theorem lastT_get {X : List ByteArray} (h : 0 < X.length) : lastT X = X[X.length - 1] := by
  unfold lastT
  rw [List.getLast?_eq_getElem?, List.getElem?_eq_getElem (by omega)]; rfl
theorem own_max {W : World} {B n k : Nat} {e : TypeId} {v : Value} {xs : List Value} (h : W.ownsRow B e k v n xs) : n ≤ maxLen := by
  obtain ⟨_, ⟨hv, hn0⟩ | ⟨g, cap, cur, hv, hg, hblk, hcap, hcm, hcs, hct⟩⟩ := h
  · rw [hn0]; exact Nat.zero_le _
  · exact Nat.le_trans hcap hcm
set_option maxRecDepth 100000 in
set_option maxHeartbeats 2000000 in
/-- index.Versions. -/
theorem vers_any (L : List Raw) (t : ByteArray) (v : Value) (aT aB : Addr) (m : Int) (w : World) (hL : L.length ≤ 1000) (hz : ∀ r, r ∈ L → r.1.1.size ≤ 80 ∧ r.1.2.size ≤ 80) (S : Vs w aT aB m) (htab : Lib.TabIs Tryz.prog w powName .u64 Lib.pow10Tab) (hv : EsAt w v L) :
    Calls Tryz.prog 25 #[v, .string t] w fun e w' => ∃ u, e = .returned u ∧ ∃ X, w'.ownsRow w.heap.size 9 1 u X.length (X.map Value.string) ∧ Kept (verL (ofP t L)) (verL (ofP t L)).length X ∧ Below w.heap.size w w' := by
  obtain ⟨a, c, rfl, _⟩ := id hv
  have hsh : shortR L := fun r hr => ⟨by have := (hz r hr).1; omega, by have := (hz r hr).2; omega⟩
  have HP := hid (ofPath_any L t _ aT aB m w (by omega) hsh S hv)
  have HZ := hid hz
  have HS := hid S
  have HT := hid htab
  have hll := ofP_len t L
  clear hv S htab hz hsh
  go_enter Tryz.func25, Tryz.ntmps25
  go_wp2_with fail
  refine HP.out.mono ?_
  rintro e w1 ⟨v1, rfl, he, hb⟩
  have HV := hid (versions_any (ofP t L) v1 aT aB m w1 (by omega) (fun r hr => (HZ.out r (List.mem_filter.1 hr).1).2) (HS.out.below hb) (tab_below HT.out hb) he)
  have HB := hid hb
  obtain ⟨a1, c1, rfl, _⟩ := he
  clear hb
  go_wp2_with fail
  refine HV.out.mono ?_
  rintro e w2 ⟨u, rfl, X, h1, h2, h3⟩
  obtain ⟨ua, uc, hu⟩ := own_slN h1
  subst hu
  have HR := hid (⟨own_baseN h1 HB.out.size, h2, HB.out.trans (h3.mono HB.out.size)⟩ : _ ∧ _ ∧ Below w.heap.size w w2)
  clear h1 h2 h3
  go_wp2_with fail
  go_ret
  exact ⟨_, rfl, X, HR.out⟩
set_option maxRecDepth 100000 in
set_option maxHeartbeats 2000000 in
/-- index.Best. -/
theorem ibest_any (L : List Raw) (t : ByteArray) (v : Value) (aT aB : Addr) (m : Int) (w : World) (hL : L.length ≤ 1000) (hz : ∀ r, r ∈ L → r.1.1.size ≤ 80 ∧ r.1.2.size ≤ 80) (S : Vs w aT aB m) (htab : Lib.TabIs Tryz.prog w powName .u64 Lib.pow10Tab) (hv : EsAt w v L) :
    Calls Tryz.prog 69 #[v, .string t] w fun e w' => ∃ u, e = .returned u ∧ ∃ X, w'.ownsRow w.heap.size 9 1 u X.length (X.map Value.string) ∧ Kept (verL (bestR (ofP t L))) (verL (bestR (ofP t L))).length X ∧ Below w.heap.size w w' := by
  obtain ⟨a, c, rfl, _⟩ := id hv
  have hsh : shortR L := fun r hr => ⟨by have := (hz r hr).1; omega, by have := (hz r hr).2; omega⟩
  have HP := hid (ofPath_any L t _ aT aB m w (by omega) hsh S hv)
  have HSH := hid (hsh.filter (isP t))
  have HZ := hid hz
  have HS := hid S
  have HT := hid htab
  have hll := ofP_len t L
  have hlb := bestR_len (ofP t L)
  clear hv S htab hz hsh
  go_enter Tryz.func69, Tryz.ntmps69
  go_wp2_with fail
  refine HP.out.mono ?_
  rintro e w1 ⟨v1, rfl, he, hb⟩
  have HBE := hid (best_any (ofP t L) v1 aT aB m w1 (by omega) HSH.out (HS.out.below hb) he)
  have HB := hid hb
  obtain ⟨a1, c1, rfl, _⟩ := he
  clear hb
  go_wp2_with fail
  refine HBE.out.mono ?_
  rintro e w2 ⟨v2, rfl, he, hb⟩
  have HB2 := hid (HB.out.trans (hb.mono HB.out.size))
  have HV := hid (versions_any (bestR (ofP t L)) v2 aT aB m w2 (by omega) (fun r hr => (HZ.out r (List.mem_filter.1 (bestR_sub hr)).1).2) (HS.out.below HB2.out) (tab_below HT.out HB2.out) he)
  obtain ⟨a2, c2, rfl, _⟩ := he
  clear hb
  go_wp2_with fail
  refine HV.out.mono ?_
  rintro e w3 ⟨u, rfl, X, h1, h2, h3⟩
  obtain ⟨ua, uc, hu⟩ := own_slN h1
  subst hu
  have HR := hid (⟨own_baseN h1 HB2.out.size, h2, HB2.out.trans (h3.mono HB2.out.size)⟩ : _ ∧ _ ∧ Below w.heap.size w w3)
  clear h1 h2 h3
  go_wp2_with fail
  go_ret
  exact ⟨_, rfl, X, HR.out⟩
set_option maxRecDepth 100000 in
set_option maxHeartbeats 4000000 in
/-- index.Latest. -/
theorem latest_any (L : List Raw) (t : ByteArray) (v : Value) (aT aB : Addr) (m : Int) (w : World) (hL : L.length ≤ 1000) (hz : ∀ r, r ∈ L → r.1.1.size ≤ 80 ∧ r.1.2.size ≤ 80) (S : Vs w aT aB m) (htab : Lib.TabIs Tryz.prog w powName .u64 Lib.pow10Tab) (hv : EsAt w v L) :
    Calls Tryz.prog 26 #[v, .string t] w fun e w' => ∃ X, e = .returned (.string (lastT X)) ∧ Kept (verL (bestR (ofP t L))) (verL (bestR (ofP t L))).length X ∧ Below w.heap.size w w' := by
  obtain ⟨a, c, rfl, _⟩ := id hv
  have HP := hid (ibest_any L t _ aT aB m w hL hz S htab hv)
  clear hv S htab hz
  go_enter Tryz.func26, Tryz.ntmps26
  go_wp2_with fail
  refine HP.out.mono ?_
  rintro e w3 ⟨u, rfl, X, h1, h2, h3⟩
  obtain ⟨ua, uc, hu, _, hcell⟩ := own_tx h1
  subst hu
  have HR := hid (⟨h2, h3⟩ : _ ∧ Below w.heap.size w w3)
  have HCC := hid hcell
  have hmx := own_max h1
  clear h1 h2 h3 hcell
  by_cases hX : 0 < X.length
  · obtain ⟨b, o, rfl, hcc⟩ := HCC.out (by intro h; rw [h] at hX; simp at hX)
    have hlast := hcc (X.length - 1) (by omega)
    have HLT := hid (lastT_get hX)
    rw [← HLT.out] at hlast
    have hne : ((X.length : Int) == 0) = false := by rw [beq_eq_false_iff_ne]; omega
    have hx1 : (X.length : Int) - 1 = ((X.length - 1 : Nat) : Int) := by omega
    have hx2 : ((X.length - 1 : Nat) : Int) < (X.length : Int) := by omega
    have hw64 : wrap64 ((X.length - 1 : Nat) : Int) = ((X.length - 1 : Nat) : Int) := IntWalk.wrap64_in _ (by unfold maxLen at hmx; omega)
    have htn : ((X.length - 1 : Nat) : Int).toNat = X.length - 1 := Int.toNat_natCast _
    clear hcc
    go_wp2_with fail
    go_ret
    exact ⟨X, rfl, HR.out⟩
  · have hx0 : X = [] := List.eq_nil_of_length_eq_zero (by omega)
    subst hx0
    go_wp2_with fail
    go_ret
    exact ⟨[], rfl, HR.out⟩
end Ve
end Go.Proofs.YtanponneancajaaGreatDoor

/-
  Modules whose paths rise, plain: what is ahead of a path, what is behind it, and what is at it.
-/
namespace Go.Proofs.YtanponneancajaaGreatDoor
open Go.RowKit
namespace Ve

theorem cbt : ∀ (a b c : List UInt8), Lib.compareBytes a b < 0 → Lib.compareBytes b c < 0 → Lib.compareBytes a c < 0 := by
  intro a
  induction a with
  | nil =>
    intro b c h1 h2
    cases c with
    | nil => cases b <;> simp [Lib.compareBytes] at h2
    | cons z c => simp [Lib.compareBytes]
  | cons x a ih =>
    intro b c h1 h2
    cases b with
    | nil => simp [Lib.compareBytes] at h1
    | cons y b =>
      cases c with
      | nil => simp [Lib.compareBytes] at h2
      | cons z c =>
        simp only [Lib.compareBytes] at h1 h2 ⊢
        by_cases e1 : x < y
        · by_cases e2 : y < z
          · rw [if_pos (UInt8.lt_trans e1 e2)]; omega
          · rw [if_neg e2] at h2
            by_cases e3 : z < y
            · rw [if_pos e3] at h2; omega
            · have : y = z := UInt8.le_antisymm (UInt8.not_lt.1 e3) (UInt8.not_lt.1 e2)
              subst this
              rw [if_pos e1]; omega
        · rw [if_neg e1] at h1
          by_cases e2 : y < x
          · rw [if_pos e2] at h1; omega
          · have : x = y := UInt8.le_antisymm (UInt8.not_lt.1 e2) (UInt8.not_lt.1 e1)
            subst this
            rw [if_neg e2] at h1
            by_cases e3 : x < z
            · rw [if_pos e3]; omega
            · rw [if_neg e3] at h2 ⊢
              by_cases e4 : z < x
              · rw [if_pos e4] at h2; omega
              · rw [if_neg e4] at h2 ⊢
                exact ih b c h1 h2
/-- Less, by bytes. -/
def lt (a b : ByteArray) : Bool := decide (Lib.compareBytes a.data.toList b.data.toList < 0)
theorem lt_trans {a b c : ByteArray} (h1 : lt a b = true) (h2 : lt b c = true) : lt a c = true := decide_eq_true (cbt _ _ _ (of_decide_eq_true h1) (of_decide_eq_true h2))
theorem lt_irrefl (a : ByteArray) : lt a a = false := by
  unfold lt; rw [(cb_zero _ _).2 rfl]; rfl
theorem lt_asymm {a b : ByteArray} (h : lt a b = true) : lt b a = false := by
  cases h2 : lt b a
  · rfl
  · have := lt_trans h h2
    rw [lt_irrefl] at this; cases this
theorem lt_three (a b : ByteArray) : lt a b = true ∨ a = b ∨ lt b a = true := by
  rcases cb_range a.data.toList b.data.toList with h | h | h
  · exact Or.inl (decide_eq_true (by omega))
  · exact Or.inr (Or.inl (str_ext ((cb_zero _ _).1 h)))
  · refine Or.inr (Or.inr (decide_eq_true ?_))
    rw [cb_swap]; omega
theorem noLess_lt (a b : ByteArray) : noLess a b = !lt a b := rfl
/-- Paths rise. -/
def rising (R : List Bm) : Prop := R.Pairwise (fun a b => lt a.1 b.1 = true)
theorem rising_of {own : ByteArray} {R : List Bm} (h : ∀ j, j < R.length → reqE own R j = 0) : rising R := by
  have hc : ∀ j, (hj : j + 1 < R.length) → lt R[j].1 R[j + 1].1 = true := by
    intro j hj
    have h1 := h (j + 1) hj
    unfold reqE prevOf at h1
    rw [List.getElem?_eq_getElem hj, if_neg (by omega)] at h1
    simp only [Nat.add_sub_cancel] at h1
    rw [List.getElem?_eq_getElem (show j < R.length by omega)] at h1
    unfold reqW at h1
    simp only at h1
    by_cases e1 : mErr R[j + 1] = 0
    · rw [if_pos e1] at h1
      by_cases e2 : R[j + 1].1 = own
      · rw [if_pos e2] at h1; omega
      · rw [if_neg e2] at h1
        rw [noLess_lt] at h1
        cases e3 : lt R[j].1 R[j + 1].1
        · rw [e3] at h1; simp at h1
        · rfl
    · rw [if_neg e1] at h1; exact absurd h1 e1
  unfold rising
  rw [List.pairwise_iff_getElem]
  intro i j hi hj hij
  induction j with
  | zero => omega
  | succ j ih =>
    rcases Nat.lt_or_ge i j with hh | hh
    · exact lt_trans (ih (by omega) hh) (hc j hj)
    · have : i = j := by omega
      subst this
      exact hc i hj
def loR (R : List Bm) (p : ByteArray) : List Bm := R.filter (fun m => lt m.1 p)
def hiR (R : List Bm) (p : ByteArray) : List Bm := R.filter (fun m => lt p m.1)
def eqR (R : List Bm) (p : ByteArray) : List Bm := R.filter (fun m => decide (m.1 = p))
theorem three_R {R : List Bm} (h : rising R) (p : ByteArray) : R = loR R p ++ (eqR R p ++ hiR R p) ∧ ((eqR R p = [] ∧ ∀ m, m ∈ R → m.1 ≠ p) ∨ ∃ q, eqR R p = [q] ∧ q.1 = p) := by
  induction R with
  | nil => exact ⟨rfl, Or.inl ⟨rfl, fun m hm => by cases hm⟩⟩
  | cons a r ih =>
    have hr : rising r := (List.pairwise_cons.1 h).2
    have ha : ∀ m, m ∈ r → lt a.1 m.1 = true := (List.pairwise_cons.1 h).1
    obtain ⟨e, hq⟩ := ih hr
    rcases lt_three a.1 p with h1 | h1 | h1
    · have h2 := lt_asymm h1
      have h3 : a.1 ≠ p := fun e => by rw [e, lt_irrefl] at h1; cases h1
      have e1 : loR (a :: r) p = a :: loR r p := by unfold loR; rw [List.filter_cons_of_pos (by simpa using h1)]
      have e2 : hiR (a :: r) p = hiR r p := by unfold hiR; rw [List.filter_cons_of_neg (by simp [h2])]
      have e3 : eqR (a :: r) p = eqR r p := by unfold eqR; rw [List.filter_cons_of_neg (by simp [h3])]
      rw [e1, e2, e3]
      refine ⟨by rw [List.cons_append, ← e], ?_⟩
      rcases hq with ⟨q1, q2⟩ | hq
      · refine Or.inl ⟨q1, fun m hm => ?_⟩
        rcases List.mem_cons.1 hm with rfl | hm
        · exact h3
        · exact q2 m hm
      · exact Or.inr hq
    · have hl : loR r p = [] := by
        unfold loR; rw [List.filter_eq_nil_iff]; intro m hm
        have := lt_asymm (ha m hm); rw [h1] at this; simp [this]
      have he : eqR r p = [] := by
        unfold eqR; rw [List.filter_eq_nil_iff]; intro m hm
        have := ha m hm
        simp only [decide_eq_true_eq]
        intro e; rw [h1, e, lt_irrefl] at this; cases this
      have e1 : loR (a :: r) p = [] := by unfold loR; rw [List.filter_cons_of_neg (by rw [h1, lt_irrefl]; simp)]; exact hl
      have e2 : hiR (a :: r) p = hiR r p := by unfold hiR; rw [List.filter_cons_of_neg (by rw [h1, lt_irrefl]; simp)]
      have e3 : eqR (a :: r) p = [a] := by unfold eqR; rw [List.filter_cons_of_pos (by simp [h1])]; exact congrArg (a :: ·) he
      rw [e1, e2, e3]
      rw [hl, he] at e
      exact ⟨by rw [List.nil_append, List.singleton_append]; exact congrArg (a :: ·) e, Or.inr ⟨a, rfl, h1⟩⟩
    · have hg : ∀ m, m ∈ a :: r → lt p m.1 = true := fun m hm => by
        rcases List.mem_cons.1 hm with rfl | hm
        · exact h1
        · exact lt_trans h1 (ha m hm)
      have e1 : loR (a :: r) p = [] := by
        unfold loR; rw [List.filter_eq_nil_iff]; intro m hm; rw [lt_asymm (hg m hm)]; simp
      have e3 : eqR (a :: r) p = [] := by
        unfold eqR; rw [List.filter_eq_nil_iff]; intro m hm
        have := hg m hm
        simp only [decide_eq_true_eq]
        intro e; rw [e, lt_irrefl] at this; cases this
      have e2 : hiR (a :: r) p = a :: r := by unfold hiR; rw [List.filter_eq_self]; exact hg
      rw [e1, e2, e3]
      refine ⟨rfl, Or.inl ⟨rfl, fun m hm e => ?_⟩⟩
      have := hg m hm
      rw [e, lt_irrefl] at this; cases this
/-- What is required once m is set; once a path is dropped. -/
def setR (R : List Bm) (m : Bm) : List Bm := loR R m.1 ++ m :: hiR R m.1
def dropR (R : List Bm) (p : ByteArray) : List Bm := loR R p ++ hiR R p
theorem loR_mem {R : List Bm} {p : ByteArray} {m : Bm} : m ∈ loR R p ↔ m ∈ R ∧ lt m.1 p = true := List.mem_filter
theorem hiR_mem {R : List Bm} {p : ByteArray} {m : Bm} : m ∈ hiR R p ↔ m ∈ R ∧ lt p m.1 = true := List.mem_filter
theorem loR_set (R : List Bm) (m : Bm) : loR (setR R m) m.1 = loR R m.1 := by
  unfold setR loR
  rw [List.filter_append, List.filter_filter, List.filter_cons_of_neg (by rw [lt_irrefl]; simp)]
  have e1 : (hiR R m.1).filter (fun x => lt x.1 m.1) = [] := by
    rw [List.filter_eq_nil_iff]; intro x hx; rw [lt_asymm (hiR_mem.1 hx).2]; simp
  rw [e1, List.append_nil]
  simp
theorem hiR_set (R : List Bm) (m : Bm) : hiR (setR R m) m.1 = hiR R m.1 := by
  unfold setR
  have e0 : ∀ (a b : List Bm), hiR (a ++ b) m.1 = hiR a m.1 ++ hiR b m.1 := fun a b => List.filter_append _ _
  rw [e0]
  have e1 : hiR (loR R m.1) m.1 = [] := by
    unfold hiR; rw [List.filter_eq_nil_iff]; intro x hx; rw [lt_asymm (loR_mem.1 hx).2]; simp
  have e2 : hiR (m :: hiR R m.1) m.1 = hiR R m.1 := by
    unfold hiR; rw [List.filter_cons_of_neg (by rw [lt_irrefl]; simp), List.filter_filter]; simp
  rw [e1, e2, List.nil_append]
theorem drop_set (R : List Bm) (m : Bm) : dropR (setR R m) m.1 = dropR R m.1 := by unfold dropR; rw [loR_set, hiR_set]
theorem drop_mem {R : List Bm} {p : ByteArray} {m : Bm} : m ∈ dropR R p ↔ m ∈ R ∧ m.1 ≠ p := by
  unfold dropR
  rw [List.mem_append, loR_mem, hiR_mem]
  constructor
  · rintro (⟨h1, h2⟩ | ⟨h1, h2⟩)
    · exact ⟨h1, fun e => by rw [e, lt_irrefl] at h2; cases h2⟩
    · exact ⟨h1, fun e => by rw [e, lt_irrefl] at h2; cases h2⟩
  · rintro ⟨h1, h2⟩
    rcases lt_three m.1 p with h | h | h
    · exact Or.inl ⟨h1, h⟩
    · exact absurd h h2
    · exact Or.inr ⟨h1, h⟩
theorem rising_drop {R : List Bm} (h : rising R) (p : ByteArray) : dropR R p = R.filter (fun m => decide (m.1 ≠ p)) := by
  obtain ⟨e, hq⟩ := three_R h p
  have e0 : ∀ (a b : List Bm), (a ++ b).filter (fun m => decide (m.1 ≠ p)) = a.filter (fun m => decide (m.1 ≠ p)) ++ b.filter (fun m => decide (m.1 ≠ p)) := fun a b => List.filter_append _ _
  have e1 : (loR R p).filter (fun m => decide (m.1 ≠ p)) = loR R p := by
    rw [List.filter_eq_self]; intro x hx
    have := (loR_mem.1 hx).2
    exact decide_eq_true (fun e => by rw [e, lt_irrefl] at this; cases this)
  have e2 : (hiR R p).filter (fun m => decide (m.1 ≠ p)) = hiR R p := by
    rw [List.filter_eq_self]; intro x hx
    have := (hiR_mem.1 hx).2
    exact decide_eq_true (fun e => by rw [e, lt_irrefl] at this; cases this)
  have e3 : (eqR R p).filter (fun m => decide (m.1 ≠ p)) = [] := by
    rw [List.filter_eq_nil_iff]; intro x hx
    have : x.1 = p := of_decide_eq_true (List.mem_filter.1 hx).2
    simp [this]
  conv => rhs; rw [e, e0, e0, e1, e2, e3]
  rfl
end Ve
end Go.Proofs.YtanponneancajaaGreatDoor

/-
  An index that is right, plain: its modules are unlike, and rise.
-/
namespace Go.Proofs.YtanponneancajaaGreatDoor
open Go.RowKit
namespace Ve

/-! The index. -/
theorem mAhead_trans {a b c : Bm} (h1 : mAhead a b = true) (h2 : mAhead b c = true) : mAhead a c = true := by
  unfold mAhead aheadB at *
  by_cases e1 : a.1.data.toList = b.1.data.toList
  · rw [if_pos e1] at h1
    rw [e1]
    by_cases e2 : b.1.data.toList = c.1.data.toList
    · rw [if_pos e2] at h2 ⊢
      unfold lessB at *
      simp only [Bool.and_eq_true, decide_eq_true_eq] at *
      exact ⟨h1.1, h2.2.1, ordV_trans h1.2.2 h2.2.2⟩
    · rw [if_neg e2] at h2 ⊢; exact h2
  · rw [if_neg e1] at h1
    by_cases e2 : b.1.data.toList = c.1.data.toList
    · rw [← e2, if_neg e1]; exact h1
    · rw [if_neg e2] at h2
      have h3 := cbt _ _ _ (of_decide_eq_true h1) (of_decide_eq_true h2)
      by_cases e3 : a.1.data.toList = c.1.data.toList
      · rw [e3] at h3
        have := lt_irrefl c.1
        unfold lt at this
        exact absurd h3 (of_decide_eq_false this)
      · rw [if_neg e3]; exact decide_eq_true h3
theorem mAhead_irr (a : Bm) : mAhead a a = false := by
  unfold mAhead aheadB
  rw [if_pos rfl]
  unfold lessB
  have : ¬ ordV a.2.data.toList a.2.data.toList < 0 := fun h => ordV_irr h h
  rw [decide_eq_false this, Bool.and_false, Bool.and_false]
/-- What a right index gives. -/
theorem chk_each0 {Q : List Raw} {L : List Ent} (h : (chk Q L).1 = 0) : L.length ≤ 100 ∧ ∀ i, i < L.length → entE L i = 0 := by
  by_cases h1 : 100 < L.length
  · rw [chk_full h1] at h; exact absurd h (by decide)
  · refine ⟨by omega, ?_⟩
    cases hf : fstE (entE L) L.length with
    | some i =>
      rw [chk_each h1 hf] at h
      exact absurd h (fstE_of_some hf).2.1
    | none => exact fstE_of_none hf
theorem entE_mod {L : List Ent} {i : Nat} (hi : i < L.length) (h : entE L i = 0) : mErr L[i].1 = 0 := by
  by_cases hm : mErr L[i].1 = 0
  · exact hm
  · unfold entE at h
    rw [List.getElem?_eq_getElem hi] at h
    simp only at h
    rw [entW_bad hm] at h
    exact absurd h hm
theorem entE_ahead {L : List Ent} {k : Nat} (hk : k + 1 < L.length) (h : entE L (k + 1) = 0) : mAhead (L[k]'(by omega)).1 L[k + 1].1 = true := by
  have hm := entE_mod hk h
  rw [entE_1 hk] at h
  cases ha : mAhead (L[k]'(by omega)).1 L[k + 1].1
  · rw [entW_order hm ha] at h; exact absurd h (by decide)
  · rfl
theorem ahead_all {L : List Ent} (h : ∀ i, i < L.length → entE L i = 0) : ∀ (d i : Nat) (hi : i + d + 1 < L.length), mAhead (L[i]'(by omega)).1 (L[i + d + 1]'hi).1 = true
  | 0, i, hi => entE_ahead hi (h _ hi)
  | d + 1, i, hi => mAhead_trans (ahead_all h d i (by omega)) (entE_ahead (k := i + d + 1) hi (h _ hi))
/-- An index that is right. -/
structure Good (Q : List Raw) : Prop where
  ver : ∀ r, r ∈ Q → verErr r.1.2.data.toList = 0
  path : ∀ r, r ∈ Q → pathErr r.1.1.data.toList = 0
  one : ∀ i j (hi : i < Q.length) (hj : j < Q.length), Q[i].1 = Q[j].1 → i = j
theorem mErr_zero {m : Bm} (h : mErr m = 0) : pathErr m.1.data.toList = 0 ∧ verErr m.2.data.toList = 0 := by
  unfold mErr modErr at h
  by_cases h0 : pathErr m.1.data.toList = 0
  · rw [if_pos h0] at h
    by_cases h1 : verErr m.2.data.toList = 0
    · exact ⟨h0, h1⟩
    · rw [if_neg h1] at h; exact absurd h h1
  · rw [if_neg h0] at h; exact absurd h h0
theorem good_of {w : World} {v : Value} {Q : List Raw} {L : List Ent} (I : Ixs w v Q L) (h : (chk Q L).1 = 0) : Good Q := by
  obtain ⟨_, he⟩ := chk_each0 h
  have hm : ∀ i (hi : i < Q.length), Q[i].1 = (L[i]'(by rw [← I.ln]; exact hi)).1 := fun i hi => (I.ok i hi (by rw [← I.ln]; exact hi)).m
  have hz : ∀ i (hi : i < Q.length), pathErr Q[i].1.1.data.toList = 0 ∧ verErr Q[i].1.2.data.toList = 0 := fun i hi => by
    rw [hm i hi]; exact mErr_zero (entE_mod _ (he i (by rw [← I.ln]; exact hi)))
  refine ⟨fun r hr => ?_, fun r hr => ?_, ?_⟩
  · obtain ⟨i, hi, rfl⟩ := List.getElem_of_mem hr
    exact (hz i hi).2
  · obtain ⟨i, hi, rfl⟩ := List.getElem_of_mem hr
    exact (hz i hi).1
  · have key : ∀ i j (hi : i < Q.length) (hj : j < Q.length), i < j → Q[i].1 ≠ Q[j].1 := fun i j hi hj hij e => by
      have ha := ahead_all he (j - i - 1) i (by rw [← I.ln]; omega)
      have hjj : i + (j - i - 1) + 1 = j := by omega
      simp only [hjj] at ha
      rw [← hm i hi, ← hm j hj, e, mAhead_irr] at ha
      cases ha
    intro i j hi hj e
    rcases Nat.lt_trichotomy i j with h1 | h1 | h1
    · exact absurd e (key i j hi hj h1)
    · exact h1
    · exact absurd e.symm (key j i hj hi h1)
theorem Good.same {Q : List Raw} (g : Good Q) {r s : Raw} (hr : r ∈ Q) (hs : s ∈ Q) (h : r.1 = s.1) : r = s := by
  obtain ⟨i, hi, rfl⟩ := List.getElem_of_mem hr
  obtain ⟨j, hj, rfl⟩ := List.getElem_of_mem hs
  have := g.one i j hi hj h
  subst this; rfl
/-- The entry of a module is found. -/
theorem Good.find {Q : List Raw} (g : Good Q) {r : Raw} (hr : r ∈ Q) : ∃ n, ∃ hn : n < Q.length, idxOf (isM r.1) Q = (n : Int) ∧ Q[n] = r := by
  obtain ⟨i, hi, e⟩ := List.getElem_of_mem hr
  refine ⟨i, hi, idx_hit hi (fun j hj hji => ?_) (by rw [e]; unfold isM; simp), e⟩
  unfold isM
  rw [decide_eq_false]
  rintro ⟨h1, h2⟩
  have := g.one j i hj hi (by rw [e]; exact Prod.ext h1 h2)
  omega
end Ve
end Go.Proofs.YtanponneancajaaGreatDoor

/-
  An index that is right, plain: its modules are unlike; each path once; the versions of a path, counted; the latest one.
-/
namespace Go.Proofs.YtanponneancajaaGreatDoor
open Go.RowKit
namespace Ve

/-! Sorted and each once. -/
theorem cut_mem (d : Array (List UInt8)) (t : List UInt8) : ∀ m, t ∈ Lib.compactUpTo d m ↔ ∃ j, j < m ∧ d[j]! = t
  | 0 => by simp [Lib.compactUpTo]
  | m + 1 => by
    rw [Lib.compactUpTo_succ, List.mem_append, cut_mem d t m]
    constructor
    · rintro (⟨j, hj, e⟩ | h)
      · exact ⟨j, by omega, e⟩
      · split at h
        · exact ⟨m, by omega, (by simpa using h : t = d[m]!).symm⟩
        · simp at h
    · rintro ⟨j, hj, e⟩
      by_cases hjm : j < m
      · exact Or.inl ⟨j, hjm, e⟩
      · have : j = m := by omega
        subst this
        cases hk : Lib.keeps d j
        · left
          have : j ≠ 0 ∧ d[j]! = d[j - 1]! := by
            have h2 : decide (j = 0 ∨ d[j]! ≠ d[j - 1]!) = false := hk
            have h3 := of_decide_eq_false h2
            exact ⟨fun h => h3 (Or.inl h), by
              by_cases h4 : d[j]! = d[j - 1]!
              · exact h4
              · exact absurd (Or.inr h4) h3⟩
          exact ⟨j - 1, by omega, this.2 ▸ e⟩
        · right; simp [e]
theorem le_anti {a b : List UInt8} (h1 : a ≤ b) (h2 : b ≤ a) : a = b := List.le_antisymm h1 h2
theorem cut_nodup (d : Array (List UInt8)) (hs : ∀ i j, i < j → j < d.size → d[i]! ≤ d[j]!) : ∀ m, m ≤ d.size → (Lib.compactUpTo d m).Nodup
  | 0, _ => by simp [Lib.compactUpTo]
  | m + 1, hm => by
    rw [Lib.compactUpTo_succ, List.nodup_append]
    refine ⟨cut_nodup d hs m (by omega), by split <;> simp, ?_⟩
    intro a ha b hb hab
    subst hab
    split at hb
    · rename_i hk
      have hb : a = d[m]! := by simpa using hb
      obtain ⟨j, hj, e⟩ := (cut_mem d a m).1 ha
      have h2 : decide (m = 0 ∨ d[m]! ≠ d[m - 1]!) = true := hk
      rcases of_decide_eq_true h2 with h3 | h3
      · omega
      · apply h3
        by_cases hj1 : j = m - 1
        · rw [← hb, ← e, hj1]
        · have q1 := hs j (m - 1) (by omega) (by omega)
          have q2 := hs (m - 1) m (by omega) (by omega)
          rw [e] at q1
          rw [← hb] at q2 ⊢
          exact le_anti q1 q2
    · simp at hb
theorem srtB_mem {Z : List (List UInt8)} {t : List UInt8} : t ∈ srtB Z ↔ t ∈ Z := by unfold srtB; exact List.mem_mergeSort
theorem srtB_le (Z : List (List UInt8)) : (srtB Z).Pairwise fun x y => x ≤ y := by
  unfold srtB
  have := List.pairwise_mergeSort (le := fun x y : List UInt8 => decide (x ≤ y)) (fun a b c h1 h2 => decide_eq_true (List.le_trans (of_decide_eq_true h1) (of_decide_eq_true h2)))
    (fun a b => by
      rcases List.le_total a b with h | h
      · simp [h]
      · simp [h]) Z
  exact this.imp fun h => of_decide_eq_true h
theorem risB_mem {Z : List (List UInt8)} {t : List UInt8} : t ∈ risB Z ↔ t ∈ Z := by
  unfold risB Lib.compact
  rw [cut_mem, ← srtB_mem (Z := Z)]
  constructor
  · rintro ⟨j, hj, e⟩
    rw [← e, getElem!_pos _ j (by simpa using hj)]
    simp
  · intro h
    obtain ⟨j, hj, e⟩ := List.getElem_of_mem h
    exact ⟨j, hj, by rw [getElem!_pos _ j (by simpa using hj)]; simpa using e⟩
theorem risB_nodup (Z : List (List UInt8)) : (risB Z).Nodup := by
  unfold risB Lib.compact
  refine cut_nodup _ (fun i j hij hj => ?_) _ (by simp)
  have hj' : j < (srtB Z).length := by simpa using hj
  rw [getElem!_pos _ i (by simp; omega), getElem!_pos _ j (by simpa using hj')]
  simpa using List.pairwise_iff_getElem.1 (srtB_le Z) i j (by omega) hj' hij

theorem Good.ofP {Q : List Raw} (g : Good Q) (t : ByteArray) : ofP t Q = Q.filter fun r => decide (r.1.1 = t) := by
  unfold Ve.ofP
  refine List.filter_congr fun r hr => ?_
  unfold isP
  rw [decide_eq_true (g.ver r hr), Bool.and_true]
theorem Good.ofP_mem {Q : List Raw} (g : Good Q) {t : ByteArray} {r : Raw} : r ∈ Ve.ofP t Q ↔ r ∈ Q ∧ r.1.1 = t := by
  rw [g.ofP t, List.mem_filter, decide_eq_true_iff]

/-! The versions of a path, counted. -/
theorem nodup_len {α : Type} [DecidableEq α] : ∀ {a b : List α}, a.Nodup → b.Nodup → (∀ x, x ∈ a ↔ x ∈ b) → a.length = b.length
  | [], b, _, _, h => by
    cases b with
    | nil => rfl
    | cons y s => exact absurd ((h y).2 (by simp)) (by simp)
  | x :: a, b, ha, hb, h => by
    have hx : x ∈ b := (h x).1 (by simp)
    have hl := List.length_erase_of_mem hx
    obtain ⟨h1, h2⟩ := List.nodup_cons.1 ha
    have hne : 0 < b.length := List.length_pos_of_mem hx
    have := nodup_len h2 (hb.erase x) (fun z => by
      rw [hb.mem_erase_iff, ← h z, List.mem_cons]
      constructor
      · intro hz; exact ⟨fun e => h1 (e ▸ hz), Or.inr hz⟩
      · rintro ⟨e, h3 | h3⟩
        · exact absurd h3 e
        · exact h3)
    rw [List.length_cons, this, hl]; omega
theorem Good.pair {Q : List Raw} (g : Good Q) : Q.Pairwise fun r s => r.1 ≠ s.1 :=
  List.pairwise_iff_getElem.2 fun i j hi hj hij e => by have := g.one i j hi hj e; omega
theorem Good.verNodup {Q : List Raw} (g : Good Q) (t : ByteArray) : (bl (verL (Ve.ofP t Q))).Nodup := by
  have h1 : (Ve.ofP t Q).Pairwise fun r s => r.1 ≠ s.1 := List.Pairwise.sublist List.filter_sublist g.pair
  have h2 : (Ve.ofP t Q).Pairwise fun r s => r.1.2.data.toList ≠ s.1.2.data.toList := List.Pairwise.imp_of_mem (fun {r s} hr hs hne e => hne (Prod.ext (((g.ofP_mem.1 hr).2).trans ((g.ofP_mem.1 hs).2).symm) (str_ext e))) h1
  unfold bl verL
  rw [List.map_map]
  exact List.pairwise_map.2 h2
theorem kept_mem {L X : List ByteArray} (hK : Kept L L.length X) (hv : ∀ x, x ∈ L → verErr x.data.toList = 0) (t : List UInt8) : t ∈ bl X ↔ t ∈ bl L := by
  have := hK.2 t
  rw [List.take_length] at this
  rw [this]
  constructor
  · exact fun h => h.1
  · intro h
    refine ⟨h, ?_⟩
    obtain ⟨x, hx, rfl⟩ := List.mem_map.1 h
    exact hv x hx
theorem rises_nd {l : List (List UInt8)} (h : rises l) : l.Nodup := List.Pairwise.imp (fun {a b} h e => by subst e; exact ordV_irr h h) h
theorem verL_ok {Q R : List Raw} (g : Good Q) (hR : ∀ r, r ∈ R → r ∈ Q) : ∀ x, x ∈ verL R → verErr x.data.toList = 0 := fun x hx => by
  obtain ⟨r, hr, rfl⟩ := List.mem_map.1 hx
  exact g.ver r (hR r hr)
theorem ofP_sub {Q : List Raw} {t : ByteArray} : ∀ r, r ∈ ofP t Q → r ∈ Q := fun _ hr => (List.mem_filter.1 hr).1
theorem kept_len {Q : List Raw} (g : Good Q) {t : ByteArray} {X : List ByteArray} (hK : Kept (verL (ofP t Q)) (verL (ofP t Q)).length X) : X.length = (ofP t Q).length := by
  have := nodup_len (rises_nd hK.1) (g.verNodup t) (kept_mem hK (verL_ok g ofP_sub))
  rw [bl_len, bl_len, verL_len] at this; exact this
theorem kept_has {Q R : List Raw} (g : Good Q) (hR : ∀ r, r ∈ R → r ∈ Q) {X : List ByteArray} (hK : Kept (verL R) (verL R).length X) {x : ByteArray} (hx : x ∈ X) : ∃ r, r ∈ R ∧ r.1.2 = x := by
  have h1 : x.data.toList ∈ bl X := List.mem_map.2 ⟨x, hx, rfl⟩
  obtain ⟨y, hy, e⟩ := List.mem_map.1 ((kept_mem hK (verL_ok g hR) _).1 h1)
  obtain ⟨r, hr, rfl⟩ := List.mem_map.1 hy
  exact ⟨r, hr, str_ext e⟩
theorem kept_in {Q R : List Raw} (g : Good Q) (hR : ∀ r, r ∈ R → r ∈ Q) {X : List ByteArray} (hK : Kept (verL R) (verL R).length X) {r : Raw} (hr : r ∈ R) : r.1.2 ∈ X := by
  have h1 : r.1.2.data.toList ∈ bl (verL R) := List.mem_map.2 ⟨r.1.2, List.mem_map.2 ⟨r, hr, rfl⟩, rfl⟩
  obtain ⟨y, hy, e⟩ := List.mem_map.1 ((kept_mem hK (verL_ok g hR) _).2 h1)
  rw [← str_ext e]; exact hy
/-- The paths of an index, each once. -/
def pathsT (Q : List Raw) : List ByteArray := tx (risB (bl (pathL Q)))
theorem tx_mem {Z : List (List UInt8)} {x : ByteArray} : x ∈ tx Z ↔ x.data.toList ∈ Z := by
  constructor
  · intro h
    obtain ⟨t, ht, rfl⟩ := List.mem_map.1 h
    rw [show (ba' t).data.toList = t by simp [ba']]; exact ht
  · intro h
    exact List.mem_map.2 ⟨_, h, str_ext (by simp [ba'])⟩
theorem pathsT_mem {Q : List Raw} {t : ByteArray} : t ∈ pathsT Q ↔ ∃ r, r ∈ Q ∧ r.1.1 = t := by
  unfold pathsT
  rw [tx_mem, risB_mem]
  constructor
  · intro h
    obtain ⟨x, hx, e⟩ := List.mem_map.1 h
    obtain ⟨r, hr, rfl⟩ := List.mem_map.1 hx
    exact ⟨r, hr, str_ext e⟩
  · rintro ⟨r, hr, rfl⟩
    exact List.mem_map.2 ⟨_, List.mem_map.2 ⟨r, hr, rfl⟩, rfl⟩
theorem pathsT_nodup (Q : List Raw) : (pathsT Q).Nodup := by
  have h := risB_nodup (bl (pathL Q))
  rw [← bl_tx (risB (bl (pathL Q)))] at h
  exact List.Pairwise.imp (fun {a b} hne e => hne (by rw [e])) (List.pairwise_map.1 h)
theorem sum_add (f g : ByteArray → Nat) : ∀ T : List ByteArray, (T.map fun t => f t + g t).sum = (T.map f).sum + (T.map g).sum
  | [] => rfl
  | t :: T => by
    simp only [List.map_cons, List.sum_cons]
    rw [sum_add f g T]; omega
theorem sum_one {a : ByteArray} : ∀ {T : List ByteArray}, T.Nodup → a ∈ T → (T.map fun t => if a = t then 1 else 0).sum = 1
  | [], _, h => absurd h (by simp)
  | t :: T, hn, h => by
    obtain ⟨h1, h2⟩ := List.nodup_cons.1 hn
    simp only [List.map_cons, List.sum_cons]
    by_cases e : a = t
    · rw [if_pos e]
      have hz : ∀ T' : List ByteArray, a ∉ T' → (T'.map fun t => if a = t then 1 else 0).sum = 0 := fun T' => by
        induction T' with
        | nil => intro _; rfl
        | cons y s ih =>
          intro hy
          simp only [List.map_cons, List.sum_cons]
          rw [if_neg (fun e => hy (by rw [e]; simp)), ih (fun hh => hy (List.mem_cons_of_mem _ hh))]
      rw [hz T (by rw [e]; exact h1)]
    · rw [if_neg e, sum_one h2 (by
        rcases List.mem_cons.1 h with h3 | h3
        · exact absurd h3 e
        · exact h3)]
theorem sum_paths (T : List ByteArray) (hn : T.Nodup) : ∀ Q : List Raw, (∀ r, r ∈ Q → r.1.1 ∈ T) → (T.map fun t => (Q.filter fun r => decide (r.1.1 = t)).length).sum = Q.length
  | [], _ => by
    have hz : ∀ T' : List ByteArray, (T'.map fun t => (([] : List Raw).filter fun r => decide (r.1.1 = t)).length).sum = 0 := fun T' => by
      induction T' with
      | nil => rfl
      | cons y s ih => simp only [List.map_cons, List.sum_cons]; rw [ih]; rfl
    exact hz T
  | r :: Q, h => by
    have e : (fun t => ((r :: Q).filter fun r => decide (r.1.1 = t)).length) = fun t => (Q.filter fun r => decide (r.1.1 = t)).length + (if r.1.1 = t then 1 else 0) := by
      funext t
      rw [List.filter_cons]
      by_cases h1 : r.1.1 = t
      · rw [if_pos (by simp [h1]), if_pos h1]; rfl
      · rw [if_neg (by simp [h1]), if_neg h1]; rfl
    rw [e, sum_add, sum_paths T hn Q (fun s hs => h s (List.mem_cons_of_mem _ hs)), sum_one hn (h r (by simp))]; rfl
/-- All versions of the first paths. -/
def manyN (Q : List Raw) (k : Nat) : Nat := (((pathsT Q).take k).map fun t => (ofP t Q).length).sum
theorem manyN_next {Q : List Raw} {k : Nat} (hk : k < (pathsT Q).length) : manyN Q (k + 1) = manyN Q k + (ofP (pathsT Q)[k] Q).length := by
  unfold manyN
  rw [List.take_succ_eq_append_getElem hk, List.map_append, List.sum_append]; simp
theorem manyN_all {Q : List Raw} (g : Good Q) : manyN Q (pathsT Q).length = Q.length := by
  unfold manyN
  rw [List.take_length, ← sum_paths (pathsT Q) (pathsT_nodup Q) Q (fun r hr => pathsT_mem.2 ⟨r, hr, rfl⟩)]
  congr 1
  refine List.map_congr_left fun t _ => ?_
  rw [g.ofP t]
theorem manyN_le {Q : List Raw} (g : Good Q) (k : Nat) : manyN Q k ≤ Q.length := by
  rw [← manyN_all g]
  unfold manyN
  rw [List.take_length]
  conv => rhs; rw [← List.take_append_drop k (pathsT Q), List.map_append, List.sum_append]
  omega

/-! The latest. -/
theorem bestR_ne {L : List Raw} (h : L ≠ []) : bestR L ≠ [] := by
  unfold bestR
  split
  · rename_i h1; intro e; rw [e] at h1; simp at h1
  · split
    · rename_i h1; intro e; rw [e] at h1; simp at h1
    · exact h
/-- What is liked as well as one of the best is one of the best. -/
theorem best_liked {Q L : List Raw} (g : Good Q) (hL : ∀ r, r ∈ L → r ∈ Q) {r s : Raw} (hr : r ∈ bestR L) (hs : s ∈ L) (h1 : (!s.2.2.2 || r.2.2.2) = true)
    (h2 : (decide ((preOf s.1.2.data.toList).length = 0) || (decide (0 < (preOf r.1.2.data.toList).length) || r.2.2.2)) = true) : s ∈ bestR L := by
  have hv : verErr s.1.2.data.toList = 0 := g.ver s (hL s hs)
  unfold bestR at hr ⊢
  split at hr
  · rename_i hd
    rw [if_pos hd]
    obtain ⟨hr1, hr2⟩ := List.mem_filter.1 hr
    obtain ⟨hr3, hr4⟩ := List.mem_filter.1 hr1
    have hvr : verErr r.1.2.data.toList = 0 := g.ver r (hL r hr3)
    have hb : r.2.2.2 = false := by unfold isS at hr4; simpa using hr4
    have hp : ¬ 0 < (preOf r.1.2.data.toList).length := by
      unfold isD preB at hr2
      rw [decide_eq_true hvr, Bool.true_and] at hr2
      simpa using hr2
    rw [hb, Bool.or_false] at h1
    rw [hb, decide_eq_false hp, Bool.or_false, Bool.or_false] at h2
    refine List.mem_filter.2 ⟨List.mem_filter.2 ⟨hs, by unfold isS; exact h1⟩, ?_⟩
    unfold isD preB
    have := of_decide_eq_true h2
    rw [decide_eq_false (by omega : ¬ 0 < (preOf s.1.2.data.toList).length), Bool.and_false]; rfl
  · rename_i hd
    rw [if_neg hd]
    split at hr
    · rename_i hd2
      rw [if_pos hd2]
      have hb : r.2.2.2 = false := by have := (List.mem_filter.1 hr).2; unfold isS at this; simpa using this
      rw [hb, Bool.or_false] at h1
      exact List.mem_filter.2 ⟨hs, by unfold isS; exact h1⟩
    · rename_i hd2
      rw [if_neg hd2]; exact hs
/-- The last of what is kept: one of them, and none is greater. -/
theorem kept_last {Q R : List Raw} (g : Good Q) (hR : ∀ r, r ∈ R → r ∈ Q) (hne : R ≠ []) {X : List ByteArray} (hK : Kept (verL R) (verL R).length X) :
    (∃ r, r ∈ R ∧ r.1.2 = lastT X) ∧ ∀ s, s ∈ R → ¬ ordV (lastT X).data.toList s.1.2.data.toList < 0 := by
  have hX : 0 < X.length := by
    obtain ⟨r, hr⟩ := List.exists_mem_of_ne_nil R hne
    exact List.length_pos_of_mem (kept_in g hR hK hr)
  have hl := lastT_get hX
  refine ⟨?_, fun s hs h => ?_⟩
  · rw [hl]; exact kept_has g hR hK (List.getElem_mem _)
  · have hin := kept_in g hR hK hs
    obtain ⟨j, hj, e⟩ := List.getElem_of_mem hin
    have hr := hK.1
    unfold rises at hr
    have hbl : (bl X).length = X.length := bl_len X
    rw [hl, ← e] at h
    by_cases hjl : j = X.length - 1
    · subst hjl; exact ordV_irr h h
    · have h2 := List.pairwise_iff_getElem.1 hr j (X.length - 1) (by omega) (by omega) (by omega)
      have g1 : (bl X)[j]'(by omega) = X[j].data.toList := by simp [bl]
      have g2 : (bl X)[X.length - 1]'(by omega) = (X[X.length - 1]'(by omega)).data.toList := by simp [bl]
      rw [g1, g2] at h2
      exact ordV_irr h h2
/-- The latest of a path that there is: its entry; what is liked as well is not greater. -/
structure Top (Q : List Raw) (t top : ByteArray) (at_ : Nat) : Prop where
  lt : at_ < Q.length
  idx : idxOf (isM (t, top)) Q = (at_ : Int)
  ver : verErr top.data.toList = 0
  no : ∀ s, s ∈ ofP t Q → (!s.2.2.2 || (Q[at_]'lt).2.2.2) = true → (decide ((preOf s.1.2.data.toList).length = 0) || (decide (0 < (preOf top.data.toList).length) || (Q[at_]'lt).2.2.2)) = true → lessB top.data.toList s.1.2.data.toList = false
theorem top_of {Q : List Raw} (g : Good Q) {t : ByteArray} (ht : t ∈ pathsT Q) {X : List ByteArray} (hK : Kept (verL (bestR (ofP t Q))) (verL (bestR (ofP t Q))).length X) : ∃ at_, Top Q t (lastT X) at_ := by
  obtain ⟨r0, hr0, e0⟩ := pathsT_mem.1 ht
  have hne : ofP t Q ≠ [] := List.ne_nil_of_mem (g.ofP_mem.2 ⟨hr0, e0⟩)
  have hsub : ∀ r, r ∈ bestR (ofP t Q) → r ∈ Q := fun r hr => ofP_sub r (bestR_sub hr)
  obtain ⟨⟨r, hr, er⟩, hmax⟩ := kept_last g hsub (bestR_ne hne) hK
  have hrq := g.ofP_mem.1 (bestR_sub hr)
  obtain ⟨n, hn, hi, hq⟩ := g.find hrq.1
  have hm : r.1 = (t, lastT X) := Prod.ext hrq.2 er
  refine ⟨n, hn, by rw [← hm]; exact hi, by rw [← er]; exact g.ver r hrq.1, fun s hs h1 h2 => ?_⟩
  rw [hq] at h1 h2
  rw [← er] at h2
  have hsb := best_liked g ofP_sub hr hs h1 h2
  unfold lessB
  rw [decide_eq_false (hmax s hsb), Bool.and_false, Bool.and_false]
/-- A version of a path that there is. -/
structure One (Q : List Raw) (t v : ByteArray) (n : Nat) : Prop where
  lt : n < Q.length
  idx : idxOf (isM (t, v)) Q = (n : Int)
  ver : verErr v.data.toList = 0
  mem : Q[n]'lt ∈ ofP t Q
  same : (Q[n]'lt).1.2 = v
theorem one_of {Q : List Raw} (g : Good Q) {t v : ByteArray} {X : List ByteArray} (hK : Kept (verL (ofP t Q)) (verL (ofP t Q)).length X) (hv : v ∈ X) : ∃ n, One Q t v n := by
  obtain ⟨r, hr, e⟩ := kept_has g ofP_sub hK hv
  have hrq := g.ofP_mem.1 hr
  obtain ⟨n, hn, hi, hq⟩ := g.find hrq.1
  have hm : r.1 = (t, v) := Prod.ext hrq.2 e
  exact ⟨n, hn, by rw [← hm]; exact hi, by rw [← e]; exact g.ver r hrq.1, by rw [hq]; exact hr, by rw [hq]; exact e⟩
/-- Of a path that there is not there is none. -/
theorem none_of {Q : List Raw} (g : Good Q) {t : ByteArray} (ht : pathErr t.data.toList ≠ 0) {X : List ByteArray} (hK : Kept (verL (bestR (ofP t Q))) (verL (bestR (ofP t Q))).length X) : lastT X = ⟨#[]⟩ := by
  have h0 : ofP t Q = [] := by
    rw [List.eq_nil_iff_forall_not_mem]
    intro r hr
    have := g.ofP_mem.1 hr
    exact ht (by rw [← this.2]; exact g.path r this.1)
  have hb : bestR (ofP t Q) = [] := by rw [h0]; rfl
  cases X with
  | nil => rfl
  | cons x s =>
    obtain ⟨r, hr, _⟩ := kept_has g (R := bestR (ofP t Q)) (fun r hr => ofP_sub r (bestR_sub hr)) hK (x := x) (by simp)
    rw [hb] at hr; cases hr
end Ve
end Go.Proofs.YtanponneancajaaGreatDoor

/-
  What coded of the statements answers of an error with its own number: true; nothing old in memory turns.
-/
namespace Go.Proofs.YtanponneancajaaGreatDoor
open Go.RowKit Go.Extern.Stop Go.Stop Go.Extern
namespace Er

set_option maxHeartbeats 1000000 in
/-- coded, out of what plain.Code answers. -/
theorem coded_of (v : Value) (c at_ n : Int) (w : World) (hc : ∀ W, W = w → Calls Tryz.prog 51 #[v] W fun e w' => e = .returned (.tuple #[.int .i64 c, .int .i64 at_]) ∧ Below w.heap.size w w') (h1 : (c == n) = true) (h2 : (at_ == -1) = true) :
    Calls Tryz.prog 10 #[v, .int .i64 n] w fun e w' => e = .returned (.bool true) ∧ Below w.heap.size w w' := by
  have HC := hid hc
  clear hc
  go_enter Tryz.func10, Tryz.ntmps10
  go_wp2_with fail
  refine (HC.out _ rfl).mono ?_
  rintro e w1 ⟨rfl, hb⟩
  have HB := hid hb
  clear hb
  go_wp2_with fail
  go_ret
  exact ⟨rfl, HB.out⟩

theorem coded_nil (w : World) : Calls Tryz.prog 10 #[.nilIface, .int .i64 0] w fun e w' => e = .returned (.bool true) ∧ Below w.heap.size w w' :=
  coded_of .nilIface 0 (-1) 0 w (fun W hW => by rw [hW]; exact (code_nil w).mono fun e w' h => ⟨h.1, by rw [h.2]; exact Below.refl _ _⟩) rfl rfl
theorem coded_sen (A : Nat → Addr) (j : Nat) (w : World) (S : Sen w A) (hj : j < 10) : Calls Tryz.prog 10 #[.iface 286 (.pointer (some (A j))), .int .i64 ((j : Int) + 1)] w fun e w' => e = .returned (.bool true) ∧ Below w.heap.size w w' :=
  coded_of _ ((j : Int) + 1) (-1) ((j : Int) + 1) w (fun W hW => by rw [hW]; exact code_sen A j w S hj) (by simp) (by simp)
end Er
end Go.Proofs.YtanponneancajaaGreatDoor

/-
  What indexed of the statements answers: the closed fact holds.
-/
namespace Go.Proofs.YtanponneancajaaGreatDoor
open Go.RowKit
namespace Ve

/-- The index of the closed fact. -/
def clQ : List Raw := [((⟨#[97]⟩, ⟨#[118, 49, 46, 48, 46, 48]⟩), .slice none 0 0, .slice none 0 0, false), ((⟨#[97]⟩, ⟨#[118, 49, 46, 49, 46, 48, 45, 114, 99]⟩), .slice none 0 0, .slice none 0 0, false)]
def clL : List Ent := [((⟨#[97]⟩, ⟨#[118, 49, 46, 48, 46, 48]⟩), [], [], false), ((⟨#[97]⟩, ⟨#[118, 49, 46, 49, 46, 48, 45, 114, 99]⟩), [], [], false)]
theorem pk_nil : packErr (bl []) = 0 := pk_ok (by decide) rfl (by simp [risB, srtB, bl, Lib.compact, Lib.compactUpTo])
theorem cl_e0 : entE clL 0 = 0 := by
  show entW none _ = 0
  rw [entW_none (by kernel_rfl), entR_pack (by decide) (by kernel_rfl)]
  exact pk_nil
theorem cl_e1 : entE clL 1 = 0 := by
  show entW (some _) _ = 0
  rw [entW_some (by kernel_rfl) (by kernel_rfl), entR_pack (by decide) (by kernel_rfl)]
  exact pk_nil
theorem cl_chk : chk clQ clL = (0, none) := by
  have h2 : ∀ j, j < 2 → entE clL j = 0 := fun j hj => by
    rcases (by omega : j = 0 ∨ j = 1) with rfl | rfl
    · exact cl_e0
    · exact cl_e1
  have h : fstE (entE clL) clL.length = none := fstE_none h2
  rw [chk_reqs (by decide) h]
  exact Prod.ext (show codeE (reqE2 clQ clL) clL.length = 0 by kernel_rfl) (show fstE (reqE2 clQ clL) clL.length = none by kernel_rfl)
theorem cl_best : bestR (ofP ⟨#[97]⟩ clQ) = [((⟨#[97]⟩, ⟨#[118, 49, 46, 48, 46, 48]⟩), .slice none 0 0, .slice none 0 0, false)] := by kernel_rfl
theorem cl_top {X : List ByteArray} (hK : Kept (verL (bestR (ofP ⟨#[97]⟩ clQ))) (verL (bestR (ofP ⟨#[97]⟩ clQ))).length X) : lastT X = ⟨#[118, 49, 46, 48, 46, 48]⟩ := by
  rw [cl_best] at hK
  have h1 : bl X = [[118, 49, 46, 48, 46, 48]] := rises_same _ _ hK.1 (by simp [rises]) fun t => by
    rw [hK.2 t]
    constructor
    · intro h; simpa [verL, bl] using h.1
    · intro h
      have e : t = [118, 49, 46, 48, 46, 48] := by simpa using h
      subst e
      exact ⟨by simp [verL, bl], by kernel_rfl⟩
  have h2 : X = [⟨#[118, 49, 46, 48, 46, 48]⟩] := bl_inj (h1.trans rfl)
  rw [h2]; rfl
theorem cl_find : idxOf (isM (⟨#[97]⟩, ⟨#[118, 49, 46, 49, 46, 48, 45, 114, 99]⟩)) clQ = 1 := by kernel_rfl
theorem cl_ixs {W : World} {g : Nat} (hb : W.heap[g]? = some (.cells #[.string ⟨#[97]⟩, .string ⟨#[118, 49, 46, 48, 46, 48]⟩, .slice none 0 0, .slice none 0 0, .bool false, .string ⟨#[97]⟩, .string ⟨#[118, 49, 46, 49, 46, 48, 45, 114, 99]⟩, .slice none 0 0, .slice none 0 0, .bool false] 54 (0, 0))) :
    Ixs W (.slice (some ⟨g, 0, none⟩) 2 2) clQ clL := by
  have msn : MsAt W (.slice none 0 0) [] := ⟨none, 0, rfl, Nat.le_refl _, fun h => absurd rfl h⟩
  have txn : TxAt W (.slice none 0 0) [] := ⟨none, 0, rfl, Nat.le_refl _, fun h => absurd rfl h⟩
  refine ⟨⟨some ⟨g, 0, none⟩, 2, rfl, Nat.le_refl _, fun r hr => ?_, fun _ => ⟨g, 0, rfl, fun j hj => ?_⟩⟩, rfl, fun j h1 h2 => ?_⟩
  · have : r = clQ[0] ∨ r = clQ[1] := by simpa [clQ] using hr
    rcases this with rfl | rfl
    · exact ⟨⟨none, 0, 0, rfl⟩, none, 0, 0, rfl⟩
    · exact ⟨⟨none, 0, 0, rfl⟩, none, 0, 0, rfl⟩
  · have hj2 : j < 2 := hj
    rcases (by omega : j = 0 ∨ j = 1) with rfl | rfl
    · refine ⟨?_, ?_, ?_, ?_, ?_⟩ <;> (rw [Lib.cell_of_heap hb]; rfl)
    · refine ⟨?_, ?_, ?_, ?_, ?_⟩ <;> (rw [Lib.cell_of_heap hb]; rfl)
  · have hj2 : j < 2 := h1
    rcases (by omega : j = 0 ∨ j = 1) with rfl | rfl
    · exact ⟨rfl, msn, txn, rfl⟩
    · exact ⟨rfl, msn, txn, rfl⟩
theorem cl_sh : ∀ e, e ∈ clL → ShE e := fun e he => by
  have : e = clL[0] ∨ e = clL[1] := by simpa [clL] using he
  rcases this with rfl | rfl
  · exact ⟨by decide, by decide, by decide, fun m hm => (by cases hm), by decide, fun x hx => (by cases hx)⟩
  · exact ⟨by decide, by decide, by decide, fun m hm => (by cases hm), by decide, fun x hx => (by cases hx)⟩
theorem cl_sz : ∀ r, r ∈ clQ → r.1.1.size ≤ 80 ∧ r.1.2.size ≤ 80 := fun r hr => by
  have : r = clQ[0] ∨ r = clQ[1] := by simpa [clQ] using hr
  rcases this with rfl | rfl <;> exact ⟨by decide, by decide⟩
set_option maxHeartbeats 4000000 in
theorem indexed_any (A : Nat → Addr) (m : Int) (w : World) (S : Te w A m) (htab : Lib.TabIs Tryz.prog w powName .u64 Lib.pow10Tab) :
    Calls Tryz.prog 20 #[] w fun e w' => e = .returned (.bool true) ∧ Below w.heap.size w w' := by
  obtain ⟨W0, hW0⟩ : ∃ W0, w.alloc (.cells #[.string ⟨#[97]⟩, .string ⟨#[118, 49, 46, 48, 46, 48]⟩, .slice none 0 0, .slice none 0 0, .bool false, .string ⟨#[97]⟩, .string ⟨#[118, 49, 46, 49, 46, 48, 45, 114, 99]⟩, .slice none 0 0, .slice none 0 0, .bool false] 54) = W0 := ⟨_, rfl⟩
  have HB0 := hid (show Below w.heap.size w W0 by rw [← hW0]; exact (Below.refl w.heap.size w).alloc (Nat.le_refl _) _)
  have HH := hid (show W0.heap[w.heap.size]? = some (.cells #[.string ⟨#[97]⟩, .string ⟨#[118, 49, 46, 48, 46, 48]⟩, .slice none 0 0, .slice none 0 0, .bool false, .string ⟨#[97]⟩, .string ⟨#[118, 49, 46, 49, 46, 48, 45, 114, 99]⟩, .slice none 0 0, .slice none 0 0, .bool false] 54 (0, 0)) by rw [← hW0]; exact heap_alloc_new w _)
  have HI := hid (cl_ixs HH.out)
  have HC := hid (icheck_any clQ clL _ A m W0 (by decide) cl_sh (S.below HB0.out) HI.out)
  rw [cl_chk] at HC
  have HS := hid S
  have HT := hid htab
  clear S htab
  go_enter Tryz.func20, Tryz.ntmps20
  go_wp2_with fail
  refine HC.out.mono ?_
  rintro e w1 ⟨x, rfl, he, hb⟩
  have he : x = errA A 0 := he
  rw [errA0] at he
  subst he
  have HB1 := hid (HB0.out.trans (hb.mono HB0.out.size))
  have HI1 := hid (HI.out.below hb)
  have HH1 := hid (show w1.heap[w.heap.size]? = some (.cells #[.string ⟨#[97]⟩, .string ⟨#[118, 49, 46, 48, 46, 48]⟩, .slice none 0 0, .slice none 0 0, .bool false, .string ⟨#[97]⟩, .string ⟨#[118, 49, 46, 49, 46, 48, 45, 114, 99]⟩, .slice none 0 0, .slice none 0 0, .bool false] 54 (0, 0)) by rw [hb.block _ (lt_of_blk HH.out)]; exact HH.out)
  clear hb HC hW0 HH
  go_wp2_with fail
  refine (Er.coded_nil w1).mono ?_
  rintro e w2 ⟨rfl, hb⟩
  have HB2 := hid (HB1.out.trans (hb.mono HB1.out.size))
  have HI2 := hid (HI1.out.below hb)
  have HH2 := hid (show w2.heap[w.heap.size]? = some (.cells #[.string ⟨#[97]⟩, .string ⟨#[118, 49, 46, 48, 46, 48]⟩, .slice none 0 0, .slice none 0 0, .bool false, .string ⟨#[97]⟩, .string ⟨#[118, 49, 46, 49, 46, 48, 45, 114, 99]⟩, .slice none 0 0, .slice none 0 0, .bool false] 54 (0, 0)) by rw [hb.block _ (lt_of_blk HH1.out)]; exact HH1.out)
  have HLA := hid (latest_any clQ ⟨#[97]⟩ _ (A 0) (A 1) m w2 (by decide) cl_sz (HS.out.below HB2.out).vs (tab_below HT.out HB2.out) HI2.out.es)
  clear hb HH1 HI1
  go_wp2_with fail
  refine HLA.out.mono ?_
  rintro e w3 ⟨X, rfl, hK, hb⟩
  rw [cl_top hK]
  have HB3 := hid (HB2.out.trans (hb.mono HB2.out.size))
  have HI3 := hid (HI2.out.below hb)
  have HH3 := hid (show w3.heap[w.heap.size]? = some (.cells #[.string ⟨#[97]⟩, .string ⟨#[118, 49, 46, 48, 46, 48]⟩, .slice none 0 0, .slice none 0 0, .bool false, .string ⟨#[97]⟩, .string ⟨#[118, 49, 46, 49, 46, 48, 45, 114, 99]⟩, .slice none 0 0, .slice none 0 0, .bool false] 54 (0, 0)) by rw [hb.block _ (lt_of_blk HH2.out)]; exact HH2.out)
  have z0 : w3.cell? ⟨w.heap.size, 5, none⟩ = some (.string ⟨#[97]⟩) := by rw [Lib.cell_of_heap HH3.out]; rfl
  have z1 : w3.cell? ⟨w.heap.size, 6, none⟩ = some (.string ⟨#[118, 49, 46, 49, 46, 48, 45, 114, 99]⟩) := by rw [Lib.cell_of_heap HH3.out]; rfl
  have he := str_refl (⟨#[118, 49, 46, 48, 46, 48]⟩ : ByteArray)
  have HFI := hid (find_any clQ (⟨#[97]⟩, ⟨#[118, 49, 46, 49, 46, 48, 45, 114, 99]⟩) _ w3 (by decide) HI3.out.es)
  rw [cl_find] at HFI
  clear hb HH2 HI2 hK HLA
  go_wp2_with fail
  refine HFI.out.mono ?_
  rintro e w4 ⟨rfl, hb⟩
  have HB4 := hid (HB3.out.trans (hb.mono HB3.out.size))
  clear hb
  go_wp2_with fail
  go_ret
  exact ⟨rfl, HB4.out⟩
end Ve
end Go.Proofs.YtanponneancajaaGreatDoor

/-
  Places in an index; errors, or none; the lengths of an index that is not too long; the next round of a loop.
-/
namespace Go.Proofs.YtanponneancajaaGreatDoor
open Go.RowKit
namespace Ve

theorem idx_is {P : Raw → Bool} {L : List Raw} {k : Nat} (h : idxOf P L = (k : Int)) : ∃ hk : k < L.length, P L[k] = true := by
  unfold idxOf at h
  cases h1 : fstE (idxE P L) L.length with
  | none => rw [h1] at h; simp only at h; omega
  | some j =>
    rw [h1] at h
    simp only at h
    have e : j = k := by omega
    subst e
    obtain ⟨a, b, _⟩ := fstE_of_some h1
    refine ⟨a, ?_⟩
    rw [idxE_at a] at b
    cases hp : P L[j] with
    | true => rfl
    | false => rw [hp] at b; exact absurd rfl b
/-- An error, or none. -/
theorem ErrAt.kind {W : World} {A : Nat → Addr} {x : Value} {c : Nat} {o : Option Nat} (h : ErrAt W A x c o) : (c = 0 ∧ x = .nilIface) ∨ (c ≠ 0 ∧ ∃ T a, x = .iface T (.pointer (some a))) := by
  cases o with
  | none =>
    have h : x = errA A c := h
    by_cases hc : c = 0
    · subst hc; exact Or.inl ⟨rfl, h⟩
    · obtain ⟨a, ha⟩ := errA_ne A hc
      exact Or.inr ⟨hc, _, a, h.trans ha⟩
  | some i =>
    obtain ⟨h1, b, h2, _⟩ := h
    exact Or.inr ⟨h1, _, _, h2⟩
theorem okI_iff {L : List Ent} (h : okI L = true) : (L.length ≤ 30 ∨ L.length = 101) ∧ ∀ e, e ∈ L → e.1.1.size ≤ 70 ∧ e.1.2.size ≤ 60 ∧ e.2.1.length ≤ 25 ∧ (∀ m, m ∈ e.2.1 → m.1.size ≤ 70 ∧ m.2.size ≤ 60) ∧ e.2.2.1.length ≤ 15 ∧ ∀ x, x ∈ e.2.2.1 → x.size ≤ 70 := by
  unfold okI at h
  rw [Bool.and_eq_true] at h
  obtain ⟨h1, h2⟩ := h
  refine ⟨by simpa [okN] using h1, fun e he => ?_⟩
  have h3 := List.all_eq_true.1 h2 e he
  unfold okE at h3
  simp only [Bool.and_eq_true, decide_eq_true_eq] at h3
  obtain ⟨⟨⟨⟨a, b⟩, c⟩, d⟩, f⟩ := h3
  obtain ⟨c1, c2⟩ := okL_iff c
  refine ⟨a, b, c1, c2, d, fun x hx => ?_⟩
  have := List.all_eq_true.1 f x hx
  simpa using this
theorem okI_sh {L : List Ent} (h : okI L = true) : ∀ e, e ∈ L → ShE e := fun e he => by
  obtain ⟨a, b, c, d, f, g⟩ := (okI_iff h).2 e he
  exact ⟨by omega, by omega, by omega, fun m hm => ⟨by have := (d m hm).1; omega, by have := (d m hm).2; omega⟩, by omega, fun x hx => by have := g x hx; omega⟩
theorem okI_fits {L : List Ent} (h : okI L = true) : ∀ e, e ∈ L → Fits e := fun e he => by
  obtain ⟨a, b, c, d, f, g⟩ := (okI_iff h).2 e he
  exact ⟨by omega, by omega⟩
theorem ixs_sz {w : World} {v : Value} {Q : List Raw} {L : List Ent} (I : Ixs w v Q L) (h : okI L = true) : ∀ r, r ∈ Q → r.1.1.size ≤ 80 ∧ r.1.2.size ≤ 80 := fun r hr => by
  obtain ⟨j, hj, rfl⟩ := List.getElem_of_mem hr
  have hj2 : j < L.length := by rw [← I.ln]; exact hj
  have hm := (I.ok j hj hj2).m
  obtain ⟨a, b, _⟩ := (okI_iff h).2 L[j] (List.getElem_mem hj2)
  rw [hm]
  exact ⟨by omega, by omega⟩

theorem nx_idx {t n : Nat} (h : t < n) (h2 : n ≤ 1000000) : Value.int .i64 (wrap64 ((t : Int) + 1)) = .int .i64 ((t + 1 : Nat) : Int) := by
  rw [IntWalk.wrap64_in _ (by omega)]; rfl
theorem nx_meas {t n : Nat} (h : t < n) (h2 : n ≤ 1000000) : n - (intOf (Value.int .i64 (wrap64 ((t : Int) + 1)))).toNat < n - (intOf (Value.int .i64 (t : Int))).toNat := by
  rw [IntWalk.wrap64_in _ (by omega)]
  show n - ((t : Int) + 1).toNat < n - ((t : Int)).toNat
  omega
theorem nr_idx (t : Nat) : Value.int .i64 ((t : Int) + 1) = .int .i64 ((t + 1 : Nat) : Int) := rfl
theorem nr_meas {t n : Nat} (h : t < n) : n - (intOf (Value.int .i64 ((t : Int) + 1))).toNat < n - (intOf (Value.int .i64 (t : Int))).toNat := by
  show n - ((t : Int) + 1).toNat < n - ((t : Int)).toNat
  omega
end Ve
end Go.Proofs.YtanponneancajaaGreatDoor
