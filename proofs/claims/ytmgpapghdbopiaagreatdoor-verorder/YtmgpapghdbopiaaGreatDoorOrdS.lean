/-
  ver.Sort walked, of what slices.CompactFunc answers.
-/
import Derived.Test.YtmgpapghdbopiaaGreatDoorOrdQ
import Derived.Test.YtmgpapghdbopiaaGreatDoorOrdM
import Derived.Test.YtmgpapghdbopiaaGreatDoorVerM
namespace Go.Proofs.YtmgpapghdbopiaaGreatDoor
open Go.RowKit
namespace Ve

def ba (t : List UInt8) : ByteArray := ⟨t.toArray⟩
theorem ba_list (t : List UInt8) : (ba t).data.toList = t := by simp [ba]
/-- What CompactFunc makes of a sorted row. -/
def CompactIs : Prop := ∀ (w0 W : World) (g cap : Nat) (D : List Rc), D ≠ [] → D.length ≤ 1000 → D.length ≤ cap → cap ≤ maxLen → srt D → Rw w0 W g D →
  Calls Tryz.prog 54 #[.slice (some ⟨g, 0, none⟩) D.length cap, .func (.func 55) #[] #[]] W fun e w' => ∃ E : List Rc, e = .returned (.slice (some ⟨g, 0, none⟩) E.length cap) ∧ E.length ≤ D.length ∧ rises (E.map (·.1)) ∧ (∀ t, t ∈ E.map (·.1) ↔ t ∈ D.map (·.1)) ∧ Rw w0 w' g E

theorem text_rc (r : Rc) (g : Nat) (aT aB : Addr) (m : Int) (w : World) (S : Vs w aT aB m) (htab : Lib.TabIs Tryz.prog w powName .u64 Lib.pow10Tab) (h : RcAt w g r) :
    Calls Tryz.prog 12 #[.agg #[.int .i64 (nAt r.1 0), .int .i64 (nAt r.1 1), .int .i64 (nAt r.1 2), r.2]] w fun e w' => e = .returned (.string (ba r.1)) ∧ Below w.heap.size w w' := by
  have hb := text_back r.1 h.1
  have h0 := h.1
  obtain ⟨hl, hz⟩ := pre_small h
  have h5 : (strs (preOf r.1)).length ≤ 1000 := by
    rw [strs_len]
    have := pre_len (l := r.1)
    have := h.2.1
    omega
  have hp : (preText (bl (strs (preOf r.1)))).length ≤ 1000000 := by
    have h2 := hb
    rw [bl_strs]
    rw [textOf_pre] at h2
    split at h2
    · have h3 := congrArg List.length h2
      rw [List.length_append] at h3
      have := h.2.1
      omega
    · exfalso
      rw [← h2] at h0
      revert h0
      decide
  refine (text_any _ _ _ (strs (preOf r.1)) r.2 aT aB m w S htab h5 hz hp ?_).mono fun e w' ⟨T, e1, e2, e3⟩ => ⟨?_, e3⟩
  · rcases h.2.2.1 with h | ⟨h1, b, h2, h3, h4⟩
    · exact Or.inl h
    · exact Or.inr ⟨h1, b, _, h2, Nat.le_refl _, h3, h4⟩
  · rw [e1]
    congr 2
    apply str_ext
    rw [e2, bl_strs, hb, ba_list]
theorem infoParts : (Tryz.prog.info? 30).map (fun i => (i.zero, i.size, i.bytes)) = some (some (.agg #[.int .i64 0, .int .i64 0, .int .i64 0, .slice none 0 0]), 4, 48) := by kernel_rfl
/-- The texts that are right. -/
def goods (L : List ByteArray) : List (List UInt8) := (bl L).filter fun t => decide (verErr t = 0)
theorem goods_snoc (L : List ByteArray) (k : Nat) (hk : k < L.length) : goods (L.take (k + 1)) = if verErr L[k].data.toList = 0 then goods (L.take k) ++ [L[k].data.toList] else goods (L.take k) := by
  unfold goods
  rw [bl_take_snoc L k hk, List.filter_append]
  by_cases h : verErr L[k].data.toList = 0
  · rw [if_pos h]; simp [h]
  · rw [if_neg h]; simp [h]
theorem kept_of {L : List ByteArray} {D E : List Rc} (hr : rises (E.map (·.1))) (hm : ∀ t, t ∈ E.map (·.1) ↔ t ∈ D.map (·.1)) (hD : ∀ t, t ∈ D.map (·.1) ↔ t ∈ goods L) : Kept L L.length (E.map fun r => ba r.1) := by
  have e : bl (E.map fun r => ba r.1) = E.map (·.1) := by
    unfold bl
    rw [List.map_map]
    refine List.map_congr_left fun r _ => ?_
    exact ba_list r.1
  refine ⟨by rw [e]; exact hr, fun t => ?_⟩
  rw [e, hm, hD, List.take_length]
  unfold goods
  rw [List.mem_filter, decide_eq_true_iff]

set_option maxRecDepth 100000 in
set_option maxHeartbeats 8000000 in
theorem vsort_some (HCI : CompactIs) (HS0 : ∀ W : World, Calls Tryz.prog 53 #[.slice none 0 0, .func (.func 50) #[] #[]] W fun e w' => e = .returned (.tuple #[]) ∧ Below W.heap.size W w')
    (HC0 : ∀ W : World, Calls Tryz.prog 54 #[.slice none 0 0, .func (.func 55) #[] #[]] W fun e w' => e = .returned (.slice none 0 0) ∧ Below W.heap.size W w') (b0 o0 cap : Nat) (L : List ByteArray) (aT aB : Addr) (m : Int) (w : World) (S : Vs w aT aB m) (htab : Lib.TabIs Tryz.prog w powName .u64 Lib.pow10Tab) (hL : ∀ j (h : j < L.length), w.cell? ⟨b0, o0 + j, none⟩ = some (.string L[j])) (h12 : L.length ≤ 1000) (hz : ∀ x, x ∈ L → x.size ≤ 80) :
    Calls Tryz.prog 19 #[.slice (some ⟨b0, o0, none⟩) L.length cap] w fun e w' => ∃ v X, e = .returned v ∧ w'.ownsRow w.heap.size 9 1 v X.length (X.map Value.string) ∧ Kept L L.length X ∧ Below w.heap.size w w' := by
  obtain ⟨i0, hi, hz0, hz1, hz2⟩ := info_parts infoStr
  obtain ⟨i1, hi1, hy0, hy1, hy2⟩ := info_parts infoParts
  have HL := hid hL
  have HZ := hid hz
  have HS := hid S
  have HTB := hid htab
  have HCF := hid HCI
  have HSN := hid HS0
  have HCN := hid HC0
  clear hL hz S htab HCI HS0 HC0
  go_enter Tryz.func19, Tryz.ntmps19
  go_wp2_with fail
  go_loopw [3, 13] (fun v i wr => ∃ (k : Nat) (D : List Rc), k ≤ L.length ∧ D.length ≤ k ∧ i = .int .i64 k ∧ Hid (D.map (·.1) = goods (L.take k)) ∧ Hid (Fd w wr v D)) (fun _ i _ => L.length - (intOf i).toNat)
  case atStart => exact ⟨0, [], Nat.zero_le _, Nat.le_refl _, rfl, hid rfl, hid ⟨World.ownsRow_nil _ _ _ _, fun _ => rfl, Below.refl _ _, fun r hr => by cases hr⟩⟩
  case round =>
    obtain ⟨k, D, hk, hDk, rfl, HG, HF⟩ := hrel
    by_cases hkL : k < L.length
    · have hcell := cell_below HF.out.bl (HL.out k hkL)
      have hq80 : L[k].size ≤ 80 := HZ.out _ (List.getElem_mem hkL)
      have HGS := hid (goods_snoc L k hkL)
      generalize L[k] = q at *
      have hkl : (k : Int) < (L.length : Int) := by omega
      have hk0 : (0 : Int) ≤ (k : Int) := by omega
      by_cases hv : verErr q.data.toList = 0
      · have HSP := hid (vsplit_is q aT aB m wr (by omega) (HS.out.below HF.out.bl) hv (strs (preOf q.data.toList)) (bl_strs _))
        rw [if_pos hv] at HGS
        have HV := hid hv
        clear hv
        go_wp2_with fail
        refine HSP.out.mono ?_
        rintro e w1 ⟨pv, rfl, hst, hb1⟩
        obtain ⟨pa, na, ca, rfl⟩ := hst.slice
        have HF1 := hid (HF.out.below hb1)
        have HBP := hid ((Below.refl w1.heap.size w1).alloc (Nat.le_refl _) (.cells #[.int .i64 (nAt q.data.toList 0), .int .i64 (nAt q.data.toList 1), .int .i64 (nAt q.data.toList 2), .slice pa na ca] 30))
        have HF2 := hid (HF1.out.below HBP.out)
        have HRR := hid (show verErr q.data.toList = 0 ∧ q.data.toList.length ≤ 80 ∧ StrsAt (w1.alloc (.cells #[.int .i64 (nAt q.data.toList 0), .int .i64 (nAt q.data.toList 1), .int .i64 (nAt q.data.toList 2), .slice pa na ca] 30)) (.slice pa na ca) (strs (preOf q.data.toList)) from ⟨HV.out, by rw [len_eq]; exact hq80, hst.below HBP.out⟩)
        have hwz := HF1.out.bl.size
        clear hst hb1 hcell
        go_wp2_with (at_builtin; refine wpList_append_own _ rfl _ _ 81 rfl w.heap.size 30 i1 (.agg #[.int .i64 0, .int .i64 0, .int .i64 0, .slice none 0 0]) 4 48 Tryz.underlying81 hi1 hy0 hy1 hy2 rfl (by decide) _ _ _ rfl (HF2.out.own.alloc _) ⟨w1.heap.size + 1, 0, none⟩ 1 1 (rcells (q.data.toList, .slice pa na ca)) rfl rfl ?c1 ?c2 ?c3 ?c4 ?c5 ?_)
        case c1 =>
          intro t u ht
          match t, ht with
          | 0, ht => simp [rcells] at ht; subst ht; simp [Addr.add]
          | 1, ht => simp [rcells] at ht; subst ht; simp [Addr.add]
          | 2, ht => simp [rcells] at ht; subst ht; simp [Addr.add]
          | 3, ht => simp [rcells] at ht; subst ht; simp [Addr.add]
          | t + 4, ht => simp [rcells] at ht
        case c2 => intro u hu; simp [rcells] at hu; rcases hu with rfl | rfl | rfl | rfl <;> rfl
        case c3 => unfold maxLen; omega
        case c4 => omega
        case c5 => simp; omega
        intro v' w3 hown' hgrow _
        have HF3 := hid (HF2.out.more (r := (q.data.toList, .slice pa na ca)) HRR.out hown' hgrow)
        have HG3 := hid (show (D ++ [((q.data.toList, .slice pa na ca) : Rc)]).map (·.1) = goods (L.take (k + 1)) by rw [HGS.out, List.map_append, HG.out]; rfl)
        clear hown' hgrow
        go_wp2_with fail
        go_roundw
        case rel => exact ⟨k + 1, D ++ [(q.data.toList, .slice pa na ca)], by omega, by simp; omega, by go_num, HG3, HF3⟩
        case measure => simp [intOf]; omega
      · have HSP := hid (vsplit_not q aT aB m wr (by omega) (HS.out.below HF.out.bl) hv)
        rw [if_neg hv] at HGS
        clear hv
        go_wp2_with fail
        refine HSP.out.mono ?_
        rintro e w1 ⟨a9, rfl, hb1⟩
        have HF1 := hid (HF.out.below hb1)
        have HF2 := hid (HF1.out.below ((Below.refl w1.heap.size w1).alloc (Nat.le_refl _) (.cells #[.int .i64 0, .int .i64 0, .int .i64 0, .slice none 0 0] 30)))
        clear hb1 hcell
        go_wp2_with fail
        go_roundw
        case rel => exact ⟨k + 1, D, by omega, by omega, by go_num, hid (HG.out.trans HGS.out.symm), HF2⟩
        case measure => simp [intOf]; omega
    · obtain rfl : k = L.length := by omega
      have HG2 := hid (show D.map (·.1) = goods L by rw [HG.out, List.take_length])
      by_cases hD : D = []
      · subst hD
        obtain rfl := HF.out.nl rfl
        go_wp2_with fail
        refine (HSN.out _).mono ?_
        rintro e w1 ⟨rfl, hb1⟩
        go_wp2_with fail
        refine (HCN.out _).mono ?_
        rintro e w2 ⟨rfl, hb2⟩
        have HB2 := hid (HF.out.bl.trans ((hb1.trans (hb2.mono hb1.size)).mono HF.out.bl.size))
        have HK0 := hid (kept_of (L := L) (D := []) (E := []) List.Pairwise.nil (fun t => Iff.rfl) (fun t => by rw [HG2.out]))
        clear hb1 hb2
        go_wp2_with fail
        go_loop [8, 35] (fun v i => v = .slice none 0 0 ∧ i = .int .i64 0) (fun _ _ => 0)
        case atStart => exact ⟨rfl, rfl⟩
        case round =>
          obtain ⟨rfl, rfl⟩ := hrel
          go_wp2_with fail
          go_ret
          exact ⟨_, rfl, [], World.ownsRow_nil _ _ _ _, HK0.out, HB2.out⟩
      · obtain ⟨g, cp, rfl, hRw⟩ := HF.out.rw hD
        obtain ⟨_, _, _, _, _, hcp1, hcp2, _, _⟩ := own_cells HF.out.own hD
        have HR0 := hid hRw
        clear hRw
        go_wp2_with fail
        refine (sort_rw w wr g cp D hD (by omega) HR0.out).mono ?_
        rintro e w1 ⟨rfl, D1, hp1, hs1, hR1⟩
        have hl1 : D1.length = D.length := hp1.length_eq
        have HD1 := hid (show ∀ t, t ∈ D1.map (·.1) ↔ t ∈ goods L from fun t => by rw [← HG2.out]; exact (hp1.map _).mem_iff)
        have HCC := hid (HCF.out w w1 g cp D1 (fun e => hD (by rw [e] at hl1; exact List.length_eq_zero_iff.1 hl1.symm)) (by omega) (by omega) (by omega) hs1 hR1)
        rw [hl1] at HCC
        clear hs1 hR1 hp1
        go_wp2_with fail
        refine HCC.out.mono ?_
        rintro e w2 ⟨E, rfl, hEl, hr, hm, hR2⟩
        have HR2 := hid hR2
        have HKE := hid (kept_of hr hm HD1.out)
        clear hr hm hR2
        have HSB := hid (fun W (h : Below w2.heap.size w2 W) => HS.out.below (HR2.out.bl.trans (h.mono HR2.out.bl.size)))
        have HTB2 := hid (fun W (h : Below w2.heap.size w2 W) => tab_below HTB.out (HR2.out.bl.trans (h.mono HR2.out.bl.size)))
        go_wp2_with fail
        go_loopw [8, 35] (fun v i wr' => ∃ k : Nat, k ≤ E.length ∧ i = .int .i64 k ∧ Hid (wr'.ownsRow w2.heap.size 9 1 v k (((E.take k).map fun r => ba r.1).map Value.string)) ∧ Hid (Below w2.heap.size w2 wr')) (fun _ i _ => E.length - (intOf i).toNat)
        case atStart => exact ⟨0, Nat.zero_le _, rfl, hid (World.ownsRow_nil _ _ _ _), hid (Below.refl _ _)⟩
        case round =>
          obtain ⟨k, hkE, rfl, HO, HB⟩ := hrel
          by_cases hkl : k < E.length
          · have HRK := hid (HR2.out.below HB.out)
            obtain ⟨y0, y1, y2, y3⟩ := HRK.out.at (j := k) (r := E[k]) (List.getElem?_eq_getElem hkl)
            have HRC := hid (HRK.out.rc E[k] (List.getElem_mem hkl))
            have HTK := hid (show ((E.take (k + 1)).map fun r => ba r.1).map Value.string = ((E.take k).map fun r => ba r.1).map Value.string ++ [.string (ba E[k].1)] by rw [List.take_succ_eq_append_getElem hkl, List.map_append, List.map_append]; rfl)
            obtain ⟨pa, na, ca, hpv⟩ := HRC.out.2.2.1.slice
            have HTX := hid (fun W (h : Below wr.heap.size wr W) => text_rc E[k] g aT aB m W (HSB.out W (HB.out.trans (h.mono HB.out.size))) (HTB2.out W (HB.out.trans (h.mono HB.out.size))) (HRC.out.below h))
            generalize E[k] = r at *
            rw [hpv] at y3 HTX
            generalize nAt r.1 0 = x0 at *
            generalize nAt r.1 1 = x1 at *
            generalize nAt r.1 2 = x2 at *
            generalize ba r.1 = tx at *
            have hk0 : (0 : Int) ≤ (k : Int) := by omega
            have hk1 : (k : Int) < (E.length : Int) := by omega
            have HBA := hid ((Below.refl wr.heap.size wr).alloc (Nat.le_refl _) (.cells #[.int .i64 x0, .int .i64 x1, .int .i64 x2, .slice pa na ca] 30))
            have hwz := HB.out.size
            have hE12 : E.length ≤ 1000 := by omega
            go_wp2_with fail
            refine (HTX.out _ HBA.out).mono ?_
            rintro e w3 ⟨rfl, hb3⟩
            have HB3 := hid (HBA.out.trans (hb3.mono HBA.out.size))
            have HO3 := hid (owns_below HO.out HB3.out)
            have HB4 := hid (HB.out.trans (HB3.out.mono HB.out.size))
            have hw3 := HB4.out.size
            clear hb3 y0 y1 y2 y3
            go_wp2_with (at_builtin; refine wpList_append_own _ rfl _ _ 24 rfl w2.heap.size 9 i0 (.string ByteArray.empty) 1 16 Tryz.underlying24 hi hz0 hz1 hz2 rfl (by decide) _ _ _ rfl (HO3.out.alloc _) ⟨w3.heap.size, 0, none⟩ 1 1 [.string tx] rfl rfl ?c1 ?c2 ?c3 ?c4 ?c5 ?_)
            case c1 =>
              intro t u ht
              match t, ht with
              | 0, ht => simp at ht; subst ht; simp [Addr.add]
            case c2 => intro u hu; simp at hu; subst hu; rfl
            case c3 => unfold maxLen; omega
            case c4 => omega
            case c5 => simp; omega
            intro v' w4 hown' hgrow _
            have HR := hid (rel_app hw3 HB4.out HO3.out (Below.refl _ _) hgrow)
            have HO4 := hid hown'
            clear hown' hgrow
            go_wp2_with fail
            go_roundw
            case rel => exact ⟨k + 1, by omega, by go_num, hid (by rw [HTK.out]; simpa using HO4.out), HR⟩
            case measure => simp [intOf]; omega
          · obtain rfl : k = E.length := by omega
            have HO2 := hid (show wr.ownsRow w.heap.size 9 1 u8 (E.map fun r => ba r.1).length ((E.map fun r => ba r.1).map Value.string) by
              have h := owns_mono HO.out (HR2.out.bl.size)
              rw [List.take_length] at h
              rw [List.length_map]; exact h)
            have HBF := hid (HR2.out.bl.trans (HB.out.mono HR2.out.bl.size))
            go_wp2_with fail
            go_ret
            exact ⟨u8, (E.map fun r => ba r.1), rfl, HO2.out, HKE.out, HBF.out⟩
end Ve
end Go.Proofs.YtmgpapghdbopiaaGreatDoor
