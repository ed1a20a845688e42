/-
  ver.Sort walked, of what slices.CompactFunc answers.
-/
import Derived.Test.YtanponneancajaaGreatDoorBn5
import Derived.Test.YtanponneancajaaGreatDoorVerM
import Derived.Lib.SliceRun
import Derived.Test.YtanponneancajaaGreatDoorBn1
import Derived.Test.YtanponneancajaaGreatDoorBn2
import Derived.Deep.RegionHeldLaw
import Derived.Deep.AppendLies
import Derived.Deep.RegionHeld
namespace Go.Proofs.YtanponneancajaaGreatDoor
open Go.RowKit
namespace Ve

def ba (t : List UInt8) : ByteArray := ⟨t.toArray⟩
theorem ba_list (t : List UInt8) : (ba t).data.toList = t := by simp [ba]
/-- What CompactFunc makes of a sorted row. -/
def CompactIs : Prop := ∀ (w0 W : World) (g cap : Nat) (D : List Rc), D ≠ [] → D.length ≤ 1000 → D.length ≤ cap → cap ≤ maxLen → srt D → Rw w0 W g D →
  Calls Tryz.prog 161 #[.slice (some ⟨g, 0, none⟩) D.length cap, .func (.func 162) #[] #[]] W fun e w' => ∃ E : List Rc, e = .returned (.slice (some ⟨g, 0, none⟩) E.length cap) ∧ E.length ≤ D.length ∧ rises (E.map (·.1)) ∧ (∀ t, t ∈ E.map (·.1) ↔ t ∈ D.map (·.1)) ∧ Rw w0 w' g E

theorem text_rc (r : Rc) (g : Nat) (aT aB : Addr) (m : Int) (w : World) (S : Vs w aT aB m) (htab : Lib.TabIs Tryz.prog w powName .u64 Lib.pow10Tab) (h : RcAt w g r) :
    Calls Tryz.prog 13 #[.agg #[.int .i64 (nAt r.1 0), .int .i64 (nAt r.1 1), .int .i64 (nAt r.1 2), r.2]] w fun e w' => e = .returned (.string (ba r.1)) ∧ Below w.heap.size w w' := by
  have hb := text_back r.1 h.1
  have h0 := h.1
  obtain ⟨hl, hz⟩ := pre_small h
  have h5 : (strs (preOf r.1)).length ≤ 1000 := by
    rw [strs_len]
    have := pre_len (l := r.1)
    have := h.2.1
    omega
  have hp : (preText (bl (strs (preOf r.1)))).length ≤ 1000000 := by
    have h2 := hb
    rw [bl_strs]
    rw [textOf_pre] at h2
    split at h2
    · have h3 := congrArg List.length h2
      rw [List.length_append] at h3
      have := h.2.1
      omega
    · exfalso
      rw [← h2] at h0
      revert h0
      decide
  refine (text_any _ _ _ (strs (preOf r.1)) r.2 aT aB m w S htab h5 hz hp ?_).mono fun e w' ⟨T, e1, e2, e3⟩ => ⟨?_, e3⟩
  · rcases h.2.2.1 with h | ⟨h1, b, h2, h3, h4⟩
    · exact Or.inl h
    · exact Or.inr ⟨h1, b, _, h2, Nat.le_refl _, h3, h4⟩
  · rw [e1]
    congr 2
    apply str_ext
    rw [e2, bl_strs, hb, ba_list]
theorem infoParts : (Tryz.prog.info? 30).map (fun i => (i.zero, i.size, i.bytes)) = some (some (.agg #[.int .i64 0, .int .i64 0, .int .i64 0, .slice none 0 0]), 4, 48) := by kernel_rfl
/-- The texts that are right. -/
def goods (L : List ByteArray) : List (List UInt8) := (bl L).filter fun t => decide (verErr t = 0)
theorem goods_snoc (L : List ByteArray) (k : Nat) (hk : k < L.length) : goods (L.take (k + 1)) = if verErr L[k].data.toList = 0 then goods (L.take k) ++ [L[k].data.toList] else goods (L.take k) := by
  unfold goods
  rw [bl_take_snoc L k hk, List.filter_append]
  by_cases h : verErr L[k].data.toList = 0
  · rw [if_pos h]; simp [h]
  · rw [if_neg h]; simp [h]
theorem kept_of {L : List ByteArray} {D E : List Rc} (hr : rises (E.map (·.1))) (hm : ∀ t, t ∈ E.map (·.1) ↔ t ∈ D.map (·.1)) (hD : ∀ t, t ∈ D.map (·.1) ↔ t ∈ goods L) : Kept L L.length (E.map fun r => ba r.1) := by
  have e : bl (E.map fun r => ba r.1) = E.map (·.1) := by
    unfold bl
    rw [List.map_map]
    refine List.map_congr_left fun r _ => ?_
    exact ba_list r.1
  refine ⟨by rw [e]; exact hr, fun t => ?_⟩
  rw [e, hm, hD, List.take_length]
  unfold goods
  rw [List.mem_filter, decide_eq_true_iff]

set_option maxRecDepth 100000 in
set_option maxHeartbeats 8000000 in
theorem vsort_some (HCI : CompactIs) (HS0 : ∀ W : World, Calls Tryz.prog 160 #[.slice none 0 0, .func (.func 58) #[] #[]] W fun e w' => e = .returned (.tuple #[]) ∧ Below W.heap.size W w')
    (HC0 : ∀ W : World, Calls Tryz.prog 161 #[.slice none 0 0, .func (.func 162) #[] #[]] W fun e w' => e = .returned (.slice none 0 0) ∧ Below W.heap.size W w') (b0 o0 cap : Nat) (L : List ByteArray) (aT aB : Addr) (m : Int) (w : World) (S : Vs w aT aB m) (htab : Lib.TabIs Tryz.prog w powName .u64 Lib.pow10Tab) (hL : ∀ j (h : j < L.length), w.cell? ⟨b0, o0 + j, none⟩ = some (.string L[j])) (h12 : L.length ≤ 1000) (hz : ∀ x, x ∈ L → x.size ≤ 80) :
    Calls Tryz.prog 119 #[.slice (some ⟨b0, o0, none⟩) L.length cap] w fun e w' => ∃ v X, e = .returned v ∧ w'.ownsRow w.heap.size 9 1 v X.length (X.map Value.string) ∧ Kept L L.length X ∧ Below w.heap.size w w' := by
  obtain ⟨i0, hi, hz0, hz1, hz2⟩ := info_parts infoStr
  obtain ⟨i1, hi1, hy0, hy1, hy2⟩ := info_parts infoParts
  have HL := hid hL
  have HZ := hid hz
  have HS := hid S
  have HTB := hid htab
  have HCF := hid HCI
  have HSN := hid HS0
  have HCN := hid HC0
  clear hL hz S htab HCI HS0 HC0
  go_enter Tryz.func119, Tryz.ntmps119
  go_wp2_with fail
  go_loopw [3, 13] (fun v i wr => ∃ (k : Nat) (D : List Rc), k ≤ L.length ∧ D.length ≤ k ∧ i = .int .i64 k ∧ Hid (D.map (·.1) = goods (L.take k)) ∧ Hid (Fd w wr v D)) (fun _ i _ => L.length - (intOf i).toNat)
  case atStart => exact ⟨0, [], Nat.zero_le _, Nat.le_refl _, rfl, hid rfl, hid ⟨World.ownsRow_nil _ _ _ _, fun _ => rfl, Below.refl _ _, fun r hr => by cases hr⟩⟩
  case round =>
    obtain ⟨k, D, hk, hDk, rfl, HG, HF⟩ := hrel
    by_cases hkL : k < L.length
    · have hcell := cell_below HF.out.bl (HL.out k hkL)
      have hq80 : L[k].size ≤ 80 := HZ.out _ (List.getElem_mem hkL)
      have HGS := hid (goods_snoc L k hkL)
      generalize L[k] = q at *
      have hkl : (k : Int) < (L.length : Int) := by omega
      have hk0 : (0 : Int) ≤ (k : Int) := by omega
      by_cases hv : verErr q.data.toList = 0
      · have HSP := hid (vsplit_is q aT aB m wr (by omega) (HS.out.below HF.out.bl) hv (strs (preOf q.data.toList)) (bl_strs _))
        rw [if_pos hv] at HGS
        have HV := hid hv
        clear hv
        go_wp2_with fail
        refine HSP.out.mono ?_
        rintro e w1 ⟨pv, rfl, hst, hb1⟩
        obtain ⟨pa, na, ca, rfl⟩ := hst.slice
        have HF1 := hid (HF.out.below hb1)
        have HBP := hid ((Below.refl w1.heap.size w1).alloc (Nat.le_refl _) (.cells #[.int .i64 (nAt q.data.toList 0), .int .i64 (nAt q.data.toList 1), .int .i64 (nAt q.data.toList 2), .slice pa na ca] 30))
        have HF2 := hid (HF1.out.below HBP.out)
        have HRR := hid (show verErr q.data.toList = 0 ∧ q.data.toList.length ≤ 80 ∧ StrsAt (w1.alloc (.cells #[.int .i64 (nAt q.data.toList 0), .int .i64 (nAt q.data.toList 1), .int .i64 (nAt q.data.toList 2), .slice pa na ca] 30)) (.slice pa na ca) (strs (preOf q.data.toList)) from ⟨HV.out, by rw [len_eq]; exact hq80, hst.below HBP.out⟩)
        have hwz := HF1.out.bl.size
        clear hst hb1 hcell
        go_wp2_with (at_builtin; refine wpList_append_own _ rfl _ _ 175 rfl w.heap.size 30 i1 (.agg #[.int .i64 0, .int .i64 0, .int .i64 0, .slice none 0 0]) 4 48 Tryz.underlying175 hi1 hy0 hy1 hy2 rfl (by decide) _ _ _ rfl (HF2.out.own.alloc _) ⟨w1.heap.size + 1, 0, none⟩ 1 1 (rcells (q.data.toList, .slice pa na ca)) rfl rfl ?c1 ?c2 ?c3 ?c4 ?c5 ?_)
        case c1 =>
          intro t u ht
          match t, ht with
          | 0, ht => simp [rcells] at ht; subst ht; simp [Addr.add]
          | 1, ht => simp [rcells] at ht; subst ht; simp [Addr.add]
          | 2, ht => simp [rcells] at ht; subst ht; simp [Addr.add]
          | 3, ht => simp [rcells] at ht; subst ht; simp [Addr.add]
          | t + 4, ht => simp [rcells] at ht
        case c2 => intro u hu; simp [rcells] at hu; rcases hu with rfl | rfl | rfl | rfl <;> rfl
        case c3 => unfold maxLen; omega
        case c4 => omega
        case c5 => simp; omega
        intro v' w3 hown' hgrow _
        have HF3 := hid (HF2.out.more (r := (q.data.toList, .slice pa na ca)) HRR.out hown' hgrow)
        have HG3 := hid (show (D ++ [((q.data.toList, .slice pa na ca) : Rc)]).map (·.1) = goods (L.take (k + 1)) by rw [HGS.out, List.map_append, HG.out]; rfl)
        clear hown' hgrow
        go_wp2_with fail
        go_roundw
        case rel => exact ⟨k + 1, D ++ [(q.data.toList, .slice pa na ca)], by omega, by simp; omega, by go_num, HG3, HF3⟩
        case measure => simp [intOf]; omega
      · have HSP := hid (vsplit_not q aT aB m wr (by omega) (HS.out.below HF.out.bl) hv)
        rw [if_neg hv] at HGS
        clear hv
        go_wp2_with fail
        refine HSP.out.mono ?_
        rintro e w1 ⟨a9, rfl, hb1⟩
        have HF1 := hid (HF.out.below hb1)
        have HF2 := hid (HF1.out.below ((Below.refl w1.heap.size w1).alloc (Nat.le_refl _) (.cells #[.int .i64 0, .int .i64 0, .int .i64 0, .slice none 0 0] 30)))
        clear hb1 hcell
        go_wp2_with fail
        go_roundw
        case rel => exact ⟨k + 1, D, by omega, by omega, by go_num, hid (HG.out.trans HGS.out.symm), HF2⟩
        case measure => simp [intOf]; omega
    · obtain rfl : k = L.length := by omega
      have HG2 := hid (show D.map (·.1) = goods L by rw [HG.out, List.take_length])
      by_cases hD : D = []
      · subst hD
        obtain rfl := HF.out.nl rfl
        go_wp2_with fail
        refine (HSN.out _).mono ?_
        rintro e w1 ⟨rfl, hb1⟩
        go_wp2_with fail
        refine (HCN.out _).mono ?_
        rintro e w2 ⟨rfl, hb2⟩
        have HB2 := hid (HF.out.bl.trans ((hb1.trans (hb2.mono hb1.size)).mono HF.out.bl.size))
        have HK0 := hid (kept_of (L := L) (D := []) (E := []) List.Pairwise.nil (fun t => Iff.rfl) (fun t => by rw [HG2.out]))
        clear hb1 hb2
        go_wp2_with fail
        go_loop [8, 35] (fun v i => v = .slice none 0 0 ∧ i = .int .i64 0) (fun _ _ => 0)
        case atStart => exact ⟨rfl, rfl⟩
        case round =>
          obtain ⟨rfl, rfl⟩ := hrel
          go_wp2_with fail
          go_ret
          exact ⟨_, rfl, [], World.ownsRow_nil _ _ _ _, HK0.out, HB2.out⟩
      · obtain ⟨g, cp, rfl, hRw⟩ := HF.out.rw hD
        obtain ⟨_, _, _, _, _, hcp1, hcp2, _, _⟩ := own_cells HF.out.own hD
        have HR0 := hid hRw
        clear hRw
        go_wp2_with fail
        refine (sort_rw w wr g cp D hD (by omega) HR0.out).mono ?_
        rintro e w1 ⟨rfl, D1, hp1, hs1, hR1⟩
        have hl1 : D1.length = D.length := hp1.length_eq
        have HD1 := hid (show ∀ t, t ∈ D1.map (·.1) ↔ t ∈ goods L from fun t => by rw [← HG2.out]; exact (hp1.map _).mem_iff)
        have HCC := hid (HCF.out w w1 g cp D1 (fun e => hD (by rw [e] at hl1; exact List.length_eq_zero_iff.1 hl1.symm)) (by omega) (by omega) (by omega) hs1 hR1)
        rw [hl1] at HCC
        clear hs1 hR1 hp1
        go_wp2_with fail
        refine HCC.out.mono ?_
        rintro e w2 ⟨E, rfl, hEl, hr, hm, hR2⟩
        have HR2 := hid hR2
        have HKE := hid (kept_of hr hm HD1.out)
        clear hr hm hR2
        have HSB := hid (fun W (h : Below w2.heap.size w2 W) => HS.out.below (HR2.out.bl.trans (h.mono HR2.out.bl.size)))
        have HTB2 := hid (fun W (h : Below w2.heap.size w2 W) => tab_below HTB.out (HR2.out.bl.trans (h.mono HR2.out.bl.size)))
        go_wp2_with fail
        go_loopw [8, 35] (fun v i wr' => ∃ k : Nat, k ≤ E.length ∧ i = .int .i64 k ∧ Hid (wr'.ownsRow w2.heap.size 9 1 v k (((E.take k).map fun r => ba r.1).map Value.string)) ∧ Hid (Below w2.heap.size w2 wr')) (fun _ i _ => E.length - (intOf i).toNat)
        case atStart => exact ⟨0, Nat.zero_le _, rfl, hid (World.ownsRow_nil _ _ _ _), hid (Below.refl _ _)⟩
        case round =>
          obtain ⟨k, hkE, rfl, HO, HB⟩ := hrel
          by_cases hkl : k < E.length
          · have HRK := hid (HR2.out.below HB.out)
            obtain ⟨y0, y1, y2, y3⟩ := HRK.out.at (j := k) (r := E[k]) (List.getElem?_eq_getElem hkl)
            have HRC := hid (HRK.out.rc E[k] (List.getElem_mem hkl))
            have HTK := hid (show ((E.take (k + 1)).map fun r => ba r.1).map Value.string = ((E.take k).map fun r => ba r.1).map Value.string ++ [.string (ba E[k].1)] by rw [List.take_succ_eq_append_getElem hkl, List.map_append, List.map_append]; rfl)
            obtain ⟨pa, na, ca, hpv⟩ := HRC.out.2.2.1.slice
            have HTX := hid (fun W (h : Below wr.heap.size wr W) => text_rc E[k] g aT aB m W (HSB.out W (HB.out.trans (h.mono HB.out.size))) (HTB2.out W (HB.out.trans (h.mono HB.out.size))) (HRC.out.below h))
            generalize E[k] = r at *
            rw [hpv] at y3 HTX
            generalize nAt r.1 0 = x0 at *
            generalize nAt r.1 1 = x1 at *
            generalize nAt r.1 2 = x2 at *
            generalize ba r.1 = tx at *
            have hk0 : (0 : Int) ≤ (k : Int) := by omega
            have hk1 : (k : Int) < (E.length : Int) := by omega
            have HBA := hid ((Below.refl wr.heap.size wr).alloc (Nat.le_refl _) (.cells #[.int .i64 x0, .int .i64 x1, .int .i64 x2, .slice pa na ca] 30))
            have hwz := HB.out.size
            have hE12 : E.length ≤ 1000 := by omega
            go_wp2_with fail
            refine (HTX.out _ HBA.out).mono ?_
            rintro e w3 ⟨rfl, hb3⟩
            have HB3 := hid (HBA.out.trans (hb3.mono HBA.out.size))
            have HO3 := hid (owns_below HO.out HB3.out)
            have HB4 := hid (HB.out.trans (HB3.out.mono HB.out.size))
            have hw3 := HB4.out.size
            clear hb3 y0 y1 y2 y3
            go_wp2_with (at_builtin; refine wpList_append_own _ rfl _ _ 24 rfl w2.heap.size 9 i0 (.string ByteArray.empty) 1 16 Tryz.underlying24 hi hz0 hz1 hz2 rfl (by decide) _ _ _ rfl (HO3.out.alloc _) ⟨w3.heap.size, 0, none⟩ 1 1 [.string tx] rfl rfl ?c1 ?c2 ?c3 ?c4 ?c5 ?_)
            case c1 =>
              intro t u ht
              match t, ht with
              | 0, ht => simp at ht; subst ht; simp [Addr.add]
            case c2 => intro u hu; simp at hu; subst hu; rfl
            case c3 => unfold maxLen; omega
            case c4 => omega
            case c5 => simp; omega
            intro v' w4 hown' hgrow _
            have HR := hid (rel_app hw3 HB4.out HO3.out (Below.refl _ _) hgrow)
            have HO4 := hid hown'
            clear hown' hgrow
            go_wp2_with fail
            go_roundw
            case rel => exact ⟨k + 1, by omega, by go_num, hid (by rw [HTK.out]; simpa using HO4.out), HR⟩
            case measure => simp [intOf]; omega
          · obtain rfl : k = E.length := by omega
            have HO2 := hid (show wr.ownsRow w.heap.size 9 1 u8 (E.map fun r => ba r.1).length ((E.map fun r => ba r.1).map Value.string) by
              have h := owns_mono HO.out (HR2.out.bl.size)
              rw [List.take_length] at h
              rw [List.length_map]; exact h)
            have HBF := hid (HR2.out.bl.trans (HB.out.mono HR2.out.bl.size))
            go_wp2_with fail
            go_ret
            exact ⟨u8, (E.map fun r => ba r.1), rfl, HO2.out, HKE.out, HBF.out⟩
end Ve
end Go.Proofs.YtanponneancajaaGreatDoor

/-
  A sorted row without what comes twice (plain).
-/
namespace Go.Proofs.YtanponneancajaaGreatDoor
namespace Ve

theorem srt_strict {D : List Rc} (hs : srt D) (hv : ∀ r, r ∈ D → verErr r.1 = 0) {i k : Nat} (hik : i ≤ k) (hk : k + 1 < D.length) (hne : ordV D[k + 1].1 (D[k]'(by omega)).1 ≠ 0) : ordV (D[i]'(by omega)).1 D[k + 1].1 < 0 := by
  unfold srt at hs
  rw [List.pairwise_iff_getElem] at hs
  have hi : i < D.length := by omega
  have hk' : k < D.length := by omega
  have v1 := hv D[i] (List.getElem_mem hi)
  have v2 := hv D[k + 1] (List.getElem_mem hk)
  have v3 := hv D[k] (List.getElem_mem hk')
  have h1 := hs i (k + 1) hi hk (by omega)
  have h2 := hs k (k + 1) hk' hk (by omega)
  rcases ordV_range D[i].1 D[k + 1].1 with e | e | e
  · omega
  · exfalso
    have e1 := (ordV_zero v1 v2).1 e
    rcases Nat.lt_or_ge i k with h | h
    · have h3 := hs i k hi hk' h
      rw [e1, ordV_swap D[k].1 D[k + 1].1] at h3
      have h4 : ordV D[k].1 D[k + 1].1 = 0 := by omega
      rw [ordV_swap D[k].1 D[k + 1].1] at hne
      omega
    · have : i = k := by omega
      subst this
      rw [ordV_swap D[i].1 D[i + 1].1, e] at hne
      exact hne rfl
  · omega
/-- What is kept of the first m. -/
structure Cp (D : List Rc) (m : Nat) (E : List Rc) : Prop where
  ri : rises (E.map (·.1))
  mem : ∀ t, t ∈ E.map (·.1) ↔ t ∈ (D.take m).map (·.1)
  len : E.length ≤ m
  sub : ∀ r, r ∈ E → r ∈ D
theorem take_snoc' (D : List Rc) (m : Nat) (hm : m < D.length) : (D.take (m + 1)).map (·.1) = (D.take m).map (·.1) ++ [D[m].1] := by
  rw [List.take_succ_eq_append_getElem hm, List.map_append]; rfl
theorem Cp.same {D E : List Rc} {m : Nat} (h : Cp D (m + 1) E) (hv : ∀ r, r ∈ D → verErr r.1 = 0) (hm : m + 1 < D.length) (he : ordV D[m + 1].1 (D[m]'(by omega)).1 = 0) : Cp D (m + 1 + 1) E := by
  have e1 := (ordV_zero (hv _ (List.getElem_mem hm)) (hv _ (List.getElem_mem (by omega)))).1 he
  refine ⟨h.ri, fun t => ?_, by have := h.len; omega, h.sub⟩
  rw [h.mem, take_snoc' D (m + 1) hm, List.mem_append, List.mem_singleton]
  constructor
  · exact Or.inl
  · rintro (a | a)
    · exact a
    · rw [a, e1, take_snoc' D m (by omega), List.mem_append]
      exact Or.inr (by simp)
theorem Cp.more {D E : List Rc} {m : Nat} (h : Cp D (m + 1) E) (hs : srt D) (hv : ∀ r, r ∈ D → verErr r.1 = 0) (hm : m + 1 < D.length) (he : ordV D[m + 1].1 (D[m]'(by omega)).1 ≠ 0) : Cp D (m + 1 + 1) (E ++ [D[m + 1]]) := by
  refine ⟨?_, fun t => ?_, by have := h.len; simp; omega, fun r hr => ?_⟩
  · unfold rises
    rw [List.map_append, List.pairwise_append]
    refine ⟨h.ri, List.pairwise_singleton _ _, fun a ha b hb => ?_⟩
    have hb' : b = D[m + 1].1 := by simpa using hb
    rw [hb']
    obtain ⟨r, hr, e⟩ := List.mem_map.1 ((h.mem a).1 ha)
    obtain ⟨i, hi, e2⟩ := List.mem_iff_getElem.1 hr
    rw [List.getElem_take] at e2
    simp at hi
    rw [← e, ← e2]
    exact srt_strict hs hv (by omega) hm he
  · rw [List.map_append, List.mem_append, h.mem, take_snoc' D (m + 1) hm, List.mem_append]
    simp
  · rcases List.mem_append.1 hr with hr | hr
    · exact h.sub r hr
    · rw [List.mem_singleton.1 hr]; exact List.getElem_mem hm
theorem Cp.start {D : List Rc} (hD : 0 < D.length) : Cp D 1 (D.take 1) := by
  match D, hD with
  | r :: R, _ => exact ⟨List.pairwise_singleton _ _, fun t => Iff.rfl, by simp, fun q hq => List.mem_of_mem_take hq⟩
theorem Cp.plain {D : List Rc} {m : Nat} (h : Cp D (m + 1) (D.take (m + 1))) (hs : srt D) (hv : ∀ r, r ∈ D → verErr r.1 = 0) (hm : m + 1 < D.length) (he : ordV D[m + 1].1 (D[m]'(by omega)).1 ≠ 0) : Cp D (m + 1 + 1) (D.take (m + 1 + 1)) := by
  have := h.more hs hv hm he
  rw [List.take_succ_eq_append_getElem hm]
  exact this
end Ve
end Go.Proofs.YtanponneancajaaGreatDoor

/-
  A row of records, one of them set, the last ones cleared.
-/
namespace Go.Proofs.YtanponneancajaaGreatDoor
open Go.RowKit
namespace Ve

theorem RcAt.set {W : World} {g : Nat} {r : Rc} (h : RcAt W g r) (o : Nat) (vs : List Value) : RcAt (W.setCells g o vs) g r := by
  refine ⟨h.1, h.2.1, ?_, h.2.2.2⟩
  rcases h.2.2.1 with h0 | ⟨hne, b, e1, e2, e3⟩
  · exact Or.inl h0
  · have hbg : b ≠ g := h.2.2.2 b 0 none _ _ e1
    refine Or.inr ⟨hne, b, e1, by rw [Go.Sort.size_setCells]; exact e2, fun j hj => ?_⟩
    rw [World.cell?_setCells_out g vs o W _ (fun e => absurd e hbg)]
    exact e3 j hj
theorem setCells_below {w0 W : World} {g : Nat} (h : Below w0.heap.size w0 W) (hg : w0.heap.size ≤ g) : ∀ (vs : List Value) (o : Nat), Below w0.heap.size w0 (W.setCells g o vs) := by
  intro vs
  induction vs generalizing W with
  | nil => intro o; exact h
  | cons v r ih => intro o; exact ih (h.setCell hg v) (o + 1)
theorem Rw.cell {w0 W : World} {g : Nat} {D : List Rc} (h : Rw w0 W g D) (j : Nat) (hj : j < D.length) (c : Nat) (hc : c < 4) : W.cell? ⟨g, j * 4 + c, none⟩ = (rcells D[j])[c]? := by
  match c, hc with
  | 0, _ => exact h.c0 j hj
  | 1, _ => exact h.c1 j hj
  | 2, _ => exact h.c2 j hj
  | 3, _ => exact h.c3 j hj
theorem Rw.of_cells {w0 W : World} {g : Nat} {D : List Rc} (h1 : Below w0.heap.size w0 W) (h2 : w0.heap.size ≤ g) (h3 : g < W.heap.size) (h4 : ∀ o, W.frozen? ⟨g, o, none⟩ = false) (h5 : ∀ r, r ∈ D → RcAt W g r)
    (h : ∀ j (hj : j < D.length) c (_ : c < 4), W.cell? ⟨g, j * 4 + c, none⟩ = (rcells D[j])[c]?) : Rw w0 W g D :=
  ⟨h1, h2, h3, h4, h5, fun j hj => h j hj 0 (by omega), fun j hj => h j hj 1 (by omega), fun j hj => h j hj 2 (by omega), fun j hj => h j hj 3 (by omega)⟩
theorem Rw.setAt {w0 W : World} {g : Nat} {D : List Rc} (h : Rw w0 W g D) (i : Nat) (hi : i < D.length) (r : Rc) (hr : RcAt W g r) : Rw w0 (W.setCells g (i * 4) (rcells r)) g (D.set i r) := by
  refine Rw.of_cells (setCells_below h.bl h.lo _ _) h.lo (by rw [Go.Sort.size_setCells]; exact h.hi) (fun o => by rw [World.frozen?_setCells]; exact h.fz o) (fun q hq => ?_) (fun j hj c hc => ?_)
  · rcases List.mem_or_eq_of_mem_set hq with hq | hq
    · exact (h.rc q hq).set _ _
    · rw [hq]; exact hr.set _ _
  · have hj' : j < D.length := by simpa using hj
    by_cases e : j = i
    · subst e
      have := World.cell?_setCells_in g (rcells r) (j * 4) W (fun t ht => by
        have h9 : t < 4 := ht
        rw [h.cell j hj' t h9]
        match t, h9 with
        | 0, _ => rfl
        | 1, _ => rfl
        | 2, _ => rfl
        | 3, _ => rfl) c hc
      rw [this]
      simp
      exact (List.getElem?_eq_getElem (show c < (rcells r).length from hc)).symm
    · rw [World.cell?_setCells_out g (rcells r) (i * 4) W _ (fun _ _ => by
        show j * 4 + c < i * 4 ∨ i * 4 + 4 ≤ j * 4 + c
        omega), h.cell j hj' c hc]
      rw [List.getElem_set_ne (by omega)]
theorem Rw.cleared {w0 W : World} {g : Nat} {D : List Rc} (h : Rw w0 W g D) (n : Nat) (hn : n ≤ D.length) (zs : List Value) : Rw w0 (W.setCells g (n * 4) zs) g (D.take n) := by
  refine Rw.of_cells (setCells_below h.bl h.lo _ _) h.lo (by rw [Go.Sort.size_setCells]; exact h.hi) (fun o => by rw [World.frozen?_setCells]; exact h.fz o) (fun q hq => (h.rc q (List.mem_of_mem_take hq)).set _ _) (fun j hj c hc => ?_)
  have hj' : j < n := by simp at hj; omega
  rw [World.cell?_setCells_out g zs (n * 4) W _ (fun _ _ => Or.inl (by show j * 4 + c < n * 4; omega)), h.cell j (by omega) c hc, List.getElem_take]
theorem run_clear_rw {w0 W : World} {g : Nat} {D : List Rc} (h : Rw w0 W g D) (n : Nat) (hn : n < D.length) :
    ∃ zs, ∀ ty c, (Builtin.clear_ #[175] ty #[.slice (some ⟨g, n * 4, none⟩) (D.length - n) c]).run Tryz.prog W = .ok (.tuple #[]) (W.setCells g (n * 4) zs) := by
  have hzl : (Builtin.zeroCells (Value.agg #[.int .i64 0, .int .i64 0, .int .i64 0, .slice none 0 0]).cells (D.length - n)).toList.length = (D.length - n) * 4 := by
    simp [Builtin.zeroCells, Value.cells]
  refine ⟨(Builtin.zeroCells (Value.agg #[.int .i64 0, .int .i64 0, .int .i64 0, .slice none 0 0]).cells (D.length - n)).toList, fun ty c => ?_⟩
  have hst := run_storeCells_cells (P := Tryz.prog) g (n * 4) (Builtin.zeroCells (Value.agg #[.int .i64 0, .int .i64 0, .int .i64 0, .slice none 0 0]).cells (D.length - n)).toList 0 W (fun j hj => by
    rw [hzl] at hj
    have e : n * 4 + 0 + j = (n + j / 4) * 4 + j % 4 := by omega
    rw [e, h.cell (n + j / 4) (by omega) (j % 4) (by omega)]
    have h9 : j % 4 < 4 := by omega
    match j % 4, h9 with
    | 0, _ => rfl
    | 1, _ => rfl
    | 2, _ => rfl
    | 3, _ => rfl) (fun j _ => h.fz _) (fun v hv => by
    simp only [Builtin.zeroCells, Value.cells] at hv
    simp at hv
    obtain ⟨t, _, rfl⟩ := hv
    have h9 : t % 4 < 4 := by omega
    match t % 4, h9 with
    | 0, _ => rfl
    | 1, _ => rfl
    | 2, _ => rfl
    | 3, _ => rfl)
  simp only [Nat.add_zero] at hst
  obtain ⟨m, hm⟩ : ∃ m, D.length - n = m + 1 := ⟨D.length - n - 1, by omega⟩
  rw [hm] at hst ⊢
  have hu := Tryz.underlying175
  have hv : ∀ w, (zeroValue 30).run Tryz.prog w = .ok (.agg #[.int .i64 0, .int .i64 0, .int .i64 0, .slice none 0 0]) w := fun w => Tryz.zeroValue30 w
  simp [Builtin.clear_, run_underlying hu, hv, hst]
end Ve
end Go.Proofs.YtanponneancajaaGreatDoor

/-
  slices.CompactFunc over a sorted row of records.
-/
namespace Go.Proofs.YtanponneancajaaGreatDoor
open Go.RowKit
namespace Ve

/-- Two records: are they one version? -/
theorem same_rc (r q : Rc) (g : Nat) (W : World) (hr : RcAt W g r) (hq : RcAt W g q) :
    Calls Tryz.prog 162 #[.agg #[.int .i64 (nAt r.1 0), .int .i64 (nAt r.1 1), .int .i64 (nAt r.1 2), r.2], .agg #[.int .i64 (nAt q.1 0), .int .i64 (nAt q.1 1), .int .i64 (nAt q.1 2), q.2]] W
      fun e w' => e = .returned (.bool (ordV r.1 q.1 == 0)) ∧ Below W.heap.size W w' := by
  have HB0 := hid (((Below.refl W.heap.size W).alloc (Nat.le_refl _) (.cells #[.int .i64 (nAt r.1 0), .int .i64 (nAt r.1 1), .int .i64 (nAt r.1 2), r.2] 30)).alloc (by simp) (.cells #[.int .i64 (nAt q.1 0), .int .i64 (nAt q.1 1), .int .i64 (nAt q.1 2), q.2] 30))
  have HC := hid (compare_rc r q g _ (hr.below HB0.out) (hq.below HB0.out))
  obtain ⟨pr, nr, cr, hrv⟩ := hr.2.2.1.slice
  obtain ⟨pq, nq, cq, hqv⟩ := hq.2.2.1.slice
  clear hr hq
  obtain ⟨tr, vr⟩ := r
  obtain ⟨tq, vq⟩ := q
  simp only at hrv hqv
  subst hrv hqv
  generalize ordV tr tq = od at *
  go_enter Tryz.func162, Tryz.ntmps162
  go_wp2_with fail
  refine HC.out.mono ?_
  rintro e w1 ⟨rfl, hb⟩
  have HB := hid (HB0.out.trans (hb.mono HB0.out.size))
  clear hb
  go_wp2_with fail
  go_ret
  exact ⟨rfl, HB.out⟩

theorem compact_nil (W : World) : Calls Tryz.prog 161 #[.slice none 0 0, .func (.func 162) #[] #[]] W fun e w' => e = .returned (.slice none 0 0) ∧ Below W.heap.size W w' := by
  go_enter Tryz.func161, Tryz.ntmps161
  go_wp2_with fail
  go_ret
  exact ⟨rfl, Below.refl _ _⟩

set_option maxRecDepth 100000 in
set_option maxHeartbeats 8000000 in
theorem compact_rw (w0 w : World) (g cap : Nat) (D : List Rc) (hD : D ≠ []) (h12 : D.length ≤ 1000) (hc : D.length ≤ cap) (_hcm : cap ≤ maxLen) (hs : srt D) (hR : Rw w0 w g D) :
    Calls Tryz.prog 161 #[.slice (some ⟨g, 0, none⟩) D.length cap, .func (.func 162) #[] #[]] w fun e w' => ∃ E : List Rc, e = .returned (.slice (some ⟨g, 0, none⟩) E.length cap) ∧ E.length ≤ D.length ∧ rises (E.map (·.1)) ∧ (∀ t, t ∈ E.map (·.1) ↔ t ∈ D.map (·.1)) ∧ Rw w0 w' g E := by
  have HR := hid hR
  have HS := hid hs
  have hpos : 0 < D.length := List.length_pos_iff.2 hD
  clear hR hs hD
  by_cases h2 : D.length < 2
  · have h2i : (D.length : Int) < 2 := by omega
    have HRI := hid (show rises (D.map (·.1)) by
      match D, h2 with
      | [], _ => exact List.Pairwise.nil
      | [r], _ => exact List.pairwise_singleton _ _)
    go_enter Tryz.func161, Tryz.ntmps161
    go_wp2_with fail
    go_ret
    exact ⟨D, rfl, Nat.le_refl _, HRI.out, fun _ => Iff.rfl, HR.out⟩
  · have h2i : ¬ (D.length : Int) < 2 := by omega
    go_enter Tryz.func161, Tryz.ntmps161
    go_wp2_with fail
    have HVV := hid (show ∀ r, r ∈ D → verErr r.1 = 0 from fun r hr => (HR.out.rc r hr).1)
    go_loopw [5] (fun i wr => ∃ k : Nat, k + 1 ≤ D.length ∧ i = .int .i64 ((k : Int) + 1) ∧ Hid (Cp D (k + 1) (D.take (k + 1))) ∧ Hid (Rw w0 wr g D)) (fun i _ => D.length - (intOf i).toNat)
    case atStart => exact ⟨0, by omega, rfl, hid (Cp.start hpos), HR⟩
    case round =>
      obtain ⟨k, hk, rfl, HCP, HRW⟩ := hrel
      by_cases hkn : k + 1 < D.length
      · have hi1 : (0 : Int) ≤ (k : Int) + 1 := by omega
        have hi2 : (k : Int) + 1 < (D.length : Int) := by omega
        have hi3 : (0 : Int) ≤ (k : Int) := by omega
        have hi4 : (k : Int) < (D.length : Int) := by omega
        have hi5 : (k : Int) + 1 - 1 = (k : Int) := by omega
        have hwp : IntKind.i64.wrap (k : Int) = (k : Int) := by rw [IntKind.wrap_i64]; omega
        have hwe : ((k : Int) + 1).toNat = k + 1 := by omega
        have hcap1 : (k : Int) + 1 ≤ (cap : Int) := by omega
        have hcap2 : (D.length : Int) ≤ (cap : Int) := by omega
        have HPL := hid (fun h => HCP.out.plain HS.out HVV.out hkn h)
        have HSA := hid (fun h => HCP.out.same HVV.out hkn h)
        have HY := hid (HRW.out.rc D[k] (List.getElem_mem (by omega)))
        have HX := hid (HRW.out.rc D[k + 1] (List.getElem_mem hkn))
        have hy2 : D[k]? = some D[k] := List.getElem?_eq_getElem (by omega)
        have hx2 : D[k + 1]? = some D[k + 1] := List.getElem?_eq_getElem hkn
        generalize D[k] = y at *
        generalize D[k + 1] = x at *
        obtain ⟨ty, vy⟩ := y
        obtain ⟨tx, vx⟩ := x
        obtain ⟨py, ny, cy, rfl⟩ := HY.out.2.2.1.slice
        obtain ⟨px, nx, cx, rfl⟩ := HX.out.2.2.1.slice
        have HCM := hid (fun W (hr : RcAt W g (tx, .slice px nx cx)) (hq : RcAt W g (ty, .slice py ny cy)) => (show Calls Tryz.prog 162 #[.agg #[.int .i64 (nAt tx 0), .int .i64 (nAt tx 1), .int .i64 (nAt tx 2), .slice px nx cx], .agg #[.int .i64 (nAt ty 0), .int .i64 (nAt ty 1), .int .i64 (nAt ty 2), .slice py ny cy]] W
            fun e w' => e = .returned (.bool (ordV tx ty == 0)) ∧ Below W.heap.size W w' from same_rc (tx, .slice px nx cx) (ty, .slice py ny cy) g W hr hq))
        have HTW := hid (fun (W : World) (h : Rw w0 W g D) => (show W.cell? ⟨g, k * 4, none⟩ = some (.int .i64 (nAt ty 0)) ∧ W.cell? ⟨g, k * 4 + 1, none⟩ = some (.int .i64 (nAt ty 1)) ∧ W.cell? ⟨g, k * 4 + 2, none⟩ = some (.int .i64 (nAt ty 2)) ∧ W.cell? ⟨g, k * 4 + 3, none⟩ = some (.slice py ny cy) ∧ W.cell? ⟨g, (k + 1) * 4, none⟩ = some (.int .i64 (nAt tx 0)) ∧ W.cell? ⟨g, (k + 1) * 4 + 1, none⟩ = some (.int .i64 (nAt tx 1)) ∧ W.cell? ⟨g, (k + 1) * 4 + 2, none⟩ = some (.int .i64 (nAt tx 2)) ∧ W.cell? ⟨g, (k + 1) * 4 + 3, none⟩ = some (.slice px nx cx) ∧ Hid (Rw w0 W g D) from h.two hy2 hx2))
        obtain ⟨a0, a1, a2, a3, b0, b1, b2, b3, _⟩ := HTW.out _ HRW.out
        clear hy2 hx2
        by_cases hod : ordV tx ty = 0
        · have HC2 := hid (HSA.out hod)
          rw [hod] at HCM
          clear hod
          go_wp2_with fail
          go_region_held (fun W => W.cell? ⟨g, k * 4, none⟩ = some (.int .i64 (nAt ty 0)) ∧ W.cell? ⟨g, k * 4 + 1, none⟩ = some (.int .i64 (nAt ty 1)) ∧ W.cell? ⟨g, k * 4 + 2, none⟩ = some (.int .i64 (nAt ty 2)) ∧ W.cell? ⟨g, k * 4 + 3, none⟩ = some (.slice py ny cy) ∧ W.cell? ⟨g, (k + 1) * 4, none⟩ = some (.int .i64 (nAt tx 0)) ∧ W.cell? ⟨g, (k + 1) * 4 + 1, none⟩ = some (.int .i64 (nAt tx 1)) ∧ W.cell? ⟨g, (k + 1) * 4 + 2, none⟩ = some (.int .i64 (nAt tx 2)) ∧ W.cell? ⟨g, (k + 1) * 4 + 3, none⟩ = some (.slice px nx cx) ∧ Hid (Rw w0 W g D)) (first | exact HTW.out _ HRa.out | exact HTW.out _ (HRW.out.below (below_drawn _ 1))) (first
            | (go_at_call 162; refine (HCM.out _ ?_ ?_).mono ?_; exact HX.out.below (below_drawn _ 1); exact HY.out.below (below_drawn _ 1); rintro e w' ⟨rfl, hb⟩; have HRa := hid ((HRW.out.below (below_drawn _ 1)).below hb); clear hb))
          all_goals
            have HN := hid (show (D.take (k + 1)).length = k + 1 by simp; omega)
            clear a0 a1 a2 a3 b0 b1 b2 b3
            go_wp2_with fail
            go_loopw [5, 7] (fun a b wr2 => ∃ (j : Nat) (E : List Rc), a = .int .i64 (E.length : Int) ∧ b = .int .i64 ((j : Int) + 1) ∧ k + 1 + (j + 1) ≤ D.length ∧ E.length ≤ k + 1 + j ∧ Hid (Cp D (k + 1 + j + 1) E) ∧ Hid (Rw w0 wr2 g (E ++ D.drop E.length))) (fun _ b _ => D.length - (intOf b).toNat)
            case atStart => exact ⟨0, D.take (k + 1), by rw [HN.out]; rfl, rfl, by omega, by rw [HN.out]; omega, HC2, hid (by rw [HN.out, List.take_append_drop]; exact HRa.out)⟩
            case round =>
              obtain ⟨j, E, rfl, rfl, hjD, hEj, HCE, HRV⟩ := hrel
              have HAT := hid (show ∀ i, E.length ≤ i → (E ++ D.drop E.length)[i]? = D[i]? from fun i hi => by rw [List.getElem?_append_right hi, List.getElem?_drop]; congr 1; omega)
              by_cases hj : k + 1 + (j + 1) < D.length
              · have g1 : (0 : Int) ≤ (j : Int) + 1 := by omega
                have g2 : (j : Int) + 1 < ((D.length - (k + 1) : Nat) : Int) := by omega
                have g3 : (0 : Int) ≤ (j : Int) := by omega
                have g4 : (j : Int) < ((D.length - (k + 1) : Nat) : Int) := by omega
                have g5 : (j : Int) + 1 - 1 = (j : Int) := by omega
                have gwp : IntKind.i64.wrap (j : Int) = (j : Int) := by rw [IntKind.wrap_i64]; omega
                have gwe : ((j : Int) + 1).toNat = j + 1 := by omega
                have HMO := hid (fun h => HCE.out.more HS.out HVV.out hj h)
                have HSM := hid (fun h => HCE.out.same HVV.out hj h)
                have hv2 : (E ++ D.drop E.length)[k + 1 + j]? = some D[k + 1 + j] := by rw [HAT.out _ hEj]; exact List.getElem?_eq_getElem (by omega)
                have hu2 : (E ++ D.drop E.length)[k + 1 + j + 1]? = some D[k + 1 + j + 1] := by rw [HAT.out _ (by omega)]; exact List.getElem?_eq_getElem hj
                have HVY := hid (HRV.out.rc D[k + 1 + j] (List.mem_of_getElem? hv2))
                have HVX := hid (HRV.out.rc D[k + 1 + j + 1] (List.mem_of_getElem? hu2))
                have HUM := hid (List.mem_of_getElem? hu2)
                generalize D[k + 1 + j] = y at *
                generalize D[k + 1 + j + 1] = x at *
                obtain ⟨sy, vy⟩ := y
                obtain ⟨sx, vx⟩ := x
                obtain ⟨qy, my, dy, rfl⟩ := HVY.out.2.2.1.slice
                obtain ⟨qx, mx, dx, rfl⟩ := HVX.out.2.2.1.slice
                have HCN := hid (fun W (hr : RcAt W g (sx, .slice qx mx dx)) (hq : RcAt W g (sy, .slice qy my dy)) => (show Calls Tryz.prog 162 #[.agg #[.int .i64 (nAt sx 0), .int .i64 (nAt sx 1), .int .i64 (nAt sx 2), .slice qx mx dx], .agg #[.int .i64 (nAt sy 0), .int .i64 (nAt sy 1), .int .i64 (nAt sy 2), .slice qy my dy]] W
                  fun e w' => e = .returned (.bool (ordV sx sy == 0)) ∧ Below W.heap.size W w' from same_rc (sx, .slice qx mx dx) (sy, .slice qy my dy) g W hr hq))
                have HTV := hid (fun (W : World) (h : Rw w0 W g (E ++ D.drop E.length)) => (show W.cell? ⟨g, (k + 1) * 4 + j * 4, none⟩ = some (.int .i64 (nAt sy 0)) ∧ W.cell? ⟨g, (k + 1) * 4 + j * 4 + 1, none⟩ = some (.int .i64 (nAt sy 1)) ∧ W.cell? ⟨g, (k + 1) * 4 + j * 4 + 2, none⟩ = some (.int .i64 (nAt sy 2)) ∧ W.cell? ⟨g, (k + 1) * 4 + j * 4 + 3, none⟩ = some (.slice qy my dy) ∧ W.cell? ⟨g, (k + 1) * 4 + (j + 1) * 4, none⟩ = some (.int .i64 (nAt sx 0)) ∧ W.cell? ⟨g, (k + 1) * 4 + (j + 1) * 4 + 1, none⟩ = some (.int .i64 (nAt sx 1)) ∧ W.cell? ⟨g, (k + 1) * 4 + (j + 1) * 4 + 2, none⟩ = some (.int .i64 (nAt sx 2)) ∧ W.cell? ⟨g, (k + 1) * 4 + (j + 1) * 4 + 3, none⟩ = some (.slice qx mx dx) ∧ Hid (Rw w0 W g (E ++ D.drop E.length)) by
                  have h2 := h.two hv2 hu2
                  unfold Two at h2
                  rw [show (k + 1 + j) * 4 = (k + 1) * 4 + j * 4 by omega, show (k + 1 + j + 1) * 4 = (k + 1) * 4 + (j + 1) * 4 by omega] at h2
                  exact h2))
                obtain ⟨a0, a1, a2, a3, b0, b1, b2, b3, _⟩ := HTV.out _ HRV.out
                clear hv2 hu2
                by_cases hoe : ordV sx sy = 0
                · have HC3 := hid (HSM.out hoe)
                  rw [hoe] at HCN
                  clear hoe
                  go_wp2_with fail
                  go_region_held (fun W => W.cell? ⟨g, (k + 1) * 4 + j * 4, none⟩ = some (.int .i64 (nAt sy 0)) ∧ W.cell? ⟨g, (k + 1) * 4 + j * 4 + 1, none⟩ = some (.int .i64 (nAt sy 1)) ∧ W.cell? ⟨g, (k + 1) * 4 + j * 4 + 2, none⟩ = some (.int .i64 (nAt sy 2)) ∧ W.cell? ⟨g, (k + 1) * 4 + j * 4 + 3, none⟩ = some (.slice qy my dy) ∧ W.cell? ⟨g, (k + 1) * 4 + (j + 1) * 4, none⟩ = some (.int .i64 (nAt sx 0)) ∧ W.cell? ⟨g, (k + 1) * 4 + (j + 1) * 4 + 1, none⟩ = some (.int .i64 (nAt sx 1)) ∧ W.cell? ⟨g, (k + 1) * 4 + (j + 1) * 4 + 2, none⟩ = some (.int .i64 (nAt sx 2)) ∧ W.cell? ⟨g, (k + 1) * 4 + (j + 1) * 4 + 3, none⟩ = some (.slice qx mx dx) ∧ Hid (Rw w0 W g (E ++ D.drop E.length))) (first | exact HTV.out _ HRb.out | exact HTV.out _ (HRV.out.below (below_drawn _ 1))) (first
                  | (go_at_call 162; refine (HCN.out _ ?_ ?_).mono ?_; exact HVX.out.below (below_drawn _ 1); exact HVY.out.below (below_drawn _ 1); rintro e w' ⟨rfl, hb⟩; have HRb := hid ((HRV.out.below (below_drawn _ 1)).below hb); clear hb))
                  all_goals
                    go_wp2_with fail
                    go_roundw
                    case rel => exact ⟨j + 1, E, rfl, by go_num, by omega, by omega, HC3, HRb⟩
                    case measure => simp [intOf]; omega
                · have HC3 := hid (HMO.out hoe)
                  have hob : (ordV sx sy == 0) = false := beq_eq_false_iff_ne.2 hoe
                  rw [hob] at HCN
                  clear hoe hob
                  go_wp2_with fail
                  go_region_held (fun W => W.cell? ⟨g, (k + 1) * 4 + j * 4, none⟩ = some (.int .i64 (nAt sy 0)) ∧ W.cell? ⟨g, (k + 1) * 4 + j * 4 + 1, none⟩ = some (.int .i64 (nAt sy 1)) ∧ W.cell? ⟨g, (k + 1) * 4 + j * 4 + 2, none⟩ = some (.int .i64 (nAt sy 2)) ∧ W.cell? ⟨g, (k + 1) * 4 + j * 4 + 3, none⟩ = some (.slice qy my dy) ∧ W.cell? ⟨g, (k + 1) * 4 + (j + 1) * 4, none⟩ = some (.int .i64 (nAt sx 0)) ∧ W.cell? ⟨g, (k + 1) * 4 + (j + 1) * 4 + 1, none⟩ = some (.int .i64 (nAt sx 1)) ∧ W.cell? ⟨g, (k + 1) * 4 + (j + 1) * 4 + 2, none⟩ = some (.int .i64 (nAt sx 2)) ∧ W.cell? ⟨g, (k + 1) * 4 + (j + 1) * 4 + 3, none⟩ = some (.slice qx mx dx) ∧ Hid (Rw w0 W g (E ++ D.drop E.length))) (first | exact HTV.out _ HRb.out | exact HTV.out _ (HRV.out.below (below_drawn _ 1))) (first
                  | (go_at_call 162; refine (HCN.out _ ?_ ?_).mono ?_; exact HVX.out.below (below_drawn _ 1); exact HVY.out.below (below_drawn _ 1); rintro e w' ⟨rfl, hb⟩; have HRb := hid ((HRV.out.below (below_drawn _ 1)).below hb); clear hb))
                  all_goals
                    clear a0 a1 a2 a3 b0 b1 b2 b3
                    obtain ⟨a0, a1, a2, a3, b0, b1, b2, b3, _⟩ := HTV.out _ HRb.out
                    have hfz := HRb.out.fz
                    have e1 : (0 : Int) ≤ (E.length : Int) := by omega
                    have e2 : (E.length : Int) < (D.length : Int) := by omega
                    have hEl : E.length < (E ++ D.drop E.length).length := by simp; omega
                    obtain ⟨z0, z1, z2, z3⟩ := HRb.out.at (j := E.length) (r := (E ++ D.drop E.length)[E.length]) (List.getElem?_eq_getElem hEl)
                    have HW4 := hid (show Rw w0 ((((w'.setCell ⟨g, E.length * 4, none⟩ (.int .i64 (nAt sx 0))).setCell ⟨g, E.length * 4 + 1, none⟩ (.int .i64 (nAt sx 1))).setCell ⟨g, E.length * 4 + 2, none⟩ (.int .i64 (nAt sx 2))).setCell ⟨g, E.length * 4 + 3, none⟩ (.slice qx mx dx)) g ((E ++ [((sx, .slice qx mx dx) : Rc)]) ++ D.drop (E ++ [((sx, .slice qx mx dx) : Rc)]).length) by
                      have h := HRb.out.setAt E.length hEl (sx, .slice qx mx dx) (HRb.out.rc _ HUM.out)
                      have e : (E ++ D.drop E.length).set E.length (sx, .slice qx mx dx) = (E ++ [((sx, .slice qx mx dx) : Rc)]) ++ D.drop (E ++ [((sx, .slice qx mx dx) : Rc)]).length := by
                        rw [List.set_append_right _ _ (Nat.le_refl _), Nat.sub_self, List.drop_eq_getElem_cons (show E.length < D.length by omega), List.set_cons_zero, List.length_append]
                        simp
                      rw [e] at h
                      exact h)
                    go_wp2_with fail
                    go_roundw
                    case rel => exact ⟨j + 1, E ++ [(sx, .slice qx mx dx)], by simp, by go_num, by omega, by simp; omega, HC3, HW4⟩
                    case measure => simp [intOf]; omega
              · have hje : k + 1 + (j + 1) = D.length := by omega
                have g2 : ¬ (j : Int) + 1 < ((D.length - (k + 1) : Nat) : Int) := by omega
                have hRl : (E ++ D.drop E.length).length = D.length := by simp; omega
                obtain ⟨zs, hcl⟩ := run_clear_rw HRV.out E.length (by omega)
                rw [hRl] at hcl
                have HEN := hid (show Cp D D.length E by have := HCE.out; rw [show k + 1 + j + 1 = D.length by omega] at this; exact this)
                have HRE := hid (show Rw w0 (wr.setCells g (E.length * 4) zs) g E by
                  have := HRV.out.cleared E.length (by omega) zs
                  rw [List.take_left'  rfl] at this
                  exact this)
                have c1 : (E.length : Int) ≤ (D.length : Int) := by omega
                have c2 : (E.length : Int) < (cap : Int) := by omega
                have c3 : (E.length : Int) ≤ (cap : Int) := by omega
                have c4 : (0 : Int) ≤ (E.length : Int) := by omega
                have c5 : E.length < cap := by omega
                go_wp2_with fail
                go_ret
                exact ⟨E, rfl, by omega, HEN.out.ri, fun t => by have h := HEN.out.mem t; rw [List.take_length] at h; simpa using h, HRE.out⟩
        · have HC2 := hid (HPL.out hod)
          have hob : (ordV tx ty == 0) = false := beq_eq_false_iff_ne.2 hod
          rw [hob] at HCM
          clear hod hob
          go_wp2_with fail
          go_region_held (fun W => W.cell? ⟨g, k * 4, none⟩ = some (.int .i64 (nAt ty 0)) ∧ W.cell? ⟨g, k * 4 + 1, none⟩ = some (.int .i64 (nAt ty 1)) ∧ W.cell? ⟨g, k * 4 + 2, none⟩ = some (.int .i64 (nAt ty 2)) ∧ W.cell? ⟨g, k * 4 + 3, none⟩ = some (.slice py ny cy) ∧ W.cell? ⟨g, (k + 1) * 4, none⟩ = some (.int .i64 (nAt tx 0)) ∧ W.cell? ⟨g, (k + 1) * 4 + 1, none⟩ = some (.int .i64 (nAt tx 1)) ∧ W.cell? ⟨g, (k + 1) * 4 + 2, none⟩ = some (.int .i64 (nAt tx 2)) ∧ W.cell? ⟨g, (k + 1) * 4 + 3, none⟩ = some (.slice px nx cx) ∧ Hid (Rw w0 W g D)) (first | exact HTW.out _ HRa.out | exact HTW.out _ (HRW.out.below (below_drawn _ 1))) (first
            | (go_at_call 162; refine (HCM.out _ ?_ ?_).mono ?_; exact HX.out.below (below_drawn _ 1); exact HY.out.below (below_drawn _ 1); rintro e w' ⟨rfl, hb⟩; have HRa := hid ((HRW.out.below (below_drawn _ 1)).below hb); clear hb))
          all_goals
            go_wp2_with fail
            go_roundw
            case rel => exact ⟨k + 1, by omega, by go_num, HC2, HRa⟩
            case measure => simp [intOf]; omega
      · obtain hke : k + 1 = D.length := by omega
        have HFI := hid (show Cp D D.length D by have := HCP.out; rw [hke, List.take_length] at this; exact this)
        have hi2 : ¬ (k : Int) + 1 < (D.length : Int) := by omega
        go_wp2_with fail
        go_ret
        exact ⟨D, rfl, Nat.le_refl _, HFI.out.ri, fun t => Iff.rfl, HRW.out⟩
end Ve
end Go.Proofs.YtanponneancajaaGreatDoor

/-
  The sorts of nothing; ver.Sort whole.
-/
namespace Go.Proofs.YtanponneancajaaGreatDoor
open Go.RowKit
namespace Ve

theorem ins_nil (W : World) : Calls Tryz.prog 241 #[.slice none 0 0, .int .i64 0, .int .i64 0, .func (.func 58) #[] #[]] W fun e w' => e = .returned (.tuple #[]) ∧ w' = W := by
  go_enter Tryz.func241, Tryz.ntmps241
  go_wp2_with fail
  go_loop [8] (fun i => i = .int .i64 1) (fun _ => 0)
  case atStart => rfl
  case round =>
    obtain rfl := hrel
    go_wp2_with fail
    go_end0
    exact ⟨rfl, rfl⟩
set_option maxRecDepth 100000 in
set_option maxHeartbeats 2000000 in
theorem pdq_nil (n : Int) (W : World) : Calls Tryz.prog 213 #[.slice none 0 0, .int .i64 0, .int .i64 0, .int .i64 n, .func (.func 58) #[] #[]] W fun e w' => e = .returned (.tuple #[]) ∧ w' = W := by
  have HI := hid (ins_nil W)
  go_enter Tryz.func213, Tryz.ntmps213
  go_wp2_with fail
  go_loop [1, 2, 3, 10, 11] (fun a b _ _ _ => a = .int .i64 0 ∧ b = .int .i64 0) (fun _ _ _ _ _ => 0)
  case atStart => exact ⟨rfl, rfl⟩
  case round =>
    obtain ⟨rfl, rfl⟩ := hrel
    go_wp2_with fail
    refine HI.out.mono ?_
    rintro e w' ⟨rfl, rfl⟩
    go_wp2_with fail
    first | (go_end0; exact ⟨rfl, rfl⟩) | (go_ret; exact ⟨rfl, rfl⟩) | (refine bodyPost_ret (v := .tuple #[]) (by simp [results, Tryz.results213]) rfl ⟨rfl, rfl⟩)
set_option maxHeartbeats 1000000 in
theorem sortf_nil (W : World) : Calls Tryz.prog 160 #[.slice none 0 0, .func (.func 58) #[] #[]] W fun e w' => e = .returned (.tuple #[]) ∧ Below W.heap.size W w' := by
  have HLN := hid (show Calls Tryz.prog 212 #[.int .u64 0] W fun e w' => e = .returned (.int .i64 (Lib.bitLen 0 : Nat)) ∧ w' = W from by
    have h := Any.bits_Len (SlLaysF0.n15.bits (P := Tryz.prog) (ρ := Tryz.sortParts_ren) { Tryz.sortParts with }) 0 W (by omega) (by omega)
    exact h)
  have HP := hid (fun n => pdq_nil n W)
  go_enter Tryz.func160, Tryz.ntmps160
  go_wp2_with fail
  refine HLN.out.mono ?_
  rintro e w' ⟨rfl, rfl⟩
  go_wp2_with fail
  refine (HP.out _).mono ?_
  rintro e w' ⟨rfl, rfl⟩
  go_wp2_with fail
  go_end0
  exact ⟨rfl, Below.refl _ _⟩

theorem compact_is : CompactIs := fun w0 W g cap D hD h12 hc hcm hs hR => compact_rw w0 W g cap D hD h12 hc hcm hs hR
/-- ver.Sort of a list that is there. -/
theorem vsort_any (b0 o0 cap : Nat) (L : List ByteArray) (aT aB : Addr) (m : Int) (w : World) (S : Vs w aT aB m) (htab : Lib.TabIs Tryz.prog w powName .u64 Lib.pow10Tab) (hL : ∀ j (h : j < L.length), w.cell? ⟨b0, o0 + j, none⟩ = some (.string L[j])) (h12 : L.length ≤ 1000) (hz : ∀ x, x ∈ L → x.size ≤ 80) :
    Calls Tryz.prog 119 #[.slice (some ⟨b0, o0, none⟩) L.length cap] w fun e w' => ∃ v X, e = .returned v ∧ w'.ownsRow w.heap.size 9 1 v X.length (X.map Value.string) ∧ Kept L L.length X ∧ Below w.heap.size w w' :=
  vsort_some compact_is sortf_nil compact_nil b0 o0 cap L aT aB m w S htab hL h12 hz
theorem kept_none : Kept [] 0 [] := ⟨List.Pairwise.nil, fun t => by simp [bl]⟩
set_option maxHeartbeats 1000000 in
theorem sortVers_none (W : World) : Calls Tryz.prog 178 #[.slice none 0 0] W fun e w' => e = .returned (.slice none 0 0) ∧ w' = W := by
  go_enter Tryz.func178, Tryz.ntmps178
  go_wp2_with fail
  go_loop [3, 4] (fun v i => v = .slice none 0 0 ∧ i = .int .i64 0) (fun _ _ => 0)
  case atStart => exact ⟨rfl, rfl⟩
  case round =>
    obtain ⟨rfl, rfl⟩ := hrel
    go_wp2_with fail
    go_ret
    exact ⟨rfl, rfl⟩
set_option maxHeartbeats 1000000 in
theorem vsort_none (W : World) : Calls Tryz.prog 119 #[.slice none 0 0] W fun e w' => e = .returned (.slice none 0 0) ∧ Below W.heap.size W w' := by
  have HSN := hid sortf_nil
  have HCN := hid compact_nil
  go_enter Tryz.func119, Tryz.ntmps119
  go_wp2_with fail
  go_loop [3, 13] (fun v i => v = .slice none 0 0 ∧ i = .int .i64 0) (fun _ _ => 0)
  case atStart => exact ⟨rfl, rfl⟩
  case round =>
    obtain ⟨rfl, rfl⟩ := hrel
    go_wp2_with fail
    refine (HSN.out _).mono ?_
    rintro e w1 ⟨rfl, hb1⟩
    go_wp2_with fail
    refine (HCN.out _).mono ?_
    rintro e w2 ⟨rfl, hb2⟩
    have HB2 := hid (hb1.trans (hb2.mono hb1.size))
    clear hb1 hb2
    go_wp2_with fail
    go_loop [8, 35] (fun v i => v = .slice none 0 0 ∧ i = .int .i64 0) (fun _ _ => 0)
    case atStart => exact ⟨rfl, rfl⟩
    case round =>
      obtain ⟨rfl, rfl⟩ := hrel
      go_wp2_with fail
      go_ret
      exact ⟨rfl, HB2.out⟩
end Ve
end Go.Proofs.YtanponneancajaaGreatDoor

/-
  What index.versions, Versions, Latest and Paths answer.
-/
namespace Go.Proofs.YtanponneancajaaGreatDoor
open Go.RowKit
namespace Ve

/-- The versions, the paths of a row of entries. -/
def verL (L : List Raw) : List ByteArray := L.map fun r => r.1.2
def pathL (L : List Raw) : List ByteArray := L.map fun r => r.1.1
theorem verL_len (L : List Raw) : (verL L).length = L.length := by simp [verL]
theorem pathL_len (L : List Raw) : (pathL L).length = L.length := by simp [pathL]
theorem verL_next {L : List Raw} {k : Nat} (hk : k < L.length) : verL (L.take (k + 1)) = verL (L.take k) ++ [L[k].1.2] := by
  unfold verL
  rw [List.take_succ_eq_append_getElem hk, List.map_append]; rfl
theorem pathL_next {L : List Raw} {k : Nat} (hk : k < L.length) : pathL (L.take (k + 1)) = pathL (L.take k) ++ [L[k].1.1] := by
  unfold pathL
  rw [List.take_succ_eq_append_getElem hk, List.map_append]; rfl
theorem own_nextT {W : World} {B : Nat} {e : TypeId} {v : Value} {X X' : List ByteArray} {x : ByteArray} (h : W.ownsRow B e 1 v (X.length + 1) (X.map Value.string ++ [.string x])) (hl : X' = X ++ [x]) : W.ownsRow B e 1 v X'.length (X'.map Value.string) := by
  subst hl
  rw [List.length_append, List.map_append]
  exact h
set_option maxHeartbeats 4000000 in
set_option maxRecDepth 100000 in
theorem versions_some (L : List Raw) (b o c : Nat) (w : World) (hL : L.length ≤ 1000) (hs : ∀ r, r ∈ L → slR r)
    (hc : ∀ j (h : j < L.length), w.cell? ⟨b, o + j * 5, none⟩ = some (.string L[j].1.1) ∧ w.cell? ⟨b, o + j * 5 + 1, none⟩ = some (.string L[j].1.2) ∧ w.cell? ⟨b, o + j * 5 + 2, none⟩ = some L[j].2.1 ∧ w.cell? ⟨b, o + j * 5 + 3, none⟩ = some L[j].2.2.1 ∧ w.cell? ⟨b, o + j * 5 + 4, none⟩ = some (.bool L[j].2.2.2))
    (Post : Value → World → Prop) (hk : ∀ u W, W.ownsRow w.heap.size 9 1 u (verL L).length ((verL L).map Value.string) → Below w.heap.size w W → Calls Tryz.prog 119 #[u] W fun e w' => ∃ x, e = .returned x ∧ Post x w') :
    Calls Tryz.prog 67 #[.slice (some ⟨b, o, none⟩) L.length c] w fun e w' => ∃ x, e = .returned x ∧ Post x w' := by
  obtain ⟨i0, hi, hz0, hz1, hz2⟩ := info_parts infoStr
  have HC := hid hc
  have HSL := hid hs
  have HK := hid hk
  clear hc hs hk
  go_enter Tryz.func67, Tryz.ntmps67
  go_wp2_with fail
  go_loopw [3, 8] (fun ov i wr => ∃ k : Nat, k ≤ L.length ∧ i = .int .i64 k ∧ Hid (wr.ownsRow w.heap.size 9 1 ov (verL (L.take k)).length ((verL (L.take k)).map Value.string)) ∧ Hid (Below w.heap.size w wr)) (fun _ i _ => L.length - (intOf i).toNat)
  case atStart => exact ⟨0, Nat.zero_le _, rfl, hid (World.ownsRow_nil _ _ _ _), hid (Below.refl _ _)⟩
  case round =>
    obtain ⟨k, hk, rfl, HO, HB⟩ := hrel
    by_cases hlt : k < L.length
    · obtain ⟨y0, y1, y2, y3, y4⟩ := HC.out k hlt
      have x0 := cell_below HB.out y0
      have x1 := cell_below HB.out y1
      have x2 := cell_below HB.out y2
      have x3 := cell_below HB.out y3
      have x4 := cell_below HB.out y4
      have hsl := HSL.out L[k] (List.getElem_mem hlt)
      have hkI : (k : Int) < (L.length : Int) := by omega
      have HLT := hid hlt
      have HY := hid (verL_next hlt)
      have hln : (verL (L.take k)).length = k := by rw [verL_len, List.length_take]; omega
      clear y0 y1 y2 y3 y4
      generalize L[k] = x at *
      obtain ⟨⟨p, q⟩, rv, pv, bk⟩ := x
      obtain ⟨⟨ra, rn, rc, hrv⟩, pa, pn, pc, hpv⟩ := hsl
      simp only at hrv hpv
      subst hrv
      subst hpv
      have HBa := hid (HB.out.alloc HB.out.size (.cells #[.string p, .string q, .slice ra rn rc, .slice pa pn pc, .bool bk] 54))
      have HOa := hid (HO.out.alloc (.cells #[.string p, .string q, .slice ra rn rc, .slice pa pn pc, .bool bk] 54))
      clear hlt
      have hzz := HB.out.size
      go_wp2_with (at_builtin; refine wpList_append_own _ rfl _ _ 24 rfl w.heap.size 9 i0 _ 1 16 Tryz.underlying24 hi hz0 hz1 hz2 rfl (by decide) _ _ _ rfl (HOa.out.alloc _) ⟨wr.heap.size + 1, 0, none⟩ 1 1 [.string q] rfl rfl ?c1 ?c2 ?c3 ?c4 ?c5 ?_)
      case c2 => rfl
      case c3 => unfold maxLen; omega
      case c4 => omega
      case c5 => omega
      intro v' w3 hown hgrow _
      have HR3 := hid (rel_app HBa.out.size HBa.out HOa.out (Below.refl _ _) hgrow)
      have HO3 := hid hown
      clear hown hgrow x0 x1 x2 x3 x4
      go_wp2_with fail
      go_roundw
      case rel => exact ⟨k + 1, by have := HLT.out; omega, by go_num, hid (own_nextT (X := verL (L.take k)) (by rw [hln]; exact HO3.out) HY.out), HR3⟩
      case measure => have := HLT.out; simp [intOf]; omega
    · have HTR := hid (show L.take k = L from List.take_of_length_le (by omega))
      rw [HTR.out] at HO
      have hkI : ¬ (k : Int) < (L.length : Int) := by omega
      have HKK := hid (HK.out _ _ HO.out HB.out)
      clear hlt
      go_wp2_with fail
      refine HKK.out.mono ?_
      rintro e w1 ⟨x, rfl, hp⟩
      have HP := hid hp
      clear hp
      go_wp2_with fail
      go_ret
      exact ⟨_, rfl, HP.out⟩
theorem versions_none (a : Option Addr) (c : Nat) (w : World)
    (Post : Value → World → Prop) (hk : Calls Tryz.prog 119 #[.slice none 0 0] w fun e w' => ∃ x, e = .returned x ∧ Post x w') :
    Calls Tryz.prog 67 #[.slice a 0 c] w fun e w' => ∃ x, e = .returned x ∧ Post x w' := by
  have HK := hid hk
  clear hk
  go_enter Tryz.func67, Tryz.ntmps67
  go_wp2_with fail
  go_loopw [3, 8] (fun ov i wr => ov = .slice none 0 0 ∧ i = .int .i64 0 ∧ wr = w) (fun _ i _ => 0)
  case atStart => exact ⟨rfl, rfl, rfl⟩
  case round =>
    obtain ⟨rfl, rfl, rfl⟩ := hrel
    go_wp2_with fail
    refine HK.out.mono ?_
    rintro e w1 ⟨x, rfl, hp⟩
    have HP := hid hp
    clear hp
    go_wp2_with fail
    go_ret
    exact ⟨_, rfl, HP.out⟩
set_option maxHeartbeats 4000000 in
set_option maxRecDepth 100000 in
theorem paths_some (L : List Raw) (b o c : Nat) (w : World) (hL : L.length ≤ 1000) (hs : ∀ r, r ∈ L → slR r)
    (hc : ∀ j (h : j < L.length), w.cell? ⟨b, o + j * 5, none⟩ = some (.string L[j].1.1) ∧ w.cell? ⟨b, o + j * 5 + 1, none⟩ = some (.string L[j].1.2) ∧ w.cell? ⟨b, o + j * 5 + 2, none⟩ = some L[j].2.1 ∧ w.cell? ⟨b, o + j * 5 + 3, none⟩ = some L[j].2.2.1 ∧ w.cell? ⟨b, o + j * 5 + 4, none⟩ = some (.bool L[j].2.2.2))
    (Post : Value → World → Prop) (hk : ∀ u W, W.ownsRow w.heap.size 9 1 u (pathL L).length ((pathL L).map Value.string) → Below w.heap.size w W → Calls Tryz.prog 66 #[u] W fun e w' => ∃ x, e = .returned x ∧ Post x w') :
    Calls Tryz.prog 24 #[.slice (some ⟨b, o, none⟩) L.length c] w fun e w' => ∃ x, e = .returned x ∧ Post x w' := by
  obtain ⟨i0, hi, hz0, hz1, hz2⟩ := info_parts infoStr
  have HC := hid hc
  have HSL := hid hs
  have HK := hid hk
  clear hc hs hk
  go_enter Tryz.func24, Tryz.ntmps24
  go_wp2_with fail
  go_loopw [3, 8] (fun ov i wr => ∃ k : Nat, k ≤ L.length ∧ i = .int .i64 k ∧ Hid (wr.ownsRow w.heap.size 9 1 ov (pathL (L.take k)).length ((pathL (L.take k)).map Value.string)) ∧ Hid (Below w.heap.size w wr)) (fun _ i _ => L.length - (intOf i).toNat)
  case atStart => exact ⟨0, Nat.zero_le _, rfl, hid (World.ownsRow_nil _ _ _ _), hid (Below.refl _ _)⟩
  case round =>
    obtain ⟨k, hk, rfl, HO, HB⟩ := hrel
    by_cases hlt : k < L.length
    · obtain ⟨y0, y1, y2, y3, y4⟩ := HC.out k hlt
      have x0 := cell_below HB.out y0
      have x1 := cell_below HB.out y1
      have x2 := cell_below HB.out y2
      have x3 := cell_below HB.out y3
      have x4 := cell_below HB.out y4
      have hsl := HSL.out L[k] (List.getElem_mem hlt)
      have hkI : (k : Int) < (L.length : Int) := by omega
      have HLT := hid hlt
      have HY := hid (pathL_next hlt)
      have hln : (pathL (L.take k)).length = k := by rw [pathL_len, List.length_take]; omega
      clear y0 y1 y2 y3 y4
      generalize L[k] = x at *
      obtain ⟨⟨p, q⟩, rv, pv, bk⟩ := x
      obtain ⟨⟨ra, rn, rc, hrv⟩, pa, pn, pc, hpv⟩ := hsl
      simp only at hrv hpv
      subst hrv
      subst hpv
      have HBa := hid (HB.out.alloc HB.out.size (.cells #[.string p, .string q, .slice ra rn rc, .slice pa pn pc, .bool bk] 54))
      have HOa := hid (HO.out.alloc (.cells #[.string p, .string q, .slice ra rn rc, .slice pa pn pc, .bool bk] 54))
      clear hlt
      have hzz := HB.out.size
      go_wp2_with (at_builtin; refine wpList_append_own _ rfl _ _ 24 rfl w.heap.size 9 i0 _ 1 16 Tryz.underlying24 hi hz0 hz1 hz2 rfl (by decide) _ _ _ rfl (HOa.out.alloc _) ⟨wr.heap.size + 1, 0, none⟩ 1 1 [.string p] rfl rfl ?c1 ?c2 ?c3 ?c4 ?c5 ?_)
      case c2 => rfl
      case c3 => unfold maxLen; omega
      case c4 => omega
      case c5 => omega
      intro v' w3 hown hgrow _
      have HR3 := hid (rel_app HBa.out.size HBa.out HOa.out (Below.refl _ _) hgrow)
      have HO3 := hid hown
      clear hown hgrow x0 x1 x2 x3 x4
      go_wp2_with fail
      go_roundw
      case rel => exact ⟨k + 1, by have := HLT.out; omega, by go_num, hid (own_nextT (X := pathL (L.take k)) (by rw [hln]; exact HO3.out) HY.out), HR3⟩
      case measure => have := HLT.out; simp [intOf]; omega
    · have HTR := hid (show L.take k = L from List.take_of_length_le (by omega))
      rw [HTR.out] at HO
      have hkI : ¬ (k : Int) < (L.length : Int) := by omega
      have HKK := hid (HK.out _ _ HO.out HB.out)
      clear hlt
      go_wp2_with fail
      refine HKK.out.mono ?_
      rintro e w1 ⟨x, rfl, hp⟩
      have HP := hid hp
      clear hp
      go_wp2_with fail
      go_ret
      exact ⟨_, rfl, HP.out⟩
theorem paths_none (a : Option Addr) (c : Nat) (w : World)
    (Post : Value → World → Prop) (hk : Calls Tryz.prog 66 #[.slice none 0 0] w fun e w' => ∃ x, e = .returned x ∧ Post x w') :
    Calls Tryz.prog 24 #[.slice a 0 c] w fun e w' => ∃ x, e = .returned x ∧ Post x w' := by
  have HK := hid hk
  clear hk
  go_enter Tryz.func24, Tryz.ntmps24
  go_wp2_with fail
  go_loopw [3, 8] (fun ov i wr => ov = .slice none 0 0 ∧ i = .int .i64 0 ∧ wr = w) (fun _ i _ => 0)
  case atStart => exact ⟨rfl, rfl, rfl⟩
  case round =>
    obtain ⟨rfl, rfl, rfl⟩ := hrel
    go_wp2_with fail
    refine HK.out.mono ?_
    rintro e w1 ⟨x, rfl, hp⟩
    have HP := hid hp
    clear hp
    go_wp2_with fail
    go_ret
    exact ⟨_, rfl, HP.out⟩
/-- index.versions. -/
theorem versions_any (L : List Raw) (v : Value) (aT aB : Addr) (m : Int) (w : World) (hL : L.length ≤ 1000) (hz : ∀ r, r ∈ L → r.1.2.size ≤ 80) (S : Vs w aT aB m) (htab : Lib.TabIs Tryz.prog w powName .u64 Lib.pow10Tab) (hv : EsAt w v L) :
    Calls Tryz.prog 67 #[v] w fun e w' => ∃ u, e = .returned u ∧ ∃ X, w'.ownsRow w.heap.size 9 1 u X.length (X.map Value.string) ∧ Kept (verL L) (verL L).length X ∧ Below w.heap.size w w' := by
  obtain ⟨a, c, rfl, _, hs, h⟩ := hv
  cases L with
  | nil => exact versions_none a c w (fun u w' => ∃ X, w'.ownsRow w.heap.size 9 1 u X.length (X.map Value.string) ∧ Kept (verL []) (verL []).length X ∧ Below w.heap.size w w') ((vsort_none w).mono fun e w' ⟨h1, h2⟩ => ⟨_, h1, [], World.ownsRow_nil _ _ _ _, kept_none, h2⟩)
  | cons x r =>
    obtain ⟨b, o, rfl, h2⟩ := h (by simp)
    refine versions_some (x :: r) b o c w hL hs h2 (fun u w' => ∃ X, w'.ownsRow w.heap.size 9 1 u X.length (X.map Value.string) ∧ Kept (verL (x :: r)) (verL (x :: r)).length X ∧ Below w.heap.size w w') fun u W ho hb => ?_
    obtain ⟨a', c', rfl, _, h3⟩ := own_tx ho
    obtain ⟨b', o', rfl, h4⟩ := h3 (by simp [verL])
    refine (vsort_any b' o' c' (verL (x :: r)) aT aB m W (S.below hb) (tab_below htab hb) h4 (by rw [verL_len]; exact hL) (fun y hy => ?_)).mono ?_
    · obtain ⟨r', hr', rfl⟩ := List.mem_map.1 hy
      exact hz r' hr'
    · rintro e w' ⟨u, X, rfl, h5, h6, h7⟩
      exact ⟨u, rfl, X, own_baseN h5 hb.size, h6, hb.trans (h7.mono hb.size)⟩
/-- index.Paths. -/
theorem paths_any (L : List Raw) (v : Value) (w : World) (hL : L.length ≤ 1000) (hv : EsAt w v L) :
    Calls Tryz.prog 24 #[v] w fun e w' => ∃ u, e = .returned u ∧ w'.ownsRow w.heap.size 9 1 u (tx (risB (bl (pathL L)))).length ((tx (risB (bl (pathL L)))).map Value.string) ∧ Below w.heap.size w w' := by
  obtain ⟨a, c, rfl, _, hs, h⟩ := hv
  cases L with
  | nil =>
    refine paths_none a c w _ ((rising_any [] (by simp) (.slice none 0 0) w ⟨none, 0, rfl, Nat.le_refl _, fun h => absurd rfl h⟩).mono fun e w' ⟨u, h1, h2, h3⟩ => ⟨u, h1, h2, h3⟩)
  | cons x r =>
    obtain ⟨b, o, rfl, h2⟩ := h (by simp)
    refine paths_some (x :: r) b o c w hL hs h2 _ fun u W ho hb => ?_
    refine (rising_any (pathL (x :: r)) (by rw [pathL_len]; omega) u W (own_tx ho)).mono ?_
    rintro e w' ⟨u', rfl, h5, h7⟩
    exact ⟨u', rfl, own_baseN h5 hb.size, hb.trans (h7.mono hb.size)⟩
end Ve
end Go.Proofs.YtanponneancajaaGreatDoor

/-
  What index.Versions, Best and Latest answer.
-/
namespace Go.Proofs.YtanponneancajaaGreatDoor
open Go.RowKit
namespace Ve

/-- The entries of a path whose version is one. -/
def ofP (t : ByteArray) (L : List Raw) : List Raw := L.filter (isP t)
theorem ofP_len (t : ByteArray) (L : List Raw) : (ofP t L).length ≤ L.length := List.length_filter_le _ _
theorem bestR_sub {L : List Raw} {r : Raw} (h : r ∈ bestR L) : r ∈ L := by
  unfold bestR at h
  split at h
  · exact (List.mem_filter.1 (List.mem_filter.1 h).1).1
  · split at h
    · exact (List.mem_filter.1 h).1
    · exact h
theorem bestR_len (L : List Raw) : (bestR L).length ≤ L.length := by
  unfold bestR
  split
  · exact Nat.le_trans (List.length_filter_le _ _) (List.length_filter_le _ _)
  · split
    · exact List.length_filter_le _ _
    · exact Nat.le_refl _
/-- The last of a row of texts, or none. -/
def lastT (X : List ByteArray) : ByteArray := X.getLast?.getD ⟨#[]⟩
theorem lastT_nil : lastT [] = ⟨#[]⟩ := rfl
theorem lastT_get {X : List ByteArray} (h : 0 < X.length) : lastT X = X[X.length - 1] := by
  unfold lastT
  rw [List.getLast?_eq_getElem?, List.getElem?_eq_getElem (by omega)]; rfl
theorem own_max {W : World} {B n k : Nat} {e : TypeId} {v : Value} {xs : List Value} (h : W.ownsRow B e k v n xs) : n ≤ maxLen := by
  obtain ⟨_, ⟨hv, hn0⟩ | ⟨g, cap, cur, hv, hg, hblk, hcap, hcm, hcs, hct⟩⟩ := h
  · rw [hn0]; exact Nat.zero_le _
  · exact Nat.le_trans hcap hcm
set_option maxRecDepth 100000 in
set_option maxHeartbeats 2000000 in
/-- index.Versions. -/
theorem vers_any (L : List Raw) (t : ByteArray) (v : Value) (aT aB : Addr) (m : Int) (w : World) (hL : L.length ≤ 1000) (hz : ∀ r, r ∈ L → r.1.1.size ≤ 80 ∧ r.1.2.size ≤ 80) (S : Vs w aT aB m) (htab : Lib.TabIs Tryz.prog w powName .u64 Lib.pow10Tab) (hv : EsAt w v L) :
    Calls Tryz.prog 25 #[v, .string t] w fun e w' => ∃ u, e = .returned u ∧ ∃ X, w'.ownsRow w.heap.size 9 1 u X.length (X.map Value.string) ∧ Kept (verL (ofP t L)) (verL (ofP t L)).length X ∧ Below w.heap.size w w' := by
  obtain ⟨a, c, rfl, _⟩ := id hv
  have hsh : shortR L := fun r hr => ⟨by have := (hz r hr).1; omega, by have := (hz r hr).2; omega⟩
  have HP := hid (ofPath_any L t _ aT aB m w (by omega) hsh S hv)
  have HZ := hid hz
  have HS := hid S
  have HT := hid htab
  have hll := ofP_len t L
  clear hv S htab hz hsh
  go_enter Tryz.func25, Tryz.ntmps25
  go_wp2_with fail
  refine HP.out.mono ?_
  rintro e w1 ⟨v1, rfl, he, hb⟩
  have HV := hid (versions_any (ofP t L) v1 aT aB m w1 (by omega) (fun r hr => (HZ.out r (List.mem_filter.1 hr).1).2) (HS.out.below hb) (tab_below HT.out hb) he)
  have HB := hid hb
  obtain ⟨a1, c1, rfl, _⟩ := he
  clear hb
  go_wp2_with fail
  refine HV.out.mono ?_
  rintro e w2 ⟨u, rfl, X, h1, h2, h3⟩
  obtain ⟨ua, uc, hu⟩ := own_slN h1
  subst hu
  have HR := hid (⟨own_baseN h1 HB.out.size, h2, HB.out.trans (h3.mono HB.out.size)⟩ : _ ∧ _ ∧ Below w.heap.size w w2)
  clear h1 h2 h3
  go_wp2_with fail
  go_ret
  exact ⟨_, rfl, X, HR.out⟩
set_option maxRecDepth 100000 in
set_option maxHeartbeats 2000000 in
/-- index.Best. -/
theorem ibest_any (L : List Raw) (t : ByteArray) (v : Value) (aT aB : Addr) (m : Int) (w : World) (hL : L.length ≤ 1000) (hz : ∀ r, r ∈ L → r.1.1.size ≤ 80 ∧ r.1.2.size ≤ 80) (S : Vs w aT aB m) (htab : Lib.TabIs Tryz.prog w powName .u64 Lib.pow10Tab) (hv : EsAt w v L) :
    Calls Tryz.prog 69 #[v, .string t] w fun e w' => ∃ u, e = .returned u ∧ ∃ X, w'.ownsRow w.heap.size 9 1 u X.length (X.map Value.string) ∧ Kept (verL (bestR (ofP t L))) (verL (bestR (ofP t L))).length X ∧ Below w.heap.size w w' := by
  obtain ⟨a, c, rfl, _⟩ := id hv
  have hsh : shortR L := fun r hr => ⟨by have := (hz r hr).1; omega, by have := (hz r hr).2; omega⟩
  have HP := hid (ofPath_any L t _ aT aB m w (by omega) hsh S hv)
  have HSH := hid (hsh.filter (isP t))
  have HZ := hid hz
  have HS := hid S
  have HT := hid htab
  have hll := ofP_len t L
  have hlb := bestR_len (ofP t L)
  clear hv S htab hz hsh
  go_enter Tryz.func69, Tryz.ntmps69
  go_wp2_with fail
  refine HP.out.mono ?_
  rintro e w1 ⟨v1, rfl, he, hb⟩
  have HBE := hid (best_any (ofP t L) v1 aT aB m w1 (by omega) HSH.out (HS.out.below hb) he)
  have HB := hid hb
  obtain ⟨a1, c1, rfl, _⟩ := he
  clear hb
  go_wp2_with fail
  refine HBE.out.mono ?_
  rintro e w2 ⟨v2, rfl, he, hb⟩
  have HB2 := hid (HB.out.trans (hb.mono HB.out.size))
  have HV := hid (versions_any (bestR (ofP t L)) v2 aT aB m w2 (by omega) (fun r hr => (HZ.out r (List.mem_filter.1 (bestR_sub hr)).1).2) (HS.out.below HB2.out) (tab_below HT.out HB2.out) he)
  obtain ⟨a2, c2, rfl, _⟩ := he
  clear hb
  go_wp2_with fail
  refine HV.out.mono ?_
  rintro e w3 ⟨u, rfl, X, h1, h2, h3⟩
  obtain ⟨ua, uc, hu⟩ := own_slN h1
  subst hu
  have HR := hid (⟨own_baseN h1 HB2.out.size, h2, HB2.out.trans (h3.mono HB2.out.size)⟩ : _ ∧ _ ∧ Below w.heap.size w w3)
  clear h1 h2 h3
  go_wp2_with fail
  go_ret
  exact ⟨_, rfl, X, HR.out⟩
set_option maxRecDepth 100000 in
set_option maxHeartbeats 4000000 in
/-- index.Latest. -/
theorem latest_any (L : List Raw) (t : ByteArray) (v : Value) (aT aB : Addr) (m : Int) (w : World) (hL : L.length ≤ 1000) (hz : ∀ r, r ∈ L → r.1.1.size ≤ 80 ∧ r.1.2.size ≤ 80) (S : Vs w aT aB m) (htab : Lib.TabIs Tryz.prog w powName .u64 Lib.pow10Tab) (hv : EsAt w v L) :
    Calls Tryz.prog 26 #[v, .string t] w fun e w' => ∃ X, e = .returned (.string (lastT X)) ∧ Kept (verL (bestR (ofP t L))) (verL (bestR (ofP t L))).length X ∧ Below w.heap.size w w' := by
  obtain ⟨a, c, rfl, _⟩ := id hv
  have HP := hid (ibest_any L t _ aT aB m w hL hz S htab hv)
  clear hv S htab hz
  go_enter Tryz.func26, Tryz.ntmps26
  go_wp2_with fail
  refine HP.out.mono ?_
  rintro e w3 ⟨u, rfl, X, h1, h2, h3⟩
  obtain ⟨ua, uc, hu, _, hcell⟩ := own_tx h1
  subst hu
  have HR := hid (⟨h2, h3⟩ : _ ∧ Below w.heap.size w w3)
  have HCC := hid hcell
  have hmx := own_max h1
  clear h1 h2 h3 hcell
  by_cases hX : 0 < X.length
  · obtain ⟨b, o, rfl, hcc⟩ := HCC.out (by intro h; rw [h] at hX; simp at hX)
    have hlast := hcc (X.length - 1) (by omega)
    have HLT := hid (lastT_get hX)
    rw [← HLT.out] at hlast
    have hne : ((X.length : Int) == 0) = false := by rw [beq_eq_false_iff_ne]; omega
    have hx1 : (X.length : Int) - 1 = ((X.length - 1 : Nat) : Int) := by omega
    have hx2 : ((X.length - 1 : Nat) : Int) < (X.length : Int) := by omega
    have hw64 : wrap64 ((X.length - 1 : Nat) : Int) = ((X.length - 1 : Nat) : Int) := IntWalk.wrap64_in _ (by unfold maxLen at hmx; omega)
    have htn : ((X.length - 1 : Nat) : Int).toNat = X.length - 1 := Int.toNat_natCast _
    clear hcc
    go_wp2_with fail
    go_ret
    exact ⟨X, rfl, HR.out⟩
  · have hx0 : X = [] := List.eq_nil_of_length_eq_zero (by omega)
    subst hx0
    go_wp2_with fail
    go_ret
    exact ⟨[], rfl, HR.out⟩
end Ve
end Go.Proofs.YtanponneancajaaGreatDoor

/-
  An index that is right, plain: its modules are unlike; each path once; the versions of a path, counted; the latest one.
-/
namespace Go.Proofs.YtanponneancajaaGreatDoor
open Go.RowKit
namespace Ve

/-! Sorted and each once. -/
theorem cut_mem (d : Array (List UInt8)) (t : List UInt8) : ∀ m, t ∈ Lib.compactUpTo d m ↔ ∃ j, j < m ∧ d[j]! = t
  | 0 => by simp [Lib.compactUpTo]
  | m + 1 => by
    rw [Lib.compactUpTo_succ, List.mem_append, cut_mem d t m]
    constructor
    · rintro (⟨j, hj, e⟩ | h)
      · exact ⟨j, by omega, e⟩
      · split at h
        · exact ⟨m, by omega, (by simpa using h : t = d[m]!).symm⟩
        · simp at h
    · rintro ⟨j, hj, e⟩
      by_cases hjm : j < m
      · exact Or.inl ⟨j, hjm, e⟩
      · have : j = m := by omega
        subst this
        cases hk : Lib.keeps d j
        · left
          have : j ≠ 0 ∧ d[j]! = d[j - 1]! := by
            have h2 : decide (j = 0 ∨ d[j]! ≠ d[j - 1]!) = false := hk
            have h3 := of_decide_eq_false h2
            exact ⟨fun h => h3 (Or.inl h), by
              by_cases h4 : d[j]! = d[j - 1]!
              · exact h4
              · exact absurd (Or.inr h4) h3⟩
          exact ⟨j - 1, by omega, this.2 ▸ e⟩
        · right; simp [e]
theorem le_anti {a b : List UInt8} (h1 : a ≤ b) (h2 : b ≤ a) : a = b := List.le_antisymm h1 h2
theorem cut_nodup (d : Array (List UInt8)) (hs : ∀ i j, i < j → j < d.size → d[i]! ≤ d[j]!) : ∀ m, m ≤ d.size → (Lib.compactUpTo d m).Nodup
  | 0, _ => by simp [Lib.compactUpTo]
  | m + 1, hm => by
    rw [Lib.compactUpTo_succ, List.nodup_append]
    refine ⟨cut_nodup d hs m (by omega), by split <;> simp, ?_⟩
    intro a ha b hb hab
    subst hab
    split at hb
    · rename_i hk
      have hb : a = d[m]! := by simpa using hb
      obtain ⟨j, hj, e⟩ := (cut_mem d a m).1 ha
      have h2 : decide (m = 0 ∨ d[m]! ≠ d[m - 1]!) = true := hk
      rcases of_decide_eq_true h2 with h3 | h3
      · omega
      · apply h3
        by_cases hj1 : j = m - 1
        · rw [← hb, ← e, hj1]
        · have q1 := hs j (m - 1) (by omega) (by omega)
          have q2 := hs (m - 1) m (by omega) (by omega)
          rw [e] at q1
          rw [← hb] at q2 ⊢
          exact le_anti q1 q2
    · simp at hb
theorem srtB_mem {Z : List (List UInt8)} {t : List UInt8} : t ∈ srtB Z ↔ t ∈ Z := by unfold srtB; exact List.mem_mergeSort
theorem srtB_le (Z : List (List UInt8)) : (srtB Z).Pairwise fun x y => x ≤ y := by
  unfold srtB
  have := List.pairwise_mergeSort (le := fun x y : List UInt8 => decide (x ≤ y)) (fun a b c h1 h2 => decide_eq_true (List.le_trans (of_decide_eq_true h1) (of_decide_eq_true h2)))
    (fun a b => by
      rcases List.le_total a b with h | h
      · simp [h]
      · simp [h]) Z
  exact this.imp fun h => of_decide_eq_true h
theorem risB_mem {Z : List (List UInt8)} {t : List UInt8} : t ∈ risB Z ↔ t ∈ Z := by
  unfold risB Lib.compact
  rw [cut_mem, ← srtB_mem (Z := Z)]
  constructor
  · rintro ⟨j, hj, e⟩
    rw [← e, getElem!_pos _ j (by simpa using hj)]
    simp
  · intro h
    obtain ⟨j, hj, e⟩ := List.getElem_of_mem h
    exact ⟨j, hj, by rw [getElem!_pos _ j (by simpa using hj)]; simpa using e⟩
theorem risB_nodup (Z : List (List UInt8)) : (risB Z).Nodup := by
  unfold risB Lib.compact
  refine cut_nodup _ (fun i j hij hj => ?_) _ (by simp)
  have hj' : j < (srtB Z).length := by simpa using hj
  rw [getElem!_pos _ i (by simp; omega), getElem!_pos _ j (by simpa using hj')]
  simpa using List.pairwise_iff_getElem.1 (srtB_le Z) i j (by omega) hj' hij

theorem Good.ofP {Q : List Raw} (g : Good Q) (t : ByteArray) : ofP t Q = Q.filter fun r => decide (r.1.1 = t) := by
  unfold Ve.ofP
  refine List.filter_congr fun r hr => ?_
  unfold isP
  rw [decide_eq_true (g.ver r hr), Bool.and_true]
theorem Good.ofP_mem {Q : List Raw} (g : Good Q) {t : ByteArray} {r : Raw} : r ∈ Ve.ofP t Q ↔ r ∈ Q ∧ r.1.1 = t := by
  rw [g.ofP t, List.mem_filter, decide_eq_true_iff]

/-! The versions of a path, counted. -/
theorem nodup_len {α : Type} [DecidableEq α] : ∀ {a b : List α}, a.Nodup → b.Nodup → (∀ x, x ∈ a ↔ x ∈ b) → a.length = b.length
  | [], b, _, _, h => by
    cases b with
    | nil => rfl
    | cons y s => exact absurd ((h y).2 (by simp)) (by simp)
  | x :: a, b, ha, hb, h => by
    have hx : x ∈ b := (h x).1 (by simp)
    have hl := List.length_erase_of_mem hx
    obtain ⟨h1, h2⟩ := List.nodup_cons.1 ha
    have hne : 0 < b.length := List.length_pos_of_mem hx
    have := nodup_len h2 (hb.erase x) (fun z => by
      rw [hb.mem_erase_iff, ← h z, List.mem_cons]
      constructor
      · intro hz; exact ⟨fun e => h1 (e ▸ hz), Or.inr hz⟩
      · rintro ⟨e, h3 | h3⟩
        · exact absurd h3 e
        · exact h3)
    rw [List.length_cons, this, hl]; omega
theorem Good.pair {Q : List Raw} (g : Good Q) : Q.Pairwise fun r s => r.1 ≠ s.1 :=
  List.pairwise_iff_getElem.2 fun i j hi hj hij e => by have := g.one i j hi hj e; omega
theorem Good.verNodup {Q : List Raw} (g : Good Q) (t : ByteArray) : (bl (verL (Ve.ofP t Q))).Nodup := by
  have h1 : (Ve.ofP t Q).Pairwise fun r s => r.1 ≠ s.1 := List.Pairwise.sublist List.filter_sublist g.pair
  have h2 : (Ve.ofP t Q).Pairwise fun r s => r.1.2.data.toList ≠ s.1.2.data.toList := List.Pairwise.imp_of_mem (fun {r s} hr hs hne e => hne (Prod.ext (((g.ofP_mem.1 hr).2).trans ((g.ofP_mem.1 hs).2).symm) (str_ext e))) h1
  unfold bl verL
  rw [List.map_map]
  exact List.pairwise_map.2 h2
theorem kept_mem {L X : List ByteArray} (hK : Kept L L.length X) (hv : ∀ x, x ∈ L → verErr x.data.toList = 0) (t : List UInt8) : t ∈ bl X ↔ t ∈ bl L := by
  have := hK.2 t
  rw [List.take_length] at this
  rw [this]
  constructor
  · exact fun h => h.1
  · intro h
    refine ⟨h, ?_⟩
    obtain ⟨x, hx, rfl⟩ := List.mem_map.1 h
    exact hv x hx
theorem rises_nd {l : List (List UInt8)} (h : rises l) : l.Nodup := List.Pairwise.imp (fun {a b} h e => by subst e; exact ordV_irr h h) h
theorem verL_ok {Q R : List Raw} (g : Good Q) (hR : ∀ r, r ∈ R → r ∈ Q) : ∀ x, x ∈ verL R → verErr x.data.toList = 0 := fun x hx => by
  obtain ⟨r, hr, rfl⟩ := List.mem_map.1 hx
  exact g.ver r (hR r hr)
theorem ofP_sub {Q : List Raw} {t : ByteArray} : ∀ r, r ∈ ofP t Q → r ∈ Q := fun _ hr => (List.mem_filter.1 hr).1
theorem kept_len {Q : List Raw} (g : Good Q) {t : ByteArray} {X : List ByteArray} (hK : Kept (verL (ofP t Q)) (verL (ofP t Q)).length X) : X.length = (ofP t Q).length := by
  have := nodup_len (rises_nd hK.1) (g.verNodup t) (kept_mem hK (verL_ok g ofP_sub))
  rw [bl_len, bl_len, verL_len] at this; exact this
theorem kept_has {Q R : List Raw} (g : Good Q) (hR : ∀ r, r ∈ R → r ∈ Q) {X : List ByteArray} (hK : Kept (verL R) (verL R).length X) {x : ByteArray} (hx : x ∈ X) : ∃ r, r ∈ R ∧ r.1.2 = x := by
  have h1 : x.data.toList ∈ bl X := List.mem_map.2 ⟨x, hx, rfl⟩
  obtain ⟨y, hy, e⟩ := List.mem_map.1 ((kept_mem hK (verL_ok g hR) _).1 h1)
  obtain ⟨r, hr, rfl⟩ := List.mem_map.1 hy
  exact ⟨r, hr, str_ext e⟩
theorem kept_in {Q R : List Raw} (g : Good Q) (hR : ∀ r, r ∈ R → r ∈ Q) {X : List ByteArray} (hK : Kept (verL R) (verL R).length X) {r : Raw} (hr : r ∈ R) : r.1.2 ∈ X := by
  have h1 : r.1.2.data.toList ∈ bl (verL R) := List.mem_map.2 ⟨r.1.2, List.mem_map.2 ⟨r, hr, rfl⟩, rfl⟩
  obtain ⟨y, hy, e⟩ := List.mem_map.1 ((kept_mem hK (verL_ok g hR) _).2 h1)
  rw [← str_ext e]; exact hy
/-- The paths of an index, each once. -/
def pathsT (Q : List Raw) : List ByteArray := tx (risB (bl (pathL Q)))
theorem tx_mem {Z : List (List UInt8)} {x : ByteArray} : x ∈ tx Z ↔ x.data.toList ∈ Z := by
  constructor
  · intro h
    obtain ⟨t, ht, rfl⟩ := List.mem_map.1 h
    rw [show (ba' t).data.toList = t by simp [ba']]; exact ht
  · intro h
    exact List.mem_map.2 ⟨_, h, str_ext (by simp [ba'])⟩
theorem pathsT_mem {Q : List Raw} {t : ByteArray} : t ∈ pathsT Q ↔ ∃ r, r ∈ Q ∧ r.1.1 = t := by
  unfold pathsT
  rw [tx_mem, risB_mem]
  constructor
  · intro h
    obtain ⟨x, hx, e⟩ := List.mem_map.1 h
    obtain ⟨r, hr, rfl⟩ := List.mem_map.1 hx
    exact ⟨r, hr, str_ext e⟩
  · rintro ⟨r, hr, rfl⟩
    exact List.mem_map.2 ⟨_, List.mem_map.2 ⟨r, hr, rfl⟩, rfl⟩
theorem pathsT_nodup (Q : List Raw) : (pathsT Q).Nodup := by
  have h := risB_nodup (bl (pathL Q))
  rw [← bl_tx (risB (bl (pathL Q)))] at h
  exact List.Pairwise.imp (fun {a b} hne e => hne (by rw [e])) (List.pairwise_map.1 h)
theorem sum_add (f g : ByteArray → Nat) : ∀ T : List ByteArray, (T.map fun t => f t + g t).sum = (T.map f).sum + (T.map g).sum
  | [] => rfl
  | t :: T => by
    simp only [List.map_cons, List.sum_cons]
    rw [sum_add f g T]; omega
theorem sum_one {a : ByteArray} : ∀ {T : List ByteArray}, T.Nodup → a ∈ T → (T.map fun t => if a = t then 1 else 0).sum = 1
  | [], _, h => absurd h (by simp)
  | t :: T, hn, h => by
    obtain ⟨h1, h2⟩ := List.nodup_cons.1 hn
    simp only [List.map_cons, List.sum_cons]
    by_cases e : a = t
    · rw [if_pos e]
      have hz : ∀ T' : List ByteArray, a ∉ T' → (T'.map fun t => if a = t then 1 else 0).sum = 0 := fun T' => by
        induction T' with
        | nil => intro _; rfl
        | cons y s ih =>
          intro hy
          simp only [List.map_cons, List.sum_cons]
          rw [if_neg (fun e => hy (by rw [e]; simp)), ih (fun hh => hy (List.mem_cons_of_mem _ hh))]
      rw [hz T (by rw [e]; exact h1)]
    · rw [if_neg e, sum_one h2 (by
        rcases List.mem_cons.1 h with h3 | h3
        · exact absurd h3 e
        · exact h3)]
theorem sum_paths (T : List ByteArray) (hn : T.Nodup) : ∀ Q : List Raw, (∀ r, r ∈ Q → r.1.1 ∈ T) → (T.map fun t => (Q.filter fun r => decide (r.1.1 = t)).length).sum = Q.length
  | [], _ => by
    have hz : ∀ T' : List ByteArray, (T'.map fun t => (([] : List Raw).filter fun r => decide (r.1.1 = t)).length).sum = 0 := fun T' => by
      induction T' with
      | nil => rfl
      | cons y s ih => simp only [List.map_cons, List.sum_cons]; rw [ih]; rfl
    exact hz T
  | r :: Q, h => by
    have e : (fun t => ((r :: Q).filter fun r => decide (r.1.1 = t)).length) = fun t => (Q.filter fun r => decide (r.1.1 = t)).length + (if r.1.1 = t then 1 else 0) := by
      funext t
      rw [List.filter_cons]
      by_cases h1 : r.1.1 = t
      · rw [if_pos (by simp [h1]), if_pos h1]; rfl
      · rw [if_neg (by simp [h1]), if_neg h1]; rfl
    rw [e, sum_add, sum_paths T hn Q (fun s hs => h s (List.mem_cons_of_mem _ hs)), sum_one hn (h r (by simp))]; rfl
/-- All versions of the first paths. -/
def manyN (Q : List Raw) (k : Nat) : Nat := (((pathsT Q).take k).map fun t => (ofP t Q).length).sum
theorem manyN_next {Q : List Raw} {k : Nat} (hk : k < (pathsT Q).length) : manyN Q (k + 1) = manyN Q k + (ofP (pathsT Q)[k] Q).length := by
  unfold manyN
  rw [List.take_succ_eq_append_getElem hk, List.map_append, List.sum_append]; simp
theorem manyN_all {Q : List Raw} (g : Good Q) : manyN Q (pathsT Q).length = Q.length := by
  unfold manyN
  rw [List.take_length, ← sum_paths (pathsT Q) (pathsT_nodup Q) Q (fun r hr => pathsT_mem.2 ⟨r, hr, rfl⟩)]
  congr 1
  refine List.map_congr_left fun t _ => ?_
  rw [g.ofP t]
theorem manyN_le {Q : List Raw} (g : Good Q) (k : Nat) : manyN Q k ≤ Q.length := by
  rw [← manyN_all g]
  unfold manyN
  rw [List.take_length]
  conv => rhs; rw [← List.take_append_drop k (pathsT Q), List.map_append, List.sum_append]
  omega

/-! The latest. -/
theorem bestR_ne {L : List Raw} (h : L ≠ []) : bestR L ≠ [] := by
  unfold bestR
  split
  · rename_i h1; intro e; rw [e] at h1; simp at h1
  · split
    · rename_i h1; intro e; rw [e] at h1; simp at h1
    · exact h
/-- What is liked as well as one of the best is one of the best. -/
theorem best_liked {Q L : List Raw} (g : Good Q) (hL : ∀ r, r ∈ L → r ∈ Q) {r s : Raw} (hr : r ∈ bestR L) (hs : s ∈ L) (h1 : (!s.2.2.2 || r.2.2.2) = true)
    (h2 : (decide ((preOf s.1.2.data.toList).length = 0) || (decide (0 < (preOf r.1.2.data.toList).length) || r.2.2.2)) = true) : s ∈ bestR L := by
  have hv : verErr s.1.2.data.toList = 0 := g.ver s (hL s hs)
  unfold bestR at hr ⊢
  split at hr
  · rename_i hd
    rw [if_pos hd]
    obtain ⟨hr1, hr2⟩ := List.mem_filter.1 hr
    obtain ⟨hr3, hr4⟩ := List.mem_filter.1 hr1
    have hvr : verErr r.1.2.data.toList = 0 := g.ver r (hL r hr3)
    have hb : r.2.2.2 = false := by unfold isS at hr4; simpa using hr4
    have hp : ¬ 0 < (preOf r.1.2.data.toList).length := by
      unfold isD preB at hr2
      rw [decide_eq_true hvr, Bool.true_and] at hr2
      simpa using hr2
    rw [hb, Bool.or_false] at h1
    rw [hb, decide_eq_false hp, Bool.or_false, Bool.or_false] at h2
    refine List.mem_filter.2 ⟨List.mem_filter.2 ⟨hs, by unfold isS; exact h1⟩, ?_⟩
    unfold isD preB
    have := of_decide_eq_true h2
    rw [decide_eq_false (by omega : ¬ 0 < (preOf s.1.2.data.toList).length), Bool.and_false]; rfl
  · rename_i hd
    rw [if_neg hd]
    split at hr
    · rename_i hd2
      rw [if_pos hd2]
      have hb : r.2.2.2 = false := by have := (List.mem_filter.1 hr).2; unfold isS at this; simpa using this
      rw [hb, Bool.or_false] at h1
      exact List.mem_filter.2 ⟨hs, by unfold isS; exact h1⟩
    · rename_i hd2
      rw [if_neg hd2]; exact hs
/-- The last of what is kept: one of them, and none is greater. -/
theorem kept_last {Q R : List Raw} (g : Good Q) (hR : ∀ r, r ∈ R → r ∈ Q) (hne : R ≠ []) {X : List ByteArray} (hK : Kept (verL R) (verL R).length X) :
    (∃ r, r ∈ R ∧ r.1.2 = lastT X) ∧ ∀ s, s ∈ R → ¬ ordV (lastT X).data.toList s.1.2.data.toList < 0 := by
  have hX : 0 < X.length := by
    obtain ⟨r, hr⟩ := List.exists_mem_of_ne_nil R hne
    exact List.length_pos_of_mem (kept_in g hR hK hr)
  have hl := lastT_get hX
  refine ⟨?_, fun s hs h => ?_⟩
  · rw [hl]; exact kept_has g hR hK (List.getElem_mem _)
  · have hin := kept_in g hR hK hs
    obtain ⟨j, hj, e⟩ := List.getElem_of_mem hin
    have hr := hK.1
    unfold rises at hr
    have hbl : (bl X).length = X.length := bl_len X
    rw [hl, ← e] at h
    by_cases hjl : j = X.length - 1
    · subst hjl; exact ordV_irr h h
    · have h2 := List.pairwise_iff_getElem.1 hr j (X.length - 1) (by omega) (by omega) (by omega)
      have g1 : (bl X)[j]'(by omega) = X[j].data.toList := by simp [bl]
      have g2 : (bl X)[X.length - 1]'(by omega) = (X[X.length - 1]'(by omega)).data.toList := by simp [bl]
      rw [g1, g2] at h2
      exact ordV_irr h h2
/-- The latest of a path that there is: its entry; what is liked as well is not greater. -/
structure Top (Q : List Raw) (t top : ByteArray) (at_ : Nat) : Prop where
  lt : at_ < Q.length
  idx : idxOf (isM (t, top)) Q = (at_ : Int)
  ver : verErr top.data.toList = 0
  no : ∀ s, s ∈ ofP t Q → (!s.2.2.2 || (Q[at_]'lt).2.2.2) = true → (decide ((preOf s.1.2.data.toList).length = 0) || (decide (0 < (preOf top.data.toList).length) || (Q[at_]'lt).2.2.2)) = true → lessB top.data.toList s.1.2.data.toList = false
theorem top_of {Q : List Raw} (g : Good Q) {t : ByteArray} (ht : t ∈ pathsT Q) {X : List ByteArray} (hK : Kept (verL (bestR (ofP t Q))) (verL (bestR (ofP t Q))).length X) : ∃ at_, Top Q t (lastT X) at_ := by
  obtain ⟨r0, hr0, e0⟩ := pathsT_mem.1 ht
  have hne : ofP t Q ≠ [] := List.ne_nil_of_mem (g.ofP_mem.2 ⟨hr0, e0⟩)
  have hsub : ∀ r, r ∈ bestR (ofP t Q) → r ∈ Q := fun r hr => ofP_sub r (bestR_sub hr)
  obtain ⟨⟨r, hr, er⟩, hmax⟩ := kept_last g hsub (bestR_ne hne) hK
  have hrq := g.ofP_mem.1 (bestR_sub hr)
  obtain ⟨n, hn, hi, hq⟩ := g.find hrq.1
  have hm : r.1 = (t, lastT X) := Prod.ext hrq.2 er
  refine ⟨n, hn, by rw [← hm]; exact hi, by rw [← er]; exact g.ver r hrq.1, fun s hs h1 h2 => ?_⟩
  rw [hq] at h1 h2
  rw [← er] at h2
  have hsb := best_liked g ofP_sub hr hs h1 h2
  unfold lessB
  rw [decide_eq_false (hmax s hsb), Bool.and_false, Bool.and_false]
/-- A version of a path that there is. -/
structure One (Q : List Raw) (t v : ByteArray) (n : Nat) : Prop where
  lt : n < Q.length
  idx : idxOf (isM (t, v)) Q = (n : Int)
  ver : verErr v.data.toList = 0
  mem : Q[n]'lt ∈ ofP t Q
  same : (Q[n]'lt).1.2 = v
theorem one_of {Q : List Raw} (g : Good Q) {t v : ByteArray} {X : List ByteArray} (hK : Kept (verL (ofP t Q)) (verL (ofP t Q)).length X) (hv : v ∈ X) : ∃ n, One Q t v n := by
  obtain ⟨r, hr, e⟩ := kept_has g ofP_sub hK hv
  have hrq := g.ofP_mem.1 hr
  obtain ⟨n, hn, hi, hq⟩ := g.find hrq.1
  have hm : r.1 = (t, v) := Prod.ext hrq.2 e
  exact ⟨n, hn, by rw [← hm]; exact hi, by rw [← e]; exact g.ver r hrq.1, by rw [hq]; exact hr, by rw [hq]; exact e⟩
/-- Of a path that there is not there is none. -/
theorem none_of {Q : List Raw} (g : Good Q) {t : ByteArray} (ht : pathErr t.data.toList ≠ 0) {X : List ByteArray} (hK : Kept (verL (bestR (ofP t Q))) (verL (bestR (ofP t Q))).length X) : lastT X = ⟨#[]⟩ := by
  have h0 : ofP t Q = [] := by
    rw [List.eq_nil_iff_forall_not_mem]
    intro r hr
    have := g.ofP_mem.1 hr
    exact ht (by rw [← this.2]; exact g.path r this.1)
  have hb : bestR (ofP t Q) = [] := by rw [h0]; rfl
  cases X with
  | nil => rfl
  | cons x s =>
    obtain ⟨r, hr, _⟩ := kept_has g (R := bestR (ofP t Q)) (fun r hr => ofP_sub r (bestR_sub hr)) hK (x := x) (by simp)
    rw [hb] at hr; cases hr
end Ve
end Go.Proofs.YtanponneancajaaGreatDoor

/-
  The versions that are kept are the same ones, whoever keeps them.
-/
namespace Go.Proofs.YtanponneancajaaGreatDoor
open Go.RowKit Go.Maps
namespace Ve

theorem pw_ext {α : Type} {r : α → α → Prop} (irr : ∀ a, ¬ r a a) (asy : ∀ a b, r a b → ¬ r b a) : ∀ {E F : List α}, E.Pairwise r → F.Pairwise r → (∀ m, m ∈ E ↔ m ∈ F) → E = F
  | [], [], _, _, _ => rfl
  | [], f :: F, _, _, h => by have := (h f).2 (by simp); cases this
  | e :: E, [], _, _, h => by have := (h e).1 (by simp); cases this
  | e :: E, f :: F, hE, hF, h => by
    obtain ⟨hE1, hE2⟩ := List.pairwise_cons.1 hE
    obtain ⟨hF1, hF2⟩ := List.pairwise_cons.1 hF
    have hef : e = f := by
      rcases List.mem_cons.1 ((h e).1 (by simp)) with a | a
      · exact a
      · rcases List.mem_cons.1 ((h f).2 (by simp)) with b | b
        · exact b.symm
        · exact absurd (hE1 f b) (asy _ _ (hF1 e a))
    subst hef
    have : E = F := pw_ext irr asy hE2 hF2 fun m => by
      constructor
      · intro hm
        rcases List.mem_cons.1 ((h m).1 (List.mem_cons_of_mem _ hm)) with a | a
        · subst a; exact absurd (hE1 m hm) (irr _)
        · exact a
      · intro hm
        rcases List.mem_cons.1 ((h m).2 (List.mem_cons_of_mem _ hm)) with a | a
        · subst a; exact absurd (hF1 m hm) (irr _)
        · exact a
    rw [this]
theorem kept_one {L : List ByteArray} {n : Nat} {X Y : List ByteArray} (hX : Kept L n X) (hY : Kept L n Y) : X = Y := by
  have h : bl X = bl Y := pw_ext (r := fun s t => ordV s t < 0) (fun a h => ordV_irr h h) (fun a b h => ordV_irr h) hX.1 hY.1 fun t => by rw [hX.2, hY.2]
  exact (List.map_inj_right (fun x y e => str_ext e)).1 h
end Ve
end Go.Proofs.YtanponneancajaaGreatDoor

/-
  Newer ones, plain: the latest of a path; built on until nothing changes.
-/
namespace Go.Proofs.YtanponneancajaaGreatDoor
open Go.RowKit Go.Maps
namespace Ve

/-- What Latest is made of. -/
abbrev KeptT (Q : List Raw) (t : ByteArray) (X : List ByteArray) : Prop := Kept (verL (bestR (ofP t Q))) (verL (bestR (ofP t Q))).length X
open Classical in
/-- The latest of a path. -/
noncomputable def latV (Q : List Raw) (t : ByteArray) : ByteArray := if h : ∃ X, KeptT Q t X then lastT h.choose else ⟨#[]⟩
theorem latV_of {Q : List Raw} {t : ByteArray} {X : List ByteArray} (h : KeptT Q t X) : lastT X = latV Q t := by
  have he : ∃ X, KeptT Q t X := ⟨X, h⟩
  unfold latV
  rw [dif_pos he, kept_one h he.choose_spec]
/-- The latest of each path. -/
noncomputable def latL (Q : List Raw) (E : List Bm) : List Bm := E.map fun m => (m.1, latV Q m.1)
theorem latL_len (Q : List Raw) (E : List Bm) : (latL Q E).length = E.length := by simp [latL]
/-- Each latest one is there. -/
def LatIn (Q : List Raw) (L : List Ent) (E : List Bm) : Prop := ∀ m, m ∈ E → (m.1, latV Q m.1) ∈ univ L
theorem lat_in {w : World} {v : Value} {Q : List Raw} {L : List Ent} {t : ByteArray} {X : List ByteArray} (I : Ixs w v Q L) (hc : (chk Q L).1 = 0) (ht : ∃ m, m ∈ univ L ∧ m.1 = t) (hK : KeptT Q t X) : (t, latV Q t) ∈ univ L := by
  have g := good_of I hc
  obtain ⟨m, hm, e⟩ := ht
  rw [← univ_eq I] at hm
  obtain ⟨r0, hr0, rfl⟩ := List.mem_map.1 hm
  have hne : ofP t Q ≠ [] := List.ne_nil_of_mem (g.ofP_mem.2 ⟨hr0, e⟩)
  have hsub : ∀ r, r ∈ bestR (ofP t Q) → r ∈ Q := fun r hr => ofP_sub r (bestR_sub hr)
  obtain ⟨⟨r, hr, er⟩, -⟩ := kept_last g hsub (bestR_ne hne) hK
  have hrq := g.ofP_mem.1 (bestR_sub hr)
  rw [← univ_eq I, ← latV_of hK]
  exact List.mem_map.2 ⟨r, hrq.1, Prod.ext hrq.2 er⟩
/-- Built on once. -/
noncomputable def upF (Q : List Raw) (L : List Ent) (E : List Bm) : List Bm := bX Q L (E ++ latL Q E)
theorem latL_in {Q : List Raw} {L : List Ent} {E : List Bm} (h : LatIn Q L E) : ∀ m, m ∈ latL Q E → m ∈ univ L := fun m hm => by
  obtain ⟨x, hx, rfl⟩ := List.mem_map.1 hm
  exact h x hx
theorem upG {w : World} {v : Value} {Q : List Raw} {L : List Ent} {E : List Bm} (I : Ixs w v Q L) (hc : (chk Q L).1 = 0) (hE : Sl L E) (hl : LatIn Q L E) : (chkG Q L (E ++ latL Q E)).1 = 0 :=
  chkG_in I hc fun m hm => by
    rcases List.mem_append.1 hm with h | h
    · exact hE.un m h
    · exact latL_in hl m h
theorem up_over {w : World} {v : Value} {Q : List Raw} {L : List Ent} {E : List Bm} (I : Ixs w v Q L) (hc : (chk Q L).1 = 0) (hE : Sl L E) (hl : LatIn Q L E) : undB E (upF Q L E) = true :=
  bX_over I (upG I hc hE hl) fun _ hm => .root (List.mem_append_left _ hm)
theorem up_lat {w : World} {v : Value} {Q : List Raw} {L : List Ent} {E : List Bm} (I : Ixs w v Q L) (hc : (chk Q L).1 = 0) (hE : Sl L E) (hl : LatIn Q L E) : undB (latL Q E) (upF Q L E) = true :=
  bX_over I (upG I hc hE hl) fun _ hm => .root (List.mem_append_right _ hm)
theorem hasV_trans {Q : List Raw} {L : List Ent} {E F : List Bm} (hc : (chk Q L).1 = 0) (hE : Sl L E) (hF : Sl L F) (hu : undB E F = true) {m : Bm} (hm : m ∈ univ L) (h : hasV E m = true) : hasV F m = true := by
  obtain ⟨x, h1, h2⟩ := hasV_iff.1 h
  obtain ⟨hx, hp⟩ := atP_mem h1
  have rt := univ_right hc
  exact hasV_up (fun y hy => rt y (hF.un y hy)) (rt m hm) (rt x (hE.un x hx)) hp ((less_le (rt x (hE.un x hx)) (rt m hm)).1 h2) (List.all_eq_true.1 hu x hx)
theorem undB_trans {Q : List Raw} {L : List Ent} {D E F : List Bm} (hc : (chk Q L).1 = 0) (hD : Sl L D) (hE : Sl L E) (hF : Sl L F) (h1 : undB D E = true) (h2 : undB E F = true) : undB D F = true := by
  unfold undB
  rw [List.all_eq_true]
  intro m hm
  exact hasV_trans hc hE hF h2 (hD.un m hm) (List.all_eq_true.1 h1 m hm)
theorem undB_refl {Q : List Raw} {L : List Ent} {E : List Bm} (hc : (chk Q L).1 = 0) (hE : Sl L E) : undB E E = true := by
  unfold undB
  rw [List.all_eq_true]
  intro m hm
  exact hasV_of hE.ri hm rfl (ordV_selfJ (univ_right hc m (hE.un m hm)))
/-- Over it, and not it: one more entry is had. -/
theorem over_more {Q : List Raw} {L : List Ent} {E F : List Bm} (hc : (chk Q L).1 = 0) (hE : Sl L E) (hF : Sl L F) (hu : undB E F = true) (hne : F ≠ E) : ∃ m, m ∈ univ L ∧ hasV F m = true ∧ hasV E m = false := by
  have rt := univ_right hc
  by_cases hs : ∀ m, m ∈ F → m ∈ E
  · refine absurd (rising_ext hF.ri hE.ri fun m => ⟨hs m, fun hm => ?_⟩) hne
    obtain ⟨x, h1, h2⟩ := hasV_iff.1 (List.all_eq_true.1 hu m hm)
    obtain ⟨hx, hp⟩ := atP_mem h1
    have := rising_same hE.ri (hs x hx) hm hp
    rw [← this]; exact hx
  · obtain ⟨m, hm⟩ := Classical.not_forall.1 hs
    obtain ⟨hm, hn⟩ : m ∈ F ∧ ¬ m ∈ E := by
      by_cases h : m ∈ F
      · exact ⟨h, fun h2 => hm fun _ => h2⟩
      · exact absurd (fun h2 => absurd h2 h) hm
    refine ⟨m, hF.un m hm, hasV_of hF.ri hm rfl (ordV_selfJ (rt m (hF.un m hm))), ?_⟩
    cases hb : hasV E m
    · rfl
    · obtain ⟨b, h1, h2⟩ := hasV_iff.1 hb
      obtain ⟨hbE, hbp⟩ := atP_mem h1
      obtain ⟨f, h3, h4⟩ := hasV_iff.1 (List.all_eq_true.1 hu b hbE)
      obtain ⟨hfF, hfp⟩ := atP_mem h3
      have : f = m := rising_same hF.ri hfF hm (hfp.trans hbp)
      subst this
      have r1 := rt b (hE.un b hbE)
      have r2 := rt f (hF.un f hm)
      have : b = f := ver_same r1 r2 hbp ((less_le r2 r1).1 h4) ((less_le r1 r2).1 h2)
      subst this
      exact absurd hbE hn
/-- How many entries a selection has, in no less a version. -/
def cntV (L : List Ent) (E : List Bm) : Nat := ((univ L).filter (hasV E)).length
theorem cntV_le (L : List Ent) (E : List Bm) : cntV L E ≤ L.length := by
  have := List.length_filter_le (hasV E) (univ L)
  rw [univ_len] at this
  exact this
theorem filter_lt {α : Type} {p q : α → Bool} : ∀ {l : List α}, (∀ x, x ∈ l → p x = true → q x = true) → (∃ x, x ∈ l ∧ q x = true ∧ p x = false) → (l.filter p).length < (l.filter q).length
  | [], _, ⟨x, hx, _⟩ => by cases hx
  | a :: l, h, ⟨x, hx, h1, h2⟩ => by
    have hl : ∀ x, x ∈ l → p x = true → q x = true := fun x hx => h x (List.mem_cons_of_mem _ hx)
    have hle : (l.filter p).length ≤ (l.filter q).length := by
      clear h hx h1 h2
      induction l with
      | nil => exact Nat.le_refl _
      | cons b l ih =>
        have ih := ih (fun x hx => hl x (List.mem_cons_of_mem _ hx))
        rw [List.filter_cons, List.filter_cons]
        cases hp : p b
        · cases hq : q b <;> simp <;> omega
        · rw [hl b (by simp) hp]; simpa using ih
    rw [List.filter_cons, List.filter_cons]
    rcases List.mem_cons.1 hx with rfl | hx
    · rw [h1, h2]; simp; omega
    · have ih := filter_lt hl ⟨x, hx, h1, h2⟩
      cases hp : p a
      · cases hq : q a <;> simp <;> omega
      · rw [h a (by simp) hp]; simpa using ih
theorem cntV_lt {Q : List Raw} {L : List Ent} {E F : List Bm} (hc : (chk Q L).1 = 0) (hE : Sl L E) (hF : Sl L F) (hu : undB E F = true) (hne : F ≠ E) : cntV L E < cntV L F := by
  obtain ⟨m, h1, h2, h3⟩ := over_more hc hE hF hu hne
  exact filter_lt (fun x hx h => hasV_trans hc hE hF hu hx h) ⟨m, h1, h2, h3⟩
/-- Built on so often. -/
noncomputable def upN (Q : List Raw) (L : List Ent) (E : List Bm) : Nat → List Bm
  | 0 => E
  | n + 1 => upF Q L (upN Q L E n)
theorem upN_app (Q : List Raw) (L : List Ent) (E : List Bm) (a : Nat) : ∀ b, upN Q L (upN Q L E a) b = upN Q L E (a + b)
  | 0 => rfl
  | b + 1 => by
    show upF Q L (upN Q L (upN Q L E a) b) = upF Q L (upN Q L E (a + b))
    rw [upN_app Q L E a b]
theorem upN_fix {Q : List Raw} {L : List Ent} {E : List Bm} (h : upF Q L E = E) : ∀ n, upN Q L E n = E
  | 0 => rfl
  | n + 1 => by show upF Q L (upN Q L E n) = E; rw [upN_fix h n, h]
/-- Where nothing changes. -/
structure Fix (Q : List Raw) (L : List Ent) (E0 E : List Bm) : Prop where
  n : ∃ n, E = upN Q L E0 n
  f : upF Q L E = E
theorem Fix.one {Q : List Raw} {L : List Ent} {E0 E F : List Bm} (hE : Fix Q L E0 E) (hF : Fix Q L E0 F) : E = F := by
  obtain ⟨a, ha⟩ := hE.n
  obtain ⟨b, hb⟩ := hF.n
  rcases Nat.le_total a b with h | h
  · obtain ⟨d, rfl⟩ := Nat.exists_eq_add_of_le h
    rw [hb, ← upN_app, ← ha, upN_fix hE.f]
  · obtain ⟨d, rfl⟩ := Nat.exists_eq_add_of_le h
    rw [ha, ← upN_app, ← hb, upN_fix hF.f]
theorem Fix.self {Q : List Raw} {L : List Ent} {E : List Bm} (h : upF Q L E = E) : Fix Q L E E := ⟨⟨0, rfl⟩, h⟩
/-- What was built on is built of itself. -/
theorem up_again {w : World} {v : Value} {Q : List Raw} {L : List Ent} {E : List Bm} (I : Ixs w v Q L) (hc : (chk Q L).1 = 0) (hE : Sl L E) (hl : LatIn Q L E) (h : upF Q L E = E) : bX Q L E = E := by
  have hg := upG I hc hE hl
  have hg2 := chkG_in I hc hE.un
  have j := bX_jn Q L (E ++ latL Q E)
  rw [show bX Q L (E ++ latL Q E) = E from h] at j
  have jE : Jn (rX Q L E) E := ⟨hE.ri, fun e he => ⟨(rX_mem I hg2).2 (.root he), univ_right hc e (hE.un e he)⟩, fun x hx hr => j.top x ((rX_mem I hg).2 (((rX_mem I hg2).1 hx).mono fun _ hm => List.mem_append_left _ hm)) hr⟩
  exact (bX_jn Q L E).one jE (fun _ _ => Iff.rfl)
/-- Of what was built on the latest is not greater. -/
theorem up_news {w : World} {v : Value} {Q : List Raw} {L : List Ent} {E : List Bm} (I : Ixs w v Q L) (hc : (chk Q L).1 = 0) (hE : Sl L E) (hl : LatIn Q L E) (h : upF Q L E = E) : ∀ m, m ∈ E → lessB (vb m) (latV Q m.1).data.toList = false := fun m hm => by
  have hu := up_lat I hc hE hl
  rw [h] at hu
  have h1 := List.all_eq_true.1 hu (m.1, latV Q m.1) (List.mem_map.2 ⟨m, hm, rfl⟩)
  rw [hasV_rising (m := (m.1, latV Q m.1)) hE.ri hm rfl] at h1
  have h2 : (!lessB (vb m) (latV Q m.1).data.toList) = true := h1
  simpa using h2
/-- All the way it is over what it began with. -/
theorem over_step {w : World} {v : Value} {Q : List Raw} {L : List Ent} {E0 E : List Bm} (I : Ixs w v Q L) (hc : (chk Q L).1 = 0) (h0 : Sl L E0) (hE : Sl L E) (hl : LatIn Q L E) (h : undB E0 E = true) : undB E0 (upF Q L E) = true :=
  undB_trans hc h0 hE (bX_sl _ _ _) h (up_over I hc hE hl)
end Ve
end Go.Proofs.YtanponneancajaaGreatDoor

/-
  What up.latest answers: of each module its path in the latest version.
-/
namespace Go.Proofs.YtanponneancajaaGreatDoor
open Go.RowKit Go.Maps
namespace Ve

theorem latL_next {Q : List Raw} {E : List Bm} {k : Nat} (h : k < E.length) : latL Q (E.take (k + 1)) = latL Q (E.take k) ++ [(E[k].1, latV Q E[k].1)] := by
  unfold latL
  rw [List.take_succ_eq_append_getElem h, List.map_append]; rfl
theorem keep_grow {W3 W4 : World} {o : Obj} {b : Nat} {row : Option Nat} {x : Value} (hg : (W3.alloc o).grownBy W4 row) (hb : b < W3.heap.size) (hne : some b ≠ row) (hc : W3.cell? ⟨b, 0, none⟩ = some x) : W4.cell? ⟨b, 0, none⟩ = some x ∧ Hid (b < W4.heap.size) := by
  have hl : b < (W3.alloc o).heap.size := by simp; omega
  have h1 := ((Below.refl W3.heap.size W3).alloc (Nat.le_refl _) o).block b hb
  have h2 := hg.block b hl hne
  refine ⟨?_, hid (Nat.lt_of_lt_of_le hl hg.size)⟩
  rw [World.cell?_of_block h2, World.cell?_of_block h1]; exact hc
/-- Each path's latest is made of something. -/
def LatK (Q : List Raw) (E : List Bm) : Prop := ∀ x, x ∈ E → ∃ X, KeptT Q x.1 X
set_option maxRecDepth 100000 in
set_option maxHeartbeats 4000000 in
theorem latest_row (Q : List Raw) (mods : List Bm) (v mv : Value) (A : Nat → Addr) (m : Int) (w : World) (hL : Q.length ≤ 1000) (hn : mods.length ≤ 1000) (hz : ∀ r, r ∈ Q → r.1.1.size ≤ 80 ∧ r.1.2.size ≤ 80) (S : Te w A m) (htab : Lib.TabIs Tryz.prog w powName .u64 Lib.pow10Tab) (hv : EsAt w v Q) (hm : MsAt w mv mods) :
    Calls Tryz.prog 76 #[v, mv] w fun e w' => ∃ u, e = .returned u ∧ w'.ownsRow w.heap.size 51 2 u (latL Q mods).length (flatM (latL Q mods)) ∧ LatK Q mods ∧ Below w.heap.size w w' := by
  have HLA := hid (fun t W (h : Below w.heap.size w W) => latest_any Q t v (A 0) (A 1) m W hL hz (S.below h).vs (tab_below htab h) (hv.below h))
  have HM := hid (fun W (h : Below w.heap.size w W) => hm.below h)
  have HNM := hid (show mods.length ≤ 1000000 by omega)
  have HN := hid hn
  obtain ⟨i0, hi0, hz0, hz1, hz2⟩ := info_parts infoMod
  obtain ⟨va, vc, hv1, -⟩ := id hv
  subst hv1
  obtain ⟨ma, mc, hm1, -⟩ := id hm
  subst hm1
  clear hv hm S htab hz hn
  go_enter Tryz.func76, Tryz.ntmps76
  go_wp2_with fail
  go_loopw [5, 10] (fun ov iv wr => ∃ i : Nat, i ≤ mods.length ∧ iv = .int .i64 i ∧ Hid (wr.ownsRow w.heap.size 51 2 ov (latL Q (mods.take i)).length (flatM (latL Q (mods.take i)))) ∧ Hid (∀ j (h : j < mods.length), j < i → ∃ X, KeptT Q mods[j].1 X) ∧ Hid (Below w.heap.size w wr)) (fun _ iv _ => mods.length - (intOf iv).toNat)
  case atStart => exact ⟨0, Nat.zero_le _, rfl, hid (World.ownsRow_nil _ _ _ _), hid (fun j _ hj => absurd hj (Nat.not_lt_zero _)), hid (Below.refl _ _)⟩
  case round =>
    obtain ⟨i, hi, rfl, HOW, HK, HBr⟩ := hrel
    by_cases hlt : i < mods.length
    · have hiI := ix_lt hlt
      have hii := ix_pos i
      have HLI := hid hlt
      obtain ⟨xb, xo, hxa, y0, y1⟩ := (HM.out _ HBr.out).cells hlt
      subst hxa
      have HST := hid (latL_next (Q := Q) hlt)
      have HSL := hid (show (latL Q (mods.take i)).length ≤ 1000 by rw [latL_len]; exact Nat.le_trans (List.length_take_le' i mods) HN.out)
      have HKN := hid (show (∃ X, KeptT Q mods[i].1 X) → ∀ j (h : j < mods.length), j < i + 1 → ∃ X, KeptT Q mods[j].1 X from fun h0 j h1 h2 => by
        rcases Nat.lt_or_ge j i with h | h
        · exact HK.out j h1 h
        · have : j = i := by omega
          subst this; exact h0)
      generalize mods[i] = x at *
      obtain ⟨p, q⟩ := x
      simp only at y0 y1 HST HKN
      obtain ⟨SX, hSX⟩ : ∃ SX, latL Q (mods.take i) = SX := ⟨_, rfl⟩
      rw [hSX] at HOW HST HSL
      clear hSX hlt
      have HAl := hid ((Below.refl wr.heap.size wr).alloc (Nat.le_refl _) (.cells #[.string p, .string q] 51))
      have HBa := hid (HBr.out.trans (HAl.out.mono HBr.out.size))
      have HM0 := hid (heap_new wr (.cells #[.string p, .string q] 51))
      have HOa := hid (HOW.out.alloc (.cells #[.string p, .string q] 51))
      have HNE := hid (show some wr.heap.size ≠ u5.ownBlock from fun h => Nat.lt_irrefl _ (own_lt HOW.out h.symm).1)
      go_wp2_with fail
      obtain ⟨wa, hwa⟩ : ∃ wa, wr.alloc (.cells #[.string p, .string q] 51) = wa := ⟨_, rfl⟩
      rw [hwa] at HAl HBa HM0 HOa ⊢
      have HSZ := hid (show wr.heap.size < wa.heap.size from lt_of_blk HM0.out)
      clear hwa
      obtain ⟨m0, m1, mf⟩ := box2J HM0.out
      have HW := hid (fun W' (hW : Below wa.heap.size wa W') => HBa.out.trans (hW.mono HBa.out.size))
      have HT := hid (fun W' (hW : Below wa.heap.size wa W') => (show (fun W' => W'.cell? ⟨wr.heap.size, 0, none⟩ = some (.string p) ∧ Hid (wr.heap.size < W'.heap.size)) W' from ⟨cell_below hW m0, hid (Nat.lt_of_lt_of_le HSZ.out hW.size)⟩))
      have HLP := hid (fun W (h : Below w.heap.size w W) => HLA.out p W h)
      go_region_held_law (fun W' => W'.cell? ⟨wr.heap.size, 0, none⟩ = some (.string p) ∧ Hid (wr.heap.size < W'.heap.size)) (first | exact keep_grow HR9.out (HT.out _ HRa.out).2.out HNE.out (HT.out _ HRa.out).1 | exact HT.out _ (HRa.out.alloc HRa.out.size _) | exact HT.out _ HRa.out | exact HT.out _ (below_drawn _ 1)) (first
        | (go_at_call 26; refine (HLP.out _ (HW.out _ (below_drawn _ 1))).mono ?_; rintro e w3 ⟨X, rfl, hK, hb⟩; have HRa := hid ((below_drawn wa 1).trans (hb.mono (Nat.le_refl _))); have HKX := hid hK; have HLV := hid (latV_of hK); clear hb hK)
        | (refine step_append_lies _ (by rfl) _ _ 52 (by rfl) w.heap.size 51 i0 _ 2 32 Tryz.underlying52 hi0 hz0 hz1 hz2 rfl (by decide) _ _ _ (by rfl) ((owns_below HOa.out HRa.out).alloc _) ⟨w3.heap.size, 0, none⟩ 1 1 [.string p, .string (lastT X)] (by rfl) rfl (World.news_of_block (heap_new _ _)) (by intro u hu; simp at hu; rcases hu with rfl | rfl <;> rfl) (by decide) (Nat.le_trans (Nat.add_le_add_right HSL.out 1) (by unfold maxLen; decide)) (by have := HSL.out; omega) (Nat.le_trans (HW.out _ HRa.out).size (by simp)) (w3.heap.size + 1) (by simp) ?_; intro g cap w4 hown hgrow hat hlt2; have HR9 := hid hgrow))
      all_goals
        have HB4 := hid (rel_app2 HBa.out.size HBa.out HOa.out HRa.out hgrow)
        have HO4 := hid (show w4.ownsRow w.heap.size 51 2 (.slice (some ⟨g, 0, none⟩) (SX.length + 1) cap) (SX ++ [(p, latV Q p)]).length (flatM (SX ++ [(p, latV Q p)])) by rw [← HLV.out, List.length_append, flatM_app]; exact hown)
        have HK4 := hid (HKN.out ⟨X, HKX.out⟩)
        clear hown hgrow hat hlt2 HR9 m0 m1 mf
        go_wp2_with fail
        go_roundw
        case rel => first | exact ⟨i + 1, HLI.out, nr_idx i, hid (by rw [HST.out]; exact HO4.out), HK4, HB4⟩ | exact ⟨i + 1, HLI.out, nx_idx HLI.out HNM.out, hid (by rw [HST.out]; exact HO4.out), HK4, HB4⟩
        case measure => first | exact nr_meas HLI.out | exact nx_meas HLI.out HNM.out
    · have hiI := ix_nlt hlt
      have hie : i = mods.length := Nat.le_antisymm hi (Nat.le_of_not_lt hlt)
      have HTA := hid (show mods.take i = mods from List.take_of_length_le (by omega))
      rw [HTA.out] at HOW
      have HKA := hid (show LatK Q mods from fun x hx => by
        obtain ⟨j, hj, rfl⟩ := List.getElem_of_mem hx
        exact HK.out j hj (by omega))
      clear hlt
      go_wp2_with fail
      go_ret
      exact ⟨_, rfl, HOW.out, HKA.out, HBr.out⟩
end Ve
end Go.Proofs.YtanponneancajaaGreatDoor

/-
  What up.One answers: built with one module more; what up.All answers: built on until nothing changes.
-/
namespace Go.Proofs.YtanponneancajaaGreatDoor
open Go.RowKit Go.Maps
namespace Ve

/-- A row of modules is one alone. -/
theorem ms_one {W : World} {v : Value} {E F : List Bm} (hE : MsAt W v E) (hF : MsAt W v F) : E = F := by
  obtain ⟨a, c, rfl, _, h1⟩ := hE
  obtain ⟨a', c', e, _, h2⟩ := hF
  injection e with e1 e2 e3
  subst e1
  refine List.ext_getElem e2 fun j hj hj' => ?_
  obtain ⟨b, o, rfl, k1⟩ := h1 (fun e => by rw [e] at hj; exact absurd hj (Nat.not_lt_zero _))
  obtain ⟨b', o', e4, k2⟩ := h2 (fun e => by rw [e] at hj'; exact absurd hj' (Nat.not_lt_zero _))
  injection e4 with e4
  injection e4 with e5 e6
  subst e5 e6
  have p1 := (k1 j hj).1
  have p2 := (k1 j hj).2
  rw [(k2 j hj').1] at p1
  rw [(k2 j hj').2] at p2
  injection p1 with p1
  injection p1 with p1
  injection p2 with p2
  injection p2 with p2
  exact Prod.ext p1.symm p2.symm
open Classical in
/-- The modules that a value holds. -/
noncomputable def rdM (W : World) (v : Value) : List Bm := if h : ∃ E, MsAt W v E then h.choose else []
theorem rdM_eq {W : World} {v : Value} {E : List Bm} (h : MsAt W v E) : rdM W v = E := by
  have he : ∃ E, MsAt W v E := ⟨E, h⟩
  unfold rdM
  rw [dif_pos he]
  exact ms_one he.choose_spec h
theorem ms_single {W : World} {b : Nat} {x : Bm} {fr : Nat × Nat} (h : W.heap[b]? = some (.cells #[.string x.1, .string x.2] 51 fr)) : MsAt W (.slice (some ⟨b, 0, none⟩) 1 1) [x] := by
  refine ⟨_, 1, rfl, Nat.le_refl _, fun _ => ⟨b, 0, rfl, fun j hj => ?_⟩⟩
  have : j = 0 := by simp at hj; exact hj
  subst this
  exact ⟨by rw [Lib.cell_of_heap h]; rfl, by rw [Lib.cell_of_heap h]; rfl⟩
theorem em_some (a : Addr) (n c : Nat) (D : List Bm) : Em (.slice (some a) n c) D := fun a' c' e _ => by
  injection e with e1 e2 e3
  subst e1 e3
  exact Or.inr ⟨a, rfl⟩
set_option maxRecDepth 100000 in
set_option maxHeartbeats 2000000 in
theorem one_bad (Q : List Raw) (L : List Ent) (roots : List Bm) (x : Bm) (v rv : Value) (A : Nat → Addr) (m : Int) (w : World) (hn : L.length ≤ 1000) (hrn : roots.length ≤ 400) (sh : ∀ e, e ∈ L → ShE e) (S : Te w A m) (I : Ixs w v Q L) (hr : MsAt w rv roots) (h0 : ¬ (chkG Q L roots).1 = 0) :
    Calls Tryz.prog 36 #[v, rv, .agg #[.string x.1, .string x.2]] w fun e w' => ∃ T a, e = .returned (.tuple #[.slice none 0 0, .iface T (.pointer (some a))]) ∧ ErrAt w' A (.iface T (.pointer (some a))) (chkG Q L roots).1 (chkG Q L roots).2 ∧ Below w.heap.size w w' := by
  obtain ⟨p, q⟩ := x
  have HB0 := hid ((Below.refl w.heap.size w).alloc (Nat.le_refl _) (.cells #[.string p, .string q] 51))
  have HBU := hid (build_bad Q L roots v rv A m _ hn (by omega) sh (S.below HB0.out) (I.below HB0.out) (hr.below HB0.out) h0)
  obtain ⟨a, c, hv, -⟩ := id I.es
  subst hv
  obtain ⟨ra, rc, hrv, -⟩ := id hr
  subst hrv
  clear S I hr sh h0
  go_enter Tryz.func36, Tryz.ntmps36
  go_wp2_with fail
  refine HBU.out.mono ?_
  rintro e w1 ⟨T, xa, rfl, he, hb⟩
  have HB1 := hid (HB0.out.trans (hb.mono HB0.out.size))
  have HE := hid he
  clear hb he HBU
  go_wp2_with fail
  go_ret2
  exact ⟨_, _, rfl, HE.out, HB1.out⟩
set_option maxRecDepth 100000 in
set_option maxHeartbeats 2000000 in
theorem one_not (Q : List Raw) (L : List Ent) (roots : List Bm) (x : Bm) (v rv : Value) (A : Nat → Addr) (m : Int) (w : World) (hn : L.length ≤ 1000) (hrn : roots.length ≤ 400) (sh : ∀ e, e ∈ L → ShE e) (S : Te w A m) (I : Ixs w v Q L) (hr : MsAt w rv roots) (h0 : (chkG Q L roots).1 = 0) (hx : ¬ x ∈ univ L) :
    Calls Tryz.prog 36 #[v, rv, .agg #[.string x.1, .string x.2]] w fun e w' => e = .returned (.tuple #[.slice none 0 0, errA A 5]) ∧ Below w.heap.size w w' := by
  obtain ⟨p, q⟩ := x
  have HB0 := hid ((Below.refl w.heap.size w).alloc (Nat.le_refl _) (.cells #[.string p, .string q] 51))
  have HM0 := hid (heap_new w (.cells #[.string p, .string q] 51))
  have HBU := hid (build_good Q L roots v rv A m _ hn (by omega) sh (S.below HB0.out) (I.below HB0.out) (hr.below HB0.out) h0)
  have HFI := hid (fun W (h : Below w.heap.size w W) => find_any Q (p, q) v W (by rw [I.ln]; omega) (I.below h).es)
  obtain ⟨k, hk, hkn⟩ : ∃ k, idxOf (isM (p, q)) Q = k ∧ k < 0 := by
    rcases idx_nat (isM (p, q)) Q with h1 | ⟨k, h1⟩
    · exact ⟨_, h1, by omega⟩
    · exact absurd ((found_iff I (p, q)).2 ⟨k, h1⟩) hx
  rw [hk] at HFI
  have HS := hid (fun W (h : Below w.heap.size w W) => S.below h)
  obtain ⟨a, c, hv, -⟩ := id I.es
  subst hv
  obtain ⟨ra, rc, hrv, -⟩ := id hr
  subst hrv
  clear S I hr sh h0 hx hk
  go_enter Tryz.func36, Tryz.ntmps36
  go_wp2_with fail
  refine HBU.out.mono ?_
  rintro e w1 ⟨u, E, rfl, -, hm⟩
  have HB1 := hid (HB0.out.trans (hm.1.mono HB0.out.size))
  have HM1 := hid ((hm.1.block _ (lt_of_blk HM0.out)).trans HM0.out)
  obtain ⟨ua, uc, hu⟩ := hm.sl
  subst hu
  obtain ⟨m0, m1, mf⟩ := box2J HM1.out
  clear hm HBU
  go_wp2_with fail
  refine (HFI.out _ HB1.out).mono ?_
  rintro e w2 ⟨rfl, hb⟩
  have HB2 := hid (HB1.out.trans (hb.mono HB1.out.size))
  have g4 := (HS.out _ HB2.out).sen.g4
  clear hb m0 m1 mf
  go_wp2_with fail
  go_quiet (fail)
  go_wp2_with fail
  go_ret2
  exact ⟨rfl, below_drawn_of HB2.out _⟩
set_option maxRecDepth 100000 in
set_option maxHeartbeats 4000000 in
theorem one_good (Q : List Raw) (L : List Ent) (roots : List Bm) (x : Bm) (v rv : Value) (A : Nat → Addr) (m : Int) (w : World) (hn : L.length ≤ 1000) (hrn : roots.length ≤ 400) (sh : ∀ e, e ∈ L → ShE e) (S : Te w A m) (I : Ixs w v Q L) (hr : MsAt w rv roots) (her : Em rv roots) (h0 : (chkG Q L roots).1 = 0) (hx : x ∈ univ L) :
    Calls Tryz.prog 36 #[v, rv, .agg #[.string x.1, .string x.2]] w fun e w' => ∃ a c, e = .returned (.tuple #[.slice a (bX Q L (roots ++ [x])).length c, .nilIface]) ∧ Mr w w' (.slice a (bX Q L (roots ++ [x])).length c) (bX Q L (roots ++ [x])) := by
  have hg : (chkG Q L (roots ++ [x])).1 = 0 := chkG_in I (chkG_chk h0) fun y hy => by
    rcases List.mem_append.1 hy with h | h
    · exact (rgt_of I h0).r y h
    · rw [List.mem_singleton.1 h]; exact hx
  obtain ⟨p, q⟩ := x
  have HB0 := hid ((Below.refl w.heap.size w).alloc (Nat.le_refl _) (.cells #[.string p, .string q] 51))
  have HM0 := hid (heap_new w (.cells #[.string p, .string q] 51))
  have HBU := hid (build_good Q L roots v rv A m _ hn (by omega) sh (S.below HB0.out) (I.below HB0.out) (hr.below HB0.out) h0)
  have HFI := hid (fun W (h : Below w.heap.size w W) => find_any Q (p, q) v W (by rw [I.ln]; omega) (I.below h).es)
  obtain ⟨k, hk⟩ := (found_iff I (p, q)).1 hx
  rw [hk] at HFI
  have hk0 : ¬ (k : Int) < 0 := by omega
  have HB2 := hid (fun W u (h : Below w.heap.size w W) (hu : MsAt W u (roots ++ [(p, q)])) => build_all Q L (roots ++ [(p, q)]) v u A m W hn (by simp; omega) sh (S.below h) (I.below h) hu)
  rw [rF_good hg] at HB2
  have HR := hid (fun W (h : Below w.heap.size w W) => hr.below h)
  have HER := hid her
  obtain ⟨a, c, hv, -⟩ := id I.es
  subst hv
  obtain ⟨ra, rc, hrv, -⟩ := id hr
  subst hrv
  clear S I hr sh h0 hx hk her hg
  go_enter Tryz.func36, Tryz.ntmps36
  go_wp2_with fail
  refine HBU.out.mono ?_
  rintro e w1 ⟨u, E, rfl, -, hm⟩
  have HB1 := hid (HB0.out.trans (hm.1.mono HB0.out.size))
  have HM1 := hid ((hm.1.block _ (lt_of_blk HM0.out)).trans HM0.out)
  obtain ⟨ua, uc, hu⟩ := hm.sl
  subst hu
  obtain ⟨m0, m1, mf⟩ := box2J HM1.out
  clear hm HBU
  go_wp2_with fail
  refine (HFI.out _ HB1.out).mono ?_
  rintro e w2 ⟨rfl, hb⟩
  have HBb := hid (HB1.out.trans (hb.mono HB1.out.size))
  have HM2 := hid ((hb.block _ (lt_of_blk HM1.out)).trans HM1.out)
  clear hb m0 m1 mf
  obtain ⟨m0, m1, mf⟩ := box2J HM2.out
  have HA3 := hid ((Below.refl w2.heap.size w2).alloc (Nat.le_refl _) (.cells #[.string p, .string q] 51))
  have HN3 := hid (heap_new w2 (.cells #[.string p, .string q] 51))
  have HA4 := hid (HA3.out.alloc HA3.out.size (.cells #[.slice ra roots.length rc, .slice (some ⟨w2.heap.size, 0, none⟩) 1 1] 52))
  have HN4 := hid (heap_old _ (.cells #[.slice ra roots.length rc, .slice (some ⟨w2.heap.size, 0, none⟩) 1 1] 52) HN3.out)
  have HL4 := hid (heap_new (w2.alloc (.cells #[.string p, .string q] 51)) (.cells #[.slice ra roots.length rc, .slice (some ⟨w2.heap.size, 0, none⟩) 1 1] 52))
  have hsz : (w2.alloc (.cells #[.string p, .string q] 51)).heap.size = w2.heap.size + 1 := by simp
  rw [hsz] at HL4
  go_wp2_with fail
  generalize (w2.alloc (.cells #[.string p, .string q] 51)).alloc (.cells #[.slice ra roots.length rc, .slice (some ⟨w2.heap.size, 0, none⟩) 1 1] 52) = w4 at *
  have HB4 := hid (HBb.out.trans (HA4.out.mono HBb.out.size))
  have HCT := hid (cat_any roots [(p, q)] (.slice ra roots.length rc) (.slice (some ⟨w2.heap.size, 0, none⟩) 1 1) (w2.heap.size + 1) w4 (by rw [Lib.cell_of_heap HL4.out]; rfl) (by rw [Lib.cell_of_heap HL4.out]; rfl) (HR.out _ HB4.out) (ms_single HN4.out) HER.out (em_some _ _ _ _) (by omega) (by simp))
  clear m0 m1 mf HA3 HA4 HN3 HN4 HL4 hsz HM2 HM1 HM0
  refine HCT.out.mono ?_
  rintro e w5 ⟨cu, rfl, ho, hb⟩
  have HB5 := hid (HB4.out.trans (hb.mono HB4.out.size))
  have HBE := hid (HB2.out w5 cu HB5.out (own_ms ho))
  obtain ⟨RX, hRX⟩ : ∃ RX, roots ++ [(p, q)] = RX := ⟨_, rfl⟩
  obtain ⟨BX, hBX⟩ : ∃ BX, bX Q L (roots ++ [(p, q)]) = BX := ⟨_, rfl⟩
  have HBX := hid hBX
  rw [hBX] at HBE
  rw [hRX] at ho
  obtain ⟨ca, cc, hcu⟩ := own_slN ho
  subst hcu
  clear ho hb HCT HB2 hRX hBX
  go_wp2_with fail
  refine HBE.out.mono ?_
  rintro e w6 ⟨xa, xc, y, rfl, hm, he⟩
  have he : y = .nilIface := he
  subst he
  have HMX := hid (hm.base HB5.out)
  clear hm HBE
  go_wp2_with fail
  go_ret2
  have h := HBX.out
  subst h
  exact ⟨_, _, rfl, HMX.out⟩
set_option maxRecDepth 100000 in
set_option maxHeartbeats 2000000 in
theorem all_bad (Q : List Raw) (L : List Ent) (roots : List Bm) (v rv : Value) (A : Nat → Addr) (m : Int) (w : World) (hn : L.length ≤ 1000) (hrn : roots.length ≤ 1000000) (sh : ∀ e, e ∈ L → ShE e) (S : Te w A m) (I : Ixs w v Q L) (hr : MsAt w rv roots) (h0 : ¬ (chkG Q L roots).1 = 0) :
    Calls Tryz.prog 32 #[v, rv] w fun e w' => ∃ T a, e = .returned (.tuple #[.slice none 0 0, .iface T (.pointer (some a))]) ∧ ErrAt w' A (.iface T (.pointer (some a))) (chkG Q L roots).1 (chkG Q L roots).2 ∧ Below w.heap.size w w' := by
  have HBU := hid (build_bad Q L roots v rv A m _ hn hrn sh S I hr h0)
  obtain ⟨a, c, hv, -⟩ := id I.es
  subst hv
  obtain ⟨ra, rc, hrv, -⟩ := id hr
  subst hrv
  clear S I hr sh h0
  go_enter Tryz.func32, Tryz.ntmps32
  go_wp2_with fail
  refine HBU.out.mono ?_
  rintro e w1 ⟨T, xa, rfl, he, hb⟩
  have HB1 := hid hb
  have HE := hid he
  clear hb he HBU
  go_wp2_with fail
  go_ret2
  exact ⟨_, _, rfl, HE.out, HB1.out⟩
/-- What up.All answers. -/
structure AllR (Q : List Raw) (L : List Ent) (roots E : List Bm) : Prop where
  fx : Fix Q L (bX Q L roots) E
  sl : Sl L E
  la : LatIn Q L E
  ov : undB (bX Q L roots) E = true
set_option maxRecDepth 100000 in
set_option maxHeartbeats 4000000 in
theorem all_good (Q : List Raw) (L : List Ent) (roots : List Bm) (v rv : Value) (A : Nat → Addr) (m : Int) (w : World) (hn : L.length ≤ 400) (hrn : roots.length ≤ 1000000) (hz : ∀ r, r ∈ Q → r.1.1.size ≤ 80 ∧ r.1.2.size ≤ 80) (sh : ∀ e, e ∈ L → ShE e) (S : Te w A m) (htab : Lib.TabIs Tryz.prog w powName .u64 Lib.pow10Tab) (I : Ixs w v Q L) (hr : MsAt w rv roots) (h0 : (chkG Q L roots).1 = 0) :
    Calls Tryz.prog 32 #[v, rv] w fun e w' => ∃ a c E, e = .returned (.tuple #[.slice a E.length c, .nilIface]) ∧ Mr w w' (.slice a E.length c) E ∧ AllR Q L roots E := by
  have HC := hid (chkG_chk h0)
  have HBU := hid (build_all Q L roots v rv A m w (by omega) hrn sh S I hr)
  rw [rF_good h0] at HBU
  have HI := hid (fun W (h : Below w.heap.size w W) => I.below h)
  have HLR := hid (fun E W u (h : Below w.heap.size w W) (hE : E.length ≤ L.length) (hu : MsAt W u E) => latest_row Q E v u A m W (by rw [I.ln]; omega) (by omega) hz (S.below h) (tab_below htab h) (I.below h).es hu)
  have HLI := hid (fun E (hE : Sl L E) (hK : LatK Q E) => show LatIn Q L E from fun x hx => by
    obtain ⟨X, hX⟩ := hK x hx
    exact lat_in I HC.out ⟨x, hE.un x hx, rfl⟩ hX)
  have HB2 := hid (fun E W u (hE : Sl L E) (hl : LatIn Q L E) (hEl : E.length ≤ L.length) (h : Below w.heap.size w W) (hu : MsAt W u (E ++ latL Q E)) => build_all Q L (E ++ latL Q E) v u A m W (by omega) (by rw [List.length_append, latL_len]; omega) sh (S.below h) (I.below h) hu)
  have HG2 := hid (fun E (hE : Sl L E) (hl : LatIn Q L E) => rF_good (upG I HC.out hE hl))
  have HOV := hid (fun E (hE : Sl L E) (hl : LatIn Q L E) => up_over I HC.out hE hl)
  have HLN := hid hn
  obtain ⟨a, c, hv, -⟩ := id I.es
  subst hv
  obtain ⟨ra, rc, hrv, -⟩ := id hr
  subst hrv
  have HB0 := hid (bX_sl Q L roots)
  have HBL := hid (show (bX Q L roots).length ≤ L.length from bX_len)
  have HUR := hid (undB_refl HC.out HB0.out)
  clear S I hr sh h0 htab hz
  go_enter Tryz.func32, Tryz.ntmps32
  go_wp2_with fail
  refine HBU.out.mono ?_
  rintro e w1 ⟨xa, xc, y, rfl, hm, he⟩
  have he : y = .nilIface := he
  subst he
  have HM1 := hid hm
  clear hm HBU
  go_wp2_with fail
  go_loopw [6] (fun bv wr => ∃ E, Hid (Mr w wr bv E) ∧ Hid (∃ n, E = upN Q L (bX Q L roots) n) ∧ Hid (Sl L E) ∧ Hid (E.length ≤ L.length) ∧ Hid (undB (bX Q L roots) E = true)) (fun bv wr => L.length - cntV L (rdM wr bv))
  case atStart => exact ⟨_, HM1, hid ⟨0, rfl⟩, HB0, HBL, HUR⟩
  case round =>
    obtain ⟨E, HM, HNN, HSL, HEL, HUN⟩ := hrel
    have HRD := hid (rdM_eq HM.out.ms)
    obtain ⟨ea, ec, hu6⟩ := HM.out.sl
    subst hu6
    have HLE := hid (HLR.out E wr _ HM.out.1 HEL.out HM.out.ms)
    go_wp2_with fail
    refine HLE.out.mono ?_
    rintro e w2 ⟨lu, rfl, ho, hK, hb⟩
    have HLA := hid (HLI.out E HSL.out hK)
    have HB2' := hid (HM.out.1.trans (hb.mono HM.out.1.size))
    have HML := hid (mr_own ho hb)
    have HME := hid (HM.out.below hb)
    obtain ⟨la, lc, hlu⟩ := HML.out.sl
    subst hlu
    clear ho hK hb HLE
    have HA3 := hid ((Below.refl w2.heap.size w2).alloc (Nat.le_refl _) (.cells #[.slice ea E.length ec, .slice la (latL Q E).length lc] 52))
    have HL3 := hid (heap_new w2 (.cells #[.slice ea E.length ec, .slice la (latL Q E).length lc] 52))
    go_wp2_with fail
    generalize w2.alloc (.cells #[.slice ea E.length ec, .slice la (latL Q E).length lc] 52) = w3 at *
    have HB3 := hid (HB2'.out.trans (HA3.out.mono HB2'.out.size))
    have HCT := hid (cat_any E (latL Q E) _ _ w2.heap.size w3 (by rw [Lib.cell_of_heap HL3.out]; rfl) (by rw [Lib.cell_of_heap HL3.out]; rfl) (HME.out.ms.below HA3.out) (HML.out.ms.below HA3.out) HME.out.em HML.out.em (by have := HEL.out; have := HLN.out; omega) (by rw [latL_len]; have := HEL.out; have := HLN.out; omega))
    have HME3 := hid (HME.out.below HA3.out)
    clear HA3 HL3 HML HME
    refine HCT.out.mono ?_
    rintro e w4 ⟨cu, rfl, ho, hb⟩
    have HB4 := hid (HB3.out.trans (hb.mono HB3.out.size))
    have HBE := hid (HB2.out E w4 cu HSL.out HLA.out HEL.out HB4.out (own_ms ho))
    rw [HG2.out E HSL.out HLA.out] at HBE
    have HME4 := hid (HME3.out.below hb)
    have HUF := hid (show bX Q L (E ++ latL Q E) = upF Q L E from rfl)
    rw [HUF.out] at HBE
    obtain ⟨EL, hEL⟩ : ∃ EL, E ++ latL Q E = EL := ⟨_, rfl⟩
    rw [hEL] at ho
    obtain ⟨ca, cc, hcu⟩ := own_slN ho
    subst hcu
    clear ho hb HCT HME3 hEL HUF
    go_wp2_with fail
    refine HBE.out.mono ?_
    rintro e w5 ⟨na, nc, y, rfl, hm, he⟩
    have he : y = .nilIface := he
    subst he
    have HMN := hid (hm.base HB4.out)
    have HME5 := hid (HME4.out.below hm.1)
    have HSF := hid (show Sl L (upF Q L E) from bX_sl _ _ _)
    have HFL := hid (show (upF Q L E).length ≤ L.length from bX_len)
    have HOE := hid (HOV.out E HSL.out HLA.out)
    have HEQ := hid (eqS_any (upF Q L E) E _ _ w5 (by have := HFL.out; have := HLN.out; omega) HMN.out.ms HME5.out.ms)
    clear hm HBE HME4
    by_cases hF : upF Q L E = E
    · rw [decide_eq_true hF] at HEQ
      have HAR := hid (show AllR Q L roots E from ⟨⟨HNN.out, hF⟩, HSL.out, HLA.out, HUN.out⟩)
      rw [hF] at HMN HEQ ⊢
      clear hF HSF HFL HOE
      go_wp2_with fail
      refine HEQ.out.mono ?_
      rintro e w6 ⟨rfl, hb⟩
      have HM6 := hid (HMN.out.below hb)
      clear hb
      go_wp2_with fail
      go_ret2
      exact ⟨_, _, E, rfl, HM6.out, HAR.out⟩
    · rw [decide_eq_false hF] at HEQ
      have HCN := hid (cntV_lt HC.out HSL.out HSF.out HOE.out hF)
      have HN2 := hid (show ∃ n, upF Q L E = upN Q L (bX Q L roots) n by
        obtain ⟨n, hn⟩ := HNN.out
        exact ⟨n + 1, by rw [hn]; rfl⟩)
      have HU2 := hid (undB_trans HC.out HB0.out HSL.out HSF.out HUN.out HOE.out)
      have HCE := hid (cntV_le L (upF Q L E))
      clear hF
      generalize upF Q L E = F at *
      go_wp2_with fail
      refine HEQ.out.mono ?_
      rintro e w6 ⟨rfl, hb⟩
      have HM6 := hid (HMN.out.below hb)
      clear hb
      go_wp2_with fail
      go_roundw
      case rel => exact ⟨F, HM6, HN2, HSF, HFL, HU2⟩
      case measure =>
        show L.length - cntV L (rdM w6 _) < L.length - cntV L (rdM wr _)
        rw [rdM_eq HM6.out.ms, HRD.out]
        have h1 := HCN.out
        have h2 := HCE.out
        omega
end Ve
end Go.Proofs.YtanponneancajaaGreatDoor

/-
  What up.News answers: of each path of a selection whose latest version is greater than its own: that.
-/
namespace Go.Proofs.YtanponneancajaaGreatDoor
open Go.RowKit Go.Maps
namespace Ve

/-- The news of modules. -/
noncomputable def newsL (Q : List Raw) (E : List Bm) : List Bm := (E.filter fun m => lessB (vb m) (latV Q m.1).data.toList).map fun m => (m.1, latV Q m.1)
theorem latL_get {Q : List Raw} {E : List Bm} {i : Nat} (h : i < (latL Q E).length) (h' : i < E.length) : (latL Q E)[i] = (E[i].1, latV Q E[i].1) := by simp [latL]
theorem newsL_next {Q : List Raw} {E : List Bm} {k : Nat} (h : k < E.length) : newsL Q (E.take (k + 1)) = newsL Q (E.take k) ++ (if lessB (vb E[k]) (latV Q E[k].1).data.toList then [(E[k].1, latV Q E[k].1)] else []) := by
  unfold newsL
  rw [List.take_succ_eq_append_getElem h, List.filter_append, List.map_append]
  congr 1
  cases hb : lessB (vb E[k]) (latV Q E[k].1).data.toList <;> simp [hb]
theorem newsL_len (Q : List Raw) (E : List Bm) : (newsL Q E).length ≤ E.length := by
  unfold newsL
  rw [List.length_map]
  exact List.length_filter_le _ _
theorem newsL_none {Q : List Raw} {E : List Bm} (h : ∀ m, m ∈ E → lessB (vb m) (latV Q m.1).data.toList = false) : newsL Q E = [] := by
  unfold newsL
  rw [List.filter_eq_nil_iff.2 (fun m hm => by rw [h m hm]; simp)]; rfl
theorem lat_sz {Q : List Raw} {t : ByteArray} {X : List ByteArray} (g : Good Q) (hz : ∀ r, r ∈ Q → r.1.1.size ≤ 80 ∧ r.1.2.size ≤ 80) (hK : KeptT Q t X) : (latV Q t).size ≤ 80 := by
  rw [← latV_of hK]
  cases hX : X with
  | nil => exact Nat.zero_le _
  | cons x s =>
    have hp : 0 < X.length := by rw [hX]; simp
    rw [← hX, lastT_get hp]
    obtain ⟨r, hr, e⟩ := kept_has g (R := bestR (ofP t Q)) (fun r hr => ofP_sub r (bestR_sub hr)) hK (x := X[X.length - 1]) (List.getElem_mem _)
    rw [← e]
    exact (hz r (ofP_sub r (bestR_sub hr))).2
set_option maxRecDepth 100000 in
set_option maxHeartbeats 2000000 in
theorem news_bad (Q : List Raw) (L : List Ent) (sel : List Bm) (v sv : Value) (A : Nat → Addr) (m : Int) (w : World) (hn : L.length ≤ 1000) (sh : ∀ e, e ∈ L → ShE e) (S : Te w A m) (I : Ixs w v Q L) (hs : MsAt w sv sel) (h0 : ¬ (chk Q L).1 = 0) :
    Calls Tryz.prog 34 #[v, sv] w fun e w' => ∃ T a, e = .returned (.tuple #[.slice none 0 0, .iface T (.pointer (some a))]) ∧ ErrAt w' A (.iface T (.pointer (some a))) (chk Q L).1 (chk Q L).2 ∧ Below w.heap.size w w' := by
  have HCK := hid (icheck_any Q L v A m w (by omega) sh S I)
  obtain ⟨a, c, hv, -⟩ := id I.es
  subst hv
  obtain ⟨sa, sc, hsv, -⟩ := id hs
  subst hsv
  clear S I hs sh
  go_enter Tryz.func34, Tryz.ntmps34
  go_wp2_with fail
  refine HCK.out.mono ?_
  rintro e w1 ⟨x, rfl, he, hb⟩
  have HB1 := hid hb
  have HE := hid he
  rcases he.kind with ⟨h, _⟩ | ⟨_, T, xa, rfl⟩
  · exact absurd h h0
  clear he hb HCK h0
  go_wp2_with fail
  go_ret2
  exact ⟨_, _, rfl, HE.out, HB1.out⟩
set_option maxRecDepth 100000 in
set_option maxHeartbeats 2000000 in
theorem news_ord (Q : List Raw) (L : List Ent) (sel : List Bm) (v sv : Value) (A : Nat → Addr) (m : Int) (w : World) (hn : L.length ≤ 1000) (hsn : sel.length ≤ 1000) (sh : ∀ e, e ∈ L → ShE e) (S : Te w A m) (I : Ixs w v Q L) (hs : MsAt w sv sel) (h0 : (chk Q L).1 = 0) (h1 : risB2 sel = false) :
    Calls Tryz.prog 34 #[v, sv] w fun e w' => e = .returned (.tuple #[.slice none 0 0, errA A 8]) ∧ Below w.heap.size w w' := by
  have HCK := hid (icheck_any Q L v A m w (by omega) sh S I)
  have HIS := hid (fun W (h : Below w.heap.size w W) => isSel_any sel sv W (hs.below h) (by omega))
  rw [h1] at HIS
  have HS := hid (fun W (h : Below w.heap.size w W) => S.below h)
  obtain ⟨a, c, hv, -⟩ := id I.es
  subst hv
  obtain ⟨sa, sc, hsv, -⟩ := id hs
  subst hsv
  clear S I hs sh h1
  go_enter Tryz.func34, Tryz.ntmps34
  go_wp2_with fail
  refine HCK.out.mono ?_
  rintro e w1 ⟨x, rfl, he, hb⟩
  have HB1 := hid hb
  rcases he.kind with ⟨_, rfl⟩ | ⟨h, _⟩
  · clear he hb HCK h0
    go_wp2_with fail
    refine (HIS.out _ HB1.out).mono ?_
    rintro e w2 ⟨rfl, hb⟩
    have HB2 := hid (HB1.out.trans (hb.mono HB1.out.size))
    have g7 := (HS.out _ HB2.out).sen.g7
    clear hb
    go_wp2_with fail
    go_quiet (fail)
    go_wp2_with fail
    go_ret2
    exact ⟨rfl, below_drawn_of HB2.out _⟩
  · exact absurd h0 h
set_option maxRecDepth 100000 in
set_option maxHeartbeats 4000000 in
theorem news_good (Q : List Raw) (L : List Ent) (sel : List Bm) (v sv : Value) (A : Nat → Addr) (m : Int) (w : World) (hn : L.length ≤ 1000) (hsn : sel.length ≤ 1000) (hz : ∀ r, r ∈ Q → r.1.1.size ≤ 80 ∧ r.1.2.size ≤ 80) (hsz : ∀ x, x ∈ sel → x.2.size < 999999) (sh : ∀ e, e ∈ L → ShE e) (S : Te w A m) (htab : Lib.TabIs Tryz.prog w powName .u64 Lib.pow10Tab) (I : Ixs w v Q L) (hs : MsAt w sv sel) (h0 : (chk Q L).1 = 0) (h1 : risB2 sel = true) :
    Calls Tryz.prog 34 #[v, sv] w fun e w' => ∃ u, e = .returned (.tuple #[u, .nilIface]) ∧ w'.ownsRow w.heap.size 51 2 u (newsL Q sel).length (flatM (newsL Q sel)) ∧ Below w.heap.size w w' := by
  have HCK := hid (icheck_any Q L v A m w (by omega) sh S I)
  have HIS := hid (fun W (h : Below w.heap.size w W) => isSel_any sel sv W (hs.below h) (by omega))
  rw [h1] at HIS
  have HLR := hid (fun W (h : Below w.heap.size w W) => latest_row Q sel v sv A m W (by rw [I.ln]; omega) hsn hz (S.below h) (tab_below htab h) (I.below h).es (hs.below h))
  have HLZ := hid (fun (hK : LatK Q sel) (x : Bm) (hx : x ∈ sel) => show (latV Q x.1).size < 999999 by
    obtain ⟨X, hX⟩ := hK x hx
    have := lat_sz (good_of I h0) hz hX
    omega)
  have HLS := hid (fun (s t : ByteArray) W (h : Below w.heap.size w W) (h1 : s.size < 999999) (h2 : t.size < 999999) => less_any s t (A 0) (A 1) m W h1 h2 (S.below h).vs)
  have HMS := hid (fun W (h : Below w.heap.size w W) => hs.below h)
  have HSZ := hid hsz
  have HSN := hid (show sel.length ≤ 1000000 by omega)
  have HSL := hid hsn
  obtain ⟨i0, hi0, hz0, hz1, hz2⟩ := info_parts infoMod
  obtain ⟨a, c, hv, -⟩ := id I.es
  subst hv
  obtain ⟨sa, sc, hsv, -⟩ := id hs
  subst hsv
  clear S I hs sh h1 htab hz hsz
  go_enter Tryz.func34, Tryz.ntmps34
  go_wp2_with fail
  refine HCK.out.mono ?_
  rintro e w1 ⟨x, rfl, he, hb⟩
  have HB1 := hid hb
  rcases he.kind with ⟨_, rfl⟩ | ⟨h, _⟩
  rotate_left
  · exact absurd h0 h
  clear he hb HCK h0
  go_wp2_with fail
  refine (HIS.out _ HB1.out).mono ?_
  rintro e w2 ⟨rfl, hb⟩
  have HB2 := hid (HB1.out.trans (hb.mono HB1.out.size))
  clear hb
  go_wp2_with fail
  refine (HLR.out _ HB2.out).mono ?_
  rintro e w3 ⟨lu, rfl, ho, hK, hb⟩
  have HB3 := hid (HB2.out.trans (hb.mono HB2.out.size))
  have HML := hid (own_ms ho)
  have HKZ := hid (HLZ.out hK)
  obtain ⟨la, lc, hlu⟩ := own_slN ho
  subst hlu
  clear hb ho hK HLR HIS HLZ
  have HYL := hid (latL_len Q sel)
  have HYG := hid (fun (i : Nat) (h : i < (latL Q sel).length) (h' : i < sel.length) => latL_get (Q := Q) h h')
  obtain ⟨Y, HY⟩ : ∃ Y, Hid (latL Q sel = Y) := ⟨_, hid rfl⟩
  rw [HY.out] at HML HYL HYG ⊢
  clear HY
  go_wp2_with fail
  go_loopw [7, 23] (fun ov iv wr => ∃ i : Nat, i ≤ Y.length ∧ iv = .int .i64 i ∧ Hid (wr.ownsRow w3.heap.size 51 2 ov (newsL Q (sel.take i)).length (flatM (newsL Q (sel.take i)))) ∧ Hid (Below w3.heap.size w3 wr)) (fun _ iv _ => Y.length - (intOf iv).toNat)
  case atStart => exact ⟨0, Nat.zero_le _, rfl, hid (World.ownsRow_nil _ _ _ _), hid (Below.refl _ _)⟩
  case round =>
    obtain ⟨i, hi, rfl, HOW, HBr⟩ := hrel
    have HBw := hid (HB3.out.trans (HBr.out.mono HB3.out.size))
    by_cases hlt : i < Y.length
    · have hls : i < sel.length := by rw [← HYL.out]; exact hlt
      have hiI := ix_lt hlt
      have hsI := ix_lt hls
      have hii := ix_pos i
      have HLI := hid hlt
      have HYM := hid (show Y.length ≤ 1000000 by rw [HYL.out]; exact HSN.out)
      obtain ⟨xb, xo, hxa, x0, x1⟩ := (HML.out.below HBr.out).cells hlt
      subst hxa
      obtain ⟨yb, yo, hya, y0, y1⟩ := (HMS.out _ HBw.out).cells hls
      subst hya
      rw [HYG.out i hlt hls] at x0 x1
      have HNX := hid (newsL_next (Q := Q) hls)
      have HPZ := hid (HKZ.out sel[i] (List.getElem_mem hls))
      have HQZ := hid (HSZ.out sel[i] (List.getElem_mem hls))
      have HNL := hid (show (newsL Q (sel.take i)).length ≤ 1000 from Nat.le_trans (newsL_len Q _) (Nat.le_trans (List.length_take_le' i sel) HSL.out))
      generalize sel[i] = x at *
      obtain ⟨p, q⟩ := x
      simp only at x0 x1 y0 y1 HNX HPZ HQZ
      generalize latV Q p = lv at *
      obtain ⟨SX, hSX⟩ : ∃ SX, newsL Q (sel.take i) = SX := ⟨_, rfl⟩
      rw [hSX] at HOW HNX HNL
      clear hSX hlt hls
      have HAl := hid ((Below.refl wr.heap.size wr).alloc (Nat.le_refl _) (.cells #[.string p, .string lv] 51))
      have HBa := hid (HBr.out.trans (HAl.out.mono HBr.out.size))
      have HBv := hid (HBw.out.trans (HAl.out.mono HBw.out.size))
      have HM0 := hid (heap_new wr (.cells #[.string p, .string lv] 51))
      have HOa := hid (HOW.out.alloc (.cells #[.string p, .string lv] 51))
      have HLP := hid (fun W (h : Below w.heap.size w W) => HLS.out q lv W h HQZ.out HPZ.out)
      replace y1 := cell_below HAl.out y1
      go_wp2_with fail
      obtain ⟨wa, hwa⟩ : ∃ wa, wr.alloc (.cells #[.string p, .string lv] 51) = wa := ⟨_, rfl⟩
      rw [hwa] at HAl HBa HBv HM0 HOa y1 ⊢
      clear hwa
      obtain ⟨m0, m1, mf⟩ := box2J HM0.out
      have HW := hid (fun W' (hW : Below wa.heap.size wa W') => HBv.out.trans (hW.mono HBv.out.size))
      have HT := hid (fun W' (hW : Below wa.heap.size wa W') => (show (fun W' => W'.cell? ⟨yb, yo + i * 2 + 1, none⟩ = some (.string q) ∧ W'.cell? ⟨wr.heap.size, 1, none⟩ = some (.string lv) ∧ Hid (Below wa.heap.size wa W')) W' from ⟨cell_below hW y1, cell_below hW m1, hid hW⟩))
      change Hid (newsL Q (sel.take (i + 1)) = SX ++ if lessB q.data.toList lv.data.toList then [(p, lv)] else []) at HNX
      cases hle : lessB q.data.toList lv.data.toList with
      | false =>
        rw [hle] at HLP HNX
        have HN2 := hid (show newsL Q (sel.take (i + 1)) = SX by rw [HNX.out]; simp)
        clear hle
        go_region_held (fun W' => W'.cell? ⟨yb, yo + i * 2 + 1, none⟩ = some (.string q) ∧ W'.cell? ⟨wr.heap.size, 1, none⟩ = some (.string lv) ∧ Hid (Below wa.heap.size wa W')) (first | exact HT.out _ HRa.out | exact HT.out _ (below_drawn _ 1)) (first
          | (go_at_call 16; refine (HLP.out _ (HW.out _ (below_drawn _ 1))).mono ?_; rintro e w4 ⟨rfl, hb⟩; have HRa := hid ((below_drawn wa 1).trans (hb.mono (Nat.le_refl _))); clear hb))
        all_goals
          have HB5 := hid (HBa.out.trans (HRa.out.mono HBa.out.size))
          have HO5 := hid (owns_below HOa.out HRa.out)
          go_wp2_with fail
          go_roundw
          case rel => first | exact ⟨i + 1, HLI.out, nr_idx i, hid (by rw [HN2.out]; exact HO5.out), HB5⟩ | exact ⟨i + 1, HLI.out, nx_idx HLI.out HYM.out, hid (by rw [HN2.out]; exact HO5.out), HB5⟩
          case measure => first | exact nr_meas HLI.out | exact nx_meas HLI.out HYM.out
      | true =>
        rw [hle] at HLP HNX
        have HN2 := hid (show newsL Q (sel.take (i + 1)) = SX ++ [(p, lv)] by rw [HNX.out]; simp)
        clear hle
        go_region_held (fun W' => W'.cell? ⟨yb, yo + i * 2 + 1, none⟩ = some (.string q) ∧ W'.cell? ⟨wr.heap.size, 1, none⟩ = some (.string lv) ∧ Hid (Below wa.heap.size wa W')) (first | exact HT.out _ HRa.out | exact HT.out _ (below_drawn _ 1)) (first
          | (go_at_call 16; refine (HLP.out _ (HW.out _ (below_drawn _ 1))).mono ?_; rintro e w4 ⟨rfl, hb⟩; have HRa := hid ((below_drawn wa 1).trans (hb.mono (Nat.le_refl _))); clear hb))
        all_goals
          have HB5 := hid (HBa.out.trans (HRa.out.mono HBa.out.size))
          have HO5 := hid (owns_below HOa.out HRa.out)
          have n0 := cell_below HRa.out m0
          have n1 := cell_below HRa.out m1
          clear m0 m1 mf
          go_wp2_with (at_builtin; refine wpList_append_own _ rfl _ _ 52 rfl w3.heap.size 51 i0 _ 2 32 Tryz.underlying52 hi0 hz0 hz1 hz2 rfl (by decide) _ _ _ rfl (HO5.out.alloc _) ⟨w4.heap.size, 0, none⟩ 1 1 [.string p, .string lv] rfl rfl (World.news_of_block (heap_new _ _)) (by intro u hu; simp at hu; rcases hu with rfl | rfl <;> rfl) (Nat.le_trans (Nat.add_le_add_right HNL.out 1) (by unfold maxLen; decide)) (by have hz := HNL.out; omega) (Nat.le_trans HB5.out.size (by simp)) ?_)
          intro v' w6 hown hgrow _
          have HB6 := hid (rel_app2 HB5.out.size HB5.out HO5.out (Below.refl _ _) hgrow)
          have HO6 := hid (show w6.ownsRow w3.heap.size 51 2 v' (SX ++ [(p, lv)]).length (flatM (SX ++ [(p, lv)])) by rw [List.length_append, flatM_app]; exact hown)
          clear hown hgrow
          go_wp2_with fail
          go_roundw
          case rel => first | exact ⟨i + 1, HLI.out, nr_idx i, hid (by rw [HN2.out]; exact HO6.out), HB6⟩ | exact ⟨i + 1, HLI.out, nx_idx HLI.out HYM.out, hid (by rw [HN2.out]; exact HO6.out), HB6⟩
          case measure => first | exact nr_meas HLI.out | exact nx_meas HLI.out HYM.out
    · have hiI := ix_nlt hlt
      have HTA := hid (show sel.take i = sel from List.take_of_length_le (by have := HYL.out; omega))
      rw [HTA.out] at HOW
      have HOF := hid (own_base HOW.out HB3.out.size)
      obtain ⟨oa, oc, hov⟩ := own_slN HOW.out
      subst hov
      clear hlt
      go_wp2_with fail
      go_ret2
      exact ⟨_, rfl, HOF.out, HBw.out⟩
end Ve
end Go.Proofs.YtanponneancajaaGreatDoor
