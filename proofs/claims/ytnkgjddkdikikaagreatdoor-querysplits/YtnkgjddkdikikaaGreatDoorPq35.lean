/-
  OrdS OrdW IxV KeR RtB ChS
-/
import Derived.Laws.OwnMore
import Derived.Test.YtnkgjddkdikikaaGreatDoorPq2
import Derived.Test.YtnkgjddkdikikaaGreatDoorPq3
import Derived.Test.YtnkgjddkdikikaaGreatDoorPq4
import Derived.Test.YtnkgjddkdikikaaGreatDoorPq7
import Derived.Test.YtnkgjddkdikikaaGreatDoorPq10
import Derived.Test.YtnkgjddkdikikaaGreatDoorPq5
import Derived.Test.YtnkgjddkdikikaaGreatDoorPq18
import Derived.Test.YtnkgjddkdikikaaGreatDoorPq13
import Derived.Test.YtnkgjddkdikikaaGreatDoorPq22
import Derived.Test.YtnkgjddkdikikaaGreatDoorPq12
import Derived.Test.YtnkgjddkdikikaaGreatDoorPq6
import Derived.Test.YtnkgjddkdikikaaGreatDoorPq36
import Derived.Test.YtnkgjddkdikikaaGreatDoorPq23
import Derived.Test.YtnkgjddkdikikaaGreatDoorPq27
import Derived.Test.YtnkgjddkdikikaaGreatDoorPq29
import Derived.Test.YtnkgjddkdikikaaGreatDoorPq31
import Derived.Test.YtnkgjddkdikikaaGreatDoorPq32
import Derived.Test.YtnkgjddkdikikaaGreatDoorPq30
namespace Go.Proofs.YtnkgjddkdikikaaGreatDoor
open Go.RowKit
namespace Ve
def ba (t : List UInt8) : ByteArray := ⟨t.toArray⟩
theorem ba_list (t : List UInt8) : (ba t).data.toList = t := by simp [ba]
def CompactIs : Prop := ∀ (w0 W : World) (g cap : Nat) (D : List Rc), D ≠ [] → D.length ≤ 1000 → D.length ≤ cap → cap ≤ maxLen → srt D → Rw w0 W g D →
  Calls Tryz.prog 185 #[.slice (some ⟨g, 0, none⟩) D.length cap, .func (.func 186) #[] #[]] W fun e w' => ∃ E : List Rc, e = .returned (.slice (some ⟨g, 0, none⟩) E.length cap) ∧ E.length ≤ D.length ∧ rises (E.map (·.1)) ∧ (∀ t, t ∈ E.map (·.1) ↔ t ∈ D.map (·.1)) ∧ Rw w0 w' g E
theorem text_rc (r : Rc) (g : Nat) (aT aB : Addr) (m : Int) (w : World) (S : Vs w aT aB m) (htab : Lib.TabIs Tryz.prog w powName .u64 Lib.pow10Tab) (h : RcAt w g r) :
    Calls Tryz.prog 187 #[.agg #[.int .i64 (nAt r.1 0), .int .i64 (nAt r.1 1), .int .i64 (nAt r.1 2), r.2]] w fun e w' => e = .returned (.string (ba r.1)) ∧ Below w.heap.size w w' := by
  have hb := text_back r.1 h.1
  have h0 := h.1
  obtain ⟨hl, hz⟩ := pre_small h
  have h5 : (strs (preOf r.1)).length ≤ 1000 := by
    rw [strs_len]
    have := pre_len (l := r.1)
    have := h.2.1
    omega
  have hp : (preText (bl (strs (preOf r.1)))).length ≤ 1000000 := by
    have h2 := hb
    rw [bl_strs]
    rw [textOf_pre] at h2
    split at h2
    · have h3 := congrArg List.length h2
      rw [List.length_append] at h3
      have := h.2.1
      omega
    · exfalso
      rw [← h2] at h0
      revert h0
      decide
  refine (text_any _ _ _ (strs (preOf r.1)) r.2 aT aB m w S htab h5 hz hp ?_).mono fun e w' ⟨T, e1, e2, e3⟩ => ⟨?_, e3⟩
  · rcases h.2.2.1 with h | ⟨h1, b, h2, h3, h4⟩
    · exact Or.inl h
    · exact Or.inr ⟨h1, b, _, h2, Nat.le_refl _, h3, h4⟩
  · rw [e1]
    congr 2
    apply str_ext
    rw [e2, bl_strs, hb, ba_list]
theorem infoParts : (Tryz.prog.info? 37).map (fun i => (i.zero, i.size, i.bytes)) = some (some (.agg #[.int .i64 0, .int .i64 0, .int .i64 0, .slice none 0 0]), 4, 48) := by kernel_rfl
def goods (L : List ByteArray) : List (List UInt8) := (bl L).filter fun t => decide (verErr t = 0)
theorem goods_snoc (L : List ByteArray) (k : Nat) (hk : k < L.length) : goods (L.take (k + 1)) = if verErr L[k].data.toList = 0 then goods (L.take k) ++ [L[k].data.toList] else goods (L.take k) := by
  unfold goods
  rw [bl_take_snoc L k hk, List.filter_append]
  by_cases h : verErr L[k].data.toList = 0
  · rw [if_pos h]; simp [h]
  · rw [if_neg h]; simp [h]
theorem kept_of {L : List ByteArray} {D E : List Rc} (hr : rises (E.map (·.1))) (hm : ∀ t, t ∈ E.map (·.1) ↔ t ∈ D.map (·.1)) (hD : ∀ t, t ∈ D.map (·.1) ↔ t ∈ goods L) : Kept L L.length (E.map fun r => ba r.1) := by
  have e : bl (E.map fun r => ba r.1) = E.map (·.1) := by
    unfold bl
    rw [List.map_map]
    refine List.map_congr_left fun r _ => ?_
    exact ba_list r.1
  refine ⟨by rw [e]; exact hr, fun t => ?_⟩
  rw [e, hm, hD, List.take_length]
  unfold goods
  rw [List.mem_filter, decide_eq_true_iff]
set_option maxRecDepth 100000 in
set_option maxHeartbeats 8000000 in
theorem vsort_some (HCI : CompactIs) (HS0 : ∀ W : World, Calls Tryz.prog 184 #[.slice none 0 0, .func (.func 69) #[] #[]] W fun e w' => e = .returned (.tuple #[]) ∧ Below W.heap.size W w')
    (HC0 : ∀ W : World, Calls Tryz.prog 185 #[.slice none 0 0, .func (.func 186) #[] #[]] W fun e w' => e = .returned (.slice none 0 0) ∧ Below W.heap.size W w') (b0 o0 cap : Nat) (L : List ByteArray) (aT aB : Addr) (m : Int) (w : World) (S : Vs w aT aB m) (htab : Lib.TabIs Tryz.prog w powName .u64 Lib.pow10Tab) (hL : ∀ j (h : j < L.length), w.cell? ⟨b0, o0 + j, none⟩ = some (.string L[j])) (h12 : L.length ≤ 1000) (hz : ∀ x, x ∈ L → x.size ≤ 80) :
    Calls Tryz.prog 125 #[.slice (some ⟨b0, o0, none⟩) L.length cap] w fun e w' => ∃ v X, e = .returned v ∧ w'.ownsRow w.heap.size 9 1 v X.length (X.map Value.string) ∧ Kept L L.length X ∧ Below w.heap.size w w' := by
  obtain ⟨i0, hi, hz0, hz1, hz2⟩ := info_parts infoStr
  obtain ⟨i1, hi1, hy0, hy1, hy2⟩ := info_parts infoParts
  have HL := hid hL
  have HZ := hid hz
  have HS := hid S
  have HTB := hid htab
  have HCF := hid HCI
  have HSN := hid HS0
  have HCN := hid HC0
  clear hL hz S htab HCI HS0 HC0
  go_enter Tryz.func125, Tryz.ntmps125
  go_wp2_with fail
  go_loopw [3, 13] (fun v i wr => ∃ (k : Nat) (D : List Rc), k ≤ L.length ∧ D.length ≤ k ∧ i = .int .i64 k ∧ Hid (D.map (·.1) = goods (L.take k)) ∧ Hid (Fd w wr v D)) (fun _ i _ => L.length - (intOf i).toNat)
  case atStart => exact ⟨0, [], Nat.zero_le _, Nat.le_refl _, rfl, hid rfl, hid ⟨World.ownsRow_nil _ _ _ _, fun _ => rfl, Below.refl _ _, fun r hr => by cases hr⟩⟩
  case round =>
    obtain ⟨k, D, hk, hDk, rfl, HG, HF⟩ := hrel
    by_cases hkL : k < L.length
    · have hcell := cell_below HF.out.bl (HL.out k hkL)
      have hq80 : L[k].size ≤ 80 := HZ.out _ (List.getElem_mem hkL)
      have HGS := hid (goods_snoc L k hkL)
      generalize L[k] = q at *
      have hkl : (k : Int) < (L.length : Int) := by omega
      have hk0 : (0 : Int) ≤ (k : Int) := by omega
      by_cases hv : verErr q.data.toList = 0
      · have HSP := hid (vsplit_is q aT aB m wr (by omega) (HS.out.below HF.out.bl) hv (strs (preOf q.data.toList)) (bl_strs _))
        rw [if_pos hv] at HGS
        have HV := hid hv
        clear hv
        go_wp2_with fail
        refine HSP.out.mono ?_
        rintro e w1 ⟨pv, rfl, hst, hb1⟩
        obtain ⟨pa, na, ca, rfl⟩ := hst.slice
        have HF1 := hid (HF.out.below hb1)
        have HBP := hid ((Below.refl w1.heap.size w1).alloc (Nat.le_refl _) (.cells #[.int .i64 (nAt q.data.toList 0), .int .i64 (nAt q.data.toList 1), .int .i64 (nAt q.data.toList 2), .slice pa na ca] 37))
        have HF2 := hid (HF1.out.below HBP.out)
        have HRR := hid (show verErr q.data.toList = 0 ∧ q.data.toList.length ≤ 80 ∧ StrsAt (w1.alloc (.cells #[.int .i64 (nAt q.data.toList 0), .int .i64 (nAt q.data.toList 1), .int .i64 (nAt q.data.toList 2), .slice pa na ca] 37)) (.slice pa na ca) (strs (preOf q.data.toList)) from ⟨HV.out, by rw [len_eq]; exact hq80, hst.below HBP.out⟩)
        have hwz := HF1.out.bl.size
        clear hst hb1 hcell
        go_wp2_with (at_builtin; refine wpList_append_own _ rfl _ _ 190 rfl w.heap.size 37 i1 (.agg #[.int .i64 0, .int .i64 0, .int .i64 0, .slice none 0 0]) 4 48 Tryz.underlying190 hi1 hy0 hy1 hy2 rfl (by decide) _ _ _ rfl (HF2.out.own.alloc _) ⟨w1.heap.size + 1, 0, none⟩ 1 1 (rcells (q.data.toList, .slice pa na ca)) rfl rfl ?c1 ?c2 ?c3 ?c4 ?c5 ?_)
        case c1 =>
          intro t u ht
          match t, ht with
          | 0, ht => simp [rcells] at ht; subst ht; simp [Addr.add]
          | 1, ht => simp [rcells] at ht; subst ht; simp [Addr.add]
          | 2, ht => simp [rcells] at ht; subst ht; simp [Addr.add]
          | 3, ht => simp [rcells] at ht; subst ht; simp [Addr.add]
          | t + 4, ht => simp [rcells] at ht
        case c2 => intro u hu; simp [rcells] at hu; rcases hu with rfl | rfl | rfl | rfl <;> rfl
        case c3 => unfold maxLen; omega
        case c4 => omega
        case c5 => simp; omega
        intro v' w3 hown' hgrow _
        have HF3 := hid (HF2.out.more (r := (q.data.toList, .slice pa na ca)) HRR.out hown' hgrow)
        have HG3 := hid (show (D ++ [((q.data.toList, .slice pa na ca) : Rc)]).map (·.1) = goods (L.take (k + 1)) by rw [HGS.out, List.map_append, HG.out]; rfl)
        clear hown' hgrow
        go_wp2_with fail
        go_roundw
        case rel => exact ⟨k + 1, D ++ [(q.data.toList, .slice pa na ca)], by omega, by simp; omega, by go_num, HG3, HF3⟩
        case measure => simp [intOf]; omega
      · have HSP := hid (vsplit_not q aT aB m wr (by omega) (HS.out.below HF.out.bl) hv)
        rw [if_neg hv] at HGS
        clear hv
        go_wp2_with fail
        refine HSP.out.mono ?_
        rintro e w1 ⟨a9, rfl, hb1⟩
        have HF1 := hid (HF.out.below hb1)
        have HF2 := hid (HF1.out.below ((Below.refl w1.heap.size w1).alloc (Nat.le_refl _) (.cells #[.int .i64 0, .int .i64 0, .int .i64 0, .slice none 0 0] 37)))
        clear hb1 hcell
        go_wp2_with fail
        go_roundw
        case rel => exact ⟨k + 1, D, by omega, by omega, by go_num, hid (HG.out.trans HGS.out.symm), HF2⟩
        case measure => simp [intOf]; omega
    · obtain rfl : k = L.length := by omega
      have HG2 := hid (show D.map (·.1) = goods L by rw [HG.out, List.take_length])
      by_cases hD : D = []
      · subst hD
        obtain rfl := HF.out.nl rfl
        go_wp2_with fail
        refine (HSN.out _).mono ?_
        rintro e w1 ⟨rfl, hb1⟩
        go_wp2_with fail
        refine (HCN.out _).mono ?_
        rintro e w2 ⟨rfl, hb2⟩
        have HB2 := hid (HF.out.bl.trans ((hb1.trans (hb2.mono hb1.size)).mono HF.out.bl.size))
        have HK0 := hid (kept_of (L := L) (D := []) (E := []) List.Pairwise.nil (fun t => Iff.rfl) (fun t => by rw [HG2.out]))
        clear hb1 hb2
        go_wp2_with fail
        go_loop [8, 35] (fun v i => v = .slice none 0 0 ∧ i = .int .i64 0) (fun _ _ => 0)
        case atStart => exact ⟨rfl, rfl⟩
        case round =>
          obtain ⟨rfl, rfl⟩ := hrel
          go_wp2_with fail
          go_ret
          exact ⟨_, rfl, [], World.ownsRow_nil _ _ _ _, HK0.out, HB2.out⟩
      · obtain ⟨g, cp, rfl, hRw⟩ := HF.out.rw hD
        obtain ⟨_, _, _, _, _, hcp1, hcp2, _, _⟩ := own_cells HF.out.own hD
        have HR0 := hid hRw
        clear hRw
        go_wp2_with fail
        refine (sort_rw w wr g cp D hD (by omega) HR0.out).mono ?_
        rintro e w1 ⟨rfl, D1, hp1, hs1, hR1⟩
        have hl1 : D1.length = D.length := hp1.length_eq
        have HD1 := hid (show ∀ t, t ∈ D1.map (·.1) ↔ t ∈ goods L from fun t => by rw [← HG2.out]; exact (hp1.map _).mem_iff)
        have HCC := hid (HCF.out w w1 g cp D1 (fun e => hD (by rw [e] at hl1; exact List.length_eq_zero_iff.1 hl1.symm)) (by omega) (by omega) (by omega) hs1 hR1)
        rw [hl1] at HCC
        clear hs1 hR1 hp1
        go_wp2_with fail
        refine HCC.out.mono ?_
        rintro e w2 ⟨E, rfl, hEl, hr, hm, hR2⟩
        have HR2 := hid hR2
        have HKE := hid (kept_of hr hm HD1.out)
        clear hr hm hR2
        have HSB := hid (fun W (h : Below w2.heap.size w2 W) => HS.out.below (HR2.out.bl.trans (h.mono HR2.out.bl.size)))
        have HTB2 := hid (fun W (h : Below w2.heap.size w2 W) => tab_below HTB.out (HR2.out.bl.trans (h.mono HR2.out.bl.size)))
        go_wp2_with fail
        go_loopw [8, 35] (fun v i wr' => ∃ k : Nat, k ≤ E.length ∧ i = .int .i64 k ∧ Hid (wr'.ownsRow w2.heap.size 9 1 v k (((E.take k).map fun r => ba r.1).map Value.string)) ∧ Hid (Below w2.heap.size w2 wr')) (fun _ i _ => E.length - (intOf i).toNat)
        case atStart => exact ⟨0, Nat.zero_le _, rfl, hid (World.ownsRow_nil _ _ _ _), hid (Below.refl _ _)⟩
        case round =>
          obtain ⟨k, hkE, rfl, HO, HB⟩ := hrel
          by_cases hkl : k < E.length
          · have HRK := hid (HR2.out.below HB.out)
            obtain ⟨y0, y1, y2, y3⟩ := HRK.out.at (j := k) (r := E[k]) (List.getElem?_eq_getElem hkl)
            have HRC := hid (HRK.out.rc E[k] (List.getElem_mem hkl))
            have HTK := hid (show ((E.take (k + 1)).map fun r => ba r.1).map Value.string = ((E.take k).map fun r => ba r.1).map Value.string ++ [.string (ba E[k].1)] by rw [List.take_succ_eq_append_getElem hkl, List.map_append, List.map_append]; rfl)
            obtain ⟨pa, na, ca, hpv⟩ := HRC.out.2.2.1.slice
            have HTX := hid (fun W (h : Below wr.heap.size wr W) => text_rc E[k] g aT aB m W (HSB.out W (HB.out.trans (h.mono HB.out.size))) (HTB2.out W (HB.out.trans (h.mono HB.out.size))) (HRC.out.below h))
            generalize E[k] = r at *
            rw [hpv] at y3 HTX
            generalize nAt r.1 0 = x0 at *
            generalize nAt r.1 1 = x1 at *
            generalize nAt r.1 2 = x2 at *
            generalize ba r.1 = tx at *
            have hk0 : (0 : Int) ≤ (k : Int) := by omega
            have hk1 : (k : Int) < (E.length : Int) := by omega
            have HBA := hid ((Below.refl wr.heap.size wr).alloc (Nat.le_refl _) (.cells #[.int .i64 x0, .int .i64 x1, .int .i64 x2, .slice pa na ca] 37))
            have hwz := HB.out.size
            have hE12 : E.length ≤ 1000 := by omega
            go_wp2_with fail
            refine (HTX.out _ HBA.out).mono ?_
            rintro e w3 ⟨rfl, hb3⟩
            have HB3 := hid (HBA.out.trans (hb3.mono HBA.out.size))
            have HO3 := hid (owns_below HO.out HB3.out)
            have HB4 := hid (HB.out.trans (HB3.out.mono HB.out.size))
            have hw3 := HB4.out.size
            clear hb3 y0 y1 y2 y3
            go_wp2_with (at_builtin; refine wpList_append_own _ rfl _ _ 29 rfl w2.heap.size 9 i0 (.string ByteArray.empty) 1 16 Tryz.underlying29 hi hz0 hz1 hz2 rfl (by decide) _ _ _ rfl (HO3.out.alloc _) ⟨w3.heap.size, 0, none⟩ 1 1 [.string tx] rfl rfl ?c1 ?c2 ?c3 ?c4 ?c5 ?_)
            case c1 =>
              intro t u ht
              match t, ht with
              | 0, ht => simp at ht; subst ht; simp [Addr.add]
            case c2 => intro u hu; simp at hu; subst hu; rfl
            case c3 => unfold maxLen; omega
            case c4 => omega
            case c5 => simp; omega
            intro v' w4 hown' hgrow _
            have HR := hid (rel_app hw3 HB4.out HO3.out (Below.refl _ _) hgrow)
            have HO4 := hid hown'
            clear hown' hgrow
            go_wp2_with fail
            go_roundw
            case rel => exact ⟨k + 1, by omega, by go_num, hid (by rw [HTK.out]; simpa using HO4.out), HR⟩
            case measure => simp [intOf]; omega
          · obtain rfl : k = E.length := by omega
            have HO2 := hid (show wr.ownsRow w.heap.size 9 1 u8 (E.map fun r => ba r.1).length ((E.map fun r => ba r.1).map Value.string) by
              have h := owns_mono HO.out (HR2.out.bl.size)
              rw [List.take_length] at h
              rw [List.length_map]; exact h)
            have HBF := hid (HR2.out.bl.trans (HB.out.mono HR2.out.bl.size))
            go_wp2_with fail
            go_ret
            exact ⟨u8, (E.map fun r => ba r.1), rfl, HO2.out, HKE.out, HBF.out⟩
end Ve
end Go.Proofs.YtnkgjddkdikikaaGreatDoor
namespace Go.Proofs.YtnkgjddkdikikaaGreatDoor
open Go.RowKit
namespace Ve
theorem ins_nil (W : World) : Calls Tryz.prog 277 #[.slice none 0 0, .int .i64 0, .int .i64 0, .func (.func 69) #[] #[]] W fun e w' => e = .returned (.tuple #[]) ∧ w' = W := by
  go_enter Tryz.func277, Tryz.ntmps277
  go_wp2_with fail
  go_loop [8] (fun i => i = .int .i64 1) (fun _ => 0)
  case atStart => rfl
  case round =>
    obtain rfl := hrel
    go_wp2_with fail
    go_end0
    exact ⟨rfl, rfl⟩
set_option maxRecDepth 100000 in
set_option maxHeartbeats 2000000 in
theorem pdq_nil (n : Int) (W : World) : Calls Tryz.prog 240 #[.slice none 0 0, .int .i64 0, .int .i64 0, .int .i64 n, .func (.func 69) #[] #[]] W fun e w' => e = .returned (.tuple #[]) ∧ w' = W := by
  have HI := hid (ins_nil W)
  go_enter Tryz.func240, Tryz.ntmps240
  go_wp2_with fail
  go_loop [1, 2, 3, 10, 11] (fun a b _ _ _ => a = .int .i64 0 ∧ b = .int .i64 0) (fun _ _ _ _ _ => 0)
  case atStart => exact ⟨rfl, rfl⟩
  case round =>
    obtain ⟨rfl, rfl⟩ := hrel
    go_wp2_with fail
    refine HI.out.mono ?_
    rintro e w' ⟨rfl, rfl⟩
    go_wp2_with fail
    first | (go_end0; exact ⟨rfl, rfl⟩) | (go_ret; exact ⟨rfl, rfl⟩) | (refine bodyPost_ret (v := .tuple #[]) (by simp [results, Tryz.results240]) rfl ⟨rfl, rfl⟩)
set_option maxHeartbeats 1000000 in
theorem sortf_nil (W : World) : Calls Tryz.prog 184 #[.slice none 0 0, .func (.func 69) #[] #[]] W fun e w' => e = .returned (.tuple #[]) ∧ Below W.heap.size W w' := by
  have HLN := hid (show Calls Tryz.prog 162 #[.int .u64 0] W fun e w' => e = .returned (.int .i64 (Lib.bitLen 0 : Nat)) ∧ w' = W from by
    have h := Any.bits_Len (SlLaysF0.n15.bits (P := Tryz.prog) (ρ := Tryz.sortParts_ren) { Tryz.sortParts with }) 0 W (by omega) (by omega)
    exact h)
  have HP := hid (fun n => pdq_nil n W)
  go_enter Tryz.func184, Tryz.ntmps184
  go_wp2_with fail
  refine HLN.out.mono ?_
  rintro e w' ⟨rfl, rfl⟩
  go_wp2_with fail
  refine (HP.out _).mono ?_
  rintro e w' ⟨rfl, rfl⟩
  go_wp2_with fail
  go_end0
  exact ⟨rfl, Below.refl _ _⟩
theorem compact_is : CompactIs := fun w0 W g cap D hD h12 hc hcm hs hR => compact_rw w0 W g cap D hD h12 hc hcm hs hR
theorem vsort_any (b0 o0 cap : Nat) (L : List ByteArray) (aT aB : Addr) (m : Int) (w : World) (S : Vs w aT aB m) (htab : Lib.TabIs Tryz.prog w powName .u64 Lib.pow10Tab) (hL : ∀ j (h : j < L.length), w.cell? ⟨b0, o0 + j, none⟩ = some (.string L[j])) (h12 : L.length ≤ 1000) (hz : ∀ x, x ∈ L → x.size ≤ 80) :
    Calls Tryz.prog 125 #[.slice (some ⟨b0, o0, none⟩) L.length cap] w fun e w' => ∃ v X, e = .returned v ∧ w'.ownsRow w.heap.size 9 1 v X.length (X.map Value.string) ∧ Kept L L.length X ∧ Below w.heap.size w w' :=
  vsort_some compact_is sortf_nil compact_nil b0 o0 cap L aT aB m w S htab hL h12 hz
theorem kept_none : Kept [] 0 [] := ⟨List.Pairwise.nil, fun t => by simp [bl]⟩
set_option maxHeartbeats 1000000 in
theorem vsort_none (W : World) : Calls Tryz.prog 125 #[.slice none 0 0] W fun e w' => e = .returned (.slice none 0 0) ∧ Below W.heap.size W w' := by
  have HSN := hid sortf_nil
  have HCN := hid compact_nil
  go_enter Tryz.func125, Tryz.ntmps125
  go_wp2_with fail
  go_loop [3, 13] (fun v i => v = .slice none 0 0 ∧ i = .int .i64 0) (fun _ _ => 0)
  case atStart => exact ⟨rfl, rfl⟩
  case round =>
    obtain ⟨rfl, rfl⟩ := hrel
    go_wp2_with fail
    refine (HSN.out _).mono ?_
    rintro e w1 ⟨rfl, hb1⟩
    go_wp2_with fail
    refine (HCN.out _).mono ?_
    rintro e w2 ⟨rfl, hb2⟩
    have HB2 := hid (hb1.trans (hb2.mono hb1.size))
    clear hb1 hb2
    go_wp2_with fail
    go_loop [8, 35] (fun v i => v = .slice none 0 0 ∧ i = .int .i64 0) (fun _ _ => 0)
    case atStart => exact ⟨rfl, rfl⟩
    case round =>
      obtain ⟨rfl, rfl⟩ := hrel
      go_wp2_with fail
      go_ret
      exact ⟨rfl, HB2.out⟩
end Ve
end Go.Proofs.YtnkgjddkdikikaaGreatDoor
namespace Go.Proofs.YtnkgjddkdikikaaGreatDoor
open Go.RowKit
namespace Ve
def pathL (L : List Raw) : List ByteArray := L.map fun r => r.1.1
theorem verL_len (L : List Raw) : (verL L).length = L.length := by simp [verL]
theorem pathL_len (L : List Raw) : (pathL L).length = L.length := by simp [pathL]
theorem verL_next {L : List Raw} {k : Nat} (hk : k < L.length) : verL (L.take (k + 1)) = verL (L.take k) ++ [L[k].1.2] := by
  unfold verL
  rw [List.take_succ_eq_append_getElem hk, List.map_append]; rfl
theorem pathL_next {L : List Raw} {k : Nat} (hk : k < L.length) : pathL (L.take (k + 1)) = pathL (L.take k) ++ [L[k].1.1] := by
  unfold pathL
  rw [List.take_succ_eq_append_getElem hk, List.map_append]; rfl
theorem own_nextT {W : World} {B : Nat} {e : TypeId} {v : Value} {X X' : List ByteArray} {x : ByteArray} (h : W.ownsRow B e 1 v (X.length + 1) (X.map Value.string ++ [.string x])) (hl : X' = X ++ [x]) : W.ownsRow B e 1 v X'.length (X'.map Value.string) := by
  subst hl
  rw [List.length_append, List.map_append]
  exact h
set_option maxHeartbeats 4000000 in
set_option maxRecDepth 100000 in
theorem versions_some (L : List Raw) (b o c : Nat) (w : World) (hL : L.length ≤ 1000) (hs : ∀ r, r ∈ L → slR r)
    (hc : ∀ j (h : j < L.length), w.cell? ⟨b, o + j * 5, none⟩ = some (.string L[j].1.1) ∧ w.cell? ⟨b, o + j * 5 + 1, none⟩ = some (.string L[j].1.2) ∧ w.cell? ⟨b, o + j * 5 + 2, none⟩ = some L[j].2.1 ∧ w.cell? ⟨b, o + j * 5 + 3, none⟩ = some L[j].2.2.1 ∧ w.cell? ⟨b, o + j * 5 + 4, none⟩ = some (.bool L[j].2.2.2))
    (Post : Value → World → Prop) (hk : ∀ u W, W.ownsRow w.heap.size 9 1 u (verL L).length ((verL L).map Value.string) → Below w.heap.size w W → Calls Tryz.prog 125 #[u] W fun e w' => ∃ x, e = .returned x ∧ Post x w') :
    Calls Tryz.prog 58 #[.slice (some ⟨b, o, none⟩) L.length c] w fun e w' => ∃ x, e = .returned x ∧ Post x w' := by
  obtain ⟨i0, hi, hz0, hz1, hz2⟩ := info_parts infoStr
  have HC := hid hc
  have HSL := hid hs
  have HK := hid hk
  clear hc hs hk
  go_enter Tryz.func58, Tryz.ntmps58
  go_wp2_with fail
  go_loopw [3, 8] (fun ov i wr => ∃ k : Nat, k ≤ L.length ∧ i = .int .i64 k ∧ Hid (wr.ownsRow w.heap.size 9 1 ov (verL (L.take k)).length ((verL (L.take k)).map Value.string)) ∧ Hid (Below w.heap.size w wr)) (fun _ i _ => L.length - (intOf i).toNat)
  case atStart => exact ⟨0, Nat.zero_le _, rfl, hid (World.ownsRow_nil _ _ _ _), hid (Below.refl _ _)⟩
  case round =>
    obtain ⟨k, hk, rfl, HO, HB⟩ := hrel
    by_cases hlt : k < L.length
    · obtain ⟨y0, y1, y2, y3, y4⟩ := HC.out k hlt
      have x0 := cell_below HB.out y0
      have x1 := cell_below HB.out y1
      have x2 := cell_below HB.out y2
      have x3 := cell_below HB.out y3
      have x4 := cell_below HB.out y4
      have hsl := HSL.out L[k] (List.getElem_mem hlt)
      have hkI : (k : Int) < (L.length : Int) := by omega
      have HLT := hid hlt
      have HY := hid (verL_next hlt)
      have hln : (verL (L.take k)).length = k := by rw [verL_len, List.length_take]; omega
      clear y0 y1 y2 y3 y4
      generalize L[k] = x at *
      obtain ⟨⟨p, q⟩, rv, pv, bk⟩ := x
      obtain ⟨⟨ra, rn, rc, hrv⟩, pa, pn, pc, hpv⟩ := hsl
      simp only at hrv hpv
      subst hrv
      subst hpv
      have HBa := hid (HB.out.alloc HB.out.size (.cells #[.string p, .string q, .slice ra rn rc, .slice pa pn pc, .bool bk] 42))
      have HOa := hid (HO.out.alloc (.cells #[.string p, .string q, .slice ra rn rc, .slice pa pn pc, .bool bk] 42))
      clear hlt
      have hzz := HB.out.size
      go_wp2_with (at_builtin; refine wpList_append_own _ rfl _ _ 29 rfl w.heap.size 9 i0 _ 1 16 Tryz.underlying29 hi hz0 hz1 hz2 rfl (by decide) _ _ _ rfl (HOa.out.alloc _) ⟨wr.heap.size + 1, 0, none⟩ 1 1 [.string q] rfl rfl ?c1 ?c2 ?c3 ?c4 ?c5 ?_)
      case c2 => rfl
      case c3 => unfold maxLen; omega
      case c4 => omega
      case c5 => omega
      intro v' w3 hown hgrow _
      have HR3 := hid (rel_app HBa.out.size HBa.out HOa.out (Below.refl _ _) hgrow)
      have HO3 := hid hown
      clear hown hgrow x0 x1 x2 x3 x4
      go_wp2_with fail
      go_roundw
      case rel => exact ⟨k + 1, by have := HLT.out; omega, by go_num, hid (own_nextT (X := verL (L.take k)) (by rw [hln]; exact HO3.out) HY.out), HR3⟩
      case measure => have := HLT.out; simp [intOf]; omega
    · have HTR := hid (show L.take k = L from List.take_of_length_le (by omega))
      rw [HTR.out] at HO
      have hkI : ¬ (k : Int) < (L.length : Int) := by omega
      have HKK := hid (HK.out _ _ HO.out HB.out)
      clear hlt
      go_wp2_with fail
      refine HKK.out.mono ?_
      rintro e w1 ⟨x, rfl, hp⟩
      have HP := hid hp
      clear hp
      go_wp2_with fail
      go_ret
      exact ⟨_, rfl, HP.out⟩
theorem versions_none (a : Option Addr) (c : Nat) (w : World)
    (Post : Value → World → Prop) (hk : Calls Tryz.prog 125 #[.slice none 0 0] w fun e w' => ∃ x, e = .returned x ∧ Post x w') :
    Calls Tryz.prog 58 #[.slice a 0 c] w fun e w' => ∃ x, e = .returned x ∧ Post x w' := by
  have HK := hid hk
  clear hk
  go_enter Tryz.func58, Tryz.ntmps58
  go_wp2_with fail
  go_loopw [3, 8] (fun ov i wr => ov = .slice none 0 0 ∧ i = .int .i64 0 ∧ wr = w) (fun _ i _ => 0)
  case atStart => exact ⟨rfl, rfl, rfl⟩
  case round =>
    obtain ⟨rfl, rfl, rfl⟩ := hrel
    go_wp2_with fail
    refine HK.out.mono ?_
    rintro e w1 ⟨x, rfl, hp⟩
    have HP := hid hp
    clear hp
    go_wp2_with fail
    go_ret
    exact ⟨_, rfl, HP.out⟩
set_option maxHeartbeats 4000000 in
set_option maxRecDepth 100000 in
theorem paths_some (L : List Raw) (b o c : Nat) (w : World) (hL : L.length ≤ 1000) (hs : ∀ r, r ∈ L → slR r)
    (hc : ∀ j (h : j < L.length), w.cell? ⟨b, o + j * 5, none⟩ = some (.string L[j].1.1) ∧ w.cell? ⟨b, o + j * 5 + 1, none⟩ = some (.string L[j].1.2) ∧ w.cell? ⟨b, o + j * 5 + 2, none⟩ = some L[j].2.1 ∧ w.cell? ⟨b, o + j * 5 + 3, none⟩ = some L[j].2.2.1 ∧ w.cell? ⟨b, o + j * 5 + 4, none⟩ = some (.bool L[j].2.2.2))
    (Post : Value → World → Prop) (hk : ∀ u W, W.ownsRow w.heap.size 9 1 u (pathL L).length ((pathL L).map Value.string) → Below w.heap.size w W → Calls Tryz.prog 57 #[u] W fun e w' => ∃ x, e = .returned x ∧ Post x w') :
    Calls Tryz.prog 16 #[.slice (some ⟨b, o, none⟩) L.length c] w fun e w' => ∃ x, e = .returned x ∧ Post x w' := by
  obtain ⟨i0, hi, hz0, hz1, hz2⟩ := info_parts infoStr
  have HC := hid hc
  have HSL := hid hs
  have HK := hid hk
  clear hc hs hk
  go_enter Tryz.func16, Tryz.ntmps16
  go_wp2_with fail
  go_loopw [3, 8] (fun ov i wr => ∃ k : Nat, k ≤ L.length ∧ i = .int .i64 k ∧ Hid (wr.ownsRow w.heap.size 9 1 ov (pathL (L.take k)).length ((pathL (L.take k)).map Value.string)) ∧ Hid (Below w.heap.size w wr)) (fun _ i _ => L.length - (intOf i).toNat)
  case atStart => exact ⟨0, Nat.zero_le _, rfl, hid (World.ownsRow_nil _ _ _ _), hid (Below.refl _ _)⟩
  case round =>
    obtain ⟨k, hk, rfl, HO, HB⟩ := hrel
    by_cases hlt : k < L.length
    · obtain ⟨y0, y1, y2, y3, y4⟩ := HC.out k hlt
      have x0 := cell_below HB.out y0
      have x1 := cell_below HB.out y1
      have x2 := cell_below HB.out y2
      have x3 := cell_below HB.out y3
      have x4 := cell_below HB.out y4
      have hsl := HSL.out L[k] (List.getElem_mem hlt)
      have hkI : (k : Int) < (L.length : Int) := by omega
      have HLT := hid hlt
      have HY := hid (pathL_next hlt)
      have hln : (pathL (L.take k)).length = k := by rw [pathL_len, List.length_take]; omega
      clear y0 y1 y2 y3 y4
      generalize L[k] = x at *
      obtain ⟨⟨p, q⟩, rv, pv, bk⟩ := x
      obtain ⟨⟨ra, rn, rc, hrv⟩, pa, pn, pc, hpv⟩ := hsl
      simp only at hrv hpv
      subst hrv
      subst hpv
      have HBa := hid (HB.out.alloc HB.out.size (.cells #[.string p, .string q, .slice ra rn rc, .slice pa pn pc, .bool bk] 42))
      have HOa := hid (HO.out.alloc (.cells #[.string p, .string q, .slice ra rn rc, .slice pa pn pc, .bool bk] 42))
      clear hlt
      have hzz := HB.out.size
      go_wp2_with (at_builtin; refine wpList_append_own _ rfl _ _ 29 rfl w.heap.size 9 i0 _ 1 16 Tryz.underlying29 hi hz0 hz1 hz2 rfl (by decide) _ _ _ rfl (HOa.out.alloc _) ⟨wr.heap.size + 1, 0, none⟩ 1 1 [.string p] rfl rfl ?c1 ?c2 ?c3 ?c4 ?c5 ?_)
      case c2 => rfl
      case c3 => unfold maxLen; omega
      case c4 => omega
      case c5 => omega
      intro v' w3 hown hgrow _
      have HR3 := hid (rel_app HBa.out.size HBa.out HOa.out (Below.refl _ _) hgrow)
      have HO3 := hid hown
      clear hown hgrow x0 x1 x2 x3 x4
      go_wp2_with fail
      go_roundw
      case rel => exact ⟨k + 1, by have := HLT.out; omega, by go_num, hid (own_nextT (X := pathL (L.take k)) (by rw [hln]; exact HO3.out) HY.out), HR3⟩
      case measure => have := HLT.out; simp [intOf]; omega
    · have HTR := hid (show L.take k = L from List.take_of_length_le (by omega))
      rw [HTR.out] at HO
      have hkI : ¬ (k : Int) < (L.length : Int) := by omega
      have HKK := hid (HK.out _ _ HO.out HB.out)
      clear hlt
      go_wp2_with fail
      refine HKK.out.mono ?_
      rintro e w1 ⟨x, rfl, hp⟩
      have HP := hid hp
      clear hp
      go_wp2_with fail
      go_ret
      exact ⟨_, rfl, HP.out⟩
theorem paths_none (a : Option Addr) (c : Nat) (w : World)
    (Post : Value → World → Prop) (hk : Calls Tryz.prog 57 #[.slice none 0 0] w fun e w' => ∃ x, e = .returned x ∧ Post x w') :
    Calls Tryz.prog 16 #[.slice a 0 c] w fun e w' => ∃ x, e = .returned x ∧ Post x w' := by
  have HK := hid hk
  clear hk
  go_enter Tryz.func16, Tryz.ntmps16
  go_wp2_with fail
  go_loopw [3, 8] (fun ov i wr => ov = .slice none 0 0 ∧ i = .int .i64 0 ∧ wr = w) (fun _ i _ => 0)
  case atStart => exact ⟨rfl, rfl, rfl⟩
  case round =>
    obtain ⟨rfl, rfl, rfl⟩ := hrel
    go_wp2_with fail
    refine HK.out.mono ?_
    rintro e w1 ⟨x, rfl, hp⟩
    have HP := hid hp
    clear hp
    go_wp2_with fail
    go_ret
    exact ⟨_, rfl, HP.out⟩
theorem versions_any (L : List Raw) (v : Value) (aT aB : Addr) (m : Int) (w : World) (hL : L.length ≤ 1000) (hz : ∀ r, r ∈ L → r.1.2.size ≤ 80) (S : Vs w aT aB m) (htab : Lib.TabIs Tryz.prog w powName .u64 Lib.pow10Tab) (hv : EsAt w v L) :
    Calls Tryz.prog 58 #[v] w fun e w' => ∃ u, e = .returned u ∧ ∃ X, w'.ownsRow w.heap.size 9 1 u X.length (X.map Value.string) ∧ Kept (verL L) (verL L).length X ∧ Below w.heap.size w w' := by
  obtain ⟨a, c, rfl, _, hs, h⟩ := hv
  cases L with
  | nil => exact versions_none a c w (fun u w' => ∃ X, w'.ownsRow w.heap.size 9 1 u X.length (X.map Value.string) ∧ Kept (verL []) (verL []).length X ∧ Below w.heap.size w w') ((vsort_none w).mono fun e w' ⟨h1, h2⟩ => ⟨_, h1, [], World.ownsRow_nil _ _ _ _, kept_none, h2⟩)
  | cons x r =>
    obtain ⟨b, o, rfl, h2⟩ := h (by simp)
    refine versions_some (x :: r) b o c w hL hs h2 (fun u w' => ∃ X, w'.ownsRow w.heap.size 9 1 u X.length (X.map Value.string) ∧ Kept (verL (x :: r)) (verL (x :: r)).length X ∧ Below w.heap.size w w') fun u W ho hb => ?_
    obtain ⟨a', c', rfl, _, h3⟩ := own_tx ho
    obtain ⟨b', o', rfl, h4⟩ := h3 (by simp [verL])
    refine (vsort_any b' o' c' (verL (x :: r)) aT aB m W (S.below hb) (tab_below htab hb) h4 (by rw [verL_len]; exact hL) (fun y hy => ?_)).mono ?_
    · obtain ⟨r', hr', rfl⟩ := List.mem_map.1 hy
      exact hz r' hr'
    · rintro e w' ⟨u, X, rfl, h5, h6, h7⟩
      exact ⟨u, rfl, X, own_baseN h5 hb.size, h6, hb.trans (h7.mono hb.size)⟩
theorem paths_any (L : List Raw) (v : Value) (w : World) (hL : L.length ≤ 1000) (hv : EsAt w v L) :
    Calls Tryz.prog 16 #[v] w fun e w' => ∃ u, e = .returned u ∧ w'.ownsRow w.heap.size 9 1 u (tx (risB (bl (pathL L)))).length ((tx (risB (bl (pathL L)))).map Value.string) ∧ Below w.heap.size w w' := by
  obtain ⟨a, c, rfl, _, hs, h⟩ := hv
  cases L with
  | nil =>
    refine paths_none a c w _ ((rising_any [] (by simp) (.slice none 0 0) w ⟨none, 0, rfl, Nat.le_refl _, fun h => absurd rfl h⟩).mono fun e w' ⟨u, h1, h2, h3⟩ => ⟨u, h1, h2, h3⟩)
  | cons x r =>
    obtain ⟨b, o, rfl, h2⟩ := h (by simp)
    refine paths_some (x :: r) b o c w hL hs h2 _ fun u W ho hb => ?_
    refine (rising_any (pathL (x :: r)) (by rw [pathL_len]; omega) u W (own_tx ho)).mono ?_
    rintro e w' ⟨u', rfl, h5, h7⟩
    exact ⟨u', rfl, own_baseN h5 hb.size, hb.trans (h7.mono hb.size)⟩
end Ve
end Go.Proofs.YtnkgjddkdikikaaGreatDoor
namespace Go.Proofs.YtnkgjddkdikikaaGreatDoor
open Go.RowKit Go.Maps
namespace Ve
def keyR (r : Raw) : Bm × Bool := (r.1, r.2.2.2)
theorem key_filter (P : Bm × Bool → Bool) (p : Raw → Bool) (h : ∀ r, p r = P (keyR r)) (Q : List Raw) : (Q.filter p).map keyR = (Q.map keyR).filter P := by
  rw [List.filter_map]
  congr 1
  apply List.filter_congr
  intro r _
  exact h r
theorem key_ver (R : List Raw) : verL R = (R.map keyR).map fun k => k.1.2 := by
  unfold verL
  rw [List.map_map]; rfl
theorem key_mod {Q Q' : List Raw} (h : Q.map keyR = Q'.map keyR) : Q.map (fun r => r.1) = Q'.map (fun r => r.1) := by
  have := congrArg (List.map Prod.fst) h
  rw [List.map_map, List.map_map] at this
  exact this
end Ve
end Go.Proofs.YtnkgjddkdikikaaGreatDoor
namespace Go.Proofs.YtnkgjddkdikikaaGreatDoor
open Go.RowKit Go.Maps
namespace Ve
theorem put2_below {W w : World} {B b : Nat} {x y : Value} (h : Below B w W) (hb : B ≤ b) : Below B w ((W.setCell ⟨b, 0, none⟩ x).setCell ⟨b, 1, none⟩ y) :=
  (h.setCell (p := ⟨b, 0, none⟩) hb _).setCell (p := ⟨b, 1, none⟩) hb _
end Ve
end Go.Proofs.YtnkgjddkdikikaaGreatDoor
namespace Go.Proofs.YtnkgjddkdikikaaGreatDoor
open Go.RowKit Go.Maps
namespace Ve
theorem isM_same {Q Q' : List Raw} (h : Q.map (fun r => r.1) = Q'.map (fun r => r.1)) (m : Bm) : idxOf (isM m) Q = idxOf (isM m) Q' := by
  have hl : Q.length = Q'.length := by have := congrArg List.length h; simpa using this
  have hf : idxE (isM m) Q = idxE (isM m) Q' := funext fun i => by
    have hi := congrArg (fun X : List Bm => X[i]?) h
    simp only [List.getElem?_map] at hi
    unfold idxE
    cases h1 : Q[i]? with
    | none =>
      rw [h1] at hi
      cases h2 : Q'[i]? with
      | none => rfl
      | some r => rw [h2] at hi; simp at hi
    | some r =>
      rw [h1] at hi
      cases h2 : Q'[i]? with
      | none => rw [h2] at hi; simp at hi
      | some r' =>
        rw [h2] at hi
        have : r.1 = r'.1 := by simpa using hi
        show (if isM m r then 1 else 0) = if isM m r' then 1 else 0
        rw [show isM m r = isM m r' by unfold isM; rw [this]]
  unfold idxOf
  rw [hf, hl]
theorem nonE_same {Q Q' : List Raw} (h : Q.map (fun r => r.1) = Q'.map (fun r => r.1)) (R : List Bm) : nonE Q R = nonE Q' R := funext fun i => by
  unfold nonE nonW
  split
  · rfl
  · rw [isM_same h]
theorem chk_same {Q Q' : List Raw} {L : List Ent} (h : Q.map (fun r => r.1) = Q'.map (fun r => r.1)) : chk Q L = chk Q' L := by
  have hr : reqE2 Q L = reqE2 Q' L := funext fun i => by
    unfold reqE2
    split
    · rfl
    · rw [nonE_same h]
  unfold chk
  rw [hr]
end Ve
end Go.Proofs.YtnkgjddkdikikaaGreatDoor
