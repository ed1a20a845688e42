
import Derived.Test.YtemhofbhmnnijaaGreatDoorPj19
import Derived.Test.YtemhofbhmnnijaaGreatDoorPj13
import Derived.Test.YtemhofbhmnnijaaGreatDoorPj45
import Derived.Test.YtemhofbhmnnijaaGreatDoorPj12
import Derived.Deep.RegionHeld
namespace Go.Proofs.YtemhofbhmnnijaaGreatDoor
open Go.RowKit Go.Maps
namespace Ve
structure Pr (w W : World) (p s : List UInt8) (i g : Nat) : Prop where
  bl : Below w.heap.size w W
  ge : w.heap.size ≤ g
  row : ∃ T R, tok p = T ++ tok (p.drop i) ∧ R.length = s.length + 1 ∧ RowIs R (rowsT s T row0) ∧ W.heap[g]? = some (.cells (bwc R) 4 (0, 0))
theorem row_start (n : Nat) : RowIs ((List.replicate (n + 1) false).set 0 true) row0 := fun k hk => by
  rw [List.getElem_set]
  unfold row0
  by_cases h : k = 0
  · subst h; rfl
  · rw [if_neg (fun e => h e.symm), decide_eq_false h, List.getElem_replicate]
theorem pr_start (w : World) (p s : List UInt8) : Pr w (w.alloc (.cells (bwc ((List.replicate (s.length + 1) false).set 0 true)) 4)) p s 0 w.heap.size :=
  ⟨(Below.refl _ _).alloc (Nat.le_refl _) _, Nat.le_refl _, [], _, rfl, by simp, row_start _, heap_new w _⟩
theorem beg_dots (p : ByteArray) (i : Nat) : begB (p.extract i p.size) ⟨#[46, 46, 46]⟩ = dots.isPrefixOf (p.data.toList.drop i) := by
  unfold begB
  rw [extract_list, List.take_of_length_le (by rw [List.length_drop, len_eq]; exact Nat.le_refl _)]; rfl
theorem dots_room {l : List UInt8} {i : Nat} (h : dots.isPrefixOf (l.drop i) = true) : i + 3 ≤ l.length := by
  have := (List.isPrefixOf_iff_prefix.1 h).length_le
  rw [List.length_drop] at this
  unfold dots at this
  simp at this
  omega
set_option maxRecDepth 100000 in
set_option maxHeartbeats 8000000 in
theorem rmat_any (p s : ByteArray) (w : World) (hp : p.size ≤ 1000) (hs : s.size ≤ 1000) :
    Calls Tryz.prog 20 #[.string p, .string s] w fun e w' => e = .returned (.bool (matB p s)) ∧ Below w.heap.size w w' := by
  have hls : s.data.toList.length = s.size := len_eq s
  have hlp : p.data.toList.length = p.size := len_eq p
  have HLS := hid hls
  have HLP := hid hlp
  have HMK := hid (fun W => show (Instr.makeSlice 48 (.int .i64 ((s.size : Int) + 1)) (.int .i64 ((s.size : Int) + 1))).run Tryz.prog W = .ok (.slice (some ⟨W.heap.size, 0, none⟩) (s.size + 1) (s.size + 1)) (W.alloc (.cells (bwc (List.replicate (s.size + 1) false)) 4)) from make_bools (s.size + 1) W (by omega))
  have HBG := hid (fun x W => rbeg_any x ⟨#[46, 46, 46]⟩ W)
  have HST := hid (pr_start w p.data.toList s.data.toList)
  rw [hls] at HST
  have hw1 : wrap64 ((s.size : Int) + 1) = (s.size : Int) + 1 := IntWalk.wrap64_in _ (by omega)
  have hw2 : IntKind.i64.wrap ((s.size : Int) + 1) = (s.size : Int) + 1 := by rw [IntKind.wrap_i64] <;> omega
  have hmk := HMK.out w
  have c0 : (w.alloc (.cells (bwc (List.replicate (s.size + 1) false)) 4)).cell? ⟨w.heap.size, 0, none⟩ = some (.bool false) := bwc_at (heap_new w _) (a := 0) (by simp)
  have HRE := hid (show ∀ T, tok p.data.toList = T ++ tok (p.data.toList.drop p.size) → T = tok p.data.toList from fun T h => by
    rw [List.drop_eq_nil_of_le (Nat.le_of_eq HLP.out), tok_nil, List.append_nil] at h; exact h.symm)
  clear hls hlp
  go_enter Tryz.func20, Tryz.ntmps20
  go_wp2_with fail
  clear hmk c0
  go_loopw [5, 6] (fun rv iv wr => ∃ i g : Nat, i ≤ p.size ∧ iv = .int .i64 i ∧ rv = .slice (some ⟨g, 0, none⟩) (s.size + 1) (s.size + 1) ∧ Hid (Pr w wr p.data.toList s.data.toList i g)) (fun _ iv _ => p.size - (intOf iv).toNat)
  case atStart => exact ⟨0, w.heap.size, Nat.zero_le _, rfl, rfl, hid (by rw [bwc_put]; exact HST.out)⟩
  case round =>
    obtain ⟨i, g, hi, rfl, rfl, HPR⟩ := hrel
    obtain ⟨wo, hwo⟩ : ∃ wo, wo = wr := ⟨_, rfl⟩
    subst hwo
    obtain ⟨hbl, hge, T, R, hT, hRl, hRr, hhp⟩ := HPR.out
    rw [HLS.out] at hRl
    have HRL := hid hRl
    have HBL := hid hbl
    have HGE := hid hge
    have HTT := hid hT
    have HRR := hid hRr
    have HHP := hid hhp
    have hgz := lt_of_blk hhp
    clear hbl hge hT hRl hRr hhp HPR HST
    by_cases hlt : i < p.size
    · have hiI := ix_lt hlt
      have hi0 := ix_pos i
      have HLT := hid hlt
      have hmk := HMK.out wo
      have HB2 := hid ((Below.refl wo.heap.size wo).alloc (Nat.le_refl _) (.cells (bwc (List.replicate (s.size + 1) false)) 4))
      have HN2 := hid (heap_new wo (.cells (bwc (List.replicate (s.size + 1) false)) 4))
      have HG2 := hid (show (wo.alloc (.cells (bwc (List.replicate (s.size + 1) false)) 4)).heap[g]? = some (.cells (bwc R) 4 (0, 0)) by rw [HB2.out.block _ hgz]; exact HHP.out)
      have HBI := hid (HBG.out (p.extract i p.size))
      rw [beg_dots] at HBI
      cases hd : dots.isPrefixOf (p.data.toList.drop i)
      · rw [hd] at HBI
        have hip : i < p.data.toList.length := by rw [HLP.out]; exact hlt
        have HTN := hid (tok_read_one hip HTT.out hd)
        clear hd hlt
        go_wp2_with fail
        refine (HBI.out _).mono ?_
        rintro e w2 ⟨rfl, rfl⟩
        generalize wo.alloc (.cells (bwc (List.replicate (s.size + 1) false)) 4) = w3 at *
        clear hmk
        go_wp2_with fail
        go_loopw [10] (fun kv wr => ∃ k : Nat, k ≤ s.size ∧ kv = .int .i64 k ∧ Hid (wr.heap[g]? = some (.cells (bwc R) 4 (0, 0))) ∧ Hid (wr.heap[wo.heap.size]? = some (.cells (bwc (nxO R s.data.toList (p.data.toList[i]'hip) k)) 4 (0, 0))) ∧ Hid (Below wo.heap.size wo wr)) (fun kv _ => s.size - (intOf kv).toNat)
        case atStart => exact ⟨0, Nat.zero_le _, rfl, HG2, hid (by rw [nxO_zero, HRL.out]; exact HN2.out), HB2⟩
        case round =>
          obtain ⟨k, hk, rfl, HG, HN, HB⟩ := hrel
          by_cases hkl : k < s.size
          · have hkI := ix_lt hkl
            have hk0 := ix_pos k
            have hkI1 : (k : Int) < (s.size : Int) + 1 := by omega
            have hkI2 : (k : Int) + 1 < (s.size : Int) + 1 := by omega
            have hk1 := ix_pos1 k
            have hkw := ix_w1 hkl (by omega : s.size ≤ 1000000)
            have hkk := ix_k1 hkl (by omega : s.size ≤ 1000000)
            have hkt := ix_nat1 k
            have HKL := hid hkl
            have hRk : k < R.length := by rw [HRL.out]; omega
            have y0 : wr.cell? ⟨g, k, none⟩ = some (.bool R[k]) := bwc_at HG.out hRk
            have hNl : k + 1 < (nxO R s.data.toList (p.data.toList[i]'hip) k).length := by rw [nxO_len, HRL.out]; omega
            have HY1 := hid (fun (W : World) (hh : W.heap = wr.heap) => show W.cell? ⟨wo.heap.size, k + 1, none⟩ = some (.bool ((nxO R s.data.toList (p.data.toList[i]'hip) k)[k + 1]'hNl)) ∧ W.frozen? ⟨wo.heap.size, k + 1, none⟩ = false from ⟨bwc_at (by rw [hh]; exact HN.out) hNl, Lib.frozen_of_heap (by rw [hh]; exact HN.out) _⟩)
            have HGN := hid (show g ≠ wo.heap.size by omega)
            have hsk : s.data.toList[k]? = some s[k] := by rw [List.getElem?_eq_getElem (by rw [HLS.out]; exact hkl)]; rfl
            have hpi : p.data.toList[i]'hip = p[i] := rfl
            cases hb : R[k]
            · have HNX := hid (nxO_no (R := R) (s := s.data.toList) (c := p.data.toList[i]'hip) (k := k) (by rw [HRL.out]; omega) (fun h => by rw [hb] at h; cases h.1))
              rw [hb] at y0
              clear hb hkl HY1 hsk
              go_wp2_with fail
              go_quiet (fail)
              go_wp2_with fail
              go_roundw
              case rel => exact ⟨k + 1, HKL.out, by first | exact nr_idx k | exact nx_idx HKL.out (by omega : s.size ≤ 1000000), hid HG.out, hid (by rw [← HNX.out]; exact HN.out), hid (HB.out.trans ((below_drawn _ _).mono HB.out.size))⟩
              case measure => first | exact nr_meas HKL.out | exact nx_meas HKL.out (by omega : s.size ≤ 1000000)
            · rw [hb] at y0
              by_cases he : s[k] = p[i]
              · have HNX := hid (nxO_yes (R := R) (s := s.data.toList) (c := p.data.toList[i]'hip) (k := k) (by rw [HRL.out]; omega) hb (by rw [hsk, he, hpi]))
                have hq : ((s[k].toNat : Int) == (p[i].toNat : Int)) = true := by rw [he]; exact beq_self_eq_true _
                clear hb hkl hsk he
                go_wp2_with fail
                go_quiet (fail)
                obtain ⟨y1, y2⟩ := HY1.out (wr.drewN nq) rfl
                go_wp2_with fail
                go_roundw
                case rel =>
                  refine ⟨k + 1, HKL.out, by first | exact nr_idx k | exact nx_idx HKL.out (by omega : s.size ≤ 1000000), hid ?_, hid ?_, hid ?_⟩
                  · rw [Below.heap_setCell _ _ _ _ (by show g ≠ wo.heap.size; exact HGN.out)]; exact HG.out
                  · rw [set_block (show (wr.drewN nq).heap[wo.heap.size]? = _ from HN.out), bwc_put, HNX.out]
                  · exact (HB.out.trans ((below_drawn _ _).mono HB.out.size)).setCell (Nat.le_refl _) _
                case measure => first | exact nr_meas HKL.out | exact nx_meas HKL.out (by omega : s.size ≤ 1000000)
              · have HNX := hid (nxO_no (R := R) (s := s.data.toList) (c := p.data.toList[i]'hip) (k := k) (by rw [HRL.out]; omega) (fun h => he (by have := h.2; rw [hsk] at this; exact (Option.some.inj this).trans hpi)))
                have hq : ((s[k].toNat : Int) == (p[i].toNat : Int)) = false := by
                  rw [beq_eq_false_iff_ne]; intro e; exact he (UInt8.toNat_inj.1 (by omega))
                clear hb hkl HY1 hsk he
                go_wp2_with fail
                go_quiet (fail)
                go_wp2_with fail
                go_roundw
                case rel => exact ⟨k + 1, HKL.out, by first | exact nr_idx k | exact nx_idx HKL.out (by omega : s.size ≤ 1000000), hid HG.out, hid (by rw [← HNX.out]; exact HN.out), hid (HB.out.trans ((below_drawn _ _).mono HB.out.size))⟩
                case measure => first | exact nr_meas HKL.out | exact nx_meas HKL.out (by omega : s.size ≤ 1000000)
          · have hkI := ix_nlt hkl
            have hke : k = s.size := by omega
            subst hke
            clear hkl
            go_wp2_with fail
            refine ⟨⟨i + 1, wo.heap.size, HLT.out, by first | exact nr_idx i | exact nx_idx HLT.out (by omega : p.size ≤ 1000000), rfl, hid ⟨HBL.out.trans (HB.out.mono HBL.out.size), HBL.out.size, _, _, HTN.out, by rw [nxO_len, HRL.out, HLS.out], ?_, HN.out⟩⟩, by first | exact nr_meas HLT.out | exact nx_meas HLT.out (by omega : p.size ≤ 1000000)⟩
            rw [rows_snoc]
            have hr := rowIs_one (s := s.data.toList) (c := p.data.toList[i]'hip) (by rw [HRL.out, HLS.out]) HRR.out
            rw [HLS.out] at hr
            exact hr
      · rw [hd] at HBI
        have HTN := hid (tok_read_any HTT.out hd)
        have HRM := hid (dots_room hd)
        clear hd hlt
        go_wp2_with fail
        refine (HBI.out _).mono ?_
        rintro e w2 ⟨rfl, rfl⟩
        generalize wo.alloc (.cells (bwc (List.replicate (s.size + 1) false)) 4) = w3 at *
        clear hmk
        have hi3w : wrap64 ((i : Int) + 3) = (i : Int) + 3 := IntWalk.wrap64_in _ (by omega)
        have hi3k : IntKind.i64.wrap ((i : Int) + 3) = (i : Int) + 3 := by rw [IntKind.wrap_i64] <;> omega
        go_wp2_with fail
        go_loopw [8, 9] (fun ov kv wr => ∃ k : Nat, k ≤ s.size + 1 ∧ kv = .int .i64 k ∧ ov = .bool ((R.take k).any id) ∧ Hid (wr.heap[g]? = some (.cells (bwc R) 4 (0, 0))) ∧ Hid (wr.heap[wo.heap.size]? = some (.cells (bwc (nxA R k)) 4 (0, 0))) ∧ Hid (Below wo.heap.size wo wr)) (fun _ kv _ => s.size + 1 - (intOf kv).toNat)
        case atStart => exact ⟨0, Nat.zero_le _, rfl, rfl, HG2, hid (by rw [nxA_zero, HRL.out]; exact HN2.out), HB2⟩
        case round =>
          obtain ⟨k, hk, rfl, rfl, HG, HN, HB⟩ := hrel
          by_cases hkl : k < s.size + 1
          · have hkI : (k : Int) ≤ (s.size : Int) := by omega
            have hk0 := ix_pos k
            have hkI1 : (k : Int) < (s.size : Int) + 1 := by omega
            have hkw := ix_w1 hkl (by omega : s.size + 1 ≤ 1000000)
            have hkk := ix_k1 hkl (by omega : s.size + 1 ≤ 1000000)
            have HKL := hid hkl
            have hRk : k < R.length := by rw [HRL.out]; omega
            have hNl : k < (nxA R k).length := by rw [nxA_len, HRL.out]; omega
            have y0 : wr.cell? ⟨g, k, none⟩ = some (.bool R[k]) := bwc_at HG.out hRk
            have y1 : wr.cell? ⟨wo.heap.size, k, none⟩ = some (.bool ((nxA R k)[k]'hNl)) := bwc_at HN.out hNl
            have y2 : wr.frozen? ⟨wo.heap.size, k, none⟩ = false := Lib.frozen_of_heap HN.out _
            have HGN := hid (show g ≠ wo.heap.size by omega)
            have HAT := hid (any_take hRk)
            have HNX := hid (nxA_next (R := R) (k := k))
            generalize (nxA R k)[k]'hNl = nb at *
            generalize R[k] = rk at *
            obtain ⟨an, han⟩ : ∃ an, (R.take (k + 1)).any id = an := ⟨_, rfl⟩
            have HAN := hid han
            rw [han] at HAT HNX
            clear han
            cases ha : (R.take k).any id
            · rw [ha, Bool.false_or] at HAT
              have ha2 := HAT.out
              subst ha2
              clear ha hkl
              go_wp2_with fail
              go_roundw
              case rel =>
                refine ⟨k + 1, HKL.out, by first | exact nr_idx k | exact nx_idx HKL.out (by omega : s.size + 1 ≤ 1000000), ?_, hid ?_, hid ?_, hid ?_⟩
                · rw [HAN.out]
                · rw [Below.heap_setCell _ _ _ _ (by show g ≠ wo.heap.size; exact HGN.out)]; exact HG.out
                · rw [set_block HN.out, bwc_put, HNX.out]
                · exact HB.out.setCell (Nat.le_refl _) _
              case measure => first | exact nr_meas HKL.out | exact nx_meas HKL.out (by omega : s.size + 1 ≤ 1000000)
            · rw [ha, Bool.true_or] at HAT
              have ha2 := HAT.out
              subst ha2
              clear ha hkl
              go_wp2_with fail
              go_roundw
              case rel =>
                refine ⟨k + 1, HKL.out, by first | exact nr_idx k | exact nx_idx HKL.out (by omega : s.size + 1 ≤ 1000000), ?_, hid ?_, hid ?_, hid ?_⟩
                · rw [HAN.out]
                · rw [Below.heap_setCell _ _ _ _ (by show g ≠ wo.heap.size; exact HGN.out)]; exact HG.out
                · rw [set_block HN.out, bwc_put, HNX.out]
                · exact HB.out.setCell (Nat.le_refl _) _
              case measure => first | exact nr_meas HKL.out | exact nx_meas HKL.out (by omega : s.size + 1 ≤ 1000000)
          · have hkI : ¬ (k : Int) ≤ (s.size : Int) := by omega
            have hke : k = s.size + 1 := by omega
            subst hke
            clear hkl
            go_wp2_with fail
            refine ⟨⟨i + 3, wo.heap.size, by have := HRM.out; rw [HLP.out] at this; exact this, rfl, rfl, hid ⟨HBL.out.trans (HB.out.mono HBL.out.size), HBL.out.size, _, _, HTN.out, by rw [nxA_len, HRL.out, HLS.out], ?_, HN.out⟩⟩, ?_⟩
            · rw [rows_snoc]
              have hr := rowIs_any (s := s.data.toList) HRR.out
              rw [HRL.out] at hr
              exact hr
            · have := HLT.out
              show p.size - ((i : Int) + 3).toNat < p.size - ((i : Int)).toNat
              omega
    · have hiI := ix_nlt hlt
      have hie : i = p.size := by omega
      subst hie
      have hTT := HRE.out T HTT.out
      subst hTT
      have hcl : wo.cell? ⟨g, s.size, none⟩ = some (.bool (R[s.size]'(by rw [HRL.out]; omega))) := bwc_at HHP.out _
      have HRV := hid (show (R[s.size]'(by rw [HRL.out]; omega)) = matB p s by
        rw [HRR.out s.size _]
        unfold matB
        rw [← rows_end, HLS.out])
      generalize (R[s.size]'(by rw [HRL.out]; omega)) = rb at *
      have hs1 : (s.size : Int) < (s.size : Int) + 1 := by omega
      have hs0 := ix_pos s.size
      clear hlt
      go_wp2_with fail
      go_ret
      exact ⟨by rw [← HRV.out]; rfl, HBL.out⟩
end Ve
end Go.Proofs.YtemhofbhmnnijaaGreatDoor
