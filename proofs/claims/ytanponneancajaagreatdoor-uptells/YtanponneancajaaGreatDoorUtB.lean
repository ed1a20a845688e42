/-
  What the document's answer says is the latest of a path (VersOf, rank, LikedOf, LatestOf), in an index that is right: what index.Latest answers.
-/
import Derived.Test.YtanponneancajaaGreatDoorLkA
import Derived.Test.YtanponneancajaaGreatDoorFoA
import Derived.Test.YtanponneancajaaGreatDoorIxN
namespace Go.Proofs.YtanponneancajaaGreatDoor
open Go.RowKit Go.Maps
namespace Ve

theorem es_modK {W : World} {b o n c : Nat} {Q : List Raw} (h : EsAt W (.slice (some ⟨b, o, none⟩) n c) Q) {k : Nat} (hk : k < Q.length) : W.cell? ⟨b, o + k * 5, none⟩ = some (.string Q[k].1.1) ∧ W.cell? ⟨b, o + k * 5 + 1, none⟩ = some (.string Q[k].1.2) := by
  obtain ⟨a', c', e, _, _, h⟩ := h
  injection e with e1 e2 e3
  subst e1
  obtain ⟨b', o', e4, h4⟩ := h (by intro h0; rw [h0] at hk; simp at hk)
  injection e4 with e4
  injection e4 with e5 e6
  subst e5 e6
  exact ⟨(h4 k hk).1, (h4 k hk).2.1⟩
theorem es_backK {W : World} {b o n c : Nat} {Q : List Raw} (h : EsAt W (.slice (some ⟨b, o, none⟩) n c) Q) {k : Nat} (hk : k < Q.length) : W.cell? ⟨b, o + k * 5 + 4, none⟩ = some (.bool Q[k].2.2.2) := by
  obtain ⟨a', c', e, _, _, h⟩ := h
  injection e with e1 e2 e3
  subst e1
  obtain ⟨b', o', e4, h4⟩ := h (by intro h0; rw [h0] at hk; simp at hk)
  injection e4 with e4
  injection e4 with e5 e6
  subst e5 e6
  exact (h4 k hk).2.2.2.2
theorem sortVers_nil (a : Option Addr) (c : Nat) (w : World) : Calls Tryz.prog 178 #[.slice a 0 c] w fun e w' => e = .returned (.slice none 0 0) ∧ Below w.heap.size w w' := by
  go_enter Tryz.func178, Tryz.ntmps178
  go_wp2_with fail
  go_loopw [3, 4] (fun v i wr => v = .slice none 0 0 ∧ i = .int .i64 0 ∧ wr = w) (fun _ i _ => 0)
  case atStart => exact ⟨rfl, rfl, rfl⟩
  case round =>
    obtain ⟨rfl, rfl, rfl⟩ := hrel
    go_wp2_with fail
    go_ret
    exact ⟨rfl, Below.refl _ _⟩
/-- Those of a path. -/
def pthR (t : ByteArray) (Q : List Raw) : List Raw := Q.filter fun r => decide (r.1.1 = t)
theorem pthR_yes {t : ByteArray} {Q : List Raw} {k : Nat} (h : k < Q.length) (he : Q[k].1.1 = t) : verL (pthR t (Q.take (k + 1))) = verL (pthR t (Q.take k)) ++ [Q[k].1.2] := by
  unfold pthR verL
  rw [List.take_succ_eq_append_getElem h, List.filter_append, List.map_append]
  simp [he]
theorem pthR_no {t : ByteArray} {Q : List Raw} {k : Nat} (h : k < Q.length) (he : ¬ Q[k].1.1 = t) : verL (pthR t (Q.take (k + 1))) = verL (pthR t (Q.take k)) := by
  unfold pthR verL
  rw [List.take_succ_eq_append_getElem h, List.filter_append, List.map_append]
  simp [he]
theorem pthR_len (t : ByteArray) (Q : List Raw) : (verL (pthR t Q)).length ≤ Q.length := by
  unfold pthR verL
  rw [List.length_map]
  exact List.length_filter_le _ _
theorem pthR_sz {t : ByteArray} {Q : List Raw} (hz : ∀ r, r ∈ Q → r.1.1.size ≤ 80 ∧ r.1.2.size ≤ 80) : ∀ x, x ∈ verL (pthR t Q) → x.size ≤ 80 := fun x hx => by
  obtain ⟨r, hr, rfl⟩ := List.mem_map.1 hx
  exact (hz r (List.mem_filter.1 hr).1).2
set_option maxRecDepth 100000 in
set_option maxHeartbeats 4000000 in
theorem versOf_any (Q : List Raw) (t : ByteArray) (v : Value) (w : World) (hL : Q.length ≤ 1000) (hz : ∀ r, r ∈ Q → r.1.1.size ≤ 80 ∧ r.1.2.size ≤ 80) (hv : EsAt w v Q) :
    Calls Tryz.prog 129 #[v, .string t] w fun e w' => ∃ u X, e = .returned u ∧ TxAt w' u X ∧ Kept (verL (pthR t Q)) (verL (pthR t Q)).length X ∧ Below w.heap.size w w' := by
  have HV := hid (fun W (h : Below w.heap.size w W) => hv.below h)
  have HQM := hid (show Q.length ≤ 1000000 by omega)
  have HQL := hid hL
  have HSO := hid (fun (L : List ByteArray) b o c W (hc : ∀ j (h : j < L.length), W.cell? ⟨b, o + j, none⟩ = some (.string L[j])) (h12 : L.length ≤ 1000) (hz : ∀ x, x ∈ L → x.size ≤ 80) => sortVers_some b o c L W hc h12 hz)
  have HSN := hid sortVers_nil
  have HZZ := hid (pthR_sz (t := t) hz)
  have HZL := hid (show (verL (pthR t Q)).length ≤ 1000 from Nat.le_trans (pthR_len t Q) hL)
  obtain ⟨i0, hi0, hz0, hz1, hz2⟩ := info_parts infoStr
  obtain ⟨va, vc, hv1, -⟩ := id hv
  subst hv1
  clear hv hz hL
  go_enter Tryz.func129, Tryz.ntmps129
  go_wp2_with fail
  go_loopw [5, 6] (fun ov iv wr => ∃ i : Nat, i ≤ Q.length ∧ iv = .int .i64 i ∧ Hid (wr.ownsRow w.heap.size 9 1 ov (verL (pthR t (Q.take i))).length ((verL (pthR t (Q.take i))).map Value.string)) ∧ Hid (Below w.heap.size w wr)) (fun _ iv _ => Q.length - (intOf iv).toNat)
  case atStart => exact ⟨0, Nat.zero_le _, rfl, hid (World.ownsRow_nil _ _ _ _), hid (Below.refl _ _)⟩
  case round =>
    obtain ⟨i, hi, rfl, HOW, HBr⟩ := hrel
    by_cases hlt : i < Q.length
    · have hiI := ix_lt hlt
      have hii := ix_pos i
      have HLI := hid hlt
      obtain ⟨eb, eo, hea, -⟩ := es_cells (HV.out _ HBr.out) hlt
      subst hea
      obtain ⟨y0, y1⟩ := es_modK (HV.out _ HBr.out) hlt
      have HYS := hid (fun he => pthR_yes (t := t) hlt he)
      have HNO := hid (fun he => pthR_no (t := t) hlt he)
      have HLN := hid (show (verL (pthR t (Q.take i))).length ≤ 1000 from Nat.le_trans (pthR_len t _) (Nat.le_trans (List.length_take_le' i Q) HQL.out))
      generalize Q[i] = r at *
      obtain ⟨⟨p, q⟩, r2⟩ := r
      simp only at y0 y1 HYS HNO
      obtain ⟨SX, hSX⟩ : ∃ SX, verL (pthR t (Q.take i)) = SX := ⟨_, rfl⟩
      rw [hSX] at HOW HYS HNO HLN
      clear hSX hlt
      by_cases he : p = t
      · subst he
        have HST := hid (HYS.out rfl)
        have heq := str_refl p
        clear HYS HNO
        go_wp2_with (at_builtin; refine wpList_append_own _ rfl _ _ 24 rfl w.heap.size 9 i0 _ 1 16 Tryz.underlying24 hi0 hz0 hz1 hz2 rfl (by decide) _ _ _ rfl (HOW.out.alloc _) ⟨wr.heap.size, 0, none⟩ 1 1 [.string q] rfl rfl (World.news_of_block (heap_new _ _)) (by intro u hu; simp at hu; subst hu; rfl) (Nat.le_trans (Nat.add_le_add_right HLN.out 1) (by unfold maxLen; decide)) (by have hz := HLN.out; omega) (Nat.le_trans HBr.out.size (by simp)) ?_)
        intro v' w6 hown hgrow _
        have HB6 := hid (rel_app HBr.out.size HBr.out HOW.out (Below.refl _ _) hgrow)
        have HO6 := hid (show w6.ownsRow w.heap.size 9 1 v' (SX ++ [q]).length ((SX ++ [q]).map Value.string) by rw [List.length_append, List.map_append]; exact hown)
        clear hown hgrow
        go_wp2_with fail
        go_roundw
        case rel => first | exact ⟨i + 1, HLI.out, nr_idx i, hid (by rw [HST.out]; exact HO6.out), HB6⟩ | exact ⟨i + 1, HLI.out, nx_idx HLI.out HQM.out, hid (by rw [HST.out]; exact HO6.out), HB6⟩
        case measure => first | exact nr_meas HLI.out | exact nx_meas HLI.out HQM.out
      · have HST := hid (HNO.out he)
        have heq := str_ne he
        clear HYS HNO he
        go_wp2_with fail
        go_roundw
        case rel => first | exact ⟨i + 1, HLI.out, nr_idx i, hid (by rw [HST.out]; exact HOW.out), HBr⟩ | exact ⟨i + 1, HLI.out, nx_idx HLI.out HQM.out, hid (by rw [HST.out]; exact HOW.out), HBr⟩
        case measure => first | exact nr_meas HLI.out | exact nx_meas HLI.out HQM.out
    · have hiI := ix_nlt hlt
      have HTA := hid (show Q.take i = Q from List.take_of_length_le (by omega))
      rw [HTA.out] at HOW
      obtain ⟨Z, HZ⟩ : ∃ Z, Hid (verL (pthR t Q) = Z) := ⟨_, hid rfl⟩
      rw [HZ.out] at HOW HZZ HZL
      clear hlt HTA
      obtain ⟨oa, oc, hov, -, hcell⟩ := own_tx HOW.out
      subst hov
      by_cases hZ : Z = []
      · subst hZ
        have HS0 := hid (HSN.out oa oc wr)
        go_wp2_with fail
        refine HS0.out.mono ?_
        rintro e w7 ⟨rfl, hb⟩
        have HB7 := hid (HBr.out.trans (hb.mono HBr.out.size))
        clear hb
        go_wp2_with fail
        go_ret
        refine ⟨_, [], rfl, ⟨none, 0, rfl, Nat.le_refl _, fun h => absurd rfl h⟩, ?_, HB7.out⟩
        rw [HZ.out]
        exact ⟨List.Pairwise.nil, fun t => by simp [bl]⟩
      · obtain ⟨ob, oo, hoa, hcl⟩ := hcell hZ
        subst hoa
        have HS0 := hid (HSO.out Z ob oo oc wr hcl HZL.out HZZ.out)
        clear hcl hcell
        go_wp2_with fail
        refine HS0.out.mono ?_
        rintro e w7 ⟨u7, X, rfl, ho, hK, hb⟩
        have HB7 := hid (HBr.out.trans (hb.mono HBr.out.size))
        have HK7 := hid hK
        have HT7 := hid (own_tx ho)
        obtain ⟨ua, uc, hu7⟩ := own_slN ho
        subst hu7
        clear hb hK ho
        go_wp2_with fail
        go_ret
        exact ⟨_, X, rfl, HT7.out, by rw [HZ.out]; exact HK7.out, HB7.out⟩
set_option maxRecDepth 100000 in
set_option maxHeartbeats 4000000 in
theorem rank_any (Q : List Raw) (t s : ByteArray) (k : Nat) (v : Value) (w : World) (hL : Q.length ≤ 1000) (hs : s.size < 999999) (hk : k < Q.length) (hi : idxOf (isM (t, s)) Q = (k : Int)) (hq : Q[k].1.2 = s) (he : verErr s.data.toList = 0) (hv : EsAt w v Q) :
    Calls Tryz.prog 177 #[v, .string t, .string s] w fun e w' => e = .returned (.int .i64 (rnk Q[k] : Nat)) ∧ Below w.heap.size w w' := by
  have HFO := hid (findOf_allJ Q (t, s) v w (by omega) hv)
  rw [hi] at HFO
  have HV := hid (fun W (h : Below w.heap.size w W) => hv.below h)
  have HVO := hid (fun W => verOf_any s W (by omega))
  have HRN := hid (show rnk Q[k] = if Q[k].2.2.2 then 0 else if 0 < (preOf s.data.toList).length then 1 else 2 by unfold rnk; rw [hq])
  have hkI := ix_lt hk
  have hk0 := ix_pos k
  obtain ⟨va, vc, hv1, -⟩ := id hv
  subst hv1
  obtain ⟨eb, eo, hea, -⟩ := es_cells hv hk
  subst hea
  have HBK := hid (fun W (h : Below w.heap.size w W) => es_backK (HV.out W h) hk)
  have HE := hid he
  generalize rnk Q[k] = z at *
  generalize (Q[k]'hk).2.2.2 = bk at *
  clear hv hi hq he hk
  go_enter Tryz.func177, Tryz.ntmps177
  go_wp2_with fail
  refine HFO.out.mono ?_
  rintro e w1 ⟨rfl, hb⟩
  have HB1 := hid hb
  have c0 := HBK.out w1 hb
  clear hb HFO
  cases bk with
  | true =>
    go_wp2_with fail
    go_ret
    exact ⟨by rw [HRN.out]; rfl, HB1.out⟩
  | false =>
    go_wp2_with fail
    refine (HVO.out w1).mono ?_
    rintro e w2 ⟨h | ⟨_, sa, cap, X2, rfl, hbl, -⟩, hb⟩
    · exact absurd HE.out h.1
    · have HB2 := hid (HB1.out.trans (hb.mono HB1.out.size))
      have HBL := hid (show X2.length = (preOf s.data.toList).length by rw [← hbl]; simp [bl])
      have HB3 := hid (HB2.out.alloc HB2.out.size (.cells #[.int .i64 (nAt s.data.toList 0), .int .i64 (nAt s.data.toList 1), .int .i64 (nAt s.data.toList 2), .slice sa X2.length cap] 26))
      clear hb hbl
      by_cases hp : 0 < X2.length
      · have hpI : (0 : Int) < (X2.length : Int) := by omega
        have HZ := hid (show z = 1 by rw [HRN.out, if_neg (by simp), if_pos (by rw [← HBL.out]; exact hp)])
        clear hp
        go_wp2_with fail
        go_ret
        exact ⟨by rw [HZ.out]; rfl, HB3.out⟩
      · have hpI : ¬ (0 : Int) < (X2.length : Int) := by omega
        have HZ := hid (show z = 2 by rw [HRN.out, if_neg (by simp), if_neg (by rw [← HBL.out]; exact hp)])
        clear hp
        go_wp2_with fail
        go_ret
        exact ⟨by rw [HZ.out]; rfl, HB3.out⟩
end Ve
end Go.Proofs.YtanponneancajaaGreatDoor
