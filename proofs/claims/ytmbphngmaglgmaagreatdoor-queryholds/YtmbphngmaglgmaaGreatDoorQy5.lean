/-
  What the document's answer says is the latest of a path (VersOf, rank, LikedOf, LatestOf), in an index that is right: what index.Latest answers.
-/
import Derived.Test.YtmbphngmaglgmaaGreatDoorQy4
import Derived.Test.YtmbphngmaglgmaaGreatDoorQy3
import Derived.Test.YtmbphngmaglgmaaGreatDoorQy2
namespace Go.Proofs.YtmbphngmaglgmaaGreatDoor
open Go.RowKit Go.Maps
namespace Ve

theorem es_modK {W : World} {b o n c : Nat} {Q : List Raw} (h : EsAt W (.slice (some ⟨b, o, none⟩) n c) Q) {k : Nat} (hk : k < Q.length) : W.cell? ⟨b, o + k * 5, none⟩ = some (.string Q[k].1.1) ∧ W.cell? ⟨b, o + k * 5 + 1, none⟩ = some (.string Q[k].1.2) := by
  obtain ⟨a', c', e, _, _, h⟩ := h
  injection e with e1 e2 e3
  subst e1
  obtain ⟨b', o', e4, h4⟩ := h (by intro h0; rw [h0] at hk; simp at hk)
  injection e4 with e4
  injection e4 with e5 e6
  subst e5 e6
  exact ⟨(h4 k hk).1, (h4 k hk).2.1⟩
theorem es_backK {W : World} {b o n c : Nat} {Q : List Raw} (h : EsAt W (.slice (some ⟨b, o, none⟩) n c) Q) {k : Nat} (hk : k < Q.length) : W.cell? ⟨b, o + k * 5 + 4, none⟩ = some (.bool Q[k].2.2.2) := by
  obtain ⟨a', c', e, _, _, h⟩ := h
  injection e with e1 e2 e3
  subst e1
  obtain ⟨b', o', e4, h4⟩ := h (by intro h0; rw [h0] at hk; simp at hk)
  injection e4 with e4
  injection e4 with e5 e6
  subst e5 e6
  exact (h4 k hk).2.2.2.2
theorem sortVers_nil (a : Option Addr) (c : Nat) (w : World) : Calls Tryz.prog 99 #[.slice a 0 c] w fun e w' => e = .returned (.slice none 0 0) ∧ Below w.heap.size w w' := by
  go_enter Tryz.func99, Tryz.ntmps99
  go_wp2_with fail
  go_loopw [3, 4] (fun v i wr => v = .slice none 0 0 ∧ i = .int .i64 0 ∧ wr = w) (fun _ i _ => 0)
  case atStart => exact ⟨rfl, rfl, rfl⟩
  case round =>
    obtain ⟨rfl, rfl, rfl⟩ := hrel
    go_wp2_with fail
    go_ret
    exact ⟨rfl, Below.refl _ _⟩
/-- Those of a path. -/
def pthR (t : ByteArray) (Q : List Raw) : List Raw := Q.filter fun r => decide (r.1.1 = t)
theorem pthR_yes {t : ByteArray} {Q : List Raw} {k : Nat} (h : k < Q.length) (he : Q[k].1.1 = t) : verL (pthR t (Q.take (k + 1))) = verL (pthR t (Q.take k)) ++ [Q[k].1.2] := by
  unfold pthR verL
  rw [List.take_succ_eq_append_getElem h, List.filter_append, List.map_append]
  simp [he]
theorem pthR_no {t : ByteArray} {Q : List Raw} {k : Nat} (h : k < Q.length) (he : ¬ Q[k].1.1 = t) : verL (pthR t (Q.take (k + 1))) = verL (pthR t (Q.take k)) := by
  unfold pthR verL
  rw [List.take_succ_eq_append_getElem h, List.filter_append, List.map_append]
  simp [he]
theorem pthR_len (t : ByteArray) (Q : List Raw) : (verL (pthR t Q)).length ≤ Q.length := by
  unfold pthR verL
  rw [List.length_map]
  exact List.length_filter_le _ _
theorem pthR_sz {t : ByteArray} {Q : List Raw} (hz : ∀ r, r ∈ Q → r.1.1.size ≤ 80 ∧ r.1.2.size ≤ 80) : ∀ x, x ∈ verL (pthR t Q) → x.size ≤ 80 := fun x hx => by
  obtain ⟨r, hr, rfl⟩ := List.mem_map.1 hx
  exact (hz r (List.mem_filter.1 hr).1).2
set_option maxRecDepth 100000 in
set_option maxHeartbeats 4000000 in
theorem versOf_any (Q : List Raw) (t : ByteArray) (v : Value) (w : World) (hL : Q.length ≤ 1000) (hz : ∀ r, r ∈ Q → r.1.1.size ≤ 80 ∧ r.1.2.size ≤ 80) (hv : EsAt w v Q) :
    Calls Tryz.prog 49 #[v, .string t] w fun e w' => ∃ u X, e = .returned u ∧ TxAt w' u X ∧ Kept (verL (pthR t Q)) (verL (pthR t Q)).length X ∧ Below w.heap.size w w' := by
  have HV := hid (fun W (h : Below w.heap.size w W) => hv.below h)
  have HQM := hid (show Q.length ≤ 1000000 by omega)
  have HQL := hid hL
  have HSO := hid (fun (L : List ByteArray) b o c W (hc : ∀ j (h : j < L.length), W.cell? ⟨b, o + j, none⟩ = some (.string L[j])) (h12 : L.length ≤ 1000) (hz : ∀ x, x ∈ L → x.size ≤ 80) => sortVers_some b o c L W hc h12 hz)
  have HSN := hid sortVers_nil
  have HZZ := hid (pthR_sz (t := t) hz)
  have HZL := hid (show (verL (pthR t Q)).length ≤ 1000 from Nat.le_trans (pthR_len t Q) hL)
  obtain ⟨i0, hi0, hz0, hz1, hz2⟩ := info_parts infoStr
  obtain ⟨va, vc, hv1, -⟩ := id hv
  subst hv1
  clear hv hz hL
  go_enter Tryz.func49, Tryz.ntmps49
  go_wp2_with fail
  go_loopw [5, 6] (fun ov iv wr => ∃ i : Nat, i ≤ Q.length ∧ iv = .int .i64 i ∧ Hid (wr.ownsRow w.heap.size 9 1 ov (verL (pthR t (Q.take i))).length ((verL (pthR t (Q.take i))).map Value.string)) ∧ Hid (Below w.heap.size w wr)) (fun _ iv _ => Q.length - (intOf iv).toNat)
  case atStart => exact ⟨0, Nat.zero_le _, rfl, hid (World.ownsRow_nil _ _ _ _), hid (Below.refl _ _)⟩
  case round =>
    obtain ⟨i, hi, rfl, HOW, HBr⟩ := hrel
    by_cases hlt : i < Q.length
    · have hiI := ix_lt hlt
      have hii := ix_pos i
      have HLI := hid hlt
      obtain ⟨eb, eo, hea, -⟩ := es_cells (HV.out _ HBr.out) hlt
      subst hea
      obtain ⟨y0, y1⟩ := es_modK (HV.out _ HBr.out) hlt
      have HYS := hid (fun he => pthR_yes (t := t) hlt he)
      have HNO := hid (fun he => pthR_no (t := t) hlt he)
      have HLN := hid (show (verL (pthR t (Q.take i))).length ≤ 1000 from Nat.le_trans (pthR_len t _) (Nat.le_trans (List.length_take_le' i Q) HQL.out))
      generalize Q[i] = r at *
      obtain ⟨⟨p, q⟩, r2⟩ := r
      simp only at y0 y1 HYS HNO
      obtain ⟨SX, hSX⟩ : ∃ SX, verL (pthR t (Q.take i)) = SX := ⟨_, rfl⟩
      rw [hSX] at HOW HYS HNO HLN
      clear hSX hlt
      by_cases he : p = t
      · subst he
        have HST := hid (HYS.out rfl)
        have heq := str_refl p
        clear HYS HNO
        go_wp2_with (at_builtin; refine wpList_append_own _ rfl _ _ 29 rfl w.heap.size 9 i0 _ 1 16 Tryz.underlying29 hi0 hz0 hz1 hz2 rfl (by decide) _ _ _ rfl (HOW.out.alloc _) ⟨wr.heap.size, 0, none⟩ 1 1 [.string q] rfl rfl (World.news_of_block (heap_new _ _)) (by intro u hu; simp at hu; subst hu; rfl) (Nat.le_trans (Nat.add_le_add_right HLN.out 1) (by unfold maxLen; decide)) (by have hz := HLN.out; omega) (Nat.le_trans HBr.out.size (by simp)) ?_)
        intro v' w6 hown hgrow _
        have HB6 := hid (rel_app HBr.out.size HBr.out HOW.out (Below.refl _ _) hgrow)
        have HO6 := hid (show w6.ownsRow w.heap.size 9 1 v' (SX ++ [q]).length ((SX ++ [q]).map Value.string) by rw [List.length_append, List.map_append]; exact hown)
        clear hown hgrow
        go_wp2_with fail
        go_roundw
        case rel => first | exact ⟨i + 1, HLI.out, nr_idx i, hid (by rw [HST.out]; exact HO6.out), HB6⟩ | exact ⟨i + 1, HLI.out, nx_idx HLI.out HQM.out, hid (by rw [HST.out]; exact HO6.out), HB6⟩
        case measure => first | exact nr_meas HLI.out | exact nx_meas HLI.out HQM.out
      · have HST := hid (HNO.out he)
        have heq := str_ne he
        clear HYS HNO he
        go_wp2_with fail
        go_roundw
        case rel => first | exact ⟨i + 1, HLI.out, nr_idx i, hid (by rw [HST.out]; exact HOW.out), HBr⟩ | exact ⟨i + 1, HLI.out, nx_idx HLI.out HQM.out, hid (by rw [HST.out]; exact HOW.out), HBr⟩
        case measure => first | exact nr_meas HLI.out | exact nx_meas HLI.out HQM.out
    · have hiI := ix_nlt hlt
      have HTA := hid (show Q.take i = Q from List.take_of_length_le (by omega))
      rw [HTA.out] at HOW
      obtain ⟨Z, HZ⟩ : ∃ Z, Hid (verL (pthR t Q) = Z) := ⟨_, hid rfl⟩
      rw [HZ.out] at HOW HZZ HZL
      clear hlt HTA
      obtain ⟨oa, oc, hov, -, hcell⟩ := own_tx HOW.out
      subst hov
      by_cases hZ : Z = []
      · subst hZ
        have HS0 := hid (HSN.out oa oc wr)
        go_wp2_with fail
        refine HS0.out.mono ?_
        rintro e w7 ⟨rfl, hb⟩
        have HB7 := hid (HBr.out.trans (hb.mono HBr.out.size))
        clear hb
        go_wp2_with fail
        go_ret
        refine ⟨_, [], rfl, ⟨none, 0, rfl, Nat.le_refl _, fun h => absurd rfl h⟩, ?_, HB7.out⟩
        rw [HZ.out]
        exact ⟨List.Pairwise.nil, fun t => by simp [bl]⟩
      · obtain ⟨ob, oo, hoa, hcl⟩ := hcell hZ
        subst hoa
        have HS0 := hid (HSO.out Z ob oo oc wr hcl HZL.out HZZ.out)
        clear hcl hcell
        go_wp2_with fail
        refine HS0.out.mono ?_
        rintro e w7 ⟨u7, X, rfl, ho, hK, hb⟩
        have HB7 := hid (HBr.out.trans (hb.mono HBr.out.size))
        have HK7 := hid hK
        have HT7 := hid (own_tx ho)
        obtain ⟨ua, uc, hu7⟩ := own_slN ho
        subst hu7
        clear hb hK ho
        go_wp2_with fail
        go_ret
        exact ⟨_, X, rfl, HT7.out, by rw [HZ.out]; exact HK7.out, HB7.out⟩
set_option maxRecDepth 100000 in
set_option maxHeartbeats 4000000 in
theorem rank_any (Q : List Raw) (t s : ByteArray) (k : Nat) (v : Value) (w : World) (hL : Q.length ≤ 1000) (hs : s.size < 999999) (hk : k < Q.length) (hi : idxOf (isM (t, s)) Q = (k : Int)) (hq : Q[k].1.2 = s) (he : verErr s.data.toList = 0) (hv : EsAt w v Q) :
    Calls Tryz.prog 102 #[v, .string t, .string s] w fun e w' => e = .returned (.int .i64 (rnk Q[k] : Nat)) ∧ Below w.heap.size w w' := by
  have HFO := hid (findOf_allJ Q (t, s) v w (by omega) hv)
  rw [hi] at HFO
  have HV := hid (fun W (h : Below w.heap.size w W) => hv.below h)
  have HVO := hid (fun W => verOf_any s W (by omega))
  have HRN := hid (show rnk Q[k] = if Q[k].2.2.2 then 0 else if 0 < (preOf s.data.toList).length then 1 else 2 by unfold rnk; rw [hq])
  have hkI := ix_lt hk
  have hk0 := ix_pos k
  obtain ⟨va, vc, hv1, -⟩ := id hv
  subst hv1
  obtain ⟨eb, eo, hea, -⟩ := es_cells hv hk
  subst hea
  have HBK := hid (fun W (h : Below w.heap.size w W) => es_backK (HV.out W h) hk)
  have HE := hid he
  generalize rnk Q[k] = z at *
  generalize (Q[k]'hk).2.2.2 = bk at *
  clear hv hi hq he hk
  go_enter Tryz.func102, Tryz.ntmps102
  go_wp2_with fail
  refine HFO.out.mono ?_
  rintro e w1 ⟨rfl, hb⟩
  have HB1 := hid hb
  have c0 := HBK.out w1 hb
  clear hb HFO
  cases bk with
  | true =>
    go_wp2_with fail
    go_ret
    exact ⟨by rw [HRN.out]; rfl, HB1.out⟩
  | false =>
    go_wp2_with fail
    refine (HVO.out w1).mono ?_
    rintro e w2 ⟨h | ⟨_, sa, cap, X2, rfl, hbl, -⟩, hb⟩
    · exact absurd HE.out h.1
    · have HB2 := hid (HB1.out.trans (hb.mono HB1.out.size))
      have HBL := hid (show X2.length = (preOf s.data.toList).length by rw [← hbl]; simp [bl])
      have HB3 := hid (HB2.out.alloc HB2.out.size (.cells #[.int .i64 (nAt s.data.toList 0), .int .i64 (nAt s.data.toList 1), .int .i64 (nAt s.data.toList 2), .slice sa X2.length cap] 46))
      clear hb hbl
      by_cases hp : 0 < X2.length
      · have hpI : (0 : Int) < (X2.length : Int) := by omega
        have HZ := hid (show z = 1 by rw [HRN.out, if_neg (by simp), if_pos (by rw [← HBL.out]; exact hp)])
        clear hp
        go_wp2_with fail
        go_ret
        exact ⟨by rw [HZ.out]; rfl, HB3.out⟩
      · have hpI : ¬ (0 : Int) < (X2.length : Int) := by omega
        have HZ := hid (show z = 2 by rw [HRN.out, if_neg (by simp), if_neg (by rw [← HBL.out]; exact hp)])
        clear hp
        go_wp2_with fail
        go_ret
        exact ⟨by rw [HZ.out]; rfl, HB3.out⟩
end Ve
end Go.Proofs.YtmbphngmaglgmaaGreatDoor

/-
  What LikedOf of the document's answer says, in an index that is right.
-/
namespace Go.Proofs.YtmbphngmaglgmaaGreatDoor
open Go.RowKit Go.Maps
namespace Ve

theorem tx_cellK {W : World} {a : Option Addr} {n c : Nat} {X : List ByteArray} (h : TxAt W (.slice a n c) X) {k : Nat} (hk : k < X.length) : ∃ b o, a = some ⟨b, o, none⟩ ∧ W.cell? ⟨b, o + k, none⟩ = some (.string X[k]) := by
  obtain ⟨a', c', e, _, h⟩ := h
  injection e with e1 e2 e3
  subst e1
  obtain ⟨b', o', e4, h4⟩ := h (by intro h0; rw [h0] at hk; simp at hk)
  exact ⟨b', o', e4, h4 k hk⟩
theorem nodup_sub {α : Type} [DecidableEq α] : ∀ {a b : List α}, a.Nodup → (∀ x, x ∈ a → x ∈ b) → a.length ≤ b.length
  | [], b, _, _ => Nat.zero_le _
  | x :: r, b, hn, hs => by
    obtain ⟨h1, h2⟩ := List.nodup_cons.1 hn
    have hx := hs x (List.mem_cons_self ..)
    have := nodup_sub (a := r) (b := b.erase x) h2 fun y hy => (List.mem_erase_of_ne (fun e => h1 (by rw [← e]; exact hy))).2 (hs y (List.mem_cons_of_mem _ hy))
    rw [List.length_erase_of_mem hx] at this
    have hp := List.length_pos_of_mem hx
    simp only [List.length_cons]
    omega
/-- What is asked of the versions of a path. -/
structure VerOk (Q : List Raw) (t : ByteArray) (X : List ByteArray) : Prop where
  at_ : ∀ j (hj : j < X.length), ∃ k, ∃ hk : k < Q.length, idxOf (isM (t, X[j])) Q = (k : Int) ∧ Q[k].1.2 = X[j] ∧ verErr X[j].data.toList = 0 ∧ X[j].size < 999999 ∧ rkV Q t X[j] = rnk Q[k]
theorem verOk_of {Q : List Raw} {t : ByteArray} {X : List ByteArray} (g : Good Q) (hz : ∀ r, r ∈ Q → r.1.1.size ≤ 80 ∧ r.1.2.size ≤ 80) (hK : Kept (verL (ofP t Q)) (verL (ofP t Q)).length X) : VerOk Q t X := ⟨fun j hj => by
  obtain ⟨n, h⟩ := one_of g hK (List.getElem_mem hj)
  have hq := h.mem
  have h1 := g.ofP_mem.1 hq
  refine ⟨n, h.lt, h.idx, h.same, h.ver, ?_, ?_⟩
  · have := (hz _ h1.1).2
    rw [h.same] at this
    omega
  · have h2 := rkV_at g h1.1
    rw [h1.2, h.same] at h2
    exact h2⟩
set_option maxRecDepth 100000 in
set_option maxHeartbeats 4000000 in
theorem liked_any (Q : List Raw) (t : ByteArray) (X : List ByteArray) (v u : Value) (w : World) (hL : Q.length ≤ 1000) (hX : X.length ≤ 1000000) (hok : VerOk Q t X) (hv : EsAt w v Q) (hu : TxAt w u X) :
    Calls Tryz.prog 52 #[v, .string t, u, .bool false] w fun e w' => e = .returned (.string (likN Q t X X.length).1) ∧ Below w.heap.size w w' := by
  have HRK := hid (fun j (hj : j < X.length) W (h : Below w.heap.size w W) => show Calls Tryz.prog 102 #[v, .string t, .string X[j]] W fun e w' => e = .returned (.int .i64 (rkV Q t X[j] : Nat)) ∧ Below W.heap.size W w' by
    obtain ⟨k, hk, h1, h2, h3, h4, h5⟩ := hok.at_ j hj
    rw [h5]
    exact rank_any Q t X[j] k v W hL h4 hk h1 h2 h3 (hv.below h))
  have HU := hid (fun W (h : Below w.heap.size w W) => hu.below h)
  obtain ⟨va, vc, hv1, -⟩ := id hv
  subst hv1
  obtain ⟨ua, uc, hu1, -⟩ := id hu
  subst hu1
  clear hv hu hok
  go_enter Tryz.func52, Tryz.ntmps52
  go_wp2_with fail
  go_loopw [9, 10, 11] (fun bv rv iv wr => ∃ i : Nat, i ≤ X.length ∧ iv = .int .i64 i ∧ bv = .string (likN Q t X i).1 ∧ rv = .int .i64 (likN Q t X i).2 ∧ Hid (Below w.heap.size w wr)) (fun _ _ iv _ => X.length - (intOf iv).toNat)
  case atStart => exact ⟨0, Nat.zero_le _, rfl, rfl, rfl, hid (Below.refl _ _)⟩
  case round =>
    obtain ⟨i, hi, rfl, rfl, rfl, HB⟩ := hrel
    by_cases hlt : i < X.length
    · have hiI := ix_lt hlt
      have hii := ix_pos i
      have HLI := hid hlt
      obtain ⟨b, o, hua, y0⟩ := tx_cellK (HU.out _ HB.out) hlt
      subst hua
      have HRI := hid (HRK.out i hlt wr HB.out)
      have HNX := hid (likN_next (Q := Q) (t := t) hlt)
      unfold likS at HNX
      generalize X[i] = x at *
      generalize rkV Q t x = z at *
      obtain ⟨s, hs⟩ : ∃ s, likN Q t X i = s := ⟨_, rfl⟩
      rw [hs] at HNX ⊢
      obtain ⟨bs, br⟩ := s
      simp only at HNX ⊢
      clear hlt hs
      rcases Int.lt_trichotomy br (z : Int) with hc | hc | hc
      · rw [if_pos (Int.le_of_lt hc)] at HNX
        go_wp2_with fail
        refine HRI.out.mono ?_
        rintro e w1 ⟨rfl, hb⟩
        have HB1 := hid (HB.out.trans (hb.mono HB.out.size))
        have y1 := cell_below hb y0
        clear hb
        go_wp2_with fail
        go_roundw
        case rel => first | exact ⟨i + 1, HLI.out, nr_idx i, by rw [HNX.out], by rw [HNX.out], HB1⟩ | exact ⟨i + 1, HLI.out, nx_idx HLI.out hX, by rw [HNX.out], by rw [HNX.out], HB1⟩
        case measure => first | exact nr_meas HLI.out | exact nx_meas HLI.out hX
      · subst hc
        rw [if_pos (Int.le_refl _)] at HNX
        have hn1 : ¬ ((z : Nat) : Int) < ((z : Nat) : Int) := Int.lt_irrefl _
        have hn2 : (((z : Nat) : Int) == ((z : Nat) : Int)) = true := beq_self_eq_true _
        go_wp2_with fail
        refine HRI.out.mono ?_
        rintro e w1 ⟨rfl, hb⟩
        have HB1 := hid (HB.out.trans (hb.mono HB.out.size))
        have y1 := cell_below hb y0
        clear hb
        go_wp2_with fail
        go_roundw
        case rel => first | exact ⟨i + 1, HLI.out, nr_idx i, by rw [HNX.out], by rw [HNX.out], HB1⟩ | exact ⟨i + 1, HLI.out, nx_idx HLI.out hX, by rw [HNX.out], by rw [HNX.out], HB1⟩
        case measure => first | exact nr_meas HLI.out | exact nx_meas HLI.out hX
      · rw [if_neg (Int.not_le.2 hc)] at HNX
        have hn1 : ¬ br < ((z : Nat) : Int) := Int.not_lt.2 (Int.le_of_lt hc)
        have hn2 : (((z : Nat) : Int) == br) = false := by rw [beq_eq_false_iff_ne]; exact Int.ne_of_lt hc
        have hn3 : ¬ ((z : Nat) : Int) = br := Int.ne_of_lt hc
        go_wp2_with fail
        refine HRI.out.mono ?_
        rintro e w1 ⟨rfl, hb⟩
        have HB1 := hid (HB.out.trans (hb.mono HB.out.size))
        clear hb
        go_wp2_with fail
        go_roundw
        case rel => first | exact ⟨i + 1, HLI.out, nr_idx i, by rw [HNX.out], by rw [HNX.out], HB1⟩ | exact ⟨i + 1, HLI.out, nx_idx HLI.out hX, by rw [HNX.out], by rw [HNX.out], HB1⟩
        case measure => first | exact nr_meas HLI.out | exact nx_meas HLI.out hX
    · have hiI := ix_nlt hlt
      have hie : i = X.length := Nat.le_antisymm hi (Nat.le_of_not_lt hlt)
      subst hie
      clear hlt
      go_wp2_with fail
      go_ret
      exact ⟨rfl, HB.out⟩
end Ve
end Go.Proofs.YtmbphngmaglgmaaGreatDoor

/-
  What LikedOf of the document's answer says where the least is asked for.
-/
namespace Go.Proofs.YtmbphngmaglgmaaGreatDoor
open Go.RowKit Go.Maps
namespace Ve

/-- The best of some versions, the first of such ones, and how it is liked. -/
def likSL (Q : List Raw) (t : ByteArray) (s : ByteArray × Int) (v : ByteArray) : ByteArray × Int := if s.2 < (rkV Q t v : Int) then (v, (rkV Q t v : Int)) else s
def likNL (Q : List Raw) (t : ByteArray) (X : List ByteArray) (i : Nat) : ByteArray × Int := (X.take i).foldl (likSL Q t) (⟨#[]⟩, -1)
theorem likNL_next {Q : List Raw} {t : ByteArray} {X : List ByteArray} {i : Nat} (h : i < X.length) : likNL Q t X (i + 1) = likSL Q t (likNL Q t X i) X[i] := by
  unfold likNL
  rw [List.take_succ_eq_append_getElem h, List.foldl_append]; rfl
/-- What it is: liked no less than any, and ahead of it none is liked so. -/
structure LikL (Q : List Raw) (t : ByteArray) (X : List ByteArray) (i : Nat) (s : ByteArray × Int) : Prop where
  z : i = 0 → s = (⟨#[]⟩, -1)
  p : 0 < i → ∃ j, ∃ hj : j < X.length, j < i ∧ s = (X[j], (rkV Q t X[j] : Int)) ∧ (∀ k (hk : k < X.length), k < i → rkV Q t X[k] ≤ rkV Q t X[j]) ∧ ∀ k (hk : k < X.length), k < j → rkV Q t X[k] < rkV Q t X[j]
theorem likNL_is {Q : List Raw} {t : ByteArray} {X : List ByteArray} : ∀ i, i ≤ X.length → LikL Q t X i (likNL Q t X i)
  | 0, _ => ⟨fun _ => rfl, fun h => absurd h (Nat.lt_irrefl _)⟩
  | i + 1, hi => by
    have h : i < X.length := hi
    have ih := likNL_is (Q := Q) (t := t) (X := X) i (Nat.le_of_lt h)
    rw [likNL_next h]
    refine ⟨fun e => by omega, fun _ => ?_⟩
    unfold likSL
    by_cases h0 : i = 0
    · rw [ih.z h0]
      rw [if_pos (show (-1 : Int) < (rkV Q t X[i] : Int) by omega)]
      refine ⟨i, h, by omega, rfl, fun k hk hki => ?_, fun k hk hki => by omega⟩
      have : k = i := by omega
      subst this; exact Nat.le_refl _
    · obtain ⟨j, hj, hji, hs, h1, h2⟩ := ih.p (by omega)
      rw [hs]
      by_cases hc : ((rkV Q t X[j] : Nat) : Int) < (rkV Q t X[i] : Int)
      · rw [if_pos hc]
        refine ⟨i, h, by omega, rfl, fun k hk hki => ?_, fun k hk hki => ?_⟩
        · rcases Nat.lt_or_ge k i with h3 | h3
          · have := h1 k hk h3; omega
          · have : k = i := by omega
            subst this; exact Nat.le_refl _
        · have := h1 k hk hki; omega
      · rw [if_neg hc]
        refine ⟨j, hj, by omega, rfl, fun k hk hki => ?_, fun k hk hkj => h2 k hk hkj⟩
        rcases Nat.lt_or_ge k i with h3 | h3
        · exact h1 k hk h3
        · have : k = i := by omega
          subst this; omega
set_option maxRecDepth 100000 in
set_option maxHeartbeats 4000000 in
theorem likedL_any (Q : List Raw) (t : ByteArray) (X : List ByteArray) (v u : Value) (w : World) (hL : Q.length ≤ 1000) (hX : X.length ≤ 1000000) (hok : VerOk Q t X) (hv : EsAt w v Q) (hu : TxAt w u X) :
    Calls Tryz.prog 52 #[v, .string t, u, .bool true] w fun e w' => e = .returned (.string (likNL Q t X X.length).1) ∧ Below w.heap.size w w' := by
  have HRK := hid (fun j (hj : j < X.length) W (h : Below w.heap.size w W) => show Calls Tryz.prog 102 #[v, .string t, .string X[j]] W fun e w' => e = .returned (.int .i64 (rkV Q t X[j] : Nat)) ∧ Below W.heap.size W w' by
    obtain ⟨k, hk, h1, h2, h3, h4, h5⟩ := hok.at_ j hj
    rw [h5]
    exact rank_any Q t X[j] k v W hL h4 hk h1 h2 h3 (hv.below h))
  have HU := hid (fun W (h : Below w.heap.size w W) => hu.below h)
  obtain ⟨va, vc, hv1, -⟩ := id hv
  subst hv1
  obtain ⟨ua, uc, hu1, -⟩ := id hu
  subst hu1
  clear hv hu hok
  go_enter Tryz.func52, Tryz.ntmps52
  go_wp2_with fail
  go_loopw [9, 10, 11] (fun bv rv iv wr => ∃ i : Nat, i ≤ X.length ∧ iv = .int .i64 i ∧ bv = .string (likNL Q t X i).1 ∧ rv = .int .i64 (likNL Q t X i).2 ∧ Hid (Below w.heap.size w wr)) (fun _ _ iv _ => X.length - (intOf iv).toNat)
  case atStart => exact ⟨0, Nat.zero_le _, rfl, rfl, rfl, hid (Below.refl _ _)⟩
  case round =>
    obtain ⟨i, hi, rfl, rfl, rfl, HB⟩ := hrel
    by_cases hlt : i < X.length
    · have hiI := ix_lt hlt
      have hii := ix_pos i
      have HLI := hid hlt
      obtain ⟨b, o, hua, y0⟩ := tx_cellK (HU.out _ HB.out) hlt
      subst hua
      have HRI := hid (HRK.out i hlt wr HB.out)
      have HNX := hid (likNL_next (Q := Q) (t := t) hlt)
      unfold likSL at HNX
      generalize X[i] = x at *
      generalize rkV Q t x = z at *
      obtain ⟨s, hs⟩ : ∃ s, likNL Q t X i = s := ⟨_, rfl⟩
      rw [hs] at HNX ⊢
      obtain ⟨bs, br⟩ := s
      simp only at HNX ⊢
      clear hlt hs
      rcases Int.lt_trichotomy br (z : Int) with hc | hc | hc
      · rw [if_pos hc] at HNX
        go_wp2_with fail
        refine HRI.out.mono ?_
        rintro e w1 ⟨rfl, hb⟩
        have HB1 := hid (HB.out.trans (hb.mono HB.out.size))
        have y1 := cell_below hb y0
        clear hb
        go_wp2_with fail
        go_roundw
        case rel => first | exact ⟨i + 1, HLI.out, nr_idx i, by rw [HNX.out], by rw [HNX.out], HB1⟩ | exact ⟨i + 1, HLI.out, nx_idx HLI.out hX, by rw [HNX.out], by rw [HNX.out], HB1⟩
        case measure => first | exact nr_meas HLI.out | exact nx_meas HLI.out hX
      · subst hc
        rw [if_neg (Int.lt_irrefl _)] at HNX
        have hn1 : ¬ ((z : Nat) : Int) < ((z : Nat) : Int) := Int.lt_irrefl _
        have hn2 : (((z : Nat) : Int) == ((z : Nat) : Int)) = true := beq_self_eq_true _
        go_wp2_with fail
        refine HRI.out.mono ?_
        rintro e w1 ⟨rfl, hb⟩
        have HB1 := hid (HB.out.trans (hb.mono HB.out.size))
        have y1 := cell_below hb y0
        clear hb
        go_wp2_with fail
        go_roundw
        case rel => first | exact ⟨i + 1, HLI.out, nr_idx i, by rw [HNX.out], by rw [HNX.out], HB1⟩ | exact ⟨i + 1, HLI.out, nx_idx HLI.out hX, by rw [HNX.out], by rw [HNX.out], HB1⟩
        case measure => first | exact nr_meas HLI.out | exact nx_meas HLI.out hX
      · rw [if_neg (Int.not_lt.2 (Int.le_of_lt hc))] at HNX
        have hn1 : ¬ br < ((z : Nat) : Int) := Int.not_lt.2 (Int.le_of_lt hc)
        have hn2 : (((z : Nat) : Int) == br) = false := by rw [beq_eq_false_iff_ne]; exact Int.ne_of_lt hc
        have hn3 : ¬ ((z : Nat) : Int) = br := Int.ne_of_lt hc
        go_wp2_with fail
        refine HRI.out.mono ?_
        rintro e w1 ⟨rfl, hb⟩
        have HB1 := hid (HB.out.trans (hb.mono HB.out.size))
        clear hb
        go_wp2_with fail
        go_roundw
        case rel => first | exact ⟨i + 1, HLI.out, nr_idx i, by rw [HNX.out], by rw [HNX.out], HB1⟩ | exact ⟨i + 1, HLI.out, nx_idx HLI.out hX, by rw [HNX.out], by rw [HNX.out], HB1⟩
        case measure => first | exact nr_meas HLI.out | exact nx_meas HLI.out hX
    · have hiI := ix_nlt hlt
      have hie : i = X.length := Nat.le_antisymm hi (Nat.le_of_not_lt hlt)
      subst hie
      clear hlt
      go_wp2_with fail
      go_ret
      exact ⟨rfl, HB.out⟩
end Ve
end Go.Proofs.YtmbphngmaglgmaaGreatDoor

/-
  What is picked, plain: those that suit, and the one that is liked most of them.
-/
namespace Go.Proofs.YtmbphngmaglgmaaGreatDoor
open Go.RowKit Go.Maps
namespace Ve

/-- Does a version suit a query (now is the one there is)? -/
def okQ (q now v : ByteArray) : Bool :=
  if isWd q then (if q = bPatch ∧ verErr now.data.toList = 0 then decide (nAt v.data.toList 0 = nAt now.data.toList 0) && decide (nAt v.data.toList 1 = nAt now.data.toList 1) && !lessB v.data.toList now.data.toList else true) else suitB q v
/-- Those that do. -/
def someQ (q now : ByteArray) (X : List ByteArray) : List ByteArray := X.filter (okQ q now)
theorem someQ_next {q now : ByteArray} {X : List ByteArray} {i : Nat} (h : i < X.length) : someQ q now (X.take (i + 1)) = if okQ q now X[i] then someQ q now (X.take i) ++ [X[i]] else someQ q now (X.take i) := by
  unfold someQ
  rw [List.take_succ_eq_append_getElem h, List.filter_append]
  cases e : okQ q now X[i] <;> simp [e]
theorem someQ_len (q now : ByteArray) (X : List ByteArray) : (someQ q now X).length ≤ X.length := List.length_filter_le _ _
theorem okQ_suit {q now v : ByteArray} (h : isWd q = false) : okQ q now v = suitB q v := by unfold okQ; rw [if_neg (by rw [h]; simp)]
theorem okQ_any {q now v : ByteArray} (h : isWd q = true) (h2 : ¬ (q = bPatch ∧ verErr now.data.toList = 0)) : okQ q now v = true := by unfold okQ; rw [if_pos h, if_neg h2]
theorem okQ_patch {now v : ByteArray} (h2 : verErr now.data.toList = 0) : okQ bPatch now v = (decide (nAt v.data.toList 0 = nAt now.data.toList 0) && decide (nAt v.data.toList 1 = nAt now.data.toList 1) && !lessB v.data.toList now.data.toList) := by
  unfold okQ
  rw [if_pos (by unfold isWd; simp), if_pos ⟨rfl, h2⟩]
theorem verOk_some {Q : List Raw} {t q now : ByteArray} {X : List ByteArray} (h : VerOk Q t X) : VerOk Q t (someQ q now X) := ⟨fun j hj => by
  obtain ⟨i, hi, e⟩ := List.getElem_of_mem (List.mem_filter.1 (List.getElem_mem (l := someQ q now X) hj)).1
  have := h.at_ i hi
  rw [e] at this
  exact this⟩
/-- Is the least asked for? -/
def leastQ (q : ByteArray) : Bool := decide ((sgn q).1 = sGt) || decide ((sgn q).1 = sGe)
/-- The one that is liked most. -/
def likG (Q : List Raw) (t : ByteArray) (b : Bool) (X : List ByteArray) : ByteArray := if b then (likNL Q t X X.length).1 else (likN Q t X X.length).1
def pkB (Q : List Raw) (t q now : ByteArray) (X : List ByteArray) : ByteArray := likG Q t (leastQ q) (someQ q now X)
/-- What Pick tells: a fault; a version. -/
def pkF (Q : List Raw) (L : List Ent) (t q now : ByteArray) (X : List ByteArray) : Nat × Option Nat :=
  if qErr q ≠ 0 then (qErr q, none) else if (chk Q L).1 ≠ 0 then chk Q L else if q = bNone then (0, none) else if pkB Q t q now X = bE then (5, none) else (0, none)
def pkV (Q : List Raw) (L : List Ent) (t q now : ByteArray) (X : List ByteArray) : ByteArray :=
  if qErr q ≠ 0 then bE else if (chk Q L).1 ≠ 0 then bE else if q = bNone then bNone else if pkB Q t q now X = bE then bE else if q = bUpgrade then maxB (pkB Q t q now X) now else pkB Q t q now X
theorem pkF_q {Q : List Raw} {L : List Ent} {t q now : ByteArray} {X : List ByteArray} (h : qErr q ≠ 0) : pkF Q L t q now X = (qErr q, none) := if_pos h
theorem pkV_q {Q : List Raw} {L : List Ent} {t q now : ByteArray} {X : List ByteArray} (h : qErr q ≠ 0) : pkV Q L t q now X = bE := if_pos h
theorem pkF_c {Q : List Raw} {L : List Ent} {t q now : ByteArray} {X : List ByteArray} (h : ¬ qErr q ≠ 0) (h1 : (chk Q L).1 ≠ 0) : pkF Q L t q now X = chk Q L := by unfold pkF; rw [if_neg h, if_pos h1]
theorem pkV_c {Q : List Raw} {L : List Ent} {t q now : ByteArray} {X : List ByteArray} (h : ¬ qErr q ≠ 0) (h1 : (chk Q L).1 ≠ 0) : pkV Q L t q now X = bE := by unfold pkV; rw [if_neg h, if_pos h1]
theorem pkF_n {Q : List Raw} {L : List Ent} {t q now : ByteArray} {X : List ByteArray} (h : ¬ qErr q ≠ 0) (h1 : ¬ (chk Q L).1 ≠ 0) (h2 : q = bNone) : pkF Q L t q now X = (0, none) := by unfold pkF; rw [if_neg h, if_neg h1, if_pos h2]
theorem pkV_n {Q : List Raw} {L : List Ent} {t q now : ByteArray} {X : List ByteArray} (h : ¬ qErr q ≠ 0) (h1 : ¬ (chk Q L).1 ≠ 0) (h2 : q = bNone) : pkV Q L t q now X = bNone := by unfold pkV; rw [if_neg h, if_neg h1, if_pos h2]
theorem pkF_m {Q : List Raw} {L : List Ent} {t q now : ByteArray} {X : List ByteArray} (h : ¬ qErr q ≠ 0) (h1 : ¬ (chk Q L).1 ≠ 0) (h2 : ¬ q = bNone) : pkF Q L t q now X = if pkB Q t q now X = bE then (5, none) else (0, none) := by unfold pkF; rw [if_neg h, if_neg h1, if_neg h2]
theorem pkV_m {Q : List Raw} {L : List Ent} {t q now : ByteArray} {X : List ByteArray} (h : ¬ qErr q ≠ 0) (h1 : ¬ (chk Q L).1 ≠ 0) (h2 : ¬ q = bNone) : pkV Q L t q now X = if pkB Q t q now X = bE then bE else if q = bUpgrade then maxB (pkB Q t q now X) now else pkB Q t q now X := by unfold pkV; rw [if_neg h, if_neg h1, if_neg h2]
end Ve
end Go.Proofs.YtmbphngmaglgmaaGreatDoor

/-
  The versions that are kept are the same ones, whoever keeps them.
-/
namespace Go.Proofs.YtmbphngmaglgmaaGreatDoor
open Go.RowKit Go.Maps
namespace Ve

theorem pw_ext {α : Type} {r : α → α → Prop} (irr : ∀ a, ¬ r a a) (asy : ∀ a b, r a b → ¬ r b a) : ∀ {E F : List α}, E.Pairwise r → F.Pairwise r → (∀ m, m ∈ E ↔ m ∈ F) → E = F
  | [], [], _, _, _ => rfl
  | [], f :: F, _, _, h => by have := (h f).2 (by simp); cases this
  | e :: E, [], _, _, h => by have := (h e).1 (by simp); cases this
  | e :: E, f :: F, hE, hF, h => by
    obtain ⟨hE1, hE2⟩ := List.pairwise_cons.1 hE
    obtain ⟨hF1, hF2⟩ := List.pairwise_cons.1 hF
    have hef : e = f := by
      rcases List.mem_cons.1 ((h e).1 (by simp)) with a | a
      · exact a
      · rcases List.mem_cons.1 ((h f).2 (by simp)) with b | b
        · exact b.symm
        · exact absurd (hE1 f b) (asy _ _ (hF1 e a))
    subst hef
    have : E = F := pw_ext irr asy hE2 hF2 fun m => by
      constructor
      · intro hm
        rcases List.mem_cons.1 ((h m).1 (List.mem_cons_of_mem _ hm)) with a | a
        · subst a; exact absurd (hE1 m hm) (irr _)
        · exact a
      · intro hm
        rcases List.mem_cons.1 ((h m).2 (List.mem_cons_of_mem _ hm)) with a | a
        · subst a; exact absurd (hF1 m hm) (irr _)
        · exact a
    rw [this]
theorem kept_one {L : List ByteArray} {n : Nat} {X Y : List ByteArray} (hX : Kept L n X) (hY : Kept L n Y) : X = Y := by
  have h : bl X = bl Y := pw_ext (r := fun s t => ordV s t < 0) (fun a h => ordV_irr h h) (fun a b h => ordV_irr h) hX.1 hY.1 fun t => by rw [hX.2, hY.2]
  exact (List.map_inj_right (fun x y e => str_ext e)).1 h
end Ve
end Go.Proofs.YtmbphngmaglgmaaGreatDoor

/-
  Two indexes of one content in memory: the same is told.
-/
namespace Go.Proofs.YtmbphngmaglgmaaGreatDoor
open Go.RowKit Go.Maps
namespace Ve

theorem isM_same {Q Q' : List Raw} (h : Q.map (fun r => r.1) = Q'.map (fun r => r.1)) (m : Bm) : idxOf (isM m) Q = idxOf (isM m) Q' := by
  have hl : Q.length = Q'.length := by have := congrArg List.length h; simpa using this
  have hf : idxE (isM m) Q = idxE (isM m) Q' := funext fun i => by
    have hi := congrArg (fun X : List Bm => X[i]?) h
    simp only [List.getElem?_map] at hi
    unfold idxE
    cases h1 : Q[i]? with
    | none =>
      rw [h1] at hi
      cases h2 : Q'[i]? with
      | none => rfl
      | some r => rw [h2] at hi; simp at hi
    | some r =>
      rw [h1] at hi
      cases h2 : Q'[i]? with
      | none => rw [h2] at hi; simp at hi
      | some r' =>
        rw [h2] at hi
        have : r.1 = r'.1 := by simpa using hi
        show (if isM m r then 1 else 0) = if isM m r' then 1 else 0
        rw [show isM m r = isM m r' by unfold isM; rw [this]]
  unfold idxOf
  rw [hf, hl]
theorem nonE_same {Q Q' : List Raw} (h : Q.map (fun r => r.1) = Q'.map (fun r => r.1)) (R : List Bm) : nonE Q R = nonE Q' R := funext fun i => by
  unfold nonE nonW
  split
  · rfl
  · rw [isM_same h]
theorem chk_same {Q Q' : List Raw} {L : List Ent} (h : Q.map (fun r => r.1) = Q'.map (fun r => r.1)) : chk Q L = chk Q' L := by
  have hr : reqE2 Q L = reqE2 Q' L := funext fun i => by
    unfold reqE2
    split
    · rfl
    · rw [nonE_same h]
  unfold chk
  rw [hr]
end Ve
end Go.Proofs.YtmbphngmaglgmaaGreatDoor

/-
  The modules and marks of an index: what is told of them is the same wherever they lie.
-/
namespace Go.Proofs.YtmbphngmaglgmaaGreatDoor
open Go.RowKit Go.Maps
namespace Ve

/-- An entry's module and mark. -/
def keyR (r : Raw) : Bm × Bool := (r.1, r.2.2.2)
def bestK (K : List (Bm × Bool)) : List (Bm × Bool) := if 0 < ((K.filter fun k => !k.2).filter fun k => !preB k.1.2).length then (K.filter fun k => !k.2).filter fun k => !preB k.1.2 else if 0 < (K.filter fun k => !k.2).length then K.filter fun k => !k.2 else K
theorem key_filter (P : Bm × Bool → Bool) (p : Raw → Bool) (h : ∀ r, p r = P (keyR r)) (Q : List Raw) : (Q.filter p).map keyR = (Q.map keyR).filter P := by
  rw [List.filter_map]
  congr 1
  apply List.filter_congr
  intro r _
  exact h r
theorem key_best (R : List Raw) : (bestR R).map keyR = bestK (R.map keyR) := by
  have e1 := key_filter (fun k => !k.2) isS (fun _ => rfl) R
  have e2 := key_filter (fun k => !preB k.1.2) isD (fun _ => rfl) (R.filter isS)
  rw [e1] at e2
  unfold bestR bestK
  rw [← e2, ← e1, List.length_map, List.length_map]
  split
  · rfl
  · split <;> rfl
theorem key_ver (R : List Raw) : verL R = (R.map keyR).map fun k => k.1.2 := by
  unfold verL
  rw [List.map_map]; rfl
theorem key_mod {Q Q' : List Raw} (h : Q.map keyR = Q'.map keyR) : Q.map (fun r => r.1) = Q'.map (fun r => r.1) := by
  have := congrArg (List.map Prod.fst) h
  rw [List.map_map, List.map_map] at this
  exact this
theorem keys_of {w : World} {v : Value} {Q : List Raw} {L : List Ent} (I : Ixs w v Q L) : Q.map keyR = L.map fun e => (e.1, e.2.2.2) := by
  apply List.ext_getElem
  · simp [I.ln]
  · intro j h1 h2
    have hq : j < Q.length := by simpa using h1
    have hl : j < L.length := by rw [← I.ln]; exact hq
    simp only [List.getElem_map]
    have h := I.ok j hq hl
    exact Prod.ext h.m h.bk
end Ve
end Go.Proofs.YtmbphngmaglgmaaGreatDoor

/-
  What is asked of query.Check and query.Pick (their contracts, by name); what is picked of two indexes of one content.
-/
namespace Go.Proofs.YtmbphngmaglgmaaGreatDoor
open Go.RowKit Go.Maps
namespace Ve

/-- Versions of an index that are short. -/
def shortQ (Q : List Raw) : Prop := ∀ r, r ∈ Q → r.1.1.size ≤ 80 ∧ r.1.2.size ≤ 80
/-- Does Pick look for versions at all? -/
def look (Q : List Raw) (L : List Ent) (q : ByteArray) : Prop := qErr q = 0 ∧ (chk Q L).1 = 0 ∧ ¬ q = bNone
def CheckC : Prop := ∀ (q : ByteArray) (A : Nat → Addr) (m : Int) (w : World), q.size ≤ 100 → Te w A m →
  Calls Tryz.prog 16 #[.string q] w fun e w' => e = .returned (errA A (qErr q)) ∧ Below w.heap.size w w'
/-- What stays so where old memory stays as it is. -/
def KeepT (T : World → Prop) : Prop := ∀ W W', T W → Below W.heap.size W W' → T W'
/-- T: what the laid variables give besides. -/
def PickC (T : World → Prop) : Prop := ∀ (Q : List Raw) (L : List Ent) (t q now : ByteArray) (v : Value) (A : Nat → Addr) (m : Int) (w : World), L.length ≤ 200 → (∀ e, e ∈ L → ShE e) → shortQ Q → t.size ≤ 100 → q.size ≤ 100 → now.size ≤ 100 → Te w A m → T w → Ixs w v Q L →
  Calls Tryz.prog 13 #[v, .string t, .string q, .string now] w fun e w' => ∃ X x, (look Q L q → Kept (verL (ofP t Q)) (verL (ofP t Q)).length X) ∧ e = .returned (.tuple #[.string (pkV Q L t q now X), x]) ∧ ErrAt w' A x (pkF Q L t q now X).1 (pkF Q L t q now X).2 ∧ Below w.heap.size w w'
theorem pk_any {Q : List Raw} {L : List Ent} {t q now : ByteArray} {X X' : List ByteArray} (h : look Q L q → X = X') : pkF Q L t q now X = pkF Q L t q now X' ∧ pkV Q L t q now X = pkV Q L t q now X' := by
  by_cases hq : qErr q ≠ 0
  · exact ⟨by rw [pkF_q hq, pkF_q hq], by rw [pkV_q hq, pkV_q hq]⟩
  by_cases hc : (chk Q L).1 ≠ 0
  · exact ⟨by rw [pkF_c hq hc, pkF_c hq hc], by rw [pkV_c hq hc, pkV_c hq hc]⟩
  by_cases hn : q = bNone
  · exact ⟨by rw [pkF_n hq hc hn, pkF_n hq hc hn], by rw [pkV_n hq hc hn, pkV_n hq hc hn]⟩
  rw [h ⟨by simpa using hq, by simpa using hc, hn⟩]
  exact ⟨rfl, rfl⟩
theorem rkV_same {Q Q' : List Raw} (h : Q.map keyR = Q'.map keyR) (t v : ByteArray) : rkV Q t v = rkV Q' t v := by
  have go : ∀ Q : List Raw, rkV Q t v = (match (Q.map keyR).find? (fun k => decide (k.1.1 = t ∧ k.1.2 = v)) with | some k => (if k.2 then 0 else if 0 < (preOf k.1.2.data.toList).length then 1 else 2) | none => 0) := fun Q => by
    unfold rkV
    rw [List.find?_map]
    show _ = (match Option.map keyR (List.find? (fun r => decide (r.1.1 = t ∧ r.1.2 = v)) Q) with | some k => _ | none => _)
    cases List.find? (fun r : Raw => decide (r.1.1 = t ∧ r.1.2 = v)) Q <;> rfl
  rw [go Q, go Q', h]
theorem lik_same {Q Q' : List Raw} (h : Q.map keyR = Q'.map keyR) (t : ByteArray) (b : Bool) (X : List ByteArray) : likG Q t b X = likG Q' t b X := by
  have e1 : likS Q t = likS Q' t := funext fun s => funext fun v => by unfold likS; rw [rkV_same h]
  have e2 : likSL Q t = likSL Q' t := funext fun s => funext fun v => by unfold likSL; rw [rkV_same h]
  unfold likG likN likNL
  rw [e1, e2]
theorem pk_same {Q Q' : List Raw} {L : List Ent} {t q now : ByteArray} {X : List ByteArray} (h : Q.map keyR = Q'.map keyR) : pkF Q L t q now X = pkF Q' L t q now X ∧ pkV Q L t q now X = pkV Q' L t q now X := by
  unfold pkF pkV pkB
  rw [chk_same (key_mod h), lik_same h]
  exact ⟨rfl, rfl⟩
theorem verO_same {Q Q' : List Raw} (h : Q.map keyR = Q'.map keyR) (t : ByteArray) : verL (ofP t Q) = verL (ofP t Q') := by
  rw [key_ver, key_ver]
  have e := fun Q => key_filter (fun k => decide (k.1.1 = t) && decide (verErr k.1.2.data.toList = 0)) (isP t) (fun _ => rfl) Q
  unfold ofP
  rw [e Q, e Q', h]
theorem headErr_le (l : List UInt8) : headErr l ≤ 10 := by
  unfold headErr
  split
  · decide
  · rcases numsErr_err (headOf l) with h | h | h <;> omega
theorem qErr_le (q : ByteArray) : qErr q ≤ 10 := by
  unfold qErr
  split
  · decide
  · split
    · rcases verErr_err (sgn q).2.data.toList with h | h | h <;> omega
    · exact headErr_le _
end Ve
end Go.Proofs.YtmbphngmaglgmaaGreatDoor

/-
  Right versions, sorted: there is such a row (plain).
-/
namespace Go.Proofs.YtmbphngmaglgmaaGreatDoor
open Go.RowKit Go.Maps
namespace Ve

theorem ordV_three {s t : List UInt8} (hs : verErr s = 0) (ht : verErr t = 0) : ordV s t < 0 ∨ s = t ∨ ordV t s < 0 := by
  rcases ordV_range s t with h | h | h
  · exact Or.inl (by omega)
  · exact Or.inr (Or.inl ((ordV_zero hs ht).1 h))
  · exact Or.inr (Or.inr (by rw [ordV_swap s t]; omega))
/-- Right versions, sorted: there is such a row. -/
theorem sorted_ex : ∀ L : List ByteArray, (∀ x, x ∈ L → verErr x.data.toList = 0) → ∃ X : List ByteArray, rises (bl X) ∧ ∀ t, t ∈ bl X ↔ t ∈ bl L
  | [], _ => ⟨[], List.Pairwise.nil, fun t => Iff.rfl⟩
  | x :: L, h => by
    obtain ⟨X, h1, h2⟩ := sorted_ex L fun y hy => h y (List.mem_cons_of_mem _ hy)
    have hx := h x (List.mem_cons_self ..)
    have hv : ∀ y, y ∈ X → verErr y.data.toList = 0 := fun y hy => by
      have := (h2 y.data.toList).1 (List.mem_map.2 ⟨y, hy, rfl⟩)
      obtain ⟨z, hz, e⟩ := List.mem_map.1 this
      rw [← e]; exact h z (List.mem_cons_of_mem _ hz)
    let lo := X.filter fun y => decide (ordV y.data.toList x.data.toList < 0)
    let hi := X.filter fun y => decide (ordV x.data.toList y.data.toList < 0)
    have hr : X.Pairwise fun a b => ordV a.data.toList b.data.toList < 0 := by
      have := h1
      unfold rises bl at this
      exact List.pairwise_map.1 this
    refine ⟨lo ++ (x :: hi), ?_, fun t => ?_⟩
    · unfold rises bl
      rw [List.pairwise_map, List.pairwise_append]
      refine ⟨List.Pairwise.filter _ hr, List.pairwise_cons.2 ⟨fun b hb => of_decide_eq_true (List.mem_filter.1 hb).2, List.Pairwise.filter _ hr⟩, fun a ha b hb => ?_⟩
      have ha2 := of_decide_eq_true (List.mem_filter.1 ha).2
      rcases List.mem_cons.1 hb with rfl | hb
      · exact ha2
      · exact ordV_trans ha2 (of_decide_eq_true (List.mem_filter.1 hb).2)
    · constructor
      · intro ht
        obtain ⟨y, hy, rfl⟩ := List.mem_map.1 ht
        rcases List.mem_append.1 hy with hy | hy
        · exact List.mem_cons_of_mem _ ((h2 _).1 (List.mem_map.2 ⟨y, (List.mem_filter.1 hy).1, rfl⟩))
        · rcases List.mem_cons.1 hy with rfl | hy
          · exact List.mem_cons_self ..
          · exact List.mem_cons_of_mem _ ((h2 _).1 (List.mem_map.2 ⟨y, (List.mem_filter.1 hy).1, rfl⟩))
      · intro ht
        rcases List.mem_cons.1 ht with rfl | ht
        · exact List.mem_map.2 ⟨x, List.mem_append_right _ (List.mem_cons_self ..), rfl⟩
        · obtain ⟨y, hy, rfl⟩ := List.mem_map.1 ((h2 t).2 ht)
          refine List.mem_map.2 ?_
          rcases ordV_three (hv y hy) hx with h3 | h3 | h3
          · exact ⟨y, List.mem_append_left _ (List.mem_filter.2 ⟨hy, decide_eq_true h3⟩), rfl⟩
          · exact ⟨x, List.mem_append_right _ (List.mem_cons_self ..), h3.symm⟩
          · exact ⟨y, List.mem_append_right _ (List.mem_cons_of_mem _ (List.mem_filter.2 ⟨hy, decide_eq_true h3⟩)), rfl⟩
theorem kept_ex {L : List ByteArray} (h : ∀ x, x ∈ L → verErr x.data.toList = 0) : ∃ X, Kept L L.length X := by
  obtain ⟨X, h1, h2⟩ := sorted_ex L h
  refine ⟨X, h1, fun t => ?_⟩
  rw [h2, List.take_length]
  refine ⟨fun ht => ⟨ht, ?_⟩, fun ht => ht.1⟩
  obtain ⟨y, hy, rfl⟩ := List.mem_map.1 ht
  exact h y hy
end Ve
end Go.Proofs.YtmbphngmaglgmaaGreatDoor

/-
  What is picked, plain: the least or the greatest of the best of those that suit is what is liked most of them.
-/
namespace Go.Proofs.YtmbphngmaglgmaaGreatDoor
open Go.RowKit Go.Maps
namespace Ve

/-- The entries whose version suits. -/
def fitR (q now : ByteArray) (Q : List Raw) : List Raw := Q.filter fun r => okQ q now r.1.2
theorem Good.filter {Q : List Raw} (g : Good Q) (P : Raw → Bool) : Good (Q.filter P) := by
  have hp : (Q.filter P).Pairwise fun r s => r.1 ≠ s.1 := List.Pairwise.sublist List.filter_sublist g.pair
  refine ⟨fun r hr => g.ver r (List.mem_filter.1 hr).1, fun r hr => g.path r (List.mem_filter.1 hr).1, fun i j hi hj e => ?_⟩
  rcases Nat.lt_trichotomy i j with h | h | h
  · exact absurd e (List.pairwise_iff_getElem.1 hp i j hi hj h)
  · exact h
  · exact absurd e.symm (List.pairwise_iff_getElem.1 hp j i hj hi h)
theorem ris_lt {X : List ByteArray} (h : rises (bl X)) {i j : Nat} (hi : i < X.length) (hj : j < X.length) (hij : i < j) : ordV X[i].data.toList X[j].data.toList < 0 := by
  have hbl : (bl X).length = X.length := bl_len X
  have h4 := List.pairwise_iff_getElem.1 h i j (by omega) (by omega) hij
  rw [bl_get hi, bl_get hj] at h4
  exact h4
/-- Those kept that suit are those kept of what suits. -/
theorem kept_fit {Q : List Raw} (g : Good Q) {t q now : ByteArray} {X : List ByteArray} (hK : Kept (verL (ofP t Q)) (verL (ofP t Q)).length X) :
    Kept (verL (ofP t (fitR q now Q))) (verL (ofP t (fitR q now Q))).length (someQ q now X) := by
  have g' : Good (fitR q now Q) := g.filter _
  refine ⟨?_, fun s => ?_⟩
  · have := hK.1
    unfold rises bl at this ⊢
    exact List.pairwise_map.2 (List.Pairwise.filter _ (List.pairwise_map.1 this))
  · rw [List.take_length]
    constructor
    · intro hs
      obtain ⟨x, hx, rfl⟩ := List.mem_map.1 hs
      obtain ⟨hx1, hx2⟩ := List.mem_filter.1 hx
      obtain ⟨r, hr, e⟩ := kept_has g ofP_sub hK hx1
      have h1 := g.ofP_mem.1 hr
      have hr' : r ∈ ofP t (fitR q now Q) := g'.ofP_mem.2 ⟨List.mem_filter.2 ⟨h1.1, by rw [e]; exact hx2⟩, h1.2⟩
      refine ⟨List.mem_map.2 ⟨x, List.mem_map.2 ⟨r, hr', e⟩, rfl⟩, ?_⟩
      rw [← e]; exact g.ver r h1.1
    · rintro ⟨hs, _⟩
      obtain ⟨x, hx, rfl⟩ := List.mem_map.1 hs
      obtain ⟨r, hr, rfl⟩ := List.mem_map.1 hx
      have h1 := g'.ofP_mem.1 hr
      have h2 := List.mem_filter.1 h1.1
      have h3 := kept_in g ofP_sub hK (g.ofP_mem.2 ⟨h2.1, h1.2⟩)
      exact List.mem_map.2 ⟨r.1.2, List.mem_filter.2 ⟨h3, h2.2⟩, rfl⟩
theorem rkV_fit {Q : List Raw} (g : Good Q) {t q now : ByteArray} {X : List ByteArray} (hK : Kept (verL (ofP t Q)) (verL (ofP t Q)).length X) {v : ByteArray} (hv : v ∈ someQ q now X) : rkV Q t v = rkV (fitR q now Q) t v := by
  have g' : Good (fitR q now Q) := g.filter _
  obtain ⟨hx1, hx2⟩ := List.mem_filter.1 hv
  obtain ⟨r, hr, rfl⟩ := kept_has g ofP_sub hK hx1
  have h1 := g.ofP_mem.1 hr
  have h2 := rkV_at g h1.1
  have h3 := rkV_at g' (show r ∈ fitR q now Q from List.mem_filter.2 ⟨h1.1, hx2⟩)
  rw [h1.2] at h2 h3
  rw [h2, h3]
theorem foldl_on {α β : Type} {f f' : α → β → α} : ∀ (l : List β) (s : α), (∀ v, v ∈ l → ∀ s, f s v = f' s v) → l.foldl f s = l.foldl f' s
  | [], _, _ => rfl
  | x :: l, s, h => by
    rw [List.foldl_cons, List.foldl_cons, h x (List.mem_cons_self ..)]
    exact foldl_on l _ fun v hv => h v (List.mem_cons_of_mem _ hv)
theorem lik_fit {Q : List Raw} (g : Good Q) {t q now : ByteArray} {X : List ByteArray} (hK : Kept (verL (ofP t Q)) (verL (ofP t Q)).length X) (b : Bool) : likG Q t b (someQ q now X) = likG (fitR q now Q) t b (someQ q now X) := by
  unfold likG likN likNL
  rw [List.take_length]
  rw [foldl_on (f := likS Q t) (f' := likS (fitR q now Q) t) _ _ fun v hv s => by unfold likS; rw [rkV_fit g hK hv]]
  rw [foldl_on (f := likSL Q t) (f' := likSL (fitR q now Q) t) _ _ fun v hv s => by unfold likSL; rw [rkV_fit g hK hv]]
/-- The first of a row of texts, or none. -/
def headT (X : List ByteArray) : ByteArray := X.head?.getD ⟨#[]⟩
theorem headT_get {X : List ByteArray} (h : 0 < X.length) : headT X = X[0] := by
  cases X with
  | nil => simp at h
  | cons x r => rfl
theorem kept_void {Q : List Raw} (g : Good Q) {t : ByteArray} {X Y : List ByteArray} (hK : Kept (verL (ofP t Q)) (verL (ofP t Q)).length X) (hY : Kept (verL (bestR (ofP t Q))) (verL (bestR (ofP t Q))).length Y) : X = [] ↔ Y = [] := by
  constructor
  · intro hX
    subst hX
    have hne : ofP t Q = [] := by
      rw [List.eq_nil_iff_forall_not_mem]
      intro r hr
      have := kept_in g ofP_sub hK hr
      cases this
    have hb : bestR (ofP t Q) = [] := by rw [hne]; rfl
    rw [List.eq_nil_iff_forall_not_mem]
    intro y hy
    obtain ⟨r, hr, _⟩ := kept_has g (R := bestR (ofP t Q)) (fun r hr => ofP_sub r (bestR_sub hr)) hY hy
    rw [hb] at hr; cases hr
  · intro hY0
    subst hY0
    rw [List.eq_nil_iff_forall_not_mem]
    intro x hx
    obtain ⟨r, hr, _⟩ := kept_has g ofP_sub hK hx
    obtain ⟨s, hs⟩ := List.exists_mem_of_ne_nil _ (bestR_ne (List.ne_nil_of_mem hr))
    have := kept_in g (R := bestR (ofP t Q)) (fun r hr => ofP_sub r (bestR_sub hr)) hY hs
    cases this
/-- A version of the most liked, as one of those kept of the best. -/
theorem most_in {Q : List Raw} (g : Good Q) {t : ByteArray} {X Y : List ByteArray} (hK : Kept (verL (ofP t Q)) (verL (ofP t Q)).length X) (hY : Kept (verL (bestR (ofP t Q))) (verL (bestR (ofP t Q))).length Y) {j : Nat} (hj : j < X.length) :
    (∀ k (hk : k < X.length), rkV Q t X[k] ≤ rkV Q t X[j]) ↔ X[j] ∈ Y := by
  have hrank : ∀ s, s ∈ ofP t Q → rkV Q t s.1.2 = rnk s := fun s hs => by
    have h := g.ofP_mem.1 hs
    rw [← h.2]; exact rkV_at g h.1
  have hsub : ∀ r, r ∈ bestR (ofP t Q) → r ∈ Q := fun r hr => ofP_sub r (bestR_sub hr)
  obtain ⟨r, hr, er⟩ := kept_has g ofP_sub hK (List.getElem_mem hj)
  have hb : r ∈ bestR (ofP t Q) ↔ ∀ k (hk : k < X.length), rkV Q t X[k] ≤ rkV Q t X[j] := by
    rw [rnk_best g ofP_sub hr]
    constructor
    · intro h k hk
      obtain ⟨s, hs, es⟩ := kept_has g ofP_sub hK (List.getElem_mem hk)
      have := h s hs
      rw [← hrank s hs, ← hrank r hr, es, er] at this
      exact this
    · intro h s hs
      obtain ⟨k, hk, e⟩ := List.getElem_of_mem (kept_in g ofP_sub hK hs)
      have := h k hk
      rw [e, hrank s hs, ← er, hrank r hr] at this
      exact this
  rw [← hb]
  constructor
  · intro h
    rw [← er]; exact kept_in g hsub hY h
  · intro h
    obtain ⟨s, hs, es⟩ := kept_has g hsub hY h
    have h1 := g.ofP_mem.1 (bestR_sub hs)
    have h2 := g.ofP_mem.1 hr
    rw [g.same h2.1 h1.1 (Prod.ext (h2.2.trans h1.2.symm) (er.trans es.symm))]
    exact hs
theorem best_mem {Q : List Raw} (g : Good Q) {t : ByteArray} {X Y : List ByteArray} (hK : Kept (verL (ofP t Q)) (verL (ofP t Q)).length X) (hY : Kept (verL (bestR (ofP t Q))) (verL (bestR (ofP t Q))).length Y) {y : ByteArray} (hy : y ∈ Y) : y ∈ X := by
  obtain ⟨s, hs, rfl⟩ := kept_has g (R := bestR (ofP t Q)) (fun r hr => ofP_sub r (bestR_sub hr)) hY hy
  exact kept_in g ofP_sub hK (bestR_sub hs)
theorem lik_top {Q : List Raw} (g : Good Q) {t : ByteArray} {X Y : List ByteArray} (hK : Kept (verL (ofP t Q)) (verL (ofP t Q)).length X) (hY : Kept (verL (bestR (ofP t Q))) (verL (bestR (ofP t Q))).length Y) : (likN Q t X X.length).1 = lastT Y := by
  by_cases h0 : X = []
  · rw [(kept_void g hK hY).1 h0, h0]; rfl
  · have hX := List.length_pos_iff.2 h0
    have hYp : 0 < Y.length := List.length_pos_iff.2 fun h => h0 ((kept_void g hK hY).2 h)
    obtain ⟨j, hj, _, hs, h1, h2⟩ := (likN_is (Q := Q) (t := t) (X := X) X.length (Nat.le_refl _)).p hX
    rw [hs, lastT_get hYp]
    obtain ⟨i, hi, ei⟩ := List.getElem_of_mem ((most_in g hK hY hj).1 fun k hk => h1 k hk hk)
    obtain ⟨k, hk, ek⟩ := List.getElem_of_mem (best_mem g hK hY (List.getElem_mem (l := Y) (n := Y.length - 1) (by omega)))
    have hm := (most_in g hK hY hk).2 (by rw [ek]; exact List.getElem_mem _)
    have hkj : ¬ j < k := fun h => by have a := h2 k hk hk h; have b := hm j hj; omega
    show X[j] = Y[Y.length - 1]
    by_cases hil : i = Y.length - 1
    · subst hil; exact ei.symm
    · have o1 := ris_lt hY.1 hi (show Y.length - 1 < Y.length by omega) (by omega)
      rw [ei, ← ek] at o1
      by_cases hkj2 : k = j
      · subst hkj2; exact ek
      · exact absurd (ris_lt hK.1 hk hj (by omega)) (ordV_irr o1)
theorem lik_low {Q : List Raw} (g : Good Q) {t : ByteArray} {X Y : List ByteArray} (hK : Kept (verL (ofP t Q)) (verL (ofP t Q)).length X) (hY : Kept (verL (bestR (ofP t Q))) (verL (bestR (ofP t Q))).length Y) : (likNL Q t X X.length).1 = headT Y := by
  by_cases h0 : X = []
  · rw [(kept_void g hK hY).1 h0, h0]; rfl
  · have hX := List.length_pos_iff.2 h0
    have hYp : 0 < Y.length := List.length_pos_iff.2 fun h => h0 ((kept_void g hK hY).2 h)
    obtain ⟨j, hj, _, hs, h1, h2⟩ := (likNL_is (Q := Q) (t := t) (X := X) X.length (Nat.le_refl _)).p hX
    rw [hs, headT_get hYp]
    obtain ⟨i, hi, ei⟩ := List.getElem_of_mem ((most_in g hK hY hj).1 fun k hk => h1 k hk hk)
    obtain ⟨k, hk, ek⟩ := List.getElem_of_mem (best_mem g hK hY (List.getElem_mem (l := Y) (n := 0) hYp))
    have hm := (most_in g hK hY hk).2 (by rw [ek]; exact List.getElem_mem _)
    have hkj : ¬ k < j := fun h => by have a := h2 k hk h; have b := hm j hj; omega
    show X[j] = Y[0]
    by_cases hil : i = 0
    · subst hil; exact ei.symm
    · have o1 := ris_lt hY.1 hYp hi (by omega)
      rw [ei, ← ek] at o1
      by_cases hkj2 : k = j
      · subst hkj2; exact ek
      · exact absurd (ris_lt hK.1 hj hk (by omega)) (ordV_irr o1)
/-- What is picked, by what the program keeps. -/
theorem pkB_is {Q : List Raw} (g : Good Q) {t q now : ByteArray} {X Y : List ByteArray} (hK : Kept (verL (ofP t Q)) (verL (ofP t Q)).length X) (hY : Kept (verL (bestR (ofP t (fitR q now Q)))) (verL (bestR (ofP t (fitR q now Q)))).length Y) :
    pkB Q t q now X = if leastQ q then headT Y else lastT Y := by
  have g' : Good (fitR q now Q) := g.filter _
  unfold pkB
  rw [lik_fit g hK]
  have hK' := kept_fit (q := q) (now := now) g hK
  unfold likG
  rw [lik_top g' hK' hY, lik_low g' hK' hY]
theorem ver_some {Q : List Raw} {t : ByteArray} {Y : List ByteArray} (hY : Kept (verL (bestR (ofP t Q))) (verL (bestR (ofP t Q))).length Y) {y : ByteArray} (hy : y ∈ Y) : verErr y.data.toList = 0 := by
  have := (hY.2 y.data.toList).1 (List.mem_map.2 ⟨y, hy, rfl⟩)
  exact this.2
theorem ver_ne {y : ByteArray} (h : verErr y.data.toList = 0) : ¬ y = bE := fun e => by subst e; exact absurd h (by decide)
theorem pkB_none {Q : List Raw} (g : Good Q) {t q now : ByteArray} {X : List ByteArray} (hK : Kept (verL (ofP t Q)) (verL (ofP t Q)).length X) (hY : Kept (verL (bestR (ofP t (fitR q now Q)))) (verL (bestR (ofP t (fitR q now Q)))).length []) : pkB Q t q now X = bE := by
  rw [pkB_is g hK hY]
  split <;> rfl
theorem pkB_some {Q : List Raw} (g : Good Q) {t q now : ByteArray} {X Y : List ByteArray} (hK : Kept (verL (ofP t Q)) (verL (ofP t Q)).length X) (hY : Kept (verL (bestR (ofP t (fitR q now Q)))) (verL (bestR (ofP t (fitR q now Q)))).length Y) (h : 0 < Y.length) : ¬ pkB Q t q now X = bE := by
  rw [pkB_is g hK hY]
  split
  · rw [headT_get h]; exact ver_ne (ver_some hY (List.getElem_mem _))
  · rw [lastT_get h]; exact ver_ne (ver_some hY (List.getElem_mem _))
/-- The sign at a query's head. -/
theorem least_beg (q : ByteArray) : begB q sGt = leastQ q := by
  have key : ∀ l : List UInt8, (Lib.hasPrefix l [62] = true → Lib.hasPrefix l [60, 61] = false ∧ Lib.hasPrefix l [60] = false) ∧ (Lib.hasPrefix l [62] = false → Lib.hasPrefix l [62, 61] = false) := fun l => by
    unfold Lib.hasPrefix
    cases l with
    | nil => exact ⟨fun h => absurd h (by decide), fun _ => rfl⟩
    | cons b r =>
      simp only [List.isPrefixOf, Bool.and_true]
      constructor
      · intro h
        have : (62 : UInt8) = b := by simpa using h
        subst this
        exact ⟨rfl, rfl⟩
      · intro h
        rw [h]; rfl
  obtain ⟨k1, k2⟩ := key q.data.toList
  unfold leastQ sgn
  unfold begB
  have e1 : sLe.data.toList = [60, 61] := rfl
  have e2 : sGe.data.toList = [62, 61] := rfl
  have e3 : sLt.data.toList = [60] := rfl
  have e4 : sGt.data.toList = [62] := rfl
  rw [e1, e2, e3, e4]
  cases h : Lib.hasPrefix q.data.toList [62]
  · rw [k2 h]
    cases Lib.hasPrefix q.data.toList [60, 61] <;> cases Lib.hasPrefix q.data.toList [60] <;> simp [sg_ne1, sg_ne3, sg_ne5.symm, sg_ne8, sg_ne10.symm, sg_ne7.symm]
  · rw [(k1 h).1, (k1 h).2]
    cases Lib.hasPrefix q.data.toList [62, 61] <;> simp
theorem sgn_word {q : ByteArray} (h : isWd q = true) : sgn q = (bE, q) := by
  unfold isWd at h
  simp only [Bool.or_eq_true, decide_eq_true_eq] at h
  rcases h with ((h | h) | h) | h <;> subst h <;> rfl
/-! Beginnings. -/
theorem cut_more (a b : List UInt8) : (cutAt 46 a).length ≤ (cutAt 46 (a ++ b)).length := by
  induction a with
  | nil => exact List.length_pos_iff.2 (cutAt_ne 46 _)
  | cons c r ih =>
    rw [List.cons_append]
    unfold cutAt
    split
    · simp only [List.length_cons]; omega
    · rw [ahead_len _ _ (cutAt_ne 46 _), ahead_len _ _ (cutAt_ne 46 _)]; exact ih
theorem ver_core {l : List UInt8} (h : verErr l = 0) : marked l = true ∧ (coreOf l).length = 3 ∧ numsErr (coreOf l) = 0 := by
  unfold verErr at h
  by_cases hc : marked l = false ∨ (coreOf l).length ≠ 3
  · rw [if_pos hc] at h; omega
  rw [if_neg hc] at h
  have hm : marked l = true := by
    cases e : marked l
    · exact absurd (Or.inl e) hc
    · rfl
  have h3 : (coreOf l).length = 3 := by
    rcases Nat.decEq (coreOf l).length 3 with h | h
    · exact absurd (Or.inr h) hc
    · exact h
  refine ⟨hm, h3, ?_⟩
  cases e : hasPre l
  · rw [e] at h; exact h
  · rw [e] at h
    have h' : worse (numsErr (coreOf l)) (pre (preOf l)) = 0 := h
    unfold worse at h'
    by_cases q : numsErr (coreOf l) = 1 ∨ pre (preOf l) = 0
    · rw [if_pos q] at h'; exact h'
    · rw [if_neg q] at h'; exact absurd (Or.inr h') q
/-- A version is no beginning of another one. -/
theorem ver_nohead {l : List UInt8} (h : verErr l = 0) : headOk l = false := by
  obtain ⟨_, h3, _⟩ := ver_core h
  have hle : (coreOf l).length ≤ (headOf l).length := by
    unfold coreOf headOf
    cases e : (one 45 (restOf l)).2.2
    · rw [one_none e]; exact Nat.le_refl _
    · conv => rhs; rw [one_back e]
      exact cut_more _ _
  unfold headOk
  rw [decide_eq_false (show ¬ (headOf l).length ≤ 2 by omega), Bool.and_false, Bool.and_false]
theorem begin_suit {q v : ByteArray} (hs : (sgn q).1 = bE) (hv : verErr v.data.toList = 0) : beginB v q = suitB q v := by
  by_cases h : verErr q.data.toList = 0
  · rw [suit_ver hs h]
    unfold beginB
    rw [decide_eq_true hv, ver_nohead h, Bool.true_and, Bool.false_and, Bool.or_false]
    exact decide_eq_decide.2 ⟨fun e => e.symm, fun e => e.symm⟩
  · rw [suit_beg hs h]
/-- What a patch's versions begin with. -/
theorem begin_patch {now v hd : ByteArray} (hn : verErr now.data.toList = 0) (hv : verErr v.data.toList = 0)
    (hh : hd.data.toList = 118 :: (Lib.itoa (nAt now.data.toList 0) ++ 46 :: Lib.itoa (nAt now.data.toList 1))) :
    beginB v hd = (decide (nAt v.data.toList 0 = nAt now.data.toList 0) && decide (nAt v.data.toList 1 = nAt now.data.toList 1)) ∧ (0 ≤ nAt now.data.toList 0 ∧ nAt now.data.toList 0 ≤ 999999) ∧ (0 ≤ nAt now.data.toList 1 ∧ nAt now.data.toList 1 ≤ 999999) := by
  obtain ⟨_, h3, hne⟩ := ver_core hn
  generalize now.data.toList = l at *
  obtain ⟨p0, p1, p2, hco⟩ : ∃ p0 p1 p2, coreOf l = [p0, p1, p2] := by
    match e : coreOf l, h3 with
    | [a, b, c], _ => exact ⟨a, b, c, rfl⟩
  have hz := ncode0 hne
  rw [hco] at hz
  have n0 : nAt l 0 = (num p0).1 := by simp [nAt, numsOf, hco]
  have n1 : nAt l 1 = (num p1).1 := by simp [nAt, numsOf, hco]
  have z0 := hz p0 (by simp)
  have z1 := hz p1 (by simp)
  obtain ⟨i0, l0, u0⟩ := itoa_num p0 z0
  obtain ⟨i1, l1, u1⟩ := itoa_num p1 z1
  rw [n0, n1] at hh ⊢
  have hhd : headOf hd.data.toList = [p0, p1] := by
    unfold headOf
    rw [hh]
    show cutAt 46 (Lib.itoa (num p0).1 ++ 46 :: Lib.itoa (num p1).1) = _
    rw [cut_step 46 _ _ (itoa_no _ l0 46 (by decide)), cut_last 46 _ (itoa_no _ l1 46 (by decide)), i0, i1]
  have hmk : marked hd.data.toList = true := by rw [hh]; rfl
  have hnum : numsErr [p0, p1] = 0 := by
    show worse (worse 0 (num p0).2) (num p1).2 = 0
    rw [z0, z1]; rfl
  have hok : headOk hd.data.toList = true := by
    unfold headOk
    rw [hmk, hhd, hnum]; rfl
  have hne2 : ¬ hd = v := fun e => by
    have := ver_nohead hv
    rw [← e, hok] at this; cases this
  refine ⟨?_, ⟨l0, u0⟩, l1, u1⟩
  unfold beginB
  rw [decide_eq_true hv, decide_eq_false hne2, hok, hhd, Bool.true_and, Bool.false_or, Bool.true_and]
  show ([(num p0).1, (num p1).1] == [nAt v.data.toList 0, nAt v.data.toList 1]) = _
  rw [Bool.eq_iff_iff]
  simp only [beq_iff_eq, List.cons.injEq, and_true, Bool.and_eq_true, decide_eq_true_eq]
  exact ⟨fun h => ⟨h.1.symm, h.2.symm⟩, fun h => ⟨h.1.symm, h.2.symm⟩⟩
/-- The errors of a query's check. -/
theorem qErr_err (q : ByteArray) : qErr q = 0 ∨ qErr q = 1 ∨ qErr q = 2 := by
  unfold qErr
  split
  · exact Or.inl rfl
  · split
    · exact verErr_err _
    · unfold headErr
      split
      · exact Or.inr (Or.inl rfl)
      · exact numsErr_err _
end Ve
end Go.Proofs.YtmbphngmaglgmaaGreatDoor

/-
  What isWord, cutSign and Check of package query answer: query.Check is as it is asked to be.
-/
namespace Go.Proofs.YtmbphngmaglgmaaGreatDoor
open Go.RowKit
namespace Ve

theorem pword_any (q : ByteArray) (w : World) : Calls Tryz.prog 40 #[.string q] w fun e w' => e = .returned (.bool (isWd q)) ∧ w' = w := by
  have HZ := hid (show isWd q = ((q.toList == [108, 97, 116, 101, 115, 116]) || (q.toList == [117, 112, 103, 114, 97, 100, 101]) || (q.toList == [112, 97, 116, 99, 104]) || (q.toList == [110, 111, 110, 101])) by
    unfold isWd
    rw [eqW, eqW, eqW, eqW]
    rfl)
  generalize isWd q = z at *
  cases h1 : (q.toList == [108, 97, 116, 101, 115, 116])
  · cases h2 : (q.toList == [117, 112, 103, 114, 97, 100, 101])
    · cases h3 : (q.toList == [112, 97, 116, 99, 104])
      · cases h4 : (q.toList == [110, 111, 110, 101])
        · rw [h1, h2, h3, h4] at HZ
          go_enter Tryz.func40, Tryz.ntmps40
          go_wp2_with fail
          go_ret
          exact ⟨ret_bool HZ.out.symm, rfl⟩
        · rw [h1, h2, h3, h4] at HZ
          go_enter Tryz.func40, Tryz.ntmps40
          go_wp2_with fail
          go_ret
          exact ⟨ret_bool HZ.out.symm, rfl⟩
      · rw [h1, h2, h3] at HZ
        go_enter Tryz.func40, Tryz.ntmps40
        go_wp2_with fail
        go_ret
        exact ⟨ret_bool HZ.out.symm, rfl⟩
    · rw [h1, h2] at HZ
      go_enter Tryz.func40, Tryz.ntmps40
      go_wp2_with fail
      go_ret
      exact ⟨ret_bool HZ.out.symm, rfl⟩
  · rw [h1] at HZ
    go_enter Tryz.func40, Tryz.ntmps40
    go_wp2_with fail
    go_ret
    exact ⟨ret_bool HZ.out.symm, rfl⟩
theorem cutP_sign (q h : ByteArray) (w : World) : Calls Tryz.prog 71 #[.string q, .string h] w fun e w' => ∃ R, e = .returned (.tuple #[.string R, .bool (begB q h)]) ∧ (begB q h = true → R = q.extract h.size q.size) ∧ w' = w :=
  (Tryz.strings_CutPrefix q h w).mono fun e w' ⟨h1, h2⟩ => ⟨_, h1, fun hb => str_ext (by
    unfold Lib.trimPrefix
    rw [if_pos (show Lib.hasPrefix q.data.toList h.data.toList = true from hb), extract_list]
    have e1 : h.data.toList.length = h.size := len_eq h
    have e2 : q.data.toList.length = q.size := len_eq q
    rw [e1, List.take_of_length_le (by rw [List.length_drop]; omega)]), h2⟩
set_option maxRecDepth 100000 in
set_option maxHeartbeats 2000000 in
/-- query.cutSign. -/
theorem cs_any (q : ByteArray) (w : World) : Calls Tryz.prog 41 #[.string q] w fun e w' => e = .returned (.tuple #[.string (sgn q).1, .string (sgn q).2]) ∧ Below w.heap.size w w' := by
  have HB0 := hid ((Below.refl w.heap.size w).alloc (Nat.le_refl _) (.cells #[.string ⟨#[60, 61]⟩, .string ⟨#[62, 61]⟩, .string ⟨#[60]⟩, .string ⟨#[62]⟩] 9))
  have hN := heap_alloc_new w (.cells #[.string ⟨#[60, 61]⟩, .string ⟨#[62, 61]⟩, .string ⟨#[60]⟩, .string ⟨#[62]⟩] 9)
  have k0 : (w.alloc (.cells #[.string ⟨#[60, 61]⟩, .string ⟨#[62, 61]⟩, .string ⟨#[60]⟩, .string ⟨#[62]⟩] 9)).cell? ⟨w.heap.size, 0, none⟩ = some (.string ⟨#[60, 61]⟩) := by rw [Lib.cell_of_heap hN]; rfl
  have k1 : (w.alloc (.cells #[.string ⟨#[60, 61]⟩, .string ⟨#[62, 61]⟩, .string ⟨#[60]⟩, .string ⟨#[62]⟩] 9)).cell? ⟨w.heap.size, 1, none⟩ = some (.string ⟨#[62, 61]⟩) := by rw [Lib.cell_of_heap hN]; rfl
  have k2 : (w.alloc (.cells #[.string ⟨#[60, 61]⟩, .string ⟨#[62, 61]⟩, .string ⟨#[60]⟩, .string ⟨#[62]⟩] 9)).cell? ⟨w.heap.size, 2, none⟩ = some (.string ⟨#[60]⟩) := by rw [Lib.cell_of_heap hN]; rfl
  have k3 : (w.alloc (.cells #[.string ⟨#[60, 61]⟩, .string ⟨#[62, 61]⟩, .string ⟨#[60]⟩, .string ⟨#[62]⟩] 9)).cell? ⟨w.heap.size, 3, none⟩ = some (.string ⟨#[62]⟩) := by rw [Lib.cell_of_heap hN]; rfl
  have HBG := hid (fun h W => cutP_sign q h W)
  clear hN
  go_enter Tryz.func41, Tryz.ntmps41
  go_wp2_with fail
  generalize w.alloc (.cells #[.string ⟨#[60, 61]⟩, .string ⟨#[62, 61]⟩, .string ⟨#[60]⟩, .string ⟨#[62]⟩] 9) = w1 at *
  go_loopw [10] (fun iv wr => ∃ k : Nat, k ≤ 4 ∧ iv = .int .i64 k ∧ Hid (∀ j, j < k → begB q (sgAt j) = false) ∧ wr = w1) (fun iv _ => 4 - (intOf iv).toNat)
  case atStart => exact ⟨0, by decide, rfl, hid (fun j hj => absurd hj (Nat.not_lt_zero _)), rfl⟩
  case round =>
    obtain ⟨k, hk, rfl, HA, rfl⟩ := hrel
    rcases (by omega : k = 0 ∨ k = 1 ∨ k = 2 ∨ k = 3 ∨ k = 4) with rfl | rfl | rfl | rfl | rfl
    · have HC := hid (HBG.out ⟨#[60, 61]⟩ wr)
      cases hb : begB q ⟨#[60, 61]⟩
      · rw [hb] at HC
        have HA2 := hid (show ∀ j, j < 1 → begB q (sgAt j) = false from fun j hj => by
          rcases Nat.lt_or_ge j 0 with h | h
          · exact HA.out j h
          · have : j = 0 := by omega
            subst this; exact hb)
        clear hb
        go_wp2_with fail
        refine HC.out.mono ?_
        rintro e w2 ⟨R, rfl, -, rfl⟩
        go_wp2_with fail
        go_roundw
        case rel => exact ⟨1, by decide, rfl, HA2, by first | rfl | trivial⟩
        case measure => simp [intOf]
      · rw [hb] at HC
        have HS := hid (sgn_0  hb)
        clear hb
        go_wp2_with fail
        refine HC.out.mono ?_
        rintro e w2 ⟨R, rfl, hR, rfl⟩
        have HR := hid (hR (by first | rfl | trivial))
        clear hR
        go_wp2_with fail
        go_ret2
        exact ⟨by rw [HS.out, HR.out]; rfl, HB0.out⟩
    · have HC := hid (HBG.out ⟨#[62, 61]⟩ wr)
      cases hb : begB q ⟨#[62, 61]⟩
      · rw [hb] at HC
        have HA2 := hid (show ∀ j, j < 2 → begB q (sgAt j) = false from fun j hj => by
          rcases Nat.lt_or_ge j 1 with h | h
          · exact HA.out j h
          · have : j = 1 := by omega
            subst this; exact hb)
        clear hb
        go_wp2_with fail
        refine HC.out.mono ?_
        rintro e w2 ⟨R, rfl, -, rfl⟩
        go_wp2_with fail
        go_roundw
        case rel => exact ⟨2, by decide, rfl, HA2, by first | rfl | trivial⟩
        case measure => simp [intOf]
      · rw [hb] at HC
        have HS := hid (sgn_1 (HA.out 0 (by decide)) hb)
        clear hb
        go_wp2_with fail
        refine HC.out.mono ?_
        rintro e w2 ⟨R, rfl, hR, rfl⟩
        have HR := hid (hR (by first | rfl | trivial))
        clear hR
        go_wp2_with fail
        go_ret2
        exact ⟨by rw [HS.out, HR.out]; rfl, HB0.out⟩
    · have HC := hid (HBG.out ⟨#[60]⟩ wr)
      cases hb : begB q ⟨#[60]⟩
      · rw [hb] at HC
        have HA2 := hid (show ∀ j, j < 3 → begB q (sgAt j) = false from fun j hj => by
          rcases Nat.lt_or_ge j 2 with h | h
          · exact HA.out j h
          · have : j = 2 := by omega
            subst this; exact hb)
        clear hb
        go_wp2_with fail
        refine HC.out.mono ?_
        rintro e w2 ⟨R, rfl, -, rfl⟩
        go_wp2_with fail
        go_roundw
        case rel => exact ⟨3, by decide, rfl, HA2, by first | rfl | trivial⟩
        case measure => simp [intOf]
      · rw [hb] at HC
        have HS := hid (sgn_2 (HA.out 0 (by decide)) (HA.out 1 (by decide)) hb)
        clear hb
        go_wp2_with fail
        refine HC.out.mono ?_
        rintro e w2 ⟨R, rfl, hR, rfl⟩
        have HR := hid (hR (by first | rfl | trivial))
        clear hR
        go_wp2_with fail
        go_ret2
        exact ⟨by rw [HS.out, HR.out]; rfl, HB0.out⟩
    · have HC := hid (HBG.out ⟨#[62]⟩ wr)
      cases hb : begB q ⟨#[62]⟩
      · rw [hb] at HC
        have HA2 := hid (show ∀ j, j < 4 → begB q (sgAt j) = false from fun j hj => by
          rcases Nat.lt_or_ge j 3 with h | h
          · exact HA.out j h
          · have : j = 3 := by omega
            subst this; exact hb)
        clear hb
        go_wp2_with fail
        refine HC.out.mono ?_
        rintro e w2 ⟨R, rfl, -, rfl⟩
        go_wp2_with fail
        go_roundw
        case rel => exact ⟨4, by decide, rfl, HA2, by first | rfl | trivial⟩
        case measure => simp [intOf]
      · rw [hb] at HC
        have HS := hid (sgn_3 (HA.out 0 (by decide)) (HA.out 1 (by decide)) (HA.out 2 (by decide)) hb)
        clear hb
        go_wp2_with fail
        refine HC.out.mono ?_
        rintro e w2 ⟨R, rfl, hR, rfl⟩
        have HR := hid (hR (by first | rfl | trivial))
        clear hR
        go_wp2_with fail
        go_ret2
        exact ⟨by rw [HS.out, HR.out]; rfl, HB0.out⟩
    · have HS := hid (sgn_4 (HA.out 0 (by decide)) (HA.out 1 (by decide)) (HA.out 2 (by decide)) (HA.out 3 (by decide)))
      go_wp2_with fail
      go_ret2
      exact ⟨by rw [HS.out]; rfl, HB0.out⟩
theorem no_sign {q : ByteArray} (h : (sgn q).1 = bE) : (sgn q).2 = q := by
  rcases sgn_kind q with e | e | e | e | e
  · rw [e] at h; exact absurd h sg_ne4
  · rw [e] at h; exact absurd h sg_ne7
  · rw [e] at h; exact absurd h sg_ne9
  · rw [e] at h; exact absurd h sg_ne10
  · exact e.2
theorem bE_list (s : ByteArray) : (s.toList == ([] : List UInt8)) = decide (s = bE) := by
  rw [eqW]; rfl
set_option maxRecDepth 100000 in
set_option maxHeartbeats 2000000 in
/-- query.Check: what is asked of it. -/
theorem check_c : CheckC := fun q A m w hq S => by
  have HW := hid (pword_any q w)
  have HCS := hid (cs_any q w)
  have HZ := hid (sgn_size q)
  have HV := hid (fun W (h : Below w.heap.size w W) => vcheck_is (sgn q).2 (A 0) (A 1) m W (by have := HZ.out; omega) (S.below h).vs)
  have HH := hid (fun W (h : Below w.heap.size w W) => chead_any q (A 0) (A 1) m W (by omega) (S.below h).vs)
  have HG := hid (fun W (h : Below w.heap.size w W) => (S.below h).vs)
  obtain ⟨i9, hi9, hcmp9⟩ := Option.map_eq_some_iff.1 compS
  obtain ⟨j9, hj9, hjs9⟩ := Option.map_eq_some_iff.1 sizeS
  have HQ0 := hid (fun W => run_eql_iface_nil_left (P := Tryz.prog) W 254 (.pointer (some (A 0))) Tryz.underlying27)
  have HQ1 := hid (fun W => run_eql_iface_ptr_same (P := Tryz.prog) W (A 0) Tryz.underlying27 Tryz.underlying254 hi9 hcmp9 hj9)
  have HQ2 := hid (fun W c2 t2 c1 t1 (e2 : W.heap[(A 1).block]? = some (.cells c2 t2 (0, 0))) (e1 : W.heap[(A 0).block]? = some (.cells c1 t1 (0, 0))) => run_eql_iface_ptr_other (P := Tryz.prog) W Tryz.underlying27 Tryz.underlying254 hi9 hcmp9 hj9 (by rw [hjs9]; decide) S.vs.ne.symm e2 e1)
  clear S hi9 hcmp9 hj9 hjs9
  cases hwd : isWd q
  · by_cases hs : (sgn q).1 = bE
    · have hq2 := no_sign hs
      have HE := hid (fun h3 => qErr_head hwd hs h3)
      have HE2 := hid (fun h3 => qErr_ver hwd (Or.inr h3))
      rw [hwd] at HW
      rw [hs, hq2] at HCS
      rw [hq2] at HV HE HE2
      have hbe : (bE.toList == ([] : List UInt8)) = true := by rw [bE_list]; exact decide_eq_true rfl
      have HVE := hid (verErr_err q.data.toList)
      have HHE := hid (headErr_err q.data.toList)
      clear hwd hs hq2
      rcases HVE.out with hv | hv | hv
      · have HQ := hid (HE2.out (by rw [hv]; decide))
        rw [hv, errV0] at HV
        rw [hv] at HQ
        go_enter Tryz.func16, Tryz.ntmps16
        go_wp2_with fail
        refine HW.out.mono ?_
        rintro e w1 ⟨rfl, rfl⟩
        go_wp2_with fail
        refine HCS.out.mono ?_
        rintro e w2 ⟨rfl, hb⟩
        have HB := hid hb
        clear hb
        go_wp2_with fail
        refine (HV.out _ HB.out).mono ?_
        rintro e w3 ⟨rfl, hb⟩
        have HB2 := hid (HB.out.trans (hb.mono HB.out.size))
        have g0 := (HG.out _ HB2.out).t
        have q0 := HQ0.out w3
        clear hb
        go_wp2_with fail
        go_ret
        exact ⟨by rw [HQ.out]; rfl, HB2.out⟩
      · have HQ := hid (HE.out hv)
        rw [hv, errV1] at HV
        obtain ⟨ev, hev⟩ : ∃ ev, errV (A 0) (A 1) (headErr q.data.toList) = ev := ⟨_, rfl⟩
        have HEV := hid (show errA A (qErr q) = ev by rw [HQ.out, ← errA_V A _ HHE.out]; exact hev)
        rw [hev] at HH
        clear hev
        go_enter Tryz.func16, Tryz.ntmps16
        go_wp2_with fail
        refine HW.out.mono ?_
        rintro e w1 ⟨rfl, rfl⟩
        go_wp2_with fail
        refine HCS.out.mono ?_
        rintro e w2 ⟨rfl, hb⟩
        have HB := hid hb
        clear hb
        go_wp2_with fail
        refine (HV.out _ HB.out).mono ?_
        rintro e w3 ⟨rfl, hb⟩
        have HB2 := hid (HB.out.trans (hb.mono HB.out.size))
        have g0 := (HG.out _ HB2.out).t
        have q1 := HQ1.out w3
        clear hb
        go_wp2_with fail
        refine (HH.out _ HB2.out).mono ?_
        rintro e w4 ⟨rfl, hb⟩
        have HB3 := hid (HB2.out.trans (hb.mono HB2.out.size))
        clear hb
        go_wp2_with fail
        go_ret
        exact ⟨by rw [HEV.out]; rfl, HB3.out⟩
      · have HQ := hid (HE2.out (by rw [hv]; decide))
        rw [hv, errV2] at HV
        rw [hv] at HQ
        go_enter Tryz.func16, Tryz.ntmps16
        go_wp2_with fail
        refine HW.out.mono ?_
        rintro e w1 ⟨rfl, rfl⟩
        go_wp2_with fail
        refine HCS.out.mono ?_
        rintro e w2 ⟨rfl, hb⟩
        have HB := hid hb
        clear hb
        go_wp2_with fail
        refine (HV.out _ HB.out).mono ?_
        rintro e w3 ⟨rfl, hb⟩
        have HB2 := hid (HB.out.trans (hb.mono HB.out.size))
        have g0 := (HG.out _ HB2.out).t
        obtain ⟨c1, t1, e1⟩ := (HG.out _ HB2.out).bt
        obtain ⟨c2, t2, e2⟩ := (HG.out _ HB2.out).bb
        have q2 := HQ2.out w3 _ _ _ _ e2 e1
        clear e1 e2
        clear hb
        go_wp2_with fail
        go_ret
        exact ⟨by rw [HQ.out]; rfl, HB2.out⟩
    · have HQ := hid (qErr_ver hwd (Or.inl hs))
      have hbe : ((sgn q).1.toList == ([] : List UInt8)) = false := by rw [bE_list]; exact decide_eq_false hs
      have HVE := hid (verErr_err (sgn q).2.data.toList)
      have HEV := hid (show errA A (qErr q) = errV (A 0) (A 1) (verErr (sgn q).2.data.toList) by rw [HQ.out, errA_V A _ HVE.out])
      rw [hwd] at HW
      obtain ⟨ev, hev⟩ : ∃ ev, errV (A 0) (A 1) (verErr (sgn q).2.data.toList) = ev := ⟨_, rfl⟩
      rw [hev] at HEV HV
      generalize (sgn q).1 = s1 at *
      generalize (sgn q).2 = s2 at *
      clear hwd hs HQ HVE hev
      go_enter Tryz.func16, Tryz.ntmps16
      go_wp2_with fail
      refine HW.out.mono ?_
      rintro e w1 ⟨rfl, rfl⟩
      go_wp2_with fail
      refine HCS.out.mono ?_
      rintro e w2 ⟨rfl, hb⟩
      have HB := hid hb
      clear hb
      go_wp2_with fail
      refine (HV.out _ HB.out).mono ?_
      rintro e w3 ⟨rfl, hb⟩
      have HB2 := hid (HB.out.trans (hb.mono HB.out.size))
      clear hb
      go_wp2_with fail
      go_ret
      exact ⟨by rw [HEV.out]; rfl, HB2.out⟩
  · have HE := hid (show errA A (qErr q) = .nilIface by rw [qErr_word hwd]; rfl)
    rw [hwd] at HW
    clear hwd
    go_enter Tryz.func16, Tryz.ntmps16
    go_wp2_with fail
    refine HW.out.mono ?_
    rintro e w1 ⟨rfl, rfl⟩
    go_wp2_with fail
    go_ret
    exact ⟨by rw [HE.out]; rfl, Below.refl _ _⟩
end Ve
end Go.Proofs.YtmbphngmaglgmaaGreatDoor
