/-
  What the document's answer builds (BuildOf).
-/
import Derived.Test.YtanponneancajaaGreatDoorMtA
namespace Go.Proofs.YtanponneancajaaGreatDoor
open Go.RowKit Go.Maps
namespace Ve

set_option maxRecDepth 100000 in
set_option maxHeartbeats 4000000 in
theorem bo_good (Q : List Raw) (L : List Ent) (roots : List Bm) (v rv : Value) (w : World) (hn : L.length ≤ 1000) (hrn : roots.length ≤ 1000000) (sh : ∀ e, e ∈ L → ShE e) (I : Ixs w v Q L) (hr : MsAt w rv roots) (h0 : (chkG Q L roots).1 = 0) :
    Calls Tryz.prog 83 #[v, rv] w fun e w' => ∃ u, e = .returned (.tuple #[u, .agg #[.int .i64 0, .int .i64 (-1)]]) ∧ w'.ownsRow w.heap.size 51 2 u (lastN (rX Q L roots) (rX Q L roots).length).length (flatM (lastN (rX Q L roots) (rX Q L roots).length)) ∧ Below w.heap.size w w' := by
  have HRO := hid (fun W (h : Below w.heap.size w W) => reachOf_all Q L roots v rv W hn hrn sh (I.below h) (hr.below h))
  rw [rF_good h0] at HRO
  rw [faultV0] at HRO
  have HB0 := hid ((Below.refl w.heap.size w).alloc (Nat.le_refl _) (.cells #[.int .i64 0, .int .i64 0] 64))
  have HE0 := hid (heap_new w (.cells #[.int .i64 0, .int .i64 0] 64))
  have HXL := hid (show (rX Q L roots).length ≤ 1000 from Nat.le_trans rX_len hn)
  obtain ⟨i0, hi0, hz0, hz1, hz2⟩ := info_parts infoMod
  obtain ⟨a, c, hv1, -⟩ := id I.es
  subst hv1
  obtain ⟨ra, rc, hrv, -⟩ := id hr
  subst hrv
  have HFN := hid (fun W => fine_any W)
  clear I hr sh h0
  generalize rX Q L roots = X at *
  have HXM := hid (show X.length ≤ 1000000 from Nat.le_trans HXL.out (by decide))
  go_enter Tryz.func83, Tryz.ntmps83
  go_wp2_with fail
  refine (HRO.out _ HB0.out).mono ?_
  rintro e w1 ⟨xa, xc, rfl, hms, hb⟩
  have HB1 := hid (HB0.out.trans (hb.mono HB0.out.size))
  have HE1 := hid ((hb.block _ (lt_of_blk HE0.out)).trans HE0.out)
  have HB2 := hid (HB1.out.alloc HB1.out.size (.cells #[.int .i64 0, .int .i64 (-1)] 64))
  have HE2 := hid (heap_old w1 (.cells #[.int .i64 0, .int .i64 (-1)] 64) HE1.out)
  have HMX := hid (hms.below ((Below.refl w1.heap.size w1).alloc (Nat.le_refl _) (.cells #[.int .i64 0, .int .i64 (-1)] 64)))
  have hne : ¬ w1.heap.size = w.heap.size := Nat.ne_of_gt (lt_of_blk HE1.out)
  have hne2 : ¬ w.heap.size = w1.heap.size := Nat.ne_of_lt (lt_of_blk HE1.out)
  clear hb hms HRO
  go_wp2_with fail
  generalize w1.alloc (.cells #[.int .i64 0, .int .i64 (-1)] 64) = w2 at *
  have HW2 := hid (lt_of_blk HE2.out)
  clear HB1 HE1 HB0 HE0
  go_loopw [8, 9] (fun ov iv wr => ∃ i : Nat, i ≤ X.length ∧ iv = .int .i64 i ∧ Hid (wr.ownsRow w2.heap.size 51 2 ov (lastN X i).length (flatM (lastN X i))) ∧ Hid (Below w2.heap.size w2 wr)) (fun _ iv _ => X.length - (intOf iv).toNat)
  case atStart => exact ⟨0, Nat.zero_le _, rfl, hid (World.ownsRow_nil _ _ _ _), hid (Below.refl _ _)⟩
  case round =>
    obtain ⟨i, hi, rfl, HOW, HBr⟩ := hrel
    by_cases hlt2 : i < X.length
    · have hiI := ix_lt hlt2
      have hii := ix_pos i
      have HLI := hid hlt2
      obtain ⟨SX, HSX⟩ : ∃ SX, Hid (lastN X i = SX) := ⟨_, hid rfl⟩
      rw [HSX.out] at HOW
      have HSL := hid (show SX.length ≤ 1000 by rw [← HSX.out]; exact Nat.le_trans (lastN_len X i) (Nat.le_trans (Nat.le_of_lt hlt2) HXL.out))
      obtain ⟨xb, xo, hxa, y0, y1⟩ := (HMX.out.below HBr.out).cells hlt2
      subst hxa
      have kw64 := ix_w1 hlt2 HXM.out
      have ktn := ix_nat1 i
      have kwk := ix_k1 hlt2 HXM.out
      have hj0 := ix_pos1 i
      by_cases hnx : i + 1 < X.length
      · have hjI := ix_lt1 hnx
        obtain ⟨z0, z1⟩ := ms_atJ (HMX.out.below HBr.out) hnx
        have HNB := hid (nextB_at (p := X[i].1) hnx)
        by_cases hpe : X[i + 1].1 = X[i].1
        · have HST := hid (lastN_skip hlt2 (HNB.out.trans (decide_eq_true hpe)))
          rw [hpe] at z0
          rw [HSX.out] at HST
          clear HNB
          generalize X[i] = um at *
          obtain ⟨up, uq⟩ := um
          simp only at y0 y1 z0
          clear hlt2 hnx hpe z1
          have heq := str_refl up
          go_wp2_with fail
          go_quiet (fail)
          have HBd := hid (below_drawn_of HBr.out nq)
          have HOd := hid (owns_below HOW.out (below_drawn wr nq))
          go_wp2_with fail
          go_roundw
          case rel => first | exact ⟨i + 1, HLI.out, nr_idx i, hid (by rw [HST.out]; exact HOd.out), HBd⟩ | exact ⟨i + 1, HLI.out, nx_idx HLI.out HXM.out, hid (by rw [HST.out]; exact HOd.out), HBd⟩
          case measure => first | exact nr_meas HLI.out | exact nx_meas HLI.out HXM.out
        · have HST := hid (lastN_keep hlt2 (HNB.out.trans (decide_eq_false hpe)))
          clear HNB
          generalize X[i + 1] = un at *
          obtain ⟨np, nq⟩ := un
          clear hnx z1
          rw [HSX.out] at HST
          generalize X[i] = um at *
          obtain ⟨up, uq⟩ := um
          simp only at y0 y1 z0 hpe
          have heq := str_ne hpe
          clear hlt2 hpe
          go_wp2_with fail
          go_quiet (fail)
          have HDx := hid (below_drawn wr nq)
          have HBd := hid (below_drawn_of HBr.out nq)
          have HOd := hid (owns_below HOW.out HDx.out)
          obtain ⟨wx, hwx⟩ : ∃ wz0, wr.drewN nq = wz0 := ⟨_, rfl⟩
          rw [hwx] at HDx HBd HOd ⊢
          replace y0 := cell_below HDx.out y0
          replace y1 := cell_below HDx.out y1
          clear hwx nq z0
          go_wp2_with (at_builtin; refine wpList_append_own _ rfl _ _ 52 rfl w2.heap.size 51 i0 _ 2 32 Tryz.underlying52 hi0 hz0 hz1 hz2 rfl (by decide) _ _ _ rfl (HOd.out.alloc _) ⟨wx.heap.size, 0, none⟩ 1 1 [.string up, .string uq] rfl rfl (World.news_of_block (heap_new _ _)) (by intro u hu; simp at hu; rcases hu with rfl | rfl <;> rfl) (Nat.le_trans (Nat.add_le_add_right HSL.out 1) (by unfold maxLen; decide)) (by have hz := HSL.out; omega) (Nat.le_trans HBd.out.size (by simp)) ?_)
          intro v' w6 hown hgrow _
          have HR3 := hid (rel_app2 HBd.out.size HBd.out HOd.out (Below.refl _ _) hgrow)
          have HO4 := hid (show w6.ownsRow w2.heap.size 51 2 v' (SX ++ [(up, uq)]).length (flatM (SX ++ [(up, uq)])) by rw [List.length_append, flatM_app]; exact hown)
          clear hown hgrow
          go_wp2_with fail
          go_roundw
          case rel => first | exact ⟨i + 1, HLI.out, nr_idx i, hid (by rw [HST.out]; exact HO4.out), HR3⟩ | exact ⟨i + 1, HLI.out, nx_idx HLI.out HXM.out, hid (by rw [HST.out]; exact HO4.out), HR3⟩
          case measure => first | exact nr_meas HLI.out | exact nx_meas HLI.out HXM.out
      · have hjI := ix_nlt1 hnx
        have HST := hid (lastN_keep hlt2 (nextB_end hnx))
        clear hnx
        rw [HSX.out] at HST
        generalize X[i] = um at *
        obtain ⟨up, uq⟩ := um
        simp only at y0 y1
        clear hlt2
        go_wp2_with (at_builtin; refine wpList_append_own _ rfl _ _ 52 rfl w2.heap.size 51 i0 _ 2 32 Tryz.underlying52 hi0 hz0 hz1 hz2 rfl (by decide) _ _ _ rfl (HOW.out.alloc _) ⟨wr.heap.size, 0, none⟩ 1 1 [.string up, .string uq] rfl rfl (World.news_of_block (heap_new _ _)) (by intro u hu; simp at hu; rcases hu with rfl | rfl <;> rfl) (Nat.le_trans (Nat.add_le_add_right HSL.out 1) (by unfold maxLen; decide)) (by have hz := HSL.out; omega) (Nat.le_trans HBr.out.size (by simp)) ?_)
        intro v' w6 hown hgrow _
        have HR3 := hid (rel_app2 HBr.out.size HBr.out HOW.out (Below.refl _ _) hgrow)
        have HO4 := hid (show w6.ownsRow w2.heap.size 51 2 v' (SX ++ [(up, uq)]).length (flatM (SX ++ [(up, uq)])) by rw [List.length_append, flatM_app]; exact hown)
        clear hown hgrow
        go_wp2_with fail
        go_roundw
        case rel => first | exact ⟨i + 1, HLI.out, nr_idx i, hid (by rw [HST.out]; exact HO4.out), HR3⟩ | exact ⟨i + 1, HLI.out, nx_idx HLI.out HXM.out, hid (by rw [HST.out]; exact HO4.out), HR3⟩
        case measure => first | exact nr_meas HLI.out | exact nx_meas HLI.out HXM.out
    · have hiI := ix_nlt hlt2
      have hie : i = X.length := Nat.le_antisymm hi (Nat.le_of_not_lt hlt2)
      have HOF := hid (show wr.ownsRow w2.heap.size 51 2 u8 (lastN X X.length).length (flatM (lastN X X.length)) by
        have h := HOW.out
        rw [hie] at h
        exact h)
      clear hlt2 HOW hie
      obtain ⟨oa, on, oc, hov⟩ := own_sl HOF.out
      subst hov
      go_wp2_with fail
      refine (HFN.out _).mono ?_
      rintro e w6 ⟨rfl, hb⟩
      have HB6 := hid ((HB2.out.trans (HBr.out.mono HB2.out.size)).trans (hb.mono (Nat.le_trans HB2.out.size HBr.out.size)))
      have HE6 := hid ((hb.block _ (Nat.lt_of_lt_of_le (lt_of_blk HE2.out) HBr.out.size)).trans ((HBr.out.block _ (lt_of_blk HE2.out)).trans HE2.out))
      have HO6 := hid (owns_below HOF.out hb)
      clear hb
      obtain ⟨s0, s1, tf⟩ := box_two HE6.out
      have hnb : (Value.slice oa on oc).ownBlock ≠ some w.heap.size := fun h => by
        exact Nat.not_le_of_lt HW2.out (own_lt HO6.out h).2
      have HO7 := hid (own_base (owns_set (o := 1) (x := .int .i64 (-1)) (owns_set (o := 0) (x := .int .i64 0) HO6.out hnb) hnb) (Nat.le_of_lt HW2.out))
      go_wp2_with fail
      refine bodyPost_ret (v := .tuple #[.slice oa on oc, .agg #[.int .i64 0, .int .i64 (-1)]]) (by simp [results, Tryz.results83, go_sem, s0, s1]) rfl ⟨_, rfl, HO7.out, ?_⟩
      exact put2_below HB6.out (Nat.le_refl _)
/-- BuildOf. -/
theorem bo_all (Q : List Raw) (L : List Ent) (roots : List Bm) (v rv : Value) (w : World) (hn : L.length ≤ 1000) (hrn : roots.length ≤ 1000000) (sh : ∀ e, e ∈ L → ShE e) (I : Ixs w v Q L) (hr : MsAt w rv roots) :
    Calls Tryz.prog 83 #[v, rv] w fun e w' => ∃ a c, e = .returned (.tuple #[.slice a (bX Q L roots).length c, faultV (rF Q L roots)]) ∧ Mr w w' (.slice a (bX Q L roots).length c) (bX Q L roots) := by
  by_cases h : (chkG Q L roots).1 = 0
  · refine (bo_good Q L roots v rv w hn hrn sh I hr h).mono ?_
    rintro e w' ⟨u, rfl, hown, hb⟩
    have hm := mr_own hown hb
    obtain ⟨a, c, hu⟩ := hm.sl
    subst hu
    exact ⟨a, c, by rw [rF_good h]; rfl, hm⟩
  · refine (bo_bad Q L roots v rv w hn hrn sh I hr h).mono ?_
    rintro e w' ⟨rfl, hb⟩
    rw [bX_bad h, rF_bad h]
    exact ⟨_, _, rfl, mr_nil0 hb⟩
end Ve
end Go.Proofs.YtanponneancajaaGreatDoor
