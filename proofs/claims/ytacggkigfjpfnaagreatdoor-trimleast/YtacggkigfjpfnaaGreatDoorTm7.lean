/-
  Both sides of chapter 5 as one function each: what is reached, how many requirements, how far; what is refused.
-/
import Derived.Test.YtacggkigfjpfnaaGreatDoorTm6
import Derived.Test.YtacggkigfjpfnaaGreatDoorTm5
import Derived.Test.YtacggkigfjpfnaaGreatDoorTm1
import Derived.Test.YtacggkigfjpfnaaGreatDoorTm3
import Derived.Test.YtacggkigfjpfnaaGreatDoorTm4
import Derived.Deep.DeepCutAuto
import Derived.Deep.SlicePairs
import Derived.Lib.SmallJoins
import Derived.SliceStrings
import Derived.ProofKit
import Derived.LaidMore
import Derived.Lay
import Derived.Stop.Joined
import Derived.HandedShaped
import Derived.LaidLaws
import Derived.Below
import Derived.Test.YtacggkigfjpfnaaGreatDoorRows
import Derived.Test.YtacggkigfjpfnaaGreatDoorCode
import Derived.Test.YtacggkigfjpfnaaGreatDoorTe
import Derived.LaidHandle
import Derived.Stop.LaidTwo
import Derived.Shelf.Vars
import Derived.Carry
namespace Go.Proofs.YtacggkigfjpfnaaGreatDoor
open Go.RowKit Go.Maps
namespace Ve

theorem rF_le (Q : List Raw) (L : List Ent) (roots : List Bm) : (rF Q L roots).1 ≤ 10 := by
  unfold rF
  split
  · simp
  · exact chkG_le _ _ _
theorem rX_sel {Q : List Raw} {L : List Ent} {roots : List Bm} {O : List Bool} (h : (chkG Q L roots).1 = 0) (hl : O.length = (univ L).length) (hO : ∀ i (hi : i < (univ L).length) (hi' : i < O.length), O[i] = true ↔ Rch (reqQ Q L) roots (univ L)[i]) : selO O (univ L) = rX Q L roots := by
  unfold rX
  rw [if_pos h]
  refine selO_filter O (univ L) _ hl fun i h1 h2 => ?_
  by_cases hr : Rch (reqQ Q L) roots (univ L)[i]
  · rw [(hO i h1 h2).2 hr]; simp [hr]
  · cases hc : O[i]
    · simp [hr]
    · exact absurd ((hO i h1 h2).1 hc) hr
open Classical in
/-- How far a module is off, and what is refused of it. -/
noncomputable def rW (Q : List Raw) (L : List Ent) (roots : List Bm) (m : Bm) : Nat × (Nat × Option Nat) := if (chkG Q L roots).1 = 0 then (if h : ∃ d, Dst (reqQ Q L) roots m d then (h.choose, (0, none)) else (0, (5, none))) else (0, chkG Q L roots)
theorem rW_same {Q Q' : List Raw} {L : List Ent} (h : Q.map (fun r => r.1) = Q'.map (fun r => r.1)) (roots : List Bm) (m : Bm) : rW Q L roots m = rW Q' L roots m := by unfold rW; rw [chkG_same h, reqQ_same h]
theorem rW_bad {Q : List Raw} {L : List Ent} {roots : List Bm} {m : Bm} (h : ¬ (chkG Q L roots).1 = 0) : rW Q L roots m = (0, chkG Q L roots) := if_neg h
theorem rW_some {Q : List Raw} {L : List Ent} {roots : List Bm} {m : Bm} {d : Nat} (h : (chkG Q L roots).1 = 0) (hd : Dst (reqQ Q L) roots m d) : rW Q L roots m = (d, (0, none)) := by
  unfold rW
  have he : ∃ d, Dst (reqQ Q L) roots m d := ⟨d, hd⟩
  rw [if_pos h, dif_pos he]
  rw [he.choose_spec.one hd]
theorem rW_none {Q : List Raw} {L : List Ent} {roots : List Bm} {m : Bm} (h : (chkG Q L roots).1 = 0) (hd : ¬ Rch (reqQ Q L) roots m) : rW Q L roots m = (0, (5, none)) := by
  unfold rW
  rw [if_pos h, dif_neg (fun ⟨d, hh⟩ => hd hh.1.rch)]
theorem rW_le (Q : List Raw) (L : List Ent) (roots : List Bm) (m : Bm) : (rW Q L roots m).2.1 ≤ 10 := by
  unfold rW
  split
  · split <;> simp
  · exact chkG_le _ _ _
theorem faultV0 : faultV (0, none) = .agg #[.int .i64 0, .int .i64 (-1)] := rfl
theorem faultV5 : faultV (5, none) = .agg #[.int .i64 5, .int .i64 (-1)] := rfl
theorem reach_all (Q : List Raw) (L : List Ent) (roots : List Bm) (v rv : Value) (A : Nat → Addr) (m : Int) (w : World) (hn : L.length ≤ 1000) (hrn : roots.length ≤ 1000000) (sh : ∀ e, e ∈ L → ShE e) (S : Te w A m) (I : Ixs w v Q L) (hr : MsAt w rv roots) :
    Calls Tryz.prog 19 #[v, rv] w fun e w' => ∃ a c x, e = .returned (.tuple #[.slice a (rX Q L roots).length c, x]) ∧ MsAt w' (.slice a (rX Q L roots).length c) (rX Q L roots) ∧ ErrAt w' A x (rF Q L roots).1 (rF Q L roots).2 ∧ Below w.heap.size w w' := by
  by_cases h : (chkG Q L roots).1 = 0
  · refine (reach_good Q L roots v rv A m w hn hrn sh S I hr h).mono ?_
    rintro e w' ⟨u, rfl, T, hT, hown, hb⟩
    rw [rX_go I h hT] at hown
    have hms := own_ms hown
    obtain ⟨a, c, hu⟩ := own_slN hown
    subst hu
    exact ⟨a, c, _, rfl, hms, by rw [rF_good h]; rfl, hb⟩
  · refine (reach_bad Q L roots v rv A m w hn hrn sh S I hr h).mono ?_
    rintro e w' ⟨T, a, rfl, he, hb⟩
    rw [rX_bad h, rF_bad h]
    exact ⟨_, _, _, rfl, ms_nil0 _, he, hb⟩
theorem reachOf_all (Q : List Raw) (L : List Ent) (roots : List Bm) (v rv : Value) (w : World) (hn : L.length ≤ 1000) (hrn : roots.length ≤ 1000000) (sh : ∀ e, e ∈ L → ShE e) (I : Ixs w v Q L) (hr : MsAt w rv roots) :
    Calls Tryz.prog 33 #[v, rv] w fun e w' => ∃ a c, e = .returned (.tuple #[.slice a (rX Q L roots).length c, faultV (rF Q L roots)]) ∧ MsAt w' (.slice a (rX Q L roots).length c) (rX Q L roots) ∧ Below w.heap.size w w' := by
  by_cases h : (chkG Q L roots).1 = 0
  · refine (reachOf_good Q L roots v rv w hn hrn sh I hr h).mono ?_
    rintro e w' ⟨u, O, rfl, hl, hO, hown, hb⟩
    rw [rX_sel h hl hO] at hown
    have hms := own_ms hown
    obtain ⟨a, c, hu⟩ := own_slN hown
    subst hu
    exact ⟨a, c, by rw [rF_good h]; rfl, hms, hb⟩
  · refine (reachOf_bad Q L roots v rv w hn hrn sh I hr h).mono ?_
    rintro e w' ⟨rfl, hb⟩
    rw [rX_bad h, rF_bad h]
    exact ⟨_, _, rfl, ms_nil0 _, hb⟩
end Ve
end Go.Proofs.YtacggkigfjpfnaaGreatDoor

/-
  What the document's answer builds (BuildOf), where it is refused.
-/
namespace Go.Proofs.YtacggkigfjpfnaaGreatDoor
open Go.RowKit Go.Maps
namespace Ve

set_option maxRecDepth 100000 in
set_option maxHeartbeats 4000000 in
theorem bo_bad (Q : List Raw) (L : List Ent) (roots : List Bm) (v rv : Value) (w : World) (hn : L.length ≤ 1000) (hrn : roots.length ≤ 1000000) (sh : ∀ e, e ∈ L → ShE e) (I : Ixs w v Q L) (hr : MsAt w rv roots) (h0 : ¬ (chkG Q L roots).1 = 0) :
    Calls Tryz.prog 17 #[v, rv] w fun e w' => e = .returned (.tuple #[.slice none 0 0, faultV (chkG Q L roots)]) ∧ Below w.heap.size w w' := by
  have HRO := hid (fun W (h : Below w.heap.size w W) => reachOf_bad Q L roots v rv W hn hrn sh (I.below h) (hr.below h) h0)
  have HB0 := hid ((Below.refl w.heap.size w).alloc (Nat.le_refl _) (.cells #[.int .i64 0, .int .i64 0] 38))
  have HE0 := hid (heap_new w (.cells #[.int .i64 0, .int .i64 0] 38))
  obtain ⟨a, c, hv1, -⟩ := id I.es
  subst hv1
  obtain ⟨ra, rc, hrv, -⟩ := id hr
  subst hrv
  obtain ⟨cc, oo, hco⟩ : ∃ cc oo, chkG Q L roots = (cc, oo) := ⟨_, _, rfl⟩
  rw [hco] at HRO h0 ⊢
  unfold faultV at HRO ⊢
  simp only at HRO h0 ⊢
  generalize atOf oo = ao at *
  have hpos : (0 : Int) < (cc : Int) := by omega
  clear I hr sh h0 hco
  go_enter Tryz.func17, Tryz.ntmps17
  go_wp2_with fail
  refine (HRO.out _ HB0.out).mono ?_
  rintro e w1 ⟨rfl, hb⟩
  have HB1 := hid (HB0.out.trans (hb.mono HB0.out.size))
  have HE1 := hid ((hb.block _ (lt_of_blk HE0.out)).trans HE0.out)
  clear hb
  have HB2 := hid (HB1.out.alloc HB1.out.size (.cells #[.int .i64 (cc : Int), .int .i64 ao] 38))
  have HE2 := hid (heap_old w1 (.cells #[.int .i64 (cc : Int), .int .i64 ao] 38) HE1.out)
  have HF2 := hid (heap_new w1 (.cells #[.int .i64 (cc : Int), .int .i64 ao] 38))
  have hlt := lt_of_blk HE1.out
  have hne : ¬ w1.heap.size = w.heap.size := by omega
  have hne2 : ¬ w.heap.size = w1.heap.size := by omega
  go_wp2_with fail
  generalize w1.alloc (.cells #[.int .i64 (cc : Int), .int .i64 ao] 38) = w2 at *
  obtain ⟨s0, s1, tf⟩ := box_two HE2.out
  obtain ⟨f0, f1, _⟩ := box_two HF2.out
  go_region_with fail
  all_goals
    go_wp2_with fail
    refine bodyPost_ret (v := .tuple #[.slice none 0 0, .agg #[.int .i64 (cc : Int), .int .i64 ao]]) (by simp [results, Tryz.results17, go_sem, s0, s1]) rfl ⟨rfl, ?_⟩
    exact put2_below (below_drawn_of HB2.out 1) (Nat.le_refl _)
end Ve
end Go.Proofs.YtacggkigfjpfnaaGreatDoor

/-
  What the document's answer builds (BuildOf).
-/
namespace Go.Proofs.YtacggkigfjpfnaaGreatDoor
open Go.RowKit Go.Maps
namespace Ve

set_option maxRecDepth 100000 in
set_option maxHeartbeats 4000000 in
theorem bo_good (Q : List Raw) (L : List Ent) (roots : List Bm) (v rv : Value) (w : World) (hn : L.length ≤ 1000) (hrn : roots.length ≤ 1000000) (sh : ∀ e, e ∈ L → ShE e) (I : Ixs w v Q L) (hr : MsAt w rv roots) (h0 : (chkG Q L roots).1 = 0) :
    Calls Tryz.prog 17 #[v, rv] w fun e w' => ∃ u, e = .returned (.tuple #[u, .agg #[.int .i64 0, .int .i64 (-1)]]) ∧ w'.ownsRow w.heap.size 45 2 u (lastN (rX Q L roots) (rX Q L roots).length).length (flatM (lastN (rX Q L roots) (rX Q L roots).length)) ∧ Below w.heap.size w w' := by
  have HRO := hid (fun W (h : Below w.heap.size w W) => reachOf_all Q L roots v rv W hn hrn sh (I.below h) (hr.below h))
  rw [rF_good h0] at HRO
  rw [faultV0] at HRO
  have HB0 := hid ((Below.refl w.heap.size w).alloc (Nat.le_refl _) (.cells #[.int .i64 0, .int .i64 0] 38))
  have HE0 := hid (heap_new w (.cells #[.int .i64 0, .int .i64 0] 38))
  have HXL := hid (show (rX Q L roots).length ≤ 1000 from Nat.le_trans rX_len hn)
  obtain ⟨i0, hi0, hz0, hz1, hz2⟩ := info_parts infoMod
  obtain ⟨a, c, hv1, -⟩ := id I.es
  subst hv1
  obtain ⟨ra, rc, hrv, -⟩ := id hr
  subst hrv
  have HFN := hid (fun W => fine_any W)
  clear I hr sh h0
  generalize rX Q L roots = X at *
  have HXM := hid (show X.length ≤ 1000000 from Nat.le_trans HXL.out (by decide))
  go_enter Tryz.func17, Tryz.ntmps17
  go_wp2_with fail
  refine (HRO.out _ HB0.out).mono ?_
  rintro e w1 ⟨xa, xc, rfl, hms, hb⟩
  have HB1 := hid (HB0.out.trans (hb.mono HB0.out.size))
  have HE1 := hid ((hb.block _ (lt_of_blk HE0.out)).trans HE0.out)
  have HB2 := hid (HB1.out.alloc HB1.out.size (.cells #[.int .i64 0, .int .i64 (-1)] 38))
  have HE2 := hid (heap_old w1 (.cells #[.int .i64 0, .int .i64 (-1)] 38) HE1.out)
  have HMX := hid (hms.below ((Below.refl w1.heap.size w1).alloc (Nat.le_refl _) (.cells #[.int .i64 0, .int .i64 (-1)] 38)))
  have hne : ¬ w1.heap.size = w.heap.size := Nat.ne_of_gt (lt_of_blk HE1.out)
  have hne2 : ¬ w.heap.size = w1.heap.size := Nat.ne_of_lt (lt_of_blk HE1.out)
  clear hb hms HRO
  go_wp2_with fail
  generalize w1.alloc (.cells #[.int .i64 0, .int .i64 (-1)] 38) = w2 at *
  have HW2 := hid (lt_of_blk HE2.out)
  clear HB1 HE1 HB0 HE0
  go_loopw [8, 9] (fun ov iv wr => ∃ i : Nat, i ≤ X.length ∧ iv = .int .i64 i ∧ Hid (wr.ownsRow w2.heap.size 45 2 ov (lastN X i).length (flatM (lastN X i))) ∧ Hid (Below w2.heap.size w2 wr)) (fun _ iv _ => X.length - (intOf iv).toNat)
  case atStart => exact ⟨0, Nat.zero_le _, rfl, hid (World.ownsRow_nil _ _ _ _), hid (Below.refl _ _)⟩
  case round =>
    obtain ⟨i, hi, rfl, HOW, HBr⟩ := hrel
    by_cases hlt2 : i < X.length
    · have hiI := ix_lt hlt2
      have hii := ix_pos i
      have HLI := hid hlt2
      obtain ⟨SX, HSX⟩ : ∃ SX, Hid (lastN X i = SX) := ⟨_, hid rfl⟩
      rw [HSX.out] at HOW
      have HSL := hid (show SX.length ≤ 1000 by rw [← HSX.out]; exact Nat.le_trans (lastN_len X i) (Nat.le_trans (Nat.le_of_lt hlt2) HXL.out))
      obtain ⟨xb, xo, hxa, y0, y1⟩ := (HMX.out.below HBr.out).cells hlt2
      subst hxa
      have kw64 := ix_w1 hlt2 HXM.out
      have ktn := ix_nat1 i
      have kwk := ix_k1 hlt2 HXM.out
      have hj0 := ix_pos1 i
      by_cases hnx : i + 1 < X.length
      · have hjI := ix_lt1 hnx
        obtain ⟨z0, z1⟩ := ms_atJ (HMX.out.below HBr.out) hnx
        have HNB := hid (nextB_at (p := X[i].1) hnx)
        by_cases hpe : X[i + 1].1 = X[i].1
        · have HST := hid (lastN_skip hlt2 (HNB.out.trans (decide_eq_true hpe)))
          rw [hpe] at z0
          rw [HSX.out] at HST
          clear HNB
          generalize X[i] = um at *
          obtain ⟨up, uq⟩ := um
          simp only at y0 y1 z0
          clear hlt2 hnx hpe z1
          have heq := str_refl up
          go_wp2_with fail
          go_quiet (fail)
          have HBd := hid (below_drawn_of HBr.out nq)
          have HOd := hid (owns_below HOW.out (below_drawn wr nq))
          go_wp2_with fail
          go_roundw
          case rel => first | exact ⟨i + 1, HLI.out, nr_idx i, hid (by rw [HST.out]; exact HOd.out), HBd⟩ | exact ⟨i + 1, HLI.out, nx_idx HLI.out HXM.out, hid (by rw [HST.out]; exact HOd.out), HBd⟩
          case measure => first | exact nr_meas HLI.out | exact nx_meas HLI.out HXM.out
        · have HST := hid (lastN_keep hlt2 (HNB.out.trans (decide_eq_false hpe)))
          clear HNB
          generalize X[i + 1] = un at *
          obtain ⟨np, nq⟩ := un
          clear hnx z1
          rw [HSX.out] at HST
          generalize X[i] = um at *
          obtain ⟨up, uq⟩ := um
          simp only at y0 y1 z0 hpe
          have heq := str_ne hpe
          clear hlt2 hpe
          go_wp2_with fail
          go_quiet (fail)
          have HDx := hid (below_drawn wr nq)
          have HBd := hid (below_drawn_of HBr.out nq)
          have HOd := hid (owns_below HOW.out HDx.out)
          obtain ⟨wx, hwx⟩ : ∃ wz0, wr.drewN nq = wz0 := ⟨_, rfl⟩
          rw [hwx] at HDx HBd HOd ⊢
          replace y0 := cell_below HDx.out y0
          replace y1 := cell_below HDx.out y1
          clear hwx nq z0
          go_wp2_with (at_builtin; refine wpList_append_own _ rfl _ _ 23 rfl w2.heap.size 45 i0 _ 2 32 Tryz.underlying23 hi0 hz0 hz1 hz2 rfl (by decide) _ _ _ rfl (HOd.out.alloc _) ⟨wx.heap.size, 0, none⟩ 1 1 [.string up, .string uq] rfl rfl (World.news_of_block (heap_new _ _)) (by intro u hu; simp at hu; rcases hu with rfl | rfl <;> rfl) (Nat.le_trans (Nat.add_le_add_right HSL.out 1) (by unfold maxLen; decide)) (by have hz := HSL.out; omega) (Nat.le_trans HBd.out.size (by simp)) ?_)
          intro v' w6 hown hgrow _
          have HR3 := hid (rel_app2 HBd.out.size HBd.out HOd.out (Below.refl _ _) hgrow)
          have HO4 := hid (show w6.ownsRow w2.heap.size 45 2 v' (SX ++ [(up, uq)]).length (flatM (SX ++ [(up, uq)])) by rw [List.length_append, flatM_app]; exact hown)
          clear hown hgrow
          go_wp2_with fail
          go_roundw
          case rel => first | exact ⟨i + 1, HLI.out, nr_idx i, hid (by rw [HST.out]; exact HO4.out), HR3⟩ | exact ⟨i + 1, HLI.out, nx_idx HLI.out HXM.out, hid (by rw [HST.out]; exact HO4.out), HR3⟩
          case measure => first | exact nr_meas HLI.out | exact nx_meas HLI.out HXM.out
      · have hjI := ix_nlt1 hnx
        have HST := hid (lastN_keep hlt2 (nextB_end hnx))
        clear hnx
        rw [HSX.out] at HST
        generalize X[i] = um at *
        obtain ⟨up, uq⟩ := um
        simp only at y0 y1
        clear hlt2
        go_wp2_with (at_builtin; refine wpList_append_own _ rfl _ _ 23 rfl w2.heap.size 45 i0 _ 2 32 Tryz.underlying23 hi0 hz0 hz1 hz2 rfl (by decide) _ _ _ rfl (HOW.out.alloc _) ⟨wr.heap.size, 0, none⟩ 1 1 [.string up, .string uq] rfl rfl (World.news_of_block (heap_new _ _)) (by intro u hu; simp at hu; rcases hu with rfl | rfl <;> rfl) (Nat.le_trans (Nat.add_le_add_right HSL.out 1) (by unfold maxLen; decide)) (by have hz := HSL.out; omega) (Nat.le_trans HBr.out.size (by simp)) ?_)
        intro v' w6 hown hgrow _
        have HR3 := hid (rel_app2 HBr.out.size HBr.out HOW.out (Below.refl _ _) hgrow)
        have HO4 := hid (show w6.ownsRow w2.heap.size 45 2 v' (SX ++ [(up, uq)]).length (flatM (SX ++ [(up, uq)])) by rw [List.length_append, flatM_app]; exact hown)
        clear hown hgrow
        go_wp2_with fail
        go_roundw
        case rel => first | exact ⟨i + 1, HLI.out, nr_idx i, hid (by rw [HST.out]; exact HO4.out), HR3⟩ | exact ⟨i + 1, HLI.out, nx_idx HLI.out HXM.out, hid (by rw [HST.out]; exact HO4.out), HR3⟩
        case measure => first | exact nr_meas HLI.out | exact nx_meas HLI.out HXM.out
    · have hiI := ix_nlt hlt2
      have hie : i = X.length := Nat.le_antisymm hi (Nat.le_of_not_lt hlt2)
      have HOF := hid (show wr.ownsRow w2.heap.size 45 2 u8 (lastN X X.length).length (flatM (lastN X X.length)) by
        have h := HOW.out
        rw [hie] at h
        exact h)
      clear hlt2 HOW hie
      obtain ⟨oa, on, oc, hov⟩ := own_sl HOF.out
      subst hov
      go_wp2_with fail
      refine (HFN.out _).mono ?_
      rintro e w6 ⟨rfl, hb⟩
      have HB6 := hid ((HB2.out.trans (HBr.out.mono HB2.out.size)).trans (hb.mono (Nat.le_trans HB2.out.size HBr.out.size)))
      have HE6 := hid ((hb.block _ (Nat.lt_of_lt_of_le (lt_of_blk HE2.out) HBr.out.size)).trans ((HBr.out.block _ (lt_of_blk HE2.out)).trans HE2.out))
      have HO6 := hid (owns_below HOF.out hb)
      clear hb
      obtain ⟨s0, s1, tf⟩ := box_two HE6.out
      have hnb : (Value.slice oa on oc).ownBlock ≠ some w.heap.size := fun h => by
        exact Nat.not_le_of_lt HW2.out (own_lt HO6.out h).2
      have HO7 := hid (own_base (owns_set (o := 1) (x := .int .i64 (-1)) (owns_set (o := 0) (x := .int .i64 0) HO6.out hnb) hnb) (Nat.le_of_lt HW2.out))
      go_wp2_with fail
      refine bodyPost_ret (v := .tuple #[.slice oa on oc, .agg #[.int .i64 0, .int .i64 (-1)]]) (by simp [results, Tryz.results17, go_sem, s0, s1]) rfl ⟨_, rfl, HO7.out, ?_⟩
      exact put2_below HB6.out (Nat.le_refl _)
/-- BuildOf. -/
theorem bo_all (Q : List Raw) (L : List Ent) (roots : List Bm) (v rv : Value) (w : World) (hn : L.length ≤ 1000) (hrn : roots.length ≤ 1000000) (sh : ∀ e, e ∈ L → ShE e) (I : Ixs w v Q L) (hr : MsAt w rv roots) :
    Calls Tryz.prog 17 #[v, rv] w fun e w' => ∃ a c, e = .returned (.tuple #[.slice a (bX Q L roots).length c, faultV (rF Q L roots)]) ∧ Mr w w' (.slice a (bX Q L roots).length c) (bX Q L roots) := by
  by_cases h : (chkG Q L roots).1 = 0
  · refine (bo_good Q L roots v rv w hn hrn sh I hr h).mono ?_
    rintro e w' ⟨u, rfl, hown, hb⟩
    have hm := mr_own hown hb
    obtain ⟨a, c, hu⟩ := hm.sl
    subst hu
    exact ⟨a, c, by rw [rF_good h]; rfl, hm⟩
  · refine (bo_bad Q L roots v rv w hn hrn sh I hr h).mono ?_
    rintro e w' ⟨rfl, hb⟩
    rw [bX_bad h, rF_bad h]
    exact ⟨_, _, rfl, mr_nil0 hb⟩
end Ve
end Go.Proofs.YtacggkigfjpfnaaGreatDoor

/-
  Parts of a row of modules; a store of two numbers into a box leaves modules as they are.
-/
namespace Go.Proofs.YtacggkigfjpfnaaGreatDoor
open Go.RowKit Go.Maps
namespace Ve

theorem MsAt.cap {w : World} {a : Option Addr} {n c : Nat} {L : List Bm} (h : MsAt w (.slice a n c) L) : L.length ≤ c := by
  obtain ⟨a', c', e, h1, _⟩ := h
  injection e with _ _ e3
  subst e3; exact h1
theorem ms_take {w : World} {a : Addr} {c : Nat} {L : List Bm} (h : MsAt w (.slice (some a) L.length c) L) {k : Nat} (hk : k ≤ L.length) : MsAt w (.slice (some a) k c) (L.take k) := by
  have hl : (L.take k).length = k := by simp; omega
  refine ⟨some a, c, by rw [hl], by have := h.cap; omega, fun hn => ?_⟩
  have h0 : 0 < L.length := by
    cases L with
    | nil => simp at hn
    | cons x r => simp
  obtain ⟨b, o, e, _⟩ := h.cells h0
  injection e with e
  subst e
  exact ⟨b, o, rfl, fun j hj => by
    rw [List.getElem_take]
    exact ms_atJ h (by omega)⟩
theorem ms_drop {w : World} {b o c : Nat} {L : List Bm} (h : MsAt w (.slice (some ⟨b, o, none⟩) L.length c) L) (k c' : Nat) (hc : L.length - k ≤ c') : MsAt w (.slice (some ⟨b, o + k * 2, none⟩) (L.length - k) c') (L.drop k) := by
  have hl : (L.drop k).length = L.length - k := by simp
  refine ⟨_, c', by rw [hl], by rw [hl]; exact hc, fun hn => ⟨b, o + k * 2, rfl, fun j hj => ?_⟩⟩
  rw [List.getElem_drop]
  have := ms_atJ h (k := k + j) (by omega)
  rw [show o + k * 2 + j * 2 = o + (k + j) * 2 by omega]
  exact this
theorem em_ad (a : Addr) (n c : Nat) (D : List Bm) : Em (.slice (some a) n c) D := fun a' c' e _ => by
  injection e with e1 e2 e3
  subst e1 e3
  exact Or.inr ⟨a, rfl⟩
theorem cell_set_neD {W : World} {b o g p : Nat} {x v : Value} (h : W.cell? ⟨b, o, none⟩ = some v) (hne : b ≠ g) : (W.setCell ⟨g, p, none⟩ x).cell? ⟨b, o, none⟩ = some v := by
  unfold World.cell? at h ⊢
  rw [Below.heap_setCell _ _ _ _ hne]
  exact h
theorem ErrAt.set2D {W : World} {A : Nat → Addr} {y : Value} {c : Nat} {o : Option Nat} {g : Nat} {z : Value} {n : Int} {T : TypeId} (h : ErrAt W A y c o) (hg : W.heap[g]? = some (.cells #[z, .int .i64 n] T (0, 0))) (a b : Value) : ErrAt ((W.setCell ⟨g, 0, none⟩ a).setCell ⟨g, 1, none⟩ b) A y c o := by
  cases o with
  | none => exact h
  | some i =>
    obtain ⟨h0, f, rfl, h1, h2⟩ := h
    have hne : f ≠ g := fun e => by
      subst e
      obtain ⟨_, g1, _⟩ := box_two hg
      rw [g1, errA_if A h0] at h2
      cases h2
    exact ⟨h0, f, rfl, cell_set_neD (cell_set_neD h1 hne) hne, cell_set_neD (cell_set_neD h2 hne) hne⟩
theorem box_put2D {W : World} {g : Nat} {x y : Value} {T : TypeId} (a b : Value) (h : W.heap[g]? = some (.cells #[x, y] T (0, 0))) : ((W.setCell ⟨g, 0, none⟩ a).setCell ⟨g, 1, none⟩ b).heap[g]? = some (.cells #[a, b] T (0, 0)) :=
  set_block (o := 1) (x := b) (set_block (o := 0) (x := a) h)
theorem ms_put2D {W : World} {v : Value} {E : List Bm} {b : Nat} {n : Int} {z : Value} {T : TypeId} {x y : Value} (h : MsAt W v E) (hb : W.heap[b]? = some (.cells #[z, .int .i64 n] T (0, 0))) : MsAt ((W.setCell ⟨b, 0, none⟩ x).setCell ⟨b, 1, none⟩ y) v E := by
  obtain ⟨a, c, rfl, h1, h2⟩ := h
  refine ⟨a, c, rfl, h1, fun hE => ?_⟩
  obtain ⟨g, o, rfl, h3⟩ := h2 hE
  have hne : g ≠ b := fun e => by
    subst e
    have h0 : 0 < E.length := List.length_pos_iff.2 hE
    obtain ⟨c0, c1⟩ := h3 0 h0
    rw [Lib.cell_of_heap hb] at c1
    have h4 : (#[z, .int .i64 n] : Array Value)[o + 0 * 2 + 1]? = some (.string E[0].2) := c1
    cases o with
    | zero => simp at h4
    | succ o => simp at h4
  exact ⟨g, o, rfl, fun j hj => ⟨cell_set_neD (cell_set_neD (h3 j hj).1 hne) hne, cell_set_neD (cell_set_neD (h3 j hj).2 hne) hne⟩⟩
end Ve
end Go.Proofs.YtacggkigfjpfnaaGreatDoor

/-
  What SameMods of the document's answer says of any two rows.
-/
namespace Go.Proofs.YtacggkigfjpfnaaGreatDoor
open Go.RowKit Go.Maps
namespace Ve

set_option maxHeartbeats 2000000 in
theorem sameG_len (a a' : Option Addr) (n n' c c' : Nat) (w : World) (h : n ≠ n') : Calls Tryz.prog 14 #[.slice a n c, .slice a' n' c'] w fun e w' => e = .returned (.bool false) ∧ Below w.heap.size w w' := by
  have h1 : ¬ (n : Int) = (n' : Int) := by omega
  have h2 : ((n : Int) == (n' : Int)) = false := by simp; omega
  go_enter Tryz.func14, Tryz.ntmps14
  go_wp2_with fail
  go_ret
  exact ⟨rfl, Below.refl _ _⟩
set_option maxHeartbeats 2000000 in
theorem sameG_some (L M : List Bm) (b o c b' o' c' : Nat) (w : World) (hn : L.length ≤ 1000000) (hl : M.length = L.length)
    (hc : ∀ j (h : j < L.length), w.cell? ⟨b, o + j * 2, none⟩ = some (.string L[j].1) ∧ w.cell? ⟨b, o + j * 2 + 1, none⟩ = some (.string L[j].2))
    (hd : ∀ j (h : j < M.length), w.cell? ⟨b', o' + j * 2, none⟩ = some (.string M[j].1) ∧ w.cell? ⟨b', o' + j * 2 + 1, none⟩ = some (.string M[j].2)) :
    Calls Tryz.prog 14 #[.slice (some ⟨b, o, none⟩) L.length c, .slice (some ⟨b', o', none⟩) L.length c'] w fun e w' => e = .returned (.bool (decide (L = M))) ∧ Below w.heap.size w w' := by
  have HC := hid hc
  have HD := hid hd
  have hgd := modGuard
  have HX := hid (show (∀ j (h : j < L.length) (h' : j < M.length), L[j] = M[j]) → decide (L = M) = true from fun h => decide_eq_true (List.ext_getElem hl.symm (fun j h1 h2 => h j h1 h2)))
  have HY := hid (show ∀ j (h : j < L.length) (h' : j < M.length), L[j] ≠ M[j] → decide (L = M) = false from fun j h h' hne => decide_eq_false (fun e => hne (by subst e; rfl)))
  generalize decide (L = M) = z at *
  clear hc hd
  go_enter Tryz.func14, Tryz.ntmps14
  go_wp2_with fail
  go_loopw [5] (fun i wr => ∃ k : Nat, k ≤ L.length ∧ i = .int .i64 k ∧ Hid (∀ j (h : j < L.length) (h' : j < M.length), j < k → L[j] = M[j]) ∧ Hid (Below w.heap.size w wr)) (fun i _ => L.length - (intOf i).toNat)
  case atStart => exact ⟨0, Nat.zero_le _, rfl, hid (fun j _ _ hj => absurd hj (Nat.not_lt_zero _)), hid (Below.refl _ _)⟩
  case round =>
    obtain ⟨k, hk, rfl, HE, HB⟩ := hrel
    by_cases hlt : k < L.length
    · have hlm : k < M.length := by omega
      have hx := cell_below HB.out (HC.out k hlt).1
      have hy := cell_below HB.out (HC.out k hlt).2
      have hx' := cell_below HB.out (HD.out k hlm).1
      have hy' := cell_below HB.out (HD.out k hlm).2
      have hne := fun W => modNeq L[k].1 L[k].2 M[k].1 M[k].2 W
      have hkI : (k : Int) < (L.length : Int) := by omega
      have HLT := hid hlt
      have HN := hid (show L[k] = M[k] → ∀ j (h : j < L.length) (h' : j < M.length), j < k + 1 → L[j] = M[j] from fun h0 j h1 h2 h3 => by
        rcases Nat.lt_or_ge j k with h | h
        · exact HE.out j h1 h2 h
        · have : j = k := by omega
          subst this; exact h0)
      have HYK := hid (HY.out k hlt hlm)
      generalize L[k] = x at *
      generalize M[k] = y at *
      obtain ⟨x1, x2⟩ := x
      obtain ⟨y1, y2⟩ := y
      simp only at hx hy hx' hy' hne
      clear hlt hlm
      by_cases he : x1 = y1 ∧ x2 = y2
      · rw [decide_eq_true he] at hne
        have HN2 := hid (HN.out (Prod.ext he.1 he.2))
        clear he HN
        go_wp2_with fail
        go_quiet (fail)
        go_wp2_with fail
        go_roundw
        case rel => first | exact ⟨k + 1, HLT.out, nr_idx k, HN2, hid (below_drawn_of HB.out _)⟩ | exact ⟨k + 1, HLT.out, nx_idx HLT.out hn, HN2, hid (below_drawn_of HB.out _)⟩
        case measure => first | exact nr_meas HLT.out | exact nx_meas HLT.out hn
      · rw [decide_eq_false he] at hne
        have HZ := hid (HYK.out (fun e => he (by injection e with e1 e2; exact ⟨e1, e2⟩)))
        clear he HN
        go_wp2_with fail
        go_quiet (fail)
        go_wp2_with fail
        go_ret
        exact ⟨by rw [HZ.out]; rfl, below_drawn_of HB.out _⟩
    · have hkI : ¬ (k : Int) < (L.length : Int) := by omega
      have HZ := hid (HX.out (fun j h h' => HE.out j h h' (by omega)))
      go_wp2_with fail
      go_ret
      exact ⟨by rw [HZ.out]; rfl, HB.out⟩
/-- SameMods of any two rows. -/
theorem sameG_any (L M : List Bm) (v u : Value) (w : World) (hn : L.length ≤ 1000000) (hv : MsAt w v L) (hu : MsAt w u M) : Calls Tryz.prog 14 #[v, u] w fun e w' => e = .returned (.bool (decide (L = M))) ∧ Below w.heap.size w w' := by
  obtain ⟨a, c, rfl, _, h⟩ := hv
  obtain ⟨a', c', rfl, _, h'⟩ := hu
  by_cases hl : M.length = L.length
  · cases L with
    | nil =>
      have : M = [] := List.length_eq_zero_iff.1 hl
      subst this
      exact sameM_none a a' c c' w
    | cons x r =>
      obtain ⟨b, o, rfl, h2⟩ := h (by simp)
      obtain ⟨b', o', rfl, h3⟩ := h' (fun e => by rw [e] at hl; simp at hl)
      rw [hl]
      exact sameG_some (x :: r) M b o c b' o' c' w hn hl h2 h3
  · rw [decide_eq_false (fun e => hl (by rw [e]))]
    exact sameG_len a a' _ _ c c' w (fun e => hl e.symm)
end Ve
end Go.Proofs.YtacggkigfjpfnaaGreatDoor

/-
  What without and RootsOf of the document's answer say.
-/
namespace Go.Proofs.YtacggkigfjpfnaaGreatDoor
open Go.RowKit Go.Maps
namespace Ve

theorem grT_below {W W' : World} (h : W.grownBy W' none) : Below W.heap.size W W' := ⟨h.os, h.tape, h.output, h.size, fun k hk => h.block k hk (by simp)⟩
set_option maxRecDepth 100000 in
set_option maxHeartbeats 4000000 in
/-- without the one at a place. -/
theorem rwo_any (X : List Bm) (k : Nat) (v : Value) (w : World) (hX : X.length ≤ 1000) (hk : k < X.length) (hv : MsAt w v X) :
    Calls Tryz.prog 30 #[v, .int .i64 (k : Int)] w fun e w' => ∃ a c, e = .returned (.slice a (X.eraseIdx k).length c) ∧ Mr w w' (.slice a (X.eraseIdx k).length c) (X.eraseIdx k) := by
  obtain ⟨va, cc, hv1, -⟩ := id hv
  subst hv1
  obtain ⟨cb, co, hca, -⟩ := hv.cells hk
  subst hca
  have hccl : X.length ≤ cc := hv.cap
  have HT1 := hid (ms_take hv (k := k) (by omega))
  have hk0 : (0 : Int) ≤ (k : Int) := Int.natCast_nonneg _
  have hkI : (k : Int) < (X.length : Int) := by omega
  have hkL : (k : Int) ≤ (X.length : Int) := by omega
  have hkC : (k : Int) ≤ (cc : Int) := by omega
  have hk10 : (0 : Int) ≤ (k : Int) + 1 := by omega
  have hk1L : (k : Int) + 1 ≤ (X.length : Int) := by omega
  have hk1C : (k : Int) + 1 ≤ (cc : Int) := by omega
  have HLC := hid (show X.take k ++ X.drop (k + 1) = X.eraseIdx k from (List.eraseIdx_eq_take_drop_succ X k).symm)
  have HD1 := hid (fun W (h : Below w.heap.size w W) => ms_drop (hv.below h) (k + 1) (cc - (k + 1)) (by omega))
  have HD2 := hid (fun W (he : cc = k + 1) => show MsAt W (.slice (some ⟨cb, co, none⟩) (X.length - (k + 1)) (cc - (k + 1))) (X.drop (k + 1)) by
    have hz : X.drop (k + 1) = [] := List.drop_eq_nil_of_le (by omega)
    rw [hz]
    exact ⟨_, _, by rw [show X.length - (k + 1) = 0 by omega]; rfl, Nat.zero_le _, fun h => absurd rfl h⟩)
  have HL1 := hid (show (X.take k).length ≤ 1000 by simp; omega)
  have HL2 := hid (show (X.drop (k + 1)).length ≤ 1000 by simp; omega)
  obtain ⟨u1, w1, hrun1, hown1, hgr1⟩ := both_run [] (X.take k) (.slice none 0 0) _ w w.heap.size (Nat.le_refl _) (by simp) HL1.out (World.ownsRow_nil _ _ _ _) HT1.out (em_ad _ _ _ _)
  rw [List.nil_append] at hown1
  have HR1 := hid hrun1
  have HB1 := hid (show Below w.heap.size w w1 from grT_below hgr1)
  have HO1 := hid hown1
  have HLT1 := hid (fun k hk => (hown1.lt k hk).1)
  have HAP := hid (fun sv (hsv : MsAt w1 sv (X.drop (k + 1))) (he : Em sv (X.drop (k + 1))) => both_run (X.take k) (X.drop (k + 1)) _ sv w1 w.heap.size HB1.out.size HL1.out HL2.out HO1.out hsv he)
  rw [HLC.out] at HAP
  obtain ⟨a1, c1, hu1⟩ := own_slN hown1
  subst hu1
  clear hv hrun1 hown1 hgr1 HT1 HLC
  generalize X.take k = CT at *
  generalize X.drop (k + 1) = CD at *
  generalize X.eraseIdx k = LC at *
  by_cases hcap : (k : Int) + 1 < (cc : Int)
  · obtain ⟨dv, w2, hrun, hown, hgr⟩ := HAP.out _ (HD1.out _ HB1.out) (em_ad _ _ _ _)
    have HRUN := hid hrun
    have HM2 := hid (mr_own hown (HB1.out.grown hgr HB1.out.size HLT1.out))
    obtain ⟨da, dc, hdv⟩ := own_slN hown
    subst hdv
    clear hrun hown hgr HAP HD1 HD2
    go_enter Tryz.func30, Tryz.ntmps30
    go_wp2_with (at_builtin; first | refine Lib.wpList_append_run _ rfl _ _ _ _ rfl _ _ rfl rfl _ _ HR1.out ?_ | refine Lib.wpList_append_run _ rfl _ _ _ _ rfl _ _ rfl rfl _ _ HRUN.out ?_)
    go_ret
    exact ⟨_, _, rfl, HM2.out⟩
  · have HC2 : Hid (cc = k + 1) := hid (by omega)
    obtain ⟨dv, w2, hrun, hown, hgr⟩ := HAP.out _ (HD2.out w1 HC2.out) (em_ad _ _ _ _)
    have HRUN := hid hrun
    have HM2 := hid (mr_own hown (HB1.out.grown hgr HB1.out.size HLT1.out))
    obtain ⟨da, dc, hdv⟩ := own_slN hown
    subst hdv
    clear hrun hown hgr HAP HD1 HD2
    go_enter Tryz.func30, Tryz.ntmps30
    go_wp2_with (at_builtin; first | refine Lib.wpList_append_run _ rfl _ _ _ _ rfl _ _ rfl rfl _ _ HR1.out ?_ | refine Lib.wpList_append_run _ rfl _ _ _ _ rfl _ _ rfl rfl _ _ HRUN.out ?_)
    go_ret
    exact ⟨_, _, rfl, HM2.out⟩
set_option maxRecDepth 100000 in
set_option maxHeartbeats 4000000 in
theorem ro_bad (Q : List Raw) (L : List Ent) (sel : List Bm) (v sv : Value) (w : World) (hn : L.length ≤ 1000) (hsn : sel.length ≤ 1000) (sh : ∀ e, e ∈ L → ShE e) (I : Ixs w v Q L) (hs : MsAt w sv sel) (h0 : ¬ (chkG Q L sel).1 = 0) :
    Calls Tryz.prog 15 #[v, sv] w fun e w' => e = .returned (.tuple #[.slice none 0 0, faultV (chkG Q L sel)]) ∧ Below w.heap.size w w' := by
  have HRO := hid (fun W (h : Below w.heap.size w W) => bo_bad Q L sel v sv W hn (by omega) sh (I.below h) (hs.below h) h0)
  have HB0 := hid ((Below.refl w.heap.size w).alloc (Nat.le_refl _) (.cells #[.int .i64 0, .int .i64 0] 38))
  have HE0 := hid (heap_new w (.cells #[.int .i64 0, .int .i64 0] 38))
  obtain ⟨a, c, hv1, -⟩ := id I.es
  subst hv1
  obtain ⟨ra, rc, hrv, -⟩ := id hs
  subst hrv
  obtain ⟨cc, oo, hco⟩ : ∃ cc oo, chkG Q L sel = (cc, oo) := ⟨_, _, rfl⟩
  rw [hco] at HRO h0 ⊢
  unfold faultV at HRO ⊢
  simp only at HRO h0 ⊢
  generalize atOf oo = ao at *
  have hpos : (0 : Int) < (cc : Int) := by omega
  clear I hs sh h0 hco
  go_enter Tryz.func15, Tryz.ntmps15
  go_wp2_with fail
  refine (HRO.out _ HB0.out).mono ?_
  rintro e w1 ⟨rfl, hb⟩
  have HB1 := hid (HB0.out.trans (hb.mono HB0.out.size))
  have HE1 := hid ((hb.block _ (lt_of_blk HE0.out)).trans HE0.out)
  clear hb
  have HB2 := hid (HB1.out.alloc HB1.out.size (.cells #[.int .i64 (cc : Int), .int .i64 ao] 38))
  have HE2 := hid (heap_old w1 (.cells #[.int .i64 (cc : Int), .int .i64 ao] 38) HE1.out)
  have HF2 := hid (heap_new w1 (.cells #[.int .i64 (cc : Int), .int .i64 ao] 38))
  have hlt := lt_of_blk HE1.out
  have hne : ¬ w1.heap.size = w.heap.size := by omega
  have hne2 : ¬ w.heap.size = w1.heap.size := by omega
  go_wp2_with fail
  generalize w1.alloc (.cells #[.int .i64 (cc : Int), .int .i64 ao] 38) = w2 at *
  obtain ⟨s0, s1, tf⟩ := box_two HE2.out
  obtain ⟨f0, f1, _⟩ := box_two HF2.out
  go_region_with fail
  all_goals
    go_wp2_with fail
    refine bodyPost_ret (v := .tuple #[.slice none 0 0, .agg #[.int .i64 (cc : Int), .int .i64 ao]]) (by simp [results, Tryz.results15, go_sem, s0, s1]) rfl ⟨rfl, ?_⟩
    exact put2_below (below_drawn_of HB2.out 1) (Nat.le_refl _)
set_option maxRecDepth 100000 in
set_option maxHeartbeats 4000000 in
theorem ro_other (Q : List Raw) (L : List Ent) (sel : List Bm) (v sv : Value) (w : World) (hn : L.length ≤ 1000) (hsn : sel.length ≤ 1000) (sh : ∀ e, e ∈ L → ShE e) (I : Ixs w v Q L) (hs : MsAt w sv sel) (h0 : (chkG Q L sel).1 = 0) (h1 : ¬ bX Q L sel = sel) :
    Calls Tryz.prog 15 #[v, sv] w fun e w' => e = .returned (.tuple #[.slice none 0 0, .agg #[.int .i64 3, .int .i64 (-1)]]) ∧ Below w.heap.size w w' := by
  have HRO := hid (fun W (h : Below w.heap.size w W) => bo_all Q L sel v sv W hn (by omega) sh (I.below h) (hs.below h))
  rw [rF_good h0, faultV0] at HRO
  have HSA := hid (fun W u (h : Below w.heap.size w W) (hu : MsAt W u (bX Q L sel)) => sameG_any (bX Q L sel) sel u sv W (Nat.le_trans bX_len (by omega)) hu (hs.below h))
  rw [decide_eq_false h1] at HSA
  have HB0 := hid ((Below.refl w.heap.size w).alloc (Nat.le_refl _) (.cells #[.int .i64 0, .int .i64 0] 38))
  have HE0 := hid (heap_new w (.cells #[.int .i64 0, .int .i64 0] 38))
  have HBA := hid (fun W => rbare_any 3 W)
  obtain ⟨a, c, hv1, -⟩ := id I.es
  subst hv1
  obtain ⟨ra, rc, hrv, -⟩ := id hs
  subst hrv
  clear I hs sh h0 h1
  generalize bX Q L sel = X at *
  go_enter Tryz.func15, Tryz.ntmps15
  go_wp2_with fail
  refine (HRO.out _ HB0.out).mono ?_
  rintro e w1 ⟨ba, bc, rfl, hm⟩
  have HB1 := hid (HB0.out.trans (hm.1.mono HB0.out.size))
  have HE1 := hid ((hm.1.block _ (lt_of_blk HE0.out)).trans HE0.out)
  have HM1 := hid (hm.ms.below ((Below.refl w1.heap.size w1).alloc (Nat.le_refl _) (.cells #[.int .i64 0, .int .i64 (-1)] 38)))
  clear hm HRO
  have HB2 := hid (HB1.out.alloc HB1.out.size (.cells #[.int .i64 0, .int .i64 (-1)] 38))
  have HE2 := hid (heap_old w1 (.cells #[.int .i64 0, .int .i64 (-1)] 38) HE1.out)
  have hne : ¬ w1.heap.size = w.heap.size := Nat.ne_of_gt (lt_of_blk HE1.out)
  have hne2 : ¬ w.heap.size = w1.heap.size := Nat.ne_of_lt (lt_of_blk HE1.out)
  go_wp2_with fail
  generalize w1.alloc (.cells #[.int .i64 0, .int .i64 (-1)] 38) = w2 at *
  refine (HSA.out _ _ HB2.out HM1.out).mono ?_
  rintro e w3 ⟨rfl, hb⟩
  have HB3 := hid (HB2.out.trans (hb.mono HB2.out.size))
  have HE3 := hid ((hb.block _ (lt_of_blk HE2.out)).trans HE2.out)
  clear hb
  go_wp2_with fail
  refine (HBA.out _).mono ?_
  rintro e w4 ⟨rfl, hb⟩
  have HB4 := hid (HB3.out.trans (hb.mono HB3.out.size))
  have HE4 := hid ((hb.block _ (lt_of_blk HE3.out)).trans HE3.out)
  clear hb
  obtain ⟨s0, s1, tf⟩ := box_two HE4.out
  go_wp2_with fail
  refine bodyPost_ret (v := .tuple #[.slice none 0 0, .agg #[.int .i64 3, .int .i64 (-1)]]) (by simp [results, Tryz.results15, go_sem, s0, s1]) rfl ⟨rfl, ?_⟩
  exact put2_below HB4.out (Nat.le_refl _)
/-- How long a slice is. -/
def lenOfS : Value → Nat
  | .slice _ n _ => n
  | _ => 0
theorem ro_meas {n m i : Nat} {a b : Option Addr} {c d : Nat} (h : m = n - 1) (hi : i < n) : lenOfS (.slice a m c) - (intOf (Value.int .i64 (i : Int))).toNat < lenOfS (.slice b n d) - (intOf (Value.int .i64 (i : Int))).toNat := by
  simp [lenOfS, intOf]; omega
/-- What the rounds hold. -/
structure Rr (w W : World) (g : Nat) (T : TypeId) (v : Value) (X : List Bm) : Prop where
  bl : Below w.heap.size w W
  ms : MsAt W v X
  bx : W.heap[g]? = some (.cells #[.int .i64 0, .int .i64 0] T (0, 0))
theorem Rr.below {w W W' : World} {g : Nat} {T : TypeId} {v : Value} {X : List Bm} (h : Rr w W g T v X) (hb : Below W.heap.size W W') : Rr w W' g T v X :=
  ⟨h.bl.trans (hb.mono h.bl.size), h.ms.below hb, (hb.block _ (lt_of_blk h.bx)).trans h.bx⟩
set_option maxRecDepth 100000 in
set_option maxHeartbeats 8000000 in
theorem ro_good (Q : List Raw) (L : List Ent) (sel : List Bm) (v sv : Value) (w : World) (hn : L.length ≤ 1000) (hsn : sel.length ≤ 1000) (sh : ∀ e, e ∈ L → ShE e) (I : Ixs w v Q L) (hs : MsAt w sv sel) (hem : Em sv sel) (h0 : (chkG Q L sel).1 = 0) (h1 : bX Q L sel = sel) :
    Calls Tryz.prog 15 #[v, sv] w fun e w' => ∃ a c, e = .returned (.tuple #[.slice a (trX Q L sel).length c, .agg #[.int .i64 0, .int .i64 (-1)]]) ∧ MsAt w' (.slice a (trX Q L sel).length c) (trX Q L sel) ∧ Below w.heap.size w w' := by
  have HUN := hid (show ∀ x, x ∈ sel → x ∈ univ L from fun x hx => by rw [← h1] at hx; exact bX_univ x hx)
  have HRO := hid (fun W (h : Below w.heap.size w W) => bo_all Q L sel v sv W hn (by omega) sh (I.below h) (hs.below h))
  rw [rF_good h0, faultV0, h1] at HRO
  have HSA := hid (fun W u (h : Below w.heap.size w W) (hu : MsAt W u sel) => sameG_any sel sel u sv W (by omega) hu (hs.below h))
  rw [decide_eq_true (Eq.refl sel)] at HSA
  have HBE := hid (fun (E : List Bm) W u (h : Below w.heap.size w W) (hE : E.Sublist sel) (hu : MsAt W u E) => show Calls Tryz.prog 17 #[v, u] W fun e w' => ∃ a c, e = .returned (.tuple #[.slice a (bX Q L E).length c, .agg #[.int .i64 0, .int .i64 (-1)]]) ∧ Mr W w' (.slice a (bX Q L E).length c) (bX Q L E) by
    have hg : (chkG Q L E).1 = 0 := chkG_in I (chkG_chk h0) fun x hx => HUN.out x (hE.subset hx)
    have := bo_all Q L E v u W hn (Nat.le_trans hE.length_le (by omega)) sh (I.below h) hu
    rw [rF_good hg, faultV0] at this
    exact this)
  have HSE := hid (fun (E : List Bm) W u (h : Below w.heap.size w W) (hu : MsAt W u (bX Q L E)) => show Calls Tryz.prog 14 #[u, sv] W fun e w' => e = .returned (.bool (gB Q L sel E)) ∧ Below W.heap.size W w' by
    have e : decide (bX Q L E = sel) = gB Q L sel E := by rw [Bool.eq_iff_iff, decide_eq_true_iff, gB_iff]
    have := sameG_any (bX Q L E) sel u sv W (Nat.le_trans bX_len (by omega)) hu (hs.below h)
    rw [e] at this
    exact this)
  have HS := hid (fun W (h : Below w.heap.size w W) => hs.below h)
  have HEM := hid hem
  have HB0 := hid ((Below.refl w.heap.size w).alloc (Nat.le_refl _) (.cells #[.int .i64 0, .int .i64 0] 38))
  have HE0 := hid (heap_new w (.cells #[.int .i64 0, .int .i64 0] 38))
  have HFN := hid (fun W => fine_any W)
  have HST := hid (show trm (gB Q L sel) (sel.length - 0) sel 0 = trX Q L sel from rfl)
  obtain ⟨a, c, hv1, -⟩ := id I.es
  subst hv1
  obtain ⟨ra, rc, hrv, -⟩ := id hs
  subst hrv
  clear I hs sh h0 h1 hem HUN
  generalize trX Q L sel = TX at *
  generalize gB Q L sel = g at *
  go_enter Tryz.func15, Tryz.ntmps15
  go_wp2_with fail
  refine (HRO.out _ HB0.out).mono ?_
  rintro e w1 ⟨ba, bc, rfl, hm⟩
  have HB1 := hid (HB0.out.trans (hm.1.mono HB0.out.size))
  have HE1 := hid ((hm.1.block _ (lt_of_blk HE0.out)).trans HE0.out)
  have HM1 := hid (hm.ms.below ((Below.refl w1.heap.size w1).alloc (Nat.le_refl _) (.cells #[.int .i64 0, .int .i64 (-1)] 38)))
  clear hm HRO
  have HB2 := hid (HB1.out.alloc HB1.out.size (.cells #[.int .i64 0, .int .i64 (-1)] 38))
  have HE2 := hid (heap_old w1 (.cells #[.int .i64 0, .int .i64 (-1)] 38) HE1.out)
  have hne : ¬ w1.heap.size = w.heap.size := Nat.ne_of_gt (lt_of_blk HE1.out)
  have hne2 : ¬ w.heap.size = w1.heap.size := Nat.ne_of_lt (lt_of_blk HE1.out)
  go_wp2_with fail
  generalize w1.alloc (.cells #[.int .i64 0, .int .i64 (-1)] 38) = w2 at *
  refine (HSA.out _ _ HB2.out HM1.out).mono ?_
  rintro e w3 ⟨rfl, hb⟩
  have HB3 := hid (HB2.out.trans (hb.mono HB2.out.size))
  have HE3 := hid ((hb.block _ (lt_of_blk HE2.out)).trans HE2.out)
  clear hb HB0 HE0 HB1 HE1 HM1 HB2 HE2 HSA
  obtain ⟨av, w4, hrun, hown, hgr⟩ := both_run [] sel (.slice none 0 0) _ w3 w3.heap.size (Nat.le_refl _) (by simp) hsn (World.ownsRow_nil _ _ _ _) (HS.out _ HB3.out) HEM.out
  have HRUN := hid hrun
  have HD4 := hid (show Below w3.heap.size w3 w4 from grT_below hgr)
  rw [List.nil_append] at hown
  have HR4 := hid (show Rr w w4 w.heap.size 38 av sel from ⟨HB3.out.trans (HD4.out.mono HB3.out.size), own_ms hown, (HD4.out.block _ (lt_of_blk HE3.out)).trans HE3.out⟩)
  obtain ⟨aa, ac, hav⟩ := own_slN hown
  subst hav
  clear hrun hown hgr HD4 HB3 HE3 HEM
  go_wp2_with (at_builtin; refine Lib.wpList_append_run _ rfl _ _ _ _ rfl _ _ rfl rfl _ _ HRUN.out ?_)
  go_loopw [9, 10] (fun ov iv wr => ∃ (X : List Bm) (i : Nat) (a : Option Addr) (c : Nat), i ≤ X.length ∧ ov = .slice a X.length c ∧ iv = .int .i64 i ∧ Hid (X.Sublist sel) ∧ Hid (trm g (X.length - i) X i = TX) ∧ Hid (Rr w wr w.heap.size 38 (.slice a X.length c) X)) (fun ov iv _ => lenOfS ov - (intOf iv).toNat)
  case atStart => exact ⟨sel, 0, aa, ac, Nat.zero_le _, rfl, rfl, hid (List.Sublist.refl _), HST, HR4⟩
  case round =>
    obtain ⟨X, i, xa, xc, hi, rfl, rfl, HSU, HTM, HR⟩ := hrel
    by_cases hlt : i < X.length
    · have hiI := ix_lt hlt
      have hii := ix_pos i
      have HLI := hid hlt
      have HXL := hid (show X.length ≤ 1000 from Nat.le_trans HSU.out.length_le hsn)
      have HWO := hid (rwo_any X i _ wr HXL.out hlt HR.out.ms)
      have HES := hid ((List.eraseIdx_sublist X i).trans HSU.out)
      have HGO := hid (fun h => (tr_goes (g := g) hlt h).trans HTM.out)
      have HSY := hid (fun h => (tr_stays (g := g) hlt h).trans HTM.out)
      have HEL := hid (List.length_eraseIdx_of_lt hlt)
      have HBX := hid (fun W u (h : Below w.heap.size w W) (hu : MsAt W u (X.eraseIdx i)) => HBE.out (X.eraseIdx i) W u h HES.out hu)
      have HSX := hid (fun W u (h : Below w.heap.size w W) (hu : MsAt W u (bX Q L (X.eraseIdx i))) => HSE.out (X.eraseIdx i) W u h hu)
      clear hlt HTM
      generalize X.eraseIdx i = E at *
      generalize bX Q L E = BE at *
      go_wp2_with fail
      refine HWO.out.mono ?_
      rintro e w5 ⟨ea, ec, rfl, hm⟩
      have HR5 := hid (HR.out.below hm.1)
      have HE5 := hid hm.ms
      clear hm HWO HR
      go_wp2_with fail
      refine (HBX.out w5 _ HR5.out.bl HE5.out).mono ?_
      rintro e w6 ⟨ya, yc, rfl, hm⟩
      have HA6 := hid ((Below.refl w6.heap.size w6).alloc (Nat.le_refl _) (.cells #[.int .i64 0, .int .i64 (-1)] 38))
      have HR6 := hid ((HR5.out.below hm.1).below HA6.out)
      have HE6 := hid ((HE5.out.below hm.1).below HA6.out)
      have HY6 := hid (hm.ms.below HA6.out)
      clear hm HR5 HE5 HBX
      go_wp2_with fail
      generalize w6.alloc (.cells #[.int .i64 0, .int .i64 (-1)] 38) = w7 at *
      refine (HSX.out w7 _ HR6.out.bl HY6.out).mono ?_
      rintro e w8 ⟨rfl, hb⟩
      have HR8 := hid (HR6.out.below hb)
      have HE8 := hid (HE6.out.below hb)
      clear hb HR6 HE6 HY6 HSX
      cases hz : g E
      · have HN := hid (HSY.out hz)
        clear hz HGO HSY
        go_wp2_with fail
        go_roundw
        case rel => first | exact ⟨X, i + 1, xa, xc, HLI.out, rfl, nr_idx i, HSU, HN, HR8⟩ | exact ⟨X, i + 1, xa, xc, HLI.out, rfl, nx_idx HLI.out (Nat.le_trans HXL.out (by decide)), HSU, HN, HR8⟩
        case measure => first | exact nr_meas HLI.out | exact nx_meas HLI.out (Nat.le_trans HXL.out (by decide))
      · have HN := hid (HGO.out hz)
        have HI2 := hid (show i ≤ E.length by have h1 := HEL.out; have h2 := HLI.out; omega)
        clear hz HGO HSY
        go_wp2_with fail
        go_roundw
        case rel => exact ⟨E, i, ea, ec, HI2.out, rfl, rfl, HES, HN, hid ⟨HR8.out.bl, HE8.out, HR8.out.bx⟩⟩
        case measure => exact ro_meas HEL.out HLI.out
    · have hiI := ix_nlt hlt
      have HTX := hid (show X = TX by have h := HTM.out; rw [show X.length - i = 0 by omega] at h; exact h)
      clear hlt
      go_wp2_with fail
      refine (HFN.out _).mono ?_
      rintro e w6 ⟨rfl, hb⟩
      have HR6 := hid (HR.out.below hb)
      clear hb
      obtain ⟨s0, s1, tf⟩ := box_two HR6.out.bx
      have HM7 := hid (ms_put2D (x := .int .i64 0) (y := .int .i64 (-1)) HR6.out.ms HR6.out.bx)
      go_wp2_with fail
      refine bodyPost_ret (v := .tuple #[.slice xa X.length xc, .agg #[.int .i64 0, .int .i64 (-1)]]) (by simp [results, Tryz.results15, go_sem, s0, s1]) rfl ?_
      have h := HTX.out
      subst h
      exact ⟨_, _, rfl, HM7.out, put2_below HR6.out.bl (Nat.le_refl _)⟩
/-- RootsOf. -/
theorem ro_all (Q : List Raw) (L : List Ent) (sel : List Bm) (v sv : Value) (w : World) (hn : L.length ≤ 1000) (hsn : sel.length ≤ 1000) (sh : ∀ e, e ∈ L → ShE e) (I : Ixs w v Q L) (hs : MsAt w sv sel) (hem : Em sv sel) :
    Calls Tryz.prog 15 #[v, sv] w fun e w' => ∃ a c, e = .returned (.tuple #[.slice a (trR Q L sel).length c, faultV (trF Q L sel)]) ∧ MsAt w' (.slice a (trR Q L sel).length c) (trR Q L sel) ∧ Below w.heap.size w w' := by
  by_cases h0 : (chkG Q L sel).1 = 0
  · by_cases h1 : bX Q L sel = sel
    · rw [trR_good h0 h1, trF_good h0 h1]
      exact ro_good Q L sel v sv w hn hsn sh I hs hem h0 h1
    · refine (ro_other Q L sel v sv w hn hsn sh I hs h0 h1).mono ?_
      rintro e w' ⟨rfl, hb⟩
      rw [trR_other h0 h1, trF_other h0 h1]
      exact ⟨_, _, rfl, (mr_nil0 hb).ms, hb⟩
  · refine (ro_bad Q L sel v sv w hn hsn sh I hs h0).mono ?_
    rintro e w' ⟨rfl, hb⟩
    rw [trR_bad h0, trF_bad h0]
    exact ⟨_, _, rfl, (mr_nil0 hb).ms, hb⟩
end Ve
end Go.Proofs.YtacggkigfjpfnaaGreatDoor

/-
  pewholderlaw2.TrimLeast walked: what is built of the roots is the selection; without any one of them it is less; they are of the selection.
-/
namespace Go.Proofs.YtacggkigfjpfnaaGreatDoor
open Go.RowKit Go.Maps
namespace Ve

/-- What TrimLeast asks, plain. -/
structure TlF (Q : List Raw) (L : List Ent) (roots S X : List Bm) : Prop where
  sub : X.Sublist S
  un : ∀ x, x ∈ S → x ∈ univ L
  ux : undB X S = true
  sb : smB Q L X roots = true
  sf : smF Q L X roots = (0, none)
  ls : ∀ j, j < X.length → ¬ bX Q L (X.eraseIdx j) = S
  ok : ∀ j, (chkG Q L (X.eraseIdx j)).1 = 0
  ud : ∀ j, undB (bX Q L (X.eraseIdx j)) S = true
theorem tlF_of {w : World} {v : Value} {Q : List Raw} {L : List Ent} {roots : List Bm} (I : Ixs w v Q L) (h : (chkG Q L roots).1 = 0) : TlF Q L roots (bX Q L roots) (trX Q L (bX Q L roots)) := by
  have hc := chkG_chk h
  have hu : ∀ m, m ∈ bX Q L roots → m ∈ univ L := bX_univ
  have hag := bX_again I h
  have t := trX_ok I hc hu hag
  have hb := gB_iff.1 t.will
  have hx : (chkG Q L (trX Q L (bX Q L roots))).1 = 0 := chkG_in I hc fun m hm => hu m (t.sub.subset hm)
  have he : ∀ j m, m ∈ (trX Q L (bX Q L roots)).eraseIdx j → m ∈ bX Q L roots := fun j m hm => t.sub.subset ((List.eraseIdx_sublist _ _).subset hm)
  refine ⟨t.sub, hu, bX_over I h fun m hm => bX_in I h (t.sub.subset hm), (smB_good hx h).2 hb.symm, by rw [smF_b hx, rF_good h], fun j hj => gB_not.1 (t.least j hj), fun j => chkG_in I hc fun m hm => hu m (he j m hm), fun j => ?_⟩
  have := bX_under I hc hu (he j)
  rw [hag] at this
  exact this
/-- What the loop reads. -/
structure Gl (w W : World) (sv : Value) (S : List Bm) (xv : Value) (X : List Bm) : Prop where
  bl : Below w.heap.size w W
  ss : MsAt W sv S
  xs : MsAt W xv X
theorem Gl.below {w W W' : World} {sv xv : Value} {S X : List Bm} (h : Gl w W sv S xv X) (hb : Below W.heap.size W W') : Gl w W' sv S xv X :=
  ⟨h.bl.trans (hb.mono h.bl.size), h.ss.below hb, h.xs.below hb⟩
set_option maxRecDepth 100000 in
set_option maxHeartbeats 600000 in
theorem tl_main (Q0 : List Raw) (L : List Ent) (roots : List Bm) (v u : Value) (A : Nat → Addr) (m : Int) (w : World) (S : Te w A m) (I : Ixs w v Q0 L) (em : EmI Q0 L) (hr : MsAt w u roots) (her : Em u roots) (hok : okI L = true) (h30 : L.length ≤ 30) (hrk : okLN 15 roots = true) :
    Calls Tryz.prog 3 #[v, u] w fun e w' => e = .returned (.bool true) ∧ Below w.heap.size w w' := by
  obtain ⟨a0, c0, hv0, -⟩ := id I.es
  subst hv0
  obtain ⟨ra, rc, hu0, -⟩ := id hr
  subst hu0
  have hr15 : roots.length ≤ 15 := (okLN_iff hrk).1
  have hq30 : (Q0.length : Int) ≤ 30 := by rw [I.ln]; omega
  have HIN := hid (trimd_any A m w S)
  have HLO := hid (fun W (h : Below w.heap.size w W) => longI_any Q0 L _ W (I.below h))
  rw [if_pos hok] at HLO
  have HLM := hid (fun W (h : Below w.heap.size w W) => longN_any 15 (by decide) roots _ W (hr.below h))
  rw [if_pos hrk] at HLM
  have HOW := hid (fun W (h : Below w.heap.size w W) => ownI_any Q0 L _ W (by omega) (I.below h) em (okI_fits hok))
  have HOM := hid (fun W (h : Below w.heap.size w W) => ownM_any _ roots W (by omega) (hr.below h) her)
  have HS := hid (fun W (h : Below w.heap.size w W) => S.below h)
  have HSH := hid (okI_sh hok)
  clear S I em hok hr her hrk
  go_enter Tryz.func3, Tryz.ntmps3
  go_wp2_with fail
  refine HIN.out.mono ?_
  rintro e w1 ⟨rfl, hb⟩
  have HB1 := hid hb
  clear hb
  go_wp2_with fail
  refine (HLO.out w1 HB1.out).mono ?_
  rintro e w2 ⟨rfl, hb⟩
  have HB2 := hid (HB1.out.trans (hb.mono HB1.out.size))
  clear hb
  go_wp2_with fail
  refine (HLM.out w2 HB2.out).mono ?_
  rintro e w2' ⟨rfl, rfl⟩
  go_wp2_with fail
  refine (HOW.out w2' HB2.out).mono ?_
  rintro e w3 ⟨ou, Q, rfl, hO, hb⟩
  have HB3' := hid (HB2.out.trans (hb.mono HB2.out.size))
  have HIX := hid (fun W (h : Below w3.heap.size w3 W) => hO.ixs.below h)
  have HI3 := hid hO.ixs
  obtain ⟨oa, oc, hou, -⟩ := id hO.ixs.es
  subst hou
  have HBW := hid (fun W (h : Below w3.heap.size w3 W) => HB3'.out.trans (h.mono HB3'.out.size))
  have HBD := hid (fun (E : List Bm) W u (h : Below w3.heap.size w3 W) (hl : E.length ≤ 1000) (hu : MsAt W u E) (h0 : (chkG Q L E).1 = 0) => show Calls Tryz.prog 9 #[.slice oa Q.length oc, u] W fun e w' => ∃ a c, e = .returned (.tuple #[.slice a (bX Q L E).length c, .nilIface]) ∧ Mr W w' (.slice a (bX Q L E).length c) (bX Q L E) by
    refine (build_all Q L E _ u A m W (by omega) (by omega) HSH.out (HS.out _ (HBW.out _ h)) (HIX.out _ h) hu).mono ?_
    rintro e w' ⟨a, c, x, rfl, hm, he⟩
    rw [rF_good h0] at he
    have he : x = .nilIface := he
    subst he
    exact ⟨a, c, rfl, hm⟩)
  clear hb hO HLO HLM HOW HIN HB1 HB2
  have HB3 := hid (Below.refl w3.heap.size w3)
  go_wp2_with fail
  refine (HOM.out w3 (HBW.out _ HB3.out)).mono ?_
  rintro e w4 ⟨u4, rfl, ho, -, hb⟩
  have HB4 := hid (HB3.out.trans (hb.mono HB3.out.size))
  have HR4 := hid (own_ms ho)
  obtain ⟨a4, c4, hu4⟩ := own_slN ho
  subst hu4
  clear ho hb
  by_cases hca : (chkG Q L roots).1 = 0
  rotate_left
  · have HBU := hid (build_bad Q L roots _ _ A m w4 (by omega) (by omega) HSH.out (HS.out _ (HBW.out _ HB4.out)) (HIX.out _ HB4.out) HR4.out hca)
    clear hca
    go_wp2_with fail
    refine HBU.out.mono ?_
    rintro e w6 ⟨T, ea, rfl, -, hb⟩
    have HB6 := hid (HBW.out _ (HB4.out.trans (hb.mono HB4.out.size)))
    clear hb HBU
    go_wp2_with fail
    go_ret
    exact ⟨rfl, HB6.out⟩
  have HTF := hid (tlF_of HI3.out hca)
  have HBU := hid (HBD.out roots w4 _ HB4.out (by omega) HR4.out hca)
  have HSL := hid (show (bX Q L roots).length ≤ 30 from Nat.le_trans bX_len h30)
  have HAG := hid (bX_again HI3.out hca)
  have HCS := hid (chkG_in HI3.out (chkG_chk hca) HTF.out.un)
  clear hca
  generalize bX Q L roots = SE at *
  go_wp2_with fail
  refine HBU.out.mono ?_
  rintro e w5 ⟨sa, sc, rfl, hm⟩
  have HB5 := hid (HB4.out.trans (hm.1.mono HB4.out.size))
  have HS5 := hid hm.ms
  have HRO := hid (roots_good Q L SE _ _ A m w5 (by omega) (by have := HSL.out; omega) HSH.out (HS.out _ (HBW.out _ HB5.out)) (HIX.out _ HB5.out) hm.ms hm.em HCS.out HAG.out)
  clear hm HBU HB4 HR4
  generalize trX Q L SE = X at *
  go_wp2_with fail
  refine HRO.out.mono ?_
  rintro e w6 ⟨xa, xc, rfl, hm⟩
  have HG6 := hid (show Gl w3 w6 (.slice sa SE.length sc) SE (.slice xa X.length xc) X from ⟨HB5.out.trans (hm.1.mono HB5.out.size), HS5.out.below hm.1, hm.ms⟩)
  have HXL := hid (show X.length ≤ 30 from Nat.le_trans HTF.out.sub.length_le HSL.out)
  have HZS := hid (show ∀ x, x ∈ SE → x.2.size < 999999 from fun x hx => by
    obtain ⟨e, he, rfl⟩ := List.mem_map.1 (HTF.out.un x hx)
    exact (HSH.out e he).v)
  have HUN := hid (fun (E : List Bm) W a (h : Below w3.heap.size w3 W) (hl : E.length ≤ 1000) (hz : ∀ x, x ∈ E → x.2.size < 999999) (ha : MsAt W a E) (hs : MsAt W (.slice sa SE.length sc) SE) (hb : undB E SE = true) => show Calls Tryz.prog 12 #[a, .slice sa SE.length sc] W fun e w' => e = .returned (.bool true) ∧ Below W.heap.size W w' by
    have := und_any E SE a _ A m W (by omega) (by have := HSL.out; omega) hz HZS.out (HS.out _ (HBW.out _ h)) ha hs
    rw [hb] at this
    exact this)
  clear hm HRO HB5 HS5
  have HU6 := hid (HUN.out X w6 _ HG6.out.bl (by have := HXL.out; omega) (fun x hx => HZS.out x (HTF.out.sub.subset hx)) HG6.out.xs HG6.out.ss HTF.out.ux)
  go_wp2_with fail
  refine HU6.out.mono ?_
  rintro e w7 ⟨rfl, hb⟩
  have HG7 := hid (HG6.out.below hb)
  clear hb HG6 HU6
  go_wp2_with fail
  refine (HOM.out w7 (HBW.out _ HG7.out.bl)).mono ?_
  rintro e w8 ⟨u8, rfl, ho, -, hb⟩
  have HG8 := hid (HG7.out.below hb)
  have HR8 := hid (own_ms ho)
  obtain ⟨a8, c8, hu8⟩ := own_slN ho
  subst hu8
  clear ho hb HG7 HOM
  have HSM := hid (tsame_all Q L X roots _ _ _ A m w8 (by omega) (by have := HXL.out; omega) (by omega) HSH.out (HS.out _ (HBW.out _ HG8.out.bl)) (HIX.out _ HG8.out.bl) HG8.out.xs HR8.out)
  rw [HTF.out.sb, HTF.out.sf] at HSM
  go_wp2_with fail
  refine HSM.out.mono ?_
  rintro e w9 ⟨y9, rfl, he, hb⟩
  have he : y9 = .nilIface := he
  subst he
  have HG9 := hid (HG8.out.below hb)
  clear hb HG8 HR8 HSM
  have HLS := hid HTF.out.ls
  have HOK := hid HTF.out.ok
  have HUD := hid HTF.out.ud
  clear HTF HI3 HAG HCS
  go_wp2_with fail
  obtain ⟨GG, hGG⟩ : ∃ GG : World → Prop, GG = fun W => Gl w3 W (.slice sa SE.length sc) SE (.slice xa X.length xc) X := ⟨_, rfl⟩
  have FG := hid (show ∀ W, GG W → Gl w3 W (.slice sa SE.length sc) SE (.slice xa X.length xc) X from fun W h => by rw [hGG] at h; exact h)
  have FB := hid (show ∀ W W', GG W → Below W.heap.size W W' → GG W' from fun W W' h hb => by rw [hGG] at h ⊢; exact h.below hb)
  have HG0 := hid (show GG w9 by rw [hGG]; exact HG9.out)
  clear hGG HG9
  go_loopw [11] (fun iv wr => ∃ i : Nat, i ≤ X.length ∧ iv = .int .i64 i ∧ Hid (GG wr)) (fun iv _ => X.length - (intOf iv).toNat)
  case atStart => exact ⟨0, Nat.zero_le _, rfl, HG0⟩
  case round =>
    obtain ⟨k, hk, rfl, HG⟩ := hrel
    by_cases hlt : k < X.length
    · have HLT := hid hlt
      obtain ⟨cb, co, hca, -⟩ := (FG.out _ HG.out).xs.cells hlt
      subst hca
      have hccl : X.length ≤ xc := (FG.out _ HG.out).xs.cap
      have hk0 : (0 : Int) ≤ (k : Int) := Int.natCast_nonneg _
      have hkI : (k : Int) < (X.length : Int) := by omega
      have hkL : (k : Int) ≤ (X.length : Int) := by omega
      have hkC : (k : Int) ≤ (xc : Int) := by omega
      have hk10 : (0 : Int) ≤ (k : Int) + 1 := by omega
      have hk1L : (k : Int) + 1 ≤ (X.length : Int) := by omega
      have hk1C : (k : Int) + 1 ≤ (xc : Int) := by omega
      have hXl : X.length ≤ 30 := HXL.out
      have kw64 := ix_w1 hlt (show X.length ≤ 1000000 by omega)
      have kwk := ix_k1 hlt (show X.length ≤ 1000000 by omega)
      have ktn := ix_nat1 k
      have HT1 := hid (ms_take (FG.out _ HG.out).xs (k := k) (by omega))
      have HLC := hid (show X.take k ++ X.drop (k + 1) = X.eraseIdx k from (List.eraseIdx_eq_take_drop_succ X k).symm)
      have HD1 := hid (fun W (h : GG W) => ms_drop (FG.out _ h).xs (k + 1) (xc - (k + 1)) (by omega))
      have HD2 := hid (fun W (he : xc = k + 1) => show MsAt W (.slice (some ⟨cb, co, none⟩) (X.length - (k + 1)) (xc - (k + 1))) (X.drop (k + 1)) by
        have hz : X.drop (k + 1) = [] := List.drop_eq_nil_of_le (by omega)
        rw [hz]
        exact ⟨_, _, by rw [show X.length - (k + 1) = 0 by omega]; rfl, Nat.zero_le _, fun h => absurd rfl h⟩)
      have HL1 := hid (show (X.take k).length ≤ 1000 by have := HXL.out; simp; omega)
      have HL2 := hid (show (X.drop (k + 1)).length ≤ 1000 by have := HXL.out; simp; omega)
      have HOG := hid (ownM_any _ (X.take k) wr (by have := HL1.out; omega) HT1.out (em_ad _ _ _ _))
      have HLE := hid (show (X.eraseIdx k).length ≤ 1000 from Nat.le_trans (List.eraseIdx_sublist X k).length_le (by have := HXL.out; omega))
      have HBE := hid (fun W u (h : Below w3.heap.size w3 W) (hu : MsAt W u (X.eraseIdx k)) => HBD.out (X.eraseIdx k) W u h HLE.out hu (HOK.out k))
      have HSE := hid (fun W u (hu : MsAt W u (bX Q L (X.eraseIdx k))) (hs : MsAt W (.slice sa SE.length sc) SE) => sameG_any (bX Q L (X.eraseIdx k)) SE u _ W (Nat.le_trans bX_len (by omega)) hu hs)
      rw [decide_eq_false (HLS.out k hlt)] at HSE
      have HUE := hid (fun W a (h : Below w3.heap.size w3 W) (ha : MsAt W a (bX Q L (X.eraseIdx k))) (hs : MsAt W (.slice sa SE.length sc) SE) => HUN.out (bX Q L (X.eraseIdx k)) W a h (Nat.le_trans bX_len (by omega)) (fun x hx => by
        obtain ⟨e, he, rfl⟩ := List.mem_map.1 (bX_univ x hx)
        exact (HSH.out e he).v) ha hs (HUD.out k))
      clear hlt HT1
      generalize X.take k = CT at *
      generalize X.drop (k + 1) = CD at *
      generalize X.eraseIdx k = LC at *
      generalize bX Q L LC = Y at *
      go_wp2_with fail
      refine HOG.out.mono ?_
      rintro e w12 ⟨u12, rfl, ho, -, hb⟩
      have HG4 := hid (FB.out _ _ HG.out hb)
      have HO12 := hid ho
      have HB12 := hid hb
      obtain ⟨a12, c12, hu12⟩ := own_slN ho
      subst hu12
      have HAP := hid (fun sv (hsv : MsAt w12 sv CD) (he : Em sv CD) => both_run CT CD _ sv w12 wr.heap.size HB12.out.size HL1.out HL2.out HO12.out hsv he)
      rw [HLC.out] at HAP
      have HLT12 := hid (fun k hk => (HO12.out.lt k hk).1)
      clear ho hb HOG
      go_upto_region 18 with fail
      go_cut [12] (fun lv wx => ∃ da dc, lv = .slice da LC.length dc ∧ Hid (MsAt wx (.slice da LC.length dc) LC ∧ GG wx))
      case first =>
        by_cases hcap : (k : Int) + 1 < (xc : Int)
        · obtain ⟨dv, w13, hrun, hown, hgr⟩ := HAP.out _ (HD1.out _ HG4.out) (em_ad _ _ _ _)
          have HRUN := hid hrun
          have HM13 := hid (own_ms hown)
          have HG13 := hid (FB.out _ _ HG.out (HB12.out.grown hgr HB12.out.size HLT12.out))
          obtain ⟨da, dc, hdv⟩ := own_slN hown
          subst hdv
          clear hrun hown hgr
          go_wp2_with (at_builtin; refine Lib.wpList_append_run _ rfl _ _ _ _ rfl _ _ rfl rfl _ _ HRUN.out ?_)
          go_meet
          case rel => exact ⟨_, _, rfl, hid ⟨HM13.out, HG13.out⟩⟩
        · have HC2 : Hid (xc = k + 1) := hid (by omega)
          obtain ⟨dv, w13, hrun, hown, hgr⟩ := HAP.out _ (HD2.out w12 HC2.out) (em_ad _ _ _ _)
          have HRUN := hid hrun
          have HM13 := hid (own_ms hown)
          have HG13 := hid (FB.out _ _ HG.out (HB12.out.grown hgr HB12.out.size HLT12.out))
          obtain ⟨da, dc, hdv⟩ := own_slN hown
          subst hdv
          clear hrun hown hgr
          go_wp2_with (at_builtin; refine Lib.wpList_append_run _ rfl _ _ _ _ rfl _ _ rfl rfl _ _ HRUN.out ?_)
          go_meet
          case rel => exact ⟨_, _, rfl, hid ⟨HM13.out, HG13.out⟩⟩
      case rest =>
        obtain ⟨da, dc, rfl, HL⟩ := hcut
        have HBZ := hid (HBE.out _ _ (FG.out _ HL.out.2).bl HL.out.1)
        have HGL := hid HL.out.2
        clear HL HAP HD1 HD2 HG4 HG HO12 HB12 HLT12 HBE
        go_wp2_with fail
        refine HBZ.out.mono ?_
        rintro e w14 ⟨ya, yc, rfl, hm⟩
        have HG14 := hid (FB.out _ _ HGL.out hm.1)
        have HY14 := hid hm.ms
        have HSZ := hid (HSE.out w14 _ hm.ms (FG.out _ HG14.out).ss)
        clear hm HBZ HGL HSE
        go_wp2_with fail
        refine HSZ.out.mono ?_
        rintro e w15 ⟨rfl, hb⟩
        have HG15 := hid (FB.out _ _ HG14.out hb)
        have HUZ := hid (HUE.out w15 _ (FG.out _ HG15.out).bl (HY14.out.below hb) (FG.out _ HG15.out).ss)
        clear hb HSZ HG14 HY14 HUE
        go_wp2_with fail
        refine HUZ.out.mono ?_
        rintro e w16 ⟨rfl, hb⟩
        have HG16 := hid (FB.out _ _ HG15.out hb)
        clear hb HUZ HG15
        go_wp2_with fail
        go_roundw
        case rel => first | exact ⟨k + 1, HLT.out, nr_idx k, HG16⟩ | exact ⟨k + 1, HLT.out, nx_idx HLT.out (Nat.le_trans HXL.out (by decide)), HG16⟩
        case measure => first | exact nr_meas HLT.out | exact nx_meas HLT.out (Nat.le_trans HXL.out (by decide))
    · have hkI : ¬ (k : Int) < (X.length : Int) := by omega
      have HE := hid (HBW.out _ (FG.out _ HG.out).bl)
      clear hlt
      go_wp2_with fail
      go_ret
      exact ⟨rfl, HE.out⟩
set_option maxRecDepth 100000 in
set_option maxHeartbeats 2000000 in
theorem tl_long1 (Q0 : List Raw) (L : List Ent) (roots : List Bm) (v u : Value) (A : Nat → Addr) (m : Int) (w : World) (S : Te w A m) (I : Ixs w v Q0 L) (hr : MsAt w u roots) (hok : okI L = false) :
    Calls Tryz.prog 3 #[v, u] w fun e w' => e = .returned (.bool true) ∧ Below w.heap.size w w' := by
  obtain ⟨a0, c0, hv0, -⟩ := id I.es
  subst hv0
  obtain ⟨ra, rc, hu0, -⟩ := id hr
  subst hu0
  have HIN := hid (trimd_any A m w S)
  have HLO := hid (fun W (h : Below w.heap.size w W) => longI_any Q0 L _ W (I.below h))
  rw [hok] at HLO
  clear S I hok hr
  go_enter Tryz.func3, Tryz.ntmps3
  go_wp2_with fail
  refine HIN.out.mono ?_
  rintro e w1 ⟨rfl, hb⟩
  have HB1 := hid hb
  clear hb
  go_wp2_with fail
  refine (HLO.out w1 HB1.out).mono ?_
  rintro e w2 ⟨rfl, hb⟩
  have HB2 := hid (HB1.out.trans (hb.mono HB1.out.size))
  clear hb
  go_wp2_with fail
  go_ret
  exact ⟨rfl, HB2.out⟩
set_option maxRecDepth 100000 in
set_option maxHeartbeats 2000000 in
theorem tl_long2 (Q0 : List Raw) (L : List Ent) (roots : List Bm) (v u : Value) (A : Nat → Addr) (m : Int) (w : World) (S : Te w A m) (I : Ixs w v Q0 L) (hr : MsAt w u roots) (hok : okI L = true) (h30 : ¬ L.length ≤ 30) :
    Calls Tryz.prog 3 #[v, u] w fun e w' => e = .returned (.bool true) ∧ Below w.heap.size w w' := by
  obtain ⟨a0, c0, hv0, -⟩ := id I.es
  subst hv0
  obtain ⟨ra, rc, hu0, -⟩ := id hr
  subst hu0
  have hq30 : (30 : Int) < (Q0.length : Int) := by rw [I.ln]; omega
  have HIN := hid (trimd_any A m w S)
  have HLO := hid (fun W (h : Below w.heap.size w W) => longI_any Q0 L _ W (I.below h))
  rw [if_pos hok] at HLO
  clear S I hok hr
  go_enter Tryz.func3, Tryz.ntmps3
  go_wp2_with fail
  refine HIN.out.mono ?_
  rintro e w1 ⟨rfl, hb⟩
  have HB1 := hid hb
  clear hb
  go_wp2_with fail
  refine (HLO.out w1 HB1.out).mono ?_
  rintro e w2 ⟨rfl, hb⟩
  have HB2 := hid (HB1.out.trans (hb.mono HB1.out.size))
  clear hb
  go_wp2_with fail
  go_ret
  exact ⟨rfl, HB2.out⟩
set_option maxRecDepth 100000 in
set_option maxHeartbeats 2000000 in
theorem tl_long3 (Q0 : List Raw) (L : List Ent) (roots : List Bm) (v u : Value) (A : Nat → Addr) (m : Int) (w : World) (S : Te w A m) (I : Ixs w v Q0 L) (hr : MsAt w u roots) (h30 : L.length ≤ 30) (hok : okI L = true) (hrk : okLN 15 roots = false) :
    Calls Tryz.prog 3 #[v, u] w fun e w' => e = .returned (.bool true) ∧ Below w.heap.size w w' := by
  obtain ⟨a0, c0, hv0, -⟩ := id I.es
  subst hv0
  obtain ⟨ra, rc, hu0, -⟩ := id hr
  subst hu0
  have hq30 : (Q0.length : Int) ≤ 30 := by rw [I.ln]; omega
  have HIN := hid (trimd_any A m w S)
  have HLO := hid (fun W (h : Below w.heap.size w W) => longI_any Q0 L _ W (I.below h))
  rw [if_pos hok] at HLO
  have HLM := hid (fun W (h : Below w.heap.size w W) => longN_any 15 (by decide) roots _ W (hr.below h))
  rw [hrk] at HLM
  clear S I hok hr hrk
  go_enter Tryz.func3, Tryz.ntmps3
  go_wp2_with fail
  refine HIN.out.mono ?_
  rintro e w1 ⟨rfl, hb⟩
  have HB1 := hid hb
  clear hb
  go_wp2_with fail
  refine (HLO.out w1 HB1.out).mono ?_
  rintro e w2 ⟨rfl, hb⟩
  have HB2 := hid (HB1.out.trans (hb.mono HB1.out.size))
  clear hb
  go_wp2_with fail
  refine (HLM.out w2 HB2.out).mono ?_
  rintro e w2a ⟨rfl, rfl⟩
  go_wp2_with fail
  go_ret
  exact ⟨rfl, HB2.out⟩
theorem trimLeast_any (Q0 : List Raw) (L : List Ent) (roots : List Bm) (v u : Value) (A : Nat → Addr) (m : Int) (w : World) (S : Te w A m) (I : Ixs w v Q0 L) (em : EmI Q0 L) (hr : MsAt w u roots) (her : Em u roots) :
    Calls Tryz.prog 3 #[v, u] w fun e w' => e = .returned (.bool true) ∧ Below w.heap.size w w' := by
  cases hok : okI L with
  | false => exact tl_long1 Q0 L roots v u A m w S I hr hok
  | true =>
    by_cases h30 : L.length ≤ 30
    · cases hrk : okLN 15 roots with
      | true => exact tl_main Q0 L roots v u A m w S I em hr her hok h30 hrk
      | false => exact tl_long3 Q0 L roots v u A m w S I hr h30 hok hrk
    · exact tl_long2 Q0 L roots v u A m w S I hr hok h30
end Ve
end Go.Proofs.YtacggkigfjpfnaaGreatDoor

/-
  An index and a row of modules that a caller hands in, opened.
-/
namespace Go.Proofs.YtacggkigfjpfnaaGreatDoor
open Go.ChangeShapes Go.WideShapes Go.ChangeAt Go.RowKit Go.ChangeMaps Go.Joins
namespace Ve

theorem oCellsMod : Tryz.prog.cellsOf 45 = 2 := by kernel_rfl
theorem oCellsStr : Tryz.prog.cellsOf 9 = 1 := by kernel_rfl
theorem oCellsEnt : Tryz.prog.cellsOf 48 = 5 := by kernel_rfl
theorem oCellsMods : Tryz.prog.cellsOf 23 = 1 := by kernel_rfl
theorem oCellsSstr : Tryz.prog.cellsOf 46 = 1 := by kernel_rfl
theorem oCellsBool : Tryz.prog.cellsOf 4 = 1 := by kernel_rfl
/-- The bytes of a string; none of what is no string. -/
def strOf : Value → ByteArray
  | .string s => s
  | _ => ⟨#[]⟩
set_option maxRecDepth 100000 in
/-- A row of modules, opened. -/
theorem open_ms {H : Type} {enc : TypeId × Value → H} {w : World} {base fuel : Nat} {held : Bool} {v : Value} {x : DataW H × List MemPlace}
    (h : DataW.trod enc Tryz.prog w base (fun _ => true) held fuel 23 [v] = some x) : ∃ L, MsAt w v L ∧ Em v L := by
  rcases Go.Deep.open_slice_pairs Tryz.underlying23 Tryz.underlying45 oCellsMod rfl rfl oCellsStr oCellsStr h with ⟨hcs, _⟩ | ⟨a, len, cap, m, n, V0, V1, D0, D1, P0, P1, hcs, _, hl, _, hm, _, hx⟩
  · simp only [List.cons.injEq, and_true] at hcs
    subst hcs
    exact ⟨[], ⟨none, 0, rfl, Nat.le_refl _, fun h => absurd rfl h⟩, fun a c e _ => Or.inl e.symm⟩
  · simp only [List.cons.injEq, and_true] at hcs
    subst hcs
    simp only [if_true] at hm
    subst hm
    have hlen : ((List.range len).map fun i => (strOf (V0 i), strOf (V1 i))).length = len := by simp
    refine ⟨(List.range len).map fun i => (strOf (V0 i), strOf (V1 i)), ⟨some a, m, by rw [hlen], by rw [hlen]; exact hl, fun hne => ?_⟩, fun a' c e h0 => ?_⟩
    · have h0l : 0 < len := by rw [← hlen]; exact List.length_pos_iff.2 hne
      obtain ⟨b, off, spot⟩ := a
      have hspot : spot = none := by simpa [Addr.add] using World.cell?_spot (hx 0 (by omega)).1
      subst hspot
      refine ⟨b, off, rfl, fun j hj => ?_⟩
      have hj2 : j < len := by rw [← hlen]; exact hj
      obtain ⟨g0, g1, t0, t1⟩ := hx j (by omega)
      obtain ⟨s0, e0, _, _⟩ := DataW.trod_string Tryz.underlying9 t0
      obtain ⟨s1, e1, _, _⟩ := DataW.trod_string Tryz.underlying9 t1
      simp only [List.cons.injEq, and_true] at e0 e1
      rw [e0] at g0
      rw [e1] at g1
      simp only [List.getElem_map, List.getElem_range, e0, e1]
      rw [Addr.add_lit] at g0 g1
      exact ⟨g0, g1⟩
    · have hz : len = 0 := by rw [← hlen, h0]; rfl
      rw [hlen] at e
      subst hz
      right
      injection e with e1 e2 e3
      exact ⟨a, by rw [← e1]⟩
set_option maxRecDepth 100000 in
/-- A row of texts, opened. -/
theorem open_tx {H : Type} {enc : TypeId × Value → H} {w : World} {base fuel : Nat} {held : Bool} {v : Value} {x : DataW H × List MemPlace}
    (h : DataW.trod enc Tryz.prog w base (fun _ => true) held fuel 46 [v] = some x) : ∃ X, TxAt w v X ∧ EmT v X := by
  rcases open_strings Tryz.underlying46 Tryz.underlying9 oCellsStr h with ⟨hcs, _⟩ | ⟨a, len, cap, ss, hcs, _, hl, _, hm, _, hx, _⟩
  · simp only [List.cons.injEq, and_true] at hcs
    subst hcs
    exact ⟨[], ⟨none, 0, rfl, Nat.le_refl _, fun h => absurd rfl h⟩, fun a c e _ => Or.inl e.symm⟩
  · simp only [List.cons.injEq, and_true] at hcs
    subst hcs
    simp only [if_true] at hm
    have hlen : (ss.take len).length = len := by rw [List.length_take]; omega
    refine ⟨ss.take len, ⟨some a, cap, by rw [hlen], by rw [hlen]; exact hl, fun hne => ?_⟩, fun a' c e h0 => ?_⟩
    · have h0l : 0 < len := by rw [← hlen]; exact List.length_pos_iff.2 hne
      obtain ⟨b, off, spot⟩ := a
      have hspot : spot = none := by simpa [Addr.add] using World.cell?_spot (hx 0 (by omega))
      subst hspot
      refine ⟨b, off, rfl, fun j hj => ?_⟩
      have hj2 : j < len := by rw [← hlen]; exact hj
      have g := hx j (by omega)
      rw [Addr.add_lit, List.getD_eq_getElem?_getD, List.getElem?_eq_getElem (by omega)] at g
      rw [List.getElem_take]
      exact g
    · have hz : len = 0 := by rw [← hlen, h0]; rfl
      rw [hlen] at e
      subst hz
      right
      injection e with e1 e2 e3
      exact ⟨a, by rw [← e1]⟩
set_option maxRecDepth 100000 in
/-- An entry, opened. -/
theorem open_ent {H : Type} {enc : TypeId × Value → H} {w : World} {base fuel : Nat} {held : Bool} {cs : List Value} {x : DataW H × List MemPlace}
    (h : DataW.trod enc Tryz.prog w base (fun _ => true) held fuel 48 cs = some x) : ∃ (r : Raw) (e : Ent), cs = rowR r ∧ slR r ∧ RawOk w r e ∧ Em r.2.1 e.2.1 ∧ EmT r.2.2.1 e.2.2.1 := by
  obtain ⟨y0, y1, y2, y3, n, _, hl, h0, h1, h2, h3⟩ := trod_struct4 Tryz.underlying48 h
  rw [oCellsEnt] at hl
  match cs, hl with
  | [c0, c1, c2, c3, c4], _ =>
    simp only [oCellsMod, oCellsMods, oCellsSstr, oCellsBool, List.drop, List.take] at h0 h1 h2 h3
    obtain ⟨z0, z1, n2, _, _, k0, k1⟩ := trod_struct2 Tryz.underlying45 h0
    simp only [oCellsStr, List.drop, List.take] at k0 k1
    obtain ⟨s0, e0, _, _⟩ := DataW.trod_string Tryz.underlying9 k0
    obtain ⟨s1, e1, _, _⟩ := DataW.trod_string Tryz.underlying9 k1
    obtain ⟨R, hR, hER⟩ := open_ms h1
    obtain ⟨X, hX, hEX⟩ := open_tx h2
    obtain ⟨b, e4, _⟩ := DataW.trod_bool Tryz.underlying4 h3
    simp only [List.cons.injEq, and_true] at e0 e1 e4
    subst e0 e1 e4
    refine ⟨((s0, s1), c2, c3, b), ((s0, s1), R, X, b), rfl, ⟨?_, ?_⟩, ⟨rfl, hR, hX, rfl⟩, hER, hEX⟩
    · obtain ⟨a, c, e, _⟩ := hR; exact ⟨_, _, _, e⟩
    · obtain ⟨a, c, e, _⟩ := hX; exact ⟨_, _, _, e⟩
set_option maxRecDepth 100000 in
/-- An index, opened. -/
theorem open_ix {H : Type} {enc : TypeId × Value → H} {w : World} {base fuel : Nat} {held : Bool} {v : Value} {x : DataW H × List MemPlace}
    (h : DataW.trod enc Tryz.prog w base (fun _ => true) held fuel 22 [v] = some x) : ∃ Q L, Ixs w v Q L ∧ EmI Q L := by
  rcases Go.Deep.open_slice Tryz.underlying22 h with ⟨hcs, _⟩ | ⟨a, len, cap, m, n, D, Pl, hcs, _, hl, _, hm, _, hx⟩
  · simp only [List.cons.injEq, and_true] at hcs
    subst hcs
    exact ⟨[], [], ⟨⟨none, 0, rfl, Nat.le_refl _, fun r hr => (by cases hr), fun h => absurd rfl h⟩, rfl, fun j h1 => absurd h1 (Nat.not_lt_zero _)⟩, fun j h1 => absurd h1 (Nat.not_lt_zero _)⟩
  · simp only [List.cons.injEq, and_true] at hcs
    subst hcs
    simp only [if_true] at hm
    subst hm
    have each : ∀ i, i < len → ∃ q : Raw × Ent, (∀ c (hc : c < 5), w.cell? (a.add (i * 5 + c)) = (rowR q.1)[c]?) ∧ slR q.1 ∧ RawOk w q.1 q.2 ∧ Em q.1.2.1 q.2.2.1 ∧ EmT q.1.2.2.1 q.2.2.2.1 := fun i hi => by
      obtain ⟨cs', h1, h2⟩ := hx i (by omega)
      obtain ⟨r, e, hcs, k1, k2, k3, k4⟩ := open_ent h2
      rw [oCellsEnt] at h1
      obtain ⟨_, hlen, hcell⟩ := World.cells?_some h1
      refine ⟨(r, e), fun c hc => ?_, k1, k2, k3, k4⟩
      have := hcell c (by omega)
      rw [Go.Deep.add_add] at this
      rw [this, hcs]
    obtain ⟨q, hq⟩ := Go.Deep.choose_lt each
    have hlq : ((List.range len).map fun i => (q i).1).length = len := by simp
    have hll : ((List.range len).map fun i => (q i).2).length = len := by simp
    refine ⟨(List.range len).map fun i => (q i).1, (List.range len).map fun i => (q i).2, ⟨⟨some a, m, by rw [hlq], by rw [hlq]; exact hl, fun r hr => ?_, fun hne => ?_⟩, by rw [hlq, hll], fun j h1 h2 => ?_⟩, fun j h1 h2 => ?_⟩
    · obtain ⟨i, hi, rfl⟩ := List.mem_map.1 hr
      exact (hq i (List.mem_range.1 hi)).2.1
    · have h0l : 0 < len := by rw [← hlq]; exact List.length_pos_iff.2 hne
      obtain ⟨b, off, spot⟩ := a
      have g0 := (hq 0 h0l).1 0 (by omega)
      have hspot : spot = none := by
        have : ∃ u, World.cell? w ((⟨b, off, spot⟩ : Addr).add (0 * 5 + 0)) = some u := ⟨_, g0⟩
        obtain ⟨u, hu⟩ := this
        simpa [Addr.add] using World.cell?_spot hu
      subst hspot
      refine ⟨b, off, rfl, fun j hj => ?_⟩
      have hj2 : j < len := by rw [← hlq]; exact hj
      have g := (hq j hj2).1
      simp only [List.getElem_map, List.getElem_range]
      refine ⟨?_, ?_, ?_, ?_, ?_⟩
      · have := g 0 (by omega); rw [Addr.add_lit] at this; exact this
      · have := g 1 (by omega); rw [Addr.add_lit] at this; exact this
      · have := g 2 (by omega); rw [Addr.add_lit] at this; exact this
      · have := g 3 (by omega); rw [Addr.add_lit] at this; exact this
      · have := g 4 (by omega); rw [Addr.add_lit] at this; exact this
    · have hj2 : j < len := by rw [← hlq]; exact h1
      simp only [List.getElem_map, List.getElem_range]
      exact (hq j hj2).2.2.1
    · have hj2 : j < len := by rw [← hlq]; exact h1
      simp only [List.getElem_map, List.getElem_range]
      exact (hq j hj2).2.2.2
end Ve
end Go.Proofs.YtacggkigfjpfnaaGreatDoor

/-
  The plain wrap with a condition, the world's shape kept; variables laid over a world.
-/
namespace Go.Proofs.YtacggkigfjpfnaaGreatDoor
open Go.ChangeShapes Go.WideShapes Go.ChangeAt Go.RowKit
namespace Ve

/-- The plain wrap with a condition, the world's shape kept. -/
theorem wrap_and_shaped {H : Type} {enc : TypeId × Value → H} {a : Assume} {C : Checked} {os : Go.Os} {f : FuncId} {fn : Func} {s : ChangeSpec} {conds : List PathCond} {apart fresh handsOn again : Bool} {X : World → Array Value → Prop}
    (hX : ∀ (w w' : World) (args : Array Value), w.heap = w'.heap → X w args → X w' args)
    (own : ownKnob C.prog.godebug = none) (started : os.Started) (noInit : C.prog.inits.idxOf? f = none) (hfn : C.prog.funcs[f]? = some fn)
    (witness : ∃ (w : World) (tape : Tape) (i : Input), w.os = os ∧ (w.forCall tape i).Shaped C.prog ∧ i.vars = [] ∧ Input.okWide C.prog (w.forCall tape i) .any w.heap.size f i ∧
      ((s.pre enc C.prog fn conds apart (w.forCall tape i).memory i.args ∧ X (w.forCall tape i).memory i.args) ∧ sizedMet enc C.prog fn (OpenSpec.ofChange s) apart (w.forCall tape i).memory i.args) ∧ a.holds C.prog (lone (Frame.enter C.prog f i.args .normal) [] (w.forCall tape i)))
    (contract : ∀ (W : World) (base : Nat) (args : Array Value) (ds gs : List (DataW H)) (before : List MemPlace),
      (∀ (j : Nat) t v, fn.params[j]? = some t → args[j]? = some v → Value.okWide C.prog W .any base t v) →
      DataW.Whole enc C.prog fn.params.toList s.vars apart W args.toList ds gs before → X W args → W.ShapedOpen C.prog →
      Calls C.prog f args W fun e W' => ∃ v, e = .returned v ∧ s.post enc C.prog fn apart fresh handsOn again W args v W') :
    ReturnsInHanded a C os f .any (fun w args => (s.pre enc C.prog fn conds apart w args ∧ X w args) ∧ sizedMet enc C.prog fn (OpenSpec.ofChange s) apart w args) (s.post enc C.prog fn apart fresh handsOn again) := by
  refine returnsInHanded_of_calls own started noInit witness ?_
  intro w tape i _ hsh _ hok hpre _
  obtain ⟨_, _, _, fn', hfn', _, _, _, _, hval⟩ := hok
  have e : fn' = fn := Option.some.inj (hfn'.symm.trans hfn)
  subst e
  obtain ⟨⟨⟨ds, gs, before, hw, _⟩, hx⟩, _⟩ := hpre
  have hw' := DataW.Whole.of_heap (w' := w.forCall tape i) (by rfl) hw
  refine (contract (w.forCall tape i) w.heap.size i.args ds gs before hval hw' (hX _ _ _ (by rfl) hx) hsh).mono fun e W' ⟨v, he, hp⟩ => ?_
  subst he
  exact ChangeSpec.post_blind hp

/-- All that is listed, laid over a world. -/
theorem laidMet_over {P : Program} {w0 : World} {laid : List (String × DataW Unit)} (args : Array Value)
    (hf : w0.layFits P laid [] = true) (hi : w0.layIfaces P laid (w0.layVars P laid) = true) :
    laidMet P laid ((w0.layVars P laid).forCall (fun _ _ => 0) ⟨#[], args, []⟩).memory := by
  have e1 : (laid.filter fun x => (laid.map (·.1)).contains x.1) = laid := List.filter_eq_self.2 fun x hx => List.contains_iff_mem.2 (List.mem_map.2 ⟨x, hx, rfl⟩)
  have e2 : (laid.filter fun x => !(laid.map (·.1)).contains x.1) = [] := List.filter_eq_nil_iff.2 fun x hx => by rw [List.contains_iff_mem.2 (List.mem_map.2 ⟨x, hx, rfl⟩)]; simp
  have h : laidMet P laid (w0.layVars P laid) := laidMet_layVars (w0 := w0) (laid.map (·.1)) [] (by rw [e1]) (by rw [e1]; exact hf) (by rw [e1]; exact hi) (by rw [e2]; exact LaidIn.none)
  exact h.of_heap (by simp [World.memory, World.forCall, Input.heap])
end Ve
end Go.Proofs.YtacggkigfjpfnaaGreatDoor

/-
  What a list of laid sentinels gives a walk, however long the list: each variable's cell, each pointee's block, and that no two are one.
-/
namespace Go.Proofs.YtacggkigfjpfnaaGreatDoor
namespace Er
open Go

theorem sens_rest {P : Program} {nm : String} {W : World} {ti tp te ts : TypeId} {ms : Array (String × TypeId)} {f : Field}
    (hi : P.underlying ti = some (.interface ms)) (hrow : ∀ u, P.typeName? 3 u = some nm → u = tp)
    (hp : P.underlying tp = some (.pointer te)) (he : P.underlying te = some (.struct #[f])) (hft : f.type = ts) (hfo : f.offset = 0) (hs : P.underlying ts = some .string) (hc : P.cellsOf te = 1) (hcs : P.cellsOf ts = 1) (rest : List (String × DataW Unit)) :
    ∀ (ns : List (String × Nat × List UInt8)) (ps : List MemPlace),
      DataW.LaidVars P W ((ns.map fun x => (x.1, DataW.iface nm (.ptr (.agg [.lit (.string x.2.2)])))) ++ rest) ps →
      (∀ x, x ∈ ns → P.globalNamed x.1 = some x.2.1 ∧ (P.globals[x.2.1]?).map (·.type) = some ti) →
      (∀ b off, MemPlace.cell b off ∈ ps → (∃ c t, W.heap[b]? = some (.cells c t (0, 0))) ∧ ∀ u v, W.cell? ⟨b, off, none⟩ = some (.iface u v) → Value.okWide P W .any 0 u v) →
      ∃ al : List Addr, al.length = ns.length ∧ (al.map fun a => MemPlace.cell a.block a.off).Sublist ps ∧
        ∀ (i : Nat) (x : String × Nat × List UInt8) (a : Addr), ns[i]? = some x → al[i]? = some a →
          W.cell? ⟨x.2.1, 0, none⟩ = some (.iface tp (.pointer (some a))) ∧ ∃ c t, W.heap[a.block]? = some (.cells c t (0, 0)) := by
  intro ns
  induction ns with
  | nil =>
    intro ps _ _ _
    exact ⟨[], rfl, List.nil_sublist _, fun i x a h => by simp at h⟩
  | cons n r ih =>
    intro ps hl hg hr
    obtain ⟨g, t, cs, fuel, p, q, hg0, ht0, hv0, hd0, hq, e0⟩ := hl
    obtain ⟨k1, k2⟩ := hg n (List.mem_cons_self)
    obtain rfl := Option.some.inj (k1.symm.trans hg0)
    obtain rfl := Option.some.inj (k2.symm.trans ht0)
    subst e0
    obtain ⟨l0⟩ := cs
    have ok0 : ∀ u v, l0 = [.iface u v] → Value.okWide P W .any 0 u v := fun u v e => by
      subst e
      exact (hr n.2.1 0 (by simp [MemPlace.row])).2 u v (by simpa using World.var?_cell hg0 hv0 0)
    obtain ⟨a0, s0, rfl, hc0, hs0, hz0, rfl⟩ := errorString_of_trod hi hrow hp he hft hfo hs hc hcs hd0 ok0
    obtain ⟨al, hlen, hsub, hall⟩ := ih q hq (fun x hx => hg x (List.mem_cons_of_mem _ hx)) (fun b off hm => hr b off (by simp [hm]))
    refine ⟨a0 :: al, by simp [hlen], ?_, ?_⟩
    · simp only [List.map_cons, MemPlace.row, List.range_one, List.map_nil, Nat.add_zero]
      exact List.Sublist.cons _ (List.Sublist.cons_cons _ hsub)
    · intro i x a hx ha
      cases i with
      | zero =>
        simp only [List.getElem?_cons_zero, Option.some.injEq] at hx ha
        subst hx; subst ha
        exact ⟨by simpa using World.var?_cell hg0 hv0 0, (hr a0.block a0.off (by simp [MemPlace.row])).1⟩
      | succ i =>
        simp only [List.getElem?_cons_succ] at hx ha
        exact hall i x a hx ha

theorem unlike {al : List Addr} {ps : List MemPlace} (hs : (al.map fun a => MemPlace.cell a.block a.off).Sublist ps) (hn : ps.Nodup) {i j : Nat} (hi : i < al.length) (hj : j < al.length) (hij : i ≠ j) : al[i] ≠ al[j] := by
  have h1 : (al.map fun a => MemPlace.cell a.block a.off).Nodup := hs.nodup hn
  intro e
  rw [List.Nodup, List.pairwise_iff_getElem] at h1
  rcases Nat.lt_or_gt_of_ne hij with h | h
  · exact h1 i j (by simpa using hi) (by simpa using hj) h (by simp [e])
  · exact h1 j i (by simpa using hj) (by simpa using hi) h (by simp [e])
end Er
end Go.Proofs.YtacggkigfjpfnaaGreatDoor

/-
  Of a row's laid variables and the world's shape: seven errors, the type's handle and the library's bound.
-/
namespace Go.Proofs.YtacggkigfjpfnaaGreatDoor
open Go.ChangeShapes Go.WideShapes Go.ChangeAt Go.RowKit
namespace Ve

theorem etName : Tryz.prog.globalNamed "errors.errorType" = some 10 := by kernel_rfl
/-- The name of the handle's own type, off the listed datum. -/
def rtWord : String := match (Rows.laid_errors_errorType : DataW Unit) with | .iface s _ => s | _ => ""
theorem rtName : (Tryz.prog.cutTypes.find? (·.1 == rtWord)).map (·.2) = some 138 := by kernel_rfl
theorem oneRow : ((List.range 276).filter fun t => Tryz.prog.rowNamed t [101, 114, 114, 111, 114]) = [29] := by kernel_rfl
theorem nTypes : Tryz.prog.types.size = 276 := by kernel_rfl
theorem cellsS : Tryz.prog.cellsOf 265 = 1 := by kernel_rfl
theorem cellsStr : Tryz.prog.cellsOf 9 = 1 := by kernel_rfl
theorem star : "*" ++ "errors.errorString" = "*errors.errorString" := by decide
theorem rowS (u : TypeId) (h : Tryz.prog.typeName? 3 u = some "*errors.errorString") : u = 247 :=
  typeName_ptr_named (nm := "errors.errorString") (by rw [star]; kernel_rfl) (by kernel_rfl) (by decide) u (by rw [star]; exact h)

/-- The seven, in the order of package api. -/
def tens : List (String × Nat × List UInt8) :=
  [("pewholder/api.ErrText", 1, [112, 101, 119, 104, 111, 108, 100, 101, 114, 58, 32, 116, 101, 120, 116]),
   ("pewholder/api.ErrBound", 2, [112, 101, 119, 104, 111, 108, 100, 101, 114, 58, 32, 98, 111, 117, 110, 100]),
   ("pewholder/api.ErrShape", 0, [112, 101, 119, 104, 111, 108, 100, 101, 114, 58, 32, 115, 104, 97, 112, 101]),
   ("pewholder/api.ErrMajor", 3, [112, 101, 119, 104, 111, 108, 100, 101, 114, 58, 32, 109, 97, 106, 111, 114]),
   ("pewholder/api.ErrNone", 4, [112, 101, 119, 104, 111, 108, 100, 101, 114, 58, 32, 110, 111, 110, 101]),
   ("pewholder/api.ErrFull", 6, [112, 101, 119, 104, 111, 108, 100, 101, 114, 58, 32, 102, 117, 108, 108]),
   ("pewholder/api.ErrOrder", 7, [112, 101, 119, 104, 111, 108, 100, 101, 114, 58, 32, 111, 114, 100, 101, 114])]
theorem tens_named : ∀ x, x ∈ tens → Tryz.prog.globalNamed x.1 = some x.2.1 ∧ (Tryz.prog.globals[x.2.1]?).map (·.type) = some 29 := by
  have h : (tens.all fun x => Tryz.prog.globalNamed x.1 == some x.2.1 && (Tryz.prog.globals[x.2.1]?).map (·.type) == some 29) = true := by kernel_rfl
  intro x hx
  simpa using List.all_eq_true.1 h x hx

/-- Of the laid seven (whatever is laid behind them), of the type's handle and of the bound. -/
theorem te_of {W : World} {m : Int} (rest : List (String × DataW Unit)) (hl : laidMet Tryz.prog ((tens.map fun x => (x.1, DataW.iface "*errors.errorString" (.ptr (.agg [.lit (.string x.2.2)])))) ++ rest) W)
    (hh : handlesMet Tryz.prog [("errors.errorType", Rows.laid_errors_errorType)] W) (hm0 : W.cell? ⟨11, 0, none⟩ = some (.int .i64 m)) : ∃ A, Te W A m := by
  obtain ⟨ps, hl, hnd, hrows⟩ := hl
  obtain ⟨name, u, ty, e1, e2, e3, e4, e5⟩ := hh _ (List.mem_singleton.2 rfl)
  have en : name = [101, 114, 114, 111, 114] := (Option.some.inj e1).symm
  subst en
  obtain rfl := Option.some.inj (rtName.symm.trans e2)
  have hm : ty ∈ (List.range 276).filter fun t => Tryz.prog.rowNamed t [101, 114, 114, 111, 114] := List.mem_filter.2 ⟨List.mem_range.2 (by rw [← nTypes]; exact e3), e4⟩
  rw [oneRow] at hm
  obtain rfl := List.mem_singleton.1 hm
  have hhd : typeHandle Tryz.prog 29 = .pointer (some ⟨14, 29, none⟩) := by kernel_rfl
  rw [hhd] at e5
  have het : W.cell? ⟨10, 0, none⟩ = some (.iface 138 (.agg #[.pointer (some ⟨14, 29, none⟩)])) := by simpa using World.var?_cell etName e5 0
  obtain ⟨al, hlen, hsub, hall⟩ := Er.sens_rest Tryz.underlying29 rowS Tryz.underlying247 Tryz.underlying265 rfl rfl Tryz.underlying9 cellsS cellsStr rest tens ps hl tens_named hrows
  have hten : al.length = 7 := hlen
  refine ⟨fun k => al.getD (if k < 5 then k else k - 1) ⟨0, 0, none⟩, ?_⟩
  have get : ∀ k, k < 7 → al[k]? = some (al.getD k ⟨0, 0, none⟩) := fun k hk => by
    rw [List.getD_eq_getElem?_getD, List.getElem?_eq_getElem (by omega)]; rfl
  have c := fun k x (hx : tens[k]? = some x) (hk : k < 7) => hall k x _ hx (get k hk)
  refine ⟨⟨(c 0 _ rfl (by omega)).1, (c 1 _ rfl (by omega)).1, (c 2 _ rfl (by omega)).1, (c 3 _ rfl (by omega)).1, (c 4 _ rfl (by omega)).1, (c 5 _ rfl (by omega)).1, (c 6 _ rfl (by omega)).1, het⟩, ⟨(c 0 _ rfl (by omega)).1, (c 1 _ rfl (by omega)).1, (c 0 _ rfl (by omega)).2, (c 1 _ rfl (by omega)).2, ?_, hm0⟩⟩
  have := Er.unlike hsub hnd (i := 0) (j := 1) (by omega) (by omega) (by omega)
  intro e
  apply this
  have hi' := get 0 (by omega)
  have hj' := get 1 (by omega)
  rw [List.getElem?_eq_getElem (by omega)] at hi' hj'
  rw [Option.some.inj hi', Option.some.inj hj']
  exact e
/-- The library's bound, off the world's shape. -/
theorem ml_of {W : World} (hsh : W.ShapedOpen Tryz.prog) : ∃ m, W.cell? ⟨11, 0, none⟩ = some (.int .i64 m) :=
  cell_of_shapedOpen_int (P := Tryz.prog) (g := 11) (t := 3) (zero := #[.int .i64 0]) hsh (of_decide_eq_true (by kernel_rfl)) (by kernel_rfl) rfl (by kernel_rfl) (by kernel_rfl) Tryz.underlying3
end Ve
end Go.Proofs.YtacggkigfjpfnaaGreatDoor
