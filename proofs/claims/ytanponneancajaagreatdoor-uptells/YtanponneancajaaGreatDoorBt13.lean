
import Derived.Test.YtanponneancajaaGreatDoorBt12
import Derived.Test.YtanponneancajaaGreatDoorCode
import Derived.Test.YtanponneancajaaGreatDoorBt8
import Derived.Test.YtanponneancajaaGreatDoorBt9
import Derived.Test.YtanponneancajaaGreatDoorBt10
import Derived.Test.YtanponneancajaaGreatDoorBt11
import Derived.Test.YtanponneancajaaGreatDoorBt7
namespace Go.Proofs.YtanponneancajaaGreatDoor
open Go.RowKit Go.Maps
namespace Ve
set_option maxHeartbeats 1000000 in
theorem faulted2_any (A : Nat → Addr) (x : Value) (r : Nat × Option Nat) (w : World) (S : Er.Sen w A) (h : ErrAt w A x r.1 r.2) (hc : r.1 ≤ 10) :
    Calls Tryz.prog 39 #[x, faultV r] w fun e w' => e = .returned (.bool true) ∧ Below w.heap.size w w' := by
  obtain ⟨c, o⟩ := r
  have HB0 := hid ((Below.refl w.heap.size w).alloc (Nat.le_refl _) (.cells #[.int .i64 (c : Nat), .int .i64 (atOf o)] 64))
  have HC := hid (code_at2 A x c o _ (S.below HB0.out) (h.below HB0.out) hc)
  unfold faultV
  simp only
  generalize atOf o = y at *
  generalize (c : Int) = z at *
  have e1 : (z == z) = true := beq_self_eq_true z
  have e2 : (y == y) = true := beq_self_eq_true y
  clear S h hc
  go_enter Tryz.func39, Tryz.ntmps39
  go_wp2_with fail
  refine HC.out.mono ?_
  rintro e w1 ⟨rfl, hb⟩
  obtain ⟨⟨r0, r1⟩, rz⟩ := res2 (hb.mono (by simp))
  have HB := hid (HB0.out.trans (hb.mono HB0.out.size))
  clear hb
  cases hz : (z == 0)
  all_goals
    go_wp2_with fail
    go_ret
    exact ⟨rfl, HB.out⟩
theorem chkG_le (Q : List Raw) (L : List Ent) (roots : List Bm) : (chkG Q L roots).1 ≤ 10 := by
  unfold chkG
  split
  · exact chk_le _ _
  · exact codeE_le (nonE_le _ _)
end Ve
end Go.Proofs.YtanponneancajaaGreatDoor


namespace Go.Proofs.YtanponneancajaaGreatDoor
open Go.RowKit Go.Maps
namespace Ve
theorem rF_le (Q : List Raw) (L : List Ent) (roots : List Bm) : (rF Q L roots).1 ≤ 10 := by
  unfold rF
  split
  · simp
  · exact chkG_le _ _ _
theorem rX_sel {Q : List Raw} {L : List Ent} {roots : List Bm} {O : List Bool} (h : (chkG Q L roots).1 = 0) (hl : O.length = (univ L).length) (hO : ∀ i (hi : i < (univ L).length) (hi' : i < O.length), O[i] = true ↔ Rch (reqQ Q L) roots (univ L)[i]) : selO O (univ L) = rX Q L roots := by
  unfold rX
  rw [if_pos h]
  refine selO_filter O (univ L) _ hl fun i h1 h2 => ?_
  by_cases hr : Rch (reqQ Q L) roots (univ L)[i]
  · rw [(hO i h1 h2).2 hr]; simp [hr]
  · cases hc : O[i]
    · simp [hr]
    · exact absurd ((hO i h1 h2).1 hc) hr
open Classical in
noncomputable def rW (Q : List Raw) (L : List Ent) (roots : List Bm) (m : Bm) : Nat × (Nat × Option Nat) := if (chkG Q L roots).1 = 0 then (if h : ∃ d, Dst (reqQ Q L) roots m d then (h.choose, (0, none)) else (0, (5, none))) else (0, chkG Q L roots)
theorem faultV0 : faultV (0, none) = .agg #[.int .i64 0, .int .i64 (-1)] := rfl
theorem reachOf_all (Q : List Raw) (L : List Ent) (roots : List Bm) (v rv : Value) (w : World) (hn : L.length ≤ 1000) (hrn : roots.length ≤ 1000000) (sh : ∀ e, e ∈ L → ShE e) (I : Ixs w v Q L) (hr : MsAt w rv roots) :
    Calls Tryz.prog 127 #[v, rv] w fun e w' => ∃ a c, e = .returned (.tuple #[.slice a (rX Q L roots).length c, faultV (rF Q L roots)]) ∧ MsAt w' (.slice a (rX Q L roots).length c) (rX Q L roots) ∧ Below w.heap.size w w' := by
  by_cases h : (chkG Q L roots).1 = 0
  · refine (reachOf_good Q L roots v rv w hn hrn sh I hr h).mono ?_
    rintro e w' ⟨u, O, rfl, hl, hO, hown, hb⟩
    rw [rX_sel h hl hO] at hown
    have hms := own_ms hown
    obtain ⟨a, c, hu⟩ := own_slN hown
    subst hu
    exact ⟨a, c, by rw [rF_good h]; rfl, hms, hb⟩
  · refine (reachOf_bad Q L roots v rv w hn hrn sh I hr h).mono ?_
    rintro e w' ⟨rfl, hb⟩
    rw [rX_bad h, rF_bad h]
    exact ⟨_, _, rfl, ms_nil0 _, hb⟩
end Ve
end Go.Proofs.YtanponneancajaaGreatDoor


namespace Go.Proofs.YtanponneancajaaGreatDoor
open Go.RowKit Go.Maps
namespace Ve
set_option maxRecDepth 100000 in
set_option maxHeartbeats 4000000 in
theorem bo_bad (Q : List Raw) (L : List Ent) (roots : List Bm) (v rv : Value) (w : World) (hn : L.length ≤ 1000) (hrn : roots.length ≤ 1000000) (sh : ∀ e, e ∈ L → ShE e) (I : Ixs w v Q L) (hr : MsAt w rv roots) (h0 : ¬ (chkG Q L roots).1 = 0) :
    Calls Tryz.prog 83 #[v, rv] w fun e w' => e = .returned (.tuple #[.slice none 0 0, faultV (chkG Q L roots)]) ∧ Below w.heap.size w w' := by
  have HRO := hid (fun W (h : Below w.heap.size w W) => reachOf_bad Q L roots v rv W hn hrn sh (I.below h) (hr.below h) h0)
  have HB0 := hid ((Below.refl w.heap.size w).alloc (Nat.le_refl _) (.cells #[.int .i64 0, .int .i64 0] 64))
  have HE0 := hid (heap_new w (.cells #[.int .i64 0, .int .i64 0] 64))
  obtain ⟨a, c, hv1, -⟩ := id I.es
  subst hv1
  obtain ⟨ra, rc, hrv, -⟩ := id hr
  subst hrv
  obtain ⟨cc, oo, hco⟩ : ∃ cc oo, chkG Q L roots = (cc, oo) := ⟨_, _, rfl⟩
  rw [hco] at HRO h0 ⊢
  unfold faultV at HRO ⊢
  simp only at HRO h0 ⊢
  generalize atOf oo = ao at *
  have hpos : (0 : Int) < (cc : Int) := by omega
  clear I hr sh h0 hco
  go_enter Tryz.func83, Tryz.ntmps83
  go_wp2_with fail
  refine (HRO.out _ HB0.out).mono ?_
  rintro e w1 ⟨rfl, hb⟩
  have HB1 := hid (HB0.out.trans (hb.mono HB0.out.size))
  have HE1 := hid ((hb.block _ (lt_of_blk HE0.out)).trans HE0.out)
  clear hb
  have HB2 := hid (HB1.out.alloc HB1.out.size (.cells #[.int .i64 (cc : Int), .int .i64 ao] 64))
  have HE2 := hid (heap_old w1 (.cells #[.int .i64 (cc : Int), .int .i64 ao] 64) HE1.out)
  have HF2 := hid (heap_new w1 (.cells #[.int .i64 (cc : Int), .int .i64 ao] 64))
  have hlt := lt_of_blk HE1.out
  have hne : ¬ w1.heap.size = w.heap.size := by omega
  have hne2 : ¬ w.heap.size = w1.heap.size := by omega
  go_wp2_with fail
  generalize w1.alloc (.cells #[.int .i64 (cc : Int), .int .i64 ao] 64) = w2 at *
  obtain ⟨s0, s1, tf⟩ := box_two HE2.out
  obtain ⟨f0, f1, _⟩ := box_two HF2.out
  go_region_with fail
  all_goals
    go_wp2_with fail
    refine bodyPost_ret (v := .tuple #[.slice none 0 0, .agg #[.int .i64 (cc : Int), .int .i64 ao]]) (by simp [results, Tryz.results83, go_sem, s0, s1]) rfl ⟨rfl, ?_⟩
    exact put2_below (below_drawn_of HB2.out 1) (Nat.le_refl _)
end Ve
end Go.Proofs.YtanponneancajaaGreatDoor


namespace Go.Proofs.YtanponneancajaaGreatDoor
open Go.RowKit Go.Maps
namespace Ve
set_option maxRecDepth 100000 in
set_option maxHeartbeats 4000000 in
theorem bo_good (Q : List Raw) (L : List Ent) (roots : List Bm) (v rv : Value) (w : World) (hn : L.length ≤ 1000) (hrn : roots.length ≤ 1000000) (sh : ∀ e, e ∈ L → ShE e) (I : Ixs w v Q L) (hr : MsAt w rv roots) (h0 : (chkG Q L roots).1 = 0) :
    Calls Tryz.prog 83 #[v, rv] w fun e w' => ∃ u, e = .returned (.tuple #[u, .agg #[.int .i64 0, .int .i64 (-1)]]) ∧ w'.ownsRow w.heap.size 51 2 u (lastN (rX Q L roots) (rX Q L roots).length).length (flatM (lastN (rX Q L roots) (rX Q L roots).length)) ∧ Below w.heap.size w w' := by
  have HRO := hid (fun W (h : Below w.heap.size w W) => reachOf_all Q L roots v rv W hn hrn sh (I.below h) (hr.below h))
  rw [rF_good h0] at HRO
  rw [faultV0] at HRO
  have HB0 := hid ((Below.refl w.heap.size w).alloc (Nat.le_refl _) (.cells #[.int .i64 0, .int .i64 0] 64))
  have HE0 := hid (heap_new w (.cells #[.int .i64 0, .int .i64 0] 64))
  have HXL := hid (show (rX Q L roots).length ≤ 1000 from Nat.le_trans rX_len hn)
  obtain ⟨i0, hi0, hz0, hz1, hz2⟩ := info_parts infoMod
  obtain ⟨a, c, hv1, -⟩ := id I.es
  subst hv1
  obtain ⟨ra, rc, hrv, -⟩ := id hr
  subst hrv
  have HFN := hid (fun W => fine_any W)
  clear I hr sh h0
  generalize rX Q L roots = X at *
  have HXM := hid (show X.length ≤ 1000000 from Nat.le_trans HXL.out (by decide))
  go_enter Tryz.func83, Tryz.ntmps83
  go_wp2_with fail
  refine (HRO.out _ HB0.out).mono ?_
  rintro e w1 ⟨xa, xc, rfl, hms, hb⟩
  have HB1 := hid (HB0.out.trans (hb.mono HB0.out.size))
  have HE1 := hid ((hb.block _ (lt_of_blk HE0.out)).trans HE0.out)
  have HB2 := hid (HB1.out.alloc HB1.out.size (.cells #[.int .i64 0, .int .i64 (-1)] 64))
  have HE2 := hid (heap_old w1 (.cells #[.int .i64 0, .int .i64 (-1)] 64) HE1.out)
  have HMX := hid (hms.below ((Below.refl w1.heap.size w1).alloc (Nat.le_refl _) (.cells #[.int .i64 0, .int .i64 (-1)] 64)))
  have hne : ¬ w1.heap.size = w.heap.size := Nat.ne_of_gt (lt_of_blk HE1.out)
  have hne2 : ¬ w.heap.size = w1.heap.size := Nat.ne_of_lt (lt_of_blk HE1.out)
  clear hb hms HRO
  go_wp2_with fail
  generalize w1.alloc (.cells #[.int .i64 0, .int .i64 (-1)] 64) = w2 at *
  have HW2 := hid (lt_of_blk HE2.out)
  clear HB1 HE1 HB0 HE0
  go_loopw [8, 9] (fun ov iv wr => ∃ i : Nat, i ≤ X.length ∧ iv = .int .i64 i ∧ Hid (wr.ownsRow w2.heap.size 51 2 ov (lastN X i).length (flatM (lastN X i))) ∧ Hid (Below w2.heap.size w2 wr)) (fun _ iv _ => X.length - (intOf iv).toNat)
  case atStart => exact ⟨0, Nat.zero_le _, rfl, hid (World.ownsRow_nil _ _ _ _), hid (Below.refl _ _)⟩
  case round =>
    obtain ⟨i, hi, rfl, HOW, HBr⟩ := hrel
    by_cases hlt2 : i < X.length
    · have hiI := ix_lt hlt2
      have hii := ix_pos i
      have HLI := hid hlt2
      obtain ⟨SX, HSX⟩ : ∃ SX, Hid (lastN X i = SX) := ⟨_, hid rfl⟩
      rw [HSX.out] at HOW
      have HSL := hid (show SX.length ≤ 1000 by rw [← HSX.out]; exact Nat.le_trans (lastN_len X i) (Nat.le_trans (Nat.le_of_lt hlt2) HXL.out))
      obtain ⟨xb, xo, hxa, y0, y1⟩ := (HMX.out.below HBr.out).cells hlt2
      subst hxa
      have kw64 := ix_w1 hlt2 HXM.out
      have ktn := ix_nat1 i
      have kwk := ix_k1 hlt2 HXM.out
      have hj0 := ix_pos1 i
      by_cases hnx : i + 1 < X.length
      · have hjI := ix_lt1 hnx
        obtain ⟨z0, z1⟩ := ms_atJ (HMX.out.below HBr.out) hnx
        have HNB := hid (nextB_at (p := X[i].1) hnx)
        by_cases hpe : X[i + 1].1 = X[i].1
        · have HST := hid (lastN_skip hlt2 (HNB.out.trans (decide_eq_true hpe)))
          rw [hpe] at z0
          rw [HSX.out] at HST
          clear HNB
          generalize X[i] = um at *
          obtain ⟨up, uq⟩ := um
          simp only at y0 y1 z0
          clear hlt2 hnx hpe z1
          have heq := str_refl up
          go_wp2_with fail
          go_quiet (fail)
          have HBd := hid (below_drawn_of HBr.out nq)
          have HOd := hid (owns_below HOW.out (below_drawn wr nq))
          go_wp2_with fail
          go_roundw
          case rel => first | exact ⟨i + 1, HLI.out, nr_idx i, hid (by rw [HST.out]; exact HOd.out), HBd⟩ | exact ⟨i + 1, HLI.out, nx_idx HLI.out HXM.out, hid (by rw [HST.out]; exact HOd.out), HBd⟩
          case measure => first | exact nr_meas HLI.out | exact nx_meas HLI.out HXM.out
        · have HST := hid (lastN_keep hlt2 (HNB.out.trans (decide_eq_false hpe)))
          clear HNB
          generalize X[i + 1] = un at *
          obtain ⟨np, nq⟩ := un
          clear hnx z1
          rw [HSX.out] at HST
          generalize X[i] = um at *
          obtain ⟨up, uq⟩ := um
          simp only at y0 y1 z0 hpe
          have heq := str_ne hpe
          clear hlt2 hpe
          go_wp2_with fail
          go_quiet (fail)
          have HDx := hid (below_drawn wr nq)
          have HBd := hid (below_drawn_of HBr.out nq)
          have HOd := hid (owns_below HOW.out HDx.out)
          obtain ⟨wx, hwx⟩ : ∃ wz0, wr.drewN nq = wz0 := ⟨_, rfl⟩
          rw [hwx] at HDx HBd HOd ⊢
          replace y0 := cell_below HDx.out y0
          replace y1 := cell_below HDx.out y1
          clear hwx nq z0
          go_wp2_with (at_builtin; refine wpList_append_own _ rfl _ _ 52 rfl w2.heap.size 51 i0 _ 2 32 Tryz.underlying52 hi0 hz0 hz1 hz2 rfl (by decide) _ _ _ rfl (HOd.out.alloc _) ⟨wx.heap.size, 0, none⟩ 1 1 [.string up, .string uq] rfl rfl (World.news_of_block (heap_new _ _)) (by intro u hu; simp at hu; rcases hu with rfl | rfl <;> rfl) (Nat.le_trans (Nat.add_le_add_right HSL.out 1) (by unfold maxLen; decide)) (by have hz := HSL.out; omega) (Nat.le_trans HBd.out.size (by simp)) ?_)
          intro v' w6 hown hgrow _
          have HR3 := hid (rel_app2 HBd.out.size HBd.out HOd.out (Below.refl _ _) hgrow)
          have HO4 := hid (show w6.ownsRow w2.heap.size 51 2 v' (SX ++ [(up, uq)]).length (flatM (SX ++ [(up, uq)])) by rw [List.length_append, flatM_app]; exact hown)
          clear hown hgrow
          go_wp2_with fail
          go_roundw
          case rel => first | exact ⟨i + 1, HLI.out, nr_idx i, hid (by rw [HST.out]; exact HO4.out), HR3⟩ | exact ⟨i + 1, HLI.out, nx_idx HLI.out HXM.out, hid (by rw [HST.out]; exact HO4.out), HR3⟩
          case measure => first | exact nr_meas HLI.out | exact nx_meas HLI.out HXM.out
      · have hjI := ix_nlt1 hnx
        have HST := hid (lastN_keep hlt2 (nextB_end hnx))
        clear hnx
        rw [HSX.out] at HST
        generalize X[i] = um at *
        obtain ⟨up, uq⟩ := um
        simp only at y0 y1
        clear hlt2
        go_wp2_with (at_builtin; refine wpList_append_own _ rfl _ _ 52 rfl w2.heap.size 51 i0 _ 2 32 Tryz.underlying52 hi0 hz0 hz1 hz2 rfl (by decide) _ _ _ rfl (HOW.out.alloc _) ⟨wr.heap.size, 0, none⟩ 1 1 [.string up, .string uq] rfl rfl (World.news_of_block (heap_new _ _)) (by intro u hu; simp at hu; rcases hu with rfl | rfl <;> rfl) (Nat.le_trans (Nat.add_le_add_right HSL.out 1) (by unfold maxLen; decide)) (by have hz := HSL.out; omega) (Nat.le_trans HBr.out.size (by simp)) ?_)
        intro v' w6 hown hgrow _
        have HR3 := hid (rel_app2 HBr.out.size HBr.out HOW.out (Below.refl _ _) hgrow)
        have HO4 := hid (show w6.ownsRow w2.heap.size 51 2 v' (SX ++ [(up, uq)]).length (flatM (SX ++ [(up, uq)])) by rw [List.length_append, flatM_app]; exact hown)
        clear hown hgrow
        go_wp2_with fail
        go_roundw
        case rel => first | exact ⟨i + 1, HLI.out, nr_idx i, hid (by rw [HST.out]; exact HO4.out), HR3⟩ | exact ⟨i + 1, HLI.out, nx_idx HLI.out HXM.out, hid (by rw [HST.out]; exact HO4.out), HR3⟩
        case measure => first | exact nr_meas HLI.out | exact nx_meas HLI.out HXM.out
    · have hiI := ix_nlt hlt2
      have hie : i = X.length := Nat.le_antisymm hi (Nat.le_of_not_lt hlt2)
      have HOF := hid (show wr.ownsRow w2.heap.size 51 2 u8 (lastN X X.length).length (flatM (lastN X X.length)) by
        have h := HOW.out
        rw [hie] at h
        exact h)
      clear hlt2 HOW hie
      obtain ⟨oa, on, oc, hov⟩ := own_sl HOF.out
      subst hov
      go_wp2_with fail
      refine (HFN.out _).mono ?_
      rintro e w6 ⟨rfl, hb⟩
      have HB6 := hid ((HB2.out.trans (HBr.out.mono HB2.out.size)).trans (hb.mono (Nat.le_trans HB2.out.size HBr.out.size)))
      have HE6 := hid ((hb.block _ (Nat.lt_of_lt_of_le (lt_of_blk HE2.out) HBr.out.size)).trans ((HBr.out.block _ (lt_of_blk HE2.out)).trans HE2.out))
      have HO6 := hid (owns_below HOF.out hb)
      clear hb
      obtain ⟨s0, s1, tf⟩ := box_two HE6.out
      have hnb : (Value.slice oa on oc).ownBlock ≠ some w.heap.size := fun h => by
        exact Nat.not_le_of_lt HW2.out (own_lt HO6.out h).2
      have HO7 := hid (own_base (owns_set (o := 1) (x := .int .i64 (-1)) (owns_set (o := 0) (x := .int .i64 0) HO6.out hnb) hnb) (Nat.le_of_lt HW2.out))
      go_wp2_with fail
      refine bodyPost_ret (v := .tuple #[.slice oa on oc, .agg #[.int .i64 0, .int .i64 (-1)]]) (by simp [results, Tryz.results83, go_sem, s0, s1]) rfl ⟨_, rfl, HO7.out, ?_⟩
      exact put2_below HB6.out (Nat.le_refl _)
theorem bo_all (Q : List Raw) (L : List Ent) (roots : List Bm) (v rv : Value) (w : World) (hn : L.length ≤ 1000) (hrn : roots.length ≤ 1000000) (sh : ∀ e, e ∈ L → ShE e) (I : Ixs w v Q L) (hr : MsAt w rv roots) :
    Calls Tryz.prog 83 #[v, rv] w fun e w' => ∃ a c, e = .returned (.tuple #[.slice a (bX Q L roots).length c, faultV (rF Q L roots)]) ∧ Mr w w' (.slice a (bX Q L roots).length c) (bX Q L roots) := by
  by_cases h : (chkG Q L roots).1 = 0
  · refine (bo_good Q L roots v rv w hn hrn sh I hr h).mono ?_
    rintro e w' ⟨u, rfl, hown, hb⟩
    have hm := mr_own hown hb
    obtain ⟨a, c, hu⟩ := hm.sl
    subst hu
    exact ⟨a, c, by rw [rF_good h]; rfl, hm⟩
  · refine (bo_bad Q L roots v rv w hn hrn sh I hr h).mono ?_
    rintro e w' ⟨rfl, hb⟩
    rw [bX_bad h, rF_bad h]
    exact ⟨_, _, rfl, mr_nil0 hb⟩
end Ve
end Go.Proofs.YtanponneancajaaGreatDoor


namespace Go.Proofs.YtanponneancajaaGreatDoor
open Go.RowKit Go.Maps
namespace Ve
theorem ms_put2 {W : World} {v : Value} {E : List Bm} {b : Nat} {n : Int} {z : Value} {T : TypeId} {x y : Value} (h : MsAt W v E) (hb : W.heap[b]? = some (.cells #[z, .int .i64 n] T (0, 0))) : MsAt ((W.setCell ⟨b, 0, none⟩ x).setCell ⟨b, 1, none⟩ y) v E := by
  obtain ⟨a, c, rfl, hc, hk⟩ := h
  refine ⟨a, c, rfl, hc, fun hE => ?_⟩
  obtain ⟨g, o, rfl, hcell⟩ := hk hE
  refine ⟨g, o, rfl, fun j hj => ?_⟩
  have hne : g ≠ b := fun e => by
    subst e
    have h0 := (hcell 0 (List.length_pos_iff.2 hE)).1
    have h1 := (hcell 0 (List.length_pos_iff.2 hE)).2
    rw [Lib.cell_of_heap hb] at h0 h1
    have hlt0 := (Array.getElem?_eq_some_iff.1 h0).1
    have hlt1 := (Array.getElem?_eq_some_iff.1 h1).1
    simp only [List.size_toArray, List.length_cons, List.length_nil] at hlt0 hlt1
    have ho : o = 0 := by omega
    subst ho
    simp at h1
  have go : ∀ (V : World) (k : Nat) (q : Value) (o' : Nat), (V.setCell ⟨b, k, none⟩ q).cell? ⟨g, o', none⟩ = V.cell? ⟨g, o', none⟩ := fun V k q o' => World.cell?_of_block (Below.heap_setCell _ _ _ _ hne)
  rw [go, go, go, go]
  exact hcell j hj
set_option maxRecDepth 100000 in
set_option maxHeartbeats 4000000 in
theorem oneO_bad (Q : List Raw) (L : List Ent) (roots : List Bm) (x : Bm) (v rv : Value) (w : World) (hn : L.length ≤ 1000) (hrn : roots.length ≤ 1000000) (sh : ∀ e, e ∈ L → ShE e) (I : Ixs w v Q L) (hr : MsAt w rv roots) (h0 : ¬ (chkG Q L roots).1 = 0) :
    Calls Tryz.prog 38 #[v, rv, .agg #[.string x.1, .string x.2]] w fun e w' => e = .returned (.tuple #[.slice none 0 0, faultV (chkG Q L roots)]) ∧ Below w.heap.size w w' := by
  obtain ⟨p, q⟩ := x
  have HBm := hid ((Below.refl w.heap.size w).alloc (Nat.le_refl _) (.cells #[.string p, .string q] 51))
  have HB0 := hid (HBm.out.alloc HBm.out.size (.cells #[.int .i64 0, .int .i64 0] 64))
  have HE0 := hid (heap_new (w.alloc (.cells #[.string p, .string q] 51)) (.cells #[.int .i64 0, .int .i64 0] 64))
  have hsz : (w.alloc (.cells #[.string p, .string q] 51)).heap.size = w.heap.size + 1 := by simp
  rw [hsz] at HE0
  have HRO := hid (fun W (h : Below w.heap.size w W) => bo_bad Q L roots v rv W hn hrn sh (I.below h) (hr.below h) h0)
  obtain ⟨a, c, hv1, -⟩ := id I.es
  subst hv1
  obtain ⟨ra, rc, hrv, -⟩ := id hr
  subst hrv
  obtain ⟨cc, oo, hco⟩ : ∃ cc oo, chkG Q L roots = (cc, oo) := ⟨_, _, rfl⟩
  rw [hco] at HRO h0 ⊢
  unfold faultV at HRO ⊢
  simp only at HRO h0 ⊢
  generalize atOf oo = ao at *
  have hpos : (0 : Int) < (cc : Int) := by omega
  clear I hr sh h0 hco
  go_enter Tryz.func38, Tryz.ntmps38
  go_wp2_with fail
  refine (HRO.out _ HB0.out).mono ?_
  rintro e w1 ⟨rfl, hb⟩
  have HB1 := hid (HB0.out.trans (hb.mono HB0.out.size))
  have HE1 := hid ((hb.block _ (lt_of_blk HE0.out)).trans HE0.out)
  clear hb
  have HB2 := hid (HB1.out.alloc HB1.out.size (.cells #[.int .i64 (cc : Int), .int .i64 ao] 64))
  have HE2 := hid (heap_old w1 (.cells #[.int .i64 (cc : Int), .int .i64 ao] 64) HE1.out)
  have HF2 := hid (heap_new w1 (.cells #[.int .i64 (cc : Int), .int .i64 ao] 64))
  have hne : ¬ w1.heap.size = w.heap.size + 1 := Nat.ne_of_gt (lt_of_blk HE1.out)
  have hne2 : ¬ w.heap.size + 1 = w1.heap.size := Nat.ne_of_lt (lt_of_blk HE1.out)
  go_wp2_with fail
  generalize w1.alloc (.cells #[.int .i64 (cc : Int), .int .i64 ao] 64) = w2 at *
  obtain ⟨s0, s1, tf⟩ := box_two HE2.out
  obtain ⟨f0, f1, _⟩ := box_two HF2.out
  go_region_with fail
  all_goals
    go_wp2_with fail
    refine bodyPost_ret (v := .tuple #[.slice none 0 0, .agg #[.int .i64 (cc : Int), .int .i64 ao]]) (by simp [results, Tryz.results38, go_sem, s0, s1]) rfl ⟨rfl, ?_⟩
    exact put2_below (below_drawn_of HB2.out 1) (Nat.le_succ _)
set_option maxRecDepth 100000 in
set_option maxHeartbeats 4000000 in
theorem oneO_not (Q : List Raw) (L : List Ent) (roots : List Bm) (x : Bm) (v rv : Value) (w : World) (hn : L.length ≤ 1000) (hrn : roots.length ≤ 1000000) (sh : ∀ e, e ∈ L → ShE e) (I : Ixs w v Q L) (hr : MsAt w rv roots) (h0 : (chkG Q L roots).1 = 0) (hx : ¬ x ∈ univ L) :
    Calls Tryz.prog 38 #[v, rv, .agg #[.string x.1, .string x.2]] w fun e w' => e = .returned (.tuple #[.slice none 0 0, .agg #[.int .i64 5, .int .i64 (-1)]]) ∧ Below w.heap.size w w' := by
  obtain ⟨p, q⟩ := x
  have HBm := hid ((Below.refl w.heap.size w).alloc (Nat.le_refl _) (.cells #[.string p, .string q] 51))
  have HB0 := hid (HBm.out.alloc HBm.out.size (.cells #[.int .i64 0, .int .i64 0] 64))
  have HE0 := hid (heap_new (w.alloc (.cells #[.string p, .string q] 51)) (.cells #[.int .i64 0, .int .i64 0] 64))
  have HM0 := hid (heap_old (w.alloc (.cells #[.string p, .string q] 51)) (.cells #[.int .i64 0, .int .i64 0] 64) (heap_new w (.cells #[.string p, .string q] 51)))
  have hsz : (w.alloc (.cells #[.string p, .string q] 51)).heap.size = w.heap.size + 1 := by simp
  rw [hsz] at HE0
  have HRO := hid (fun W (h : Below w.heap.size w W) => bo_all Q L roots v rv W hn hrn sh (I.below h) (hr.below h))
  rw [rF_good h0, faultV0] at HRO
  have HFI := hid (fun W (h : Below w.heap.size w W) => findOf_allJ Q (p, q) v W (by rw [I.ln]; omega) (I.below h).es)
  obtain ⟨k, hk, hkn⟩ : ∃ k, idxOf (isM (p, q)) Q = k ∧ k < 0 := by
    rcases idx_nat (isM (p, q)) Q with h1 | ⟨k, h1⟩
    · exact ⟨_, h1, by omega⟩
    · exact absurd ((found_iff I (p, q)).2 ⟨k, h1⟩) hx
  rw [hk] at HFI
  have HBA := hid (fun W => rbare_any 5 W)
  obtain ⟨a, c, hv1, -⟩ := id I.es
  subst hv1
  obtain ⟨ra, rc, hrv, -⟩ := id hr
  subst hrv
  clear I hr sh h0 hx hk
  go_enter Tryz.func38, Tryz.ntmps38
  go_wp2_with fail
  refine (HRO.out _ HB0.out).mono ?_
  rintro e w1 ⟨ba, bc, rfl, hm⟩
  have HB1 := hid (HB0.out.trans (hm.1.mono HB0.out.size))
  have HE1 := hid ((hm.1.block _ (lt_of_blk HE0.out)).trans HE0.out)
  have HM1 := hid ((hm.1.block _ (lt_of_blk HM0.out)).trans HM0.out)
  clear hm
  have HB2 := hid (HB1.out.alloc HB1.out.size (.cells #[.int .i64 0, .int .i64 (-1)] 64))
  have HE2 := hid (heap_old w1 (.cells #[.int .i64 0, .int .i64 (-1)] 64) HE1.out)
  have HM2 := hid (heap_old w1 (.cells #[.int .i64 0, .int .i64 (-1)] 64) HM1.out)
  have HF2 := hid (heap_new w1 (.cells #[.int .i64 0, .int .i64 (-1)] 64))
  have hne : ¬ w1.heap.size = w.heap.size + 1 := Nat.ne_of_gt (lt_of_blk HE1.out)
  have hne2 : ¬ w.heap.size + 1 = w1.heap.size := Nat.ne_of_lt (lt_of_blk HE1.out)
  have hne3 : ¬ w.heap.size = w1.heap.size := Nat.ne_of_lt (lt_of_blk HM1.out)
  obtain ⟨n0, n1, _⟩ := box_two HM2.out
  go_wp2_with fail
  generalize w1.alloc (.cells #[.int .i64 0, .int .i64 (-1)] 64) = w2 at *
  refine (HFI.out _ HB2.out).mono ?_
  rintro e w3 ⟨rfl, hb⟩
  have HB3 := hid (HB2.out.trans (hb.mono HB2.out.size))
  have HE3 := hid ((hb.block _ (lt_of_blk HE2.out)).trans HE2.out)
  clear hb
  go_wp2_with fail
  refine (HBA.out _).mono ?_
  rintro e w4 ⟨rfl, hb⟩
  have HB4 := hid (HB3.out.trans (hb.mono HB3.out.size))
  have HE4 := hid ((hb.block _ (lt_of_blk HE3.out)).trans HE3.out)
  clear hb
  obtain ⟨s0, s1, tf⟩ := box_two HE4.out
  go_wp2_with fail
  refine bodyPost_ret (v := .tuple #[.slice none 0 0, .agg #[.int .i64 5, .int .i64 (-1)]]) (by simp [results, Tryz.results38, go_sem, s0, s1]) rfl ⟨rfl, ?_⟩
  exact put2_below HB4.out (Nat.le_succ _)
set_option maxRecDepth 100000 in
set_option maxHeartbeats 4000000 in
theorem oneO_good (Q : List Raw) (L : List Ent) (roots : List Bm) (x : Bm) (v rv : Value) (w : World) (hn : L.length ≤ 1000) (hrn : roots.length ≤ 400) (sh : ∀ e, e ∈ L → ShE e) (I : Ixs w v Q L) (hr : MsAt w rv roots) (her : Em rv roots) (h0 : (chkG Q L roots).1 = 0) (hx : x ∈ univ L) :
    Calls Tryz.prog 38 #[v, rv, .agg #[.string x.1, .string x.2]] w fun e w' => ∃ xa xc, e = .returned (.tuple #[.slice xa (bX Q L (roots ++ [x])).length xc, .agg #[.int .i64 0, .int .i64 (-1)]]) ∧ MsAt w' (.slice xa (bX Q L (roots ++ [x])).length xc) (bX Q L (roots ++ [x])) ∧ Below w.heap.size w w' := by
  have hg : (chkG Q L (roots ++ [x])).1 = 0 := chkG_in I (chkG_chk h0) fun y hy => by
    rcases List.mem_append.1 hy with h | h
    · exact (rgt_of I h0).r y h
    · rw [List.mem_singleton.1 h]; exact hx
  obtain ⟨p, q⟩ := x
  have HBm := hid ((Below.refl w.heap.size w).alloc (Nat.le_refl _) (.cells #[.string p, .string q] 51))
  have HB0 := hid (HBm.out.alloc HBm.out.size (.cells #[.int .i64 0, .int .i64 0] 64))
  have HE0 := hid (heap_new (w.alloc (.cells #[.string p, .string q] 51)) (.cells #[.int .i64 0, .int .i64 0] 64))
  have HM0 := hid (heap_old (w.alloc (.cells #[.string p, .string q] 51)) (.cells #[.int .i64 0, .int .i64 0] 64) (heap_new w (.cells #[.string p, .string q] 51)))
  have hsz : (w.alloc (.cells #[.string p, .string q] 51)).heap.size = w.heap.size + 1 := by simp
  rw [hsz] at HE0
  have HRO := hid (fun W (h : Below w.heap.size w W) => bo_all Q L roots v rv W hn (by omega) sh (I.below h) (hr.below h))
  rw [rF_good h0, faultV0] at HRO
  have HR2 := hid (fun W u (h : Below w.heap.size w W) (hu : MsAt W u (roots ++ [(p, q)])) => bo_all Q L (roots ++ [(p, q)]) v u W hn (by simp; omega) sh (I.below h) hu)
  rw [rF_good hg, faultV0] at HR2
  have HFI := hid (fun W (h : Below w.heap.size w W) => findOf_allJ Q (p, q) v W (by rw [I.ln]; omega) (I.below h).es)
  obtain ⟨k, hk⟩ := (found_iff I (p, q)).1 hx
  rw [hk] at HFI
  have hk0 : ¬ (k : Int) < 0 := by omega
  have HR := hid (fun W (h : Below w.heap.size w W) => hr.below h)
  have HER := hid her
  obtain ⟨i0, hi0, hz0, hz1, hz2⟩ := info_parts infoMod
  have HRL := hid hrn
  obtain ⟨a, c, hv1, -⟩ := id I.es
  subst hv1
  obtain ⟨ra, rc, hrv, -⟩ := id hr
  subst hrv
  clear I hr sh h0 hx hk her hg
  go_enter Tryz.func38, Tryz.ntmps38
  go_wp2_with fail
  refine (HRO.out _ HB0.out).mono ?_
  rintro e w1 ⟨ba, bc, rfl, hm⟩
  have HB1 := hid (HB0.out.trans (hm.1.mono HB0.out.size))
  have HE1 := hid ((hm.1.block _ (lt_of_blk HE0.out)).trans HE0.out)
  have HM1 := hid ((hm.1.block _ (lt_of_blk HM0.out)).trans HM0.out)
  clear hm HRO
  have HB2 := hid (HB1.out.alloc HB1.out.size (.cells #[.int .i64 0, .int .i64 (-1)] 64))
  have HE2 := hid (heap_old w1 (.cells #[.int .i64 0, .int .i64 (-1)] 64) HE1.out)
  have HM2 := hid (heap_old w1 (.cells #[.int .i64 0, .int .i64 (-1)] 64) HM1.out)
  have hne : ¬ w1.heap.size = w.heap.size + 1 := Nat.ne_of_gt (lt_of_blk HE1.out)
  have hne2 : ¬ w.heap.size + 1 = w1.heap.size := Nat.ne_of_lt (lt_of_blk HE1.out)
  have hne3 : ¬ w.heap.size = w1.heap.size := Nat.ne_of_lt (lt_of_blk HM1.out)
  obtain ⟨n0, n1, _⟩ := box_two HM2.out
  go_wp2_with fail
  generalize w1.alloc (.cells #[.int .i64 0, .int .i64 (-1)] 64) = w2 at *
  clear n0 n1 HB0 HE0 HM0 HBm
  refine (HFI.out _ HB2.out).mono ?_
  rintro e w3 ⟨rfl, hb⟩
  have HB3 := hid (HB2.out.trans (hb.mono HB2.out.size))
  have HE3 := hid ((hb.block _ (lt_of_blk HE2.out)).trans HE2.out)
  have HM3 := hid ((hb.block _ (lt_of_blk HM2.out)).trans HM2.out)
  clear hb
  obtain ⟨av, w4, hrun, hown, hgr⟩ := both_run [] roots (.slice none 0 0) _ w3 w3.heap.size (Nat.le_refl _) (by simp) (Nat.le_trans HRL.out (by decide)) (World.ownsRow_nil _ _ _ _) (HR.out _ HB3.out) HER.out
  have HRUN := hid hrun
  have HD4 := hid (show Below w3.heap.size w3 w4 from grown_below hgr)
  have HB4 := hid (HB3.out.trans (HD4.out.mono HB3.out.size))
  have HE4 := hid ((HD4.out.block _ (lt_of_blk HE3.out)).trans HE3.out)
  have HM4 := hid ((HD4.out.block _ (lt_of_blk HM3.out)).trans HM3.out)
  rw [List.nil_append] at hown
  have HO4 := hid hown
  have HW34 := hid (show w3.heap.size ≤ w4.heap.size from HD4.out.size)
  obtain ⟨aa, ac, hav⟩ := own_slN hown
  subst hav
  clear hrun hown hgr
  obtain ⟨m0, m1, mf⟩ := box_two HM4.out
  go_wp2_with (at_builtin; first
    | refine wpList_append_own _ rfl _ _ 52 rfl w3.heap.size 51 i0 _ 2 32 Tryz.underlying52 hi0 hz0 hz1 hz2 rfl (by decide) _ _ _ rfl (HO4.out.alloc _) ⟨w4.heap.size, 0, none⟩ 1 1 [.string p, .string q] rfl rfl (World.news_of_block (heap_new _ _)) (by intro u hu; simp at hu; rcases hu with rfl | rfl <;> rfl) (Nat.le_trans (Nat.add_le_add_right HRL.out 1) (by unfold maxLen; decide)) (by have hz := HRL.out; omega) (Nat.le_trans HW34.out (by simp)) ?_
    | refine Lib.wpList_append_run _ rfl _ _ _ _ rfl _ _ rfl rfl _ _ HRUN.out ?_)
  intro v' w5 hown hgrow _
  have HD5 := hid (rel_app2 HD4.out.size HD4.out HO4.out (Below.refl _ _) hgrow)
  have HB5 := hid (HB3.out.trans (HD5.out.mono HB3.out.size))
  have HE5 := hid ((HD5.out.block _ (lt_of_blk HE3.out)).trans HE3.out)
  have HMS := hid (show MsAt w5 v' (roots ++ [(p, q)]) from own_ms (by rw [List.length_append, flatM_app]; exact hown))
  have HBE := hid (HR2.out w5 v' HB5.out HMS.out)
  obtain ⟨BX, hBX⟩ : ∃ BX, bX Q L (roots ++ [(p, q)]) = BX := ⟨_, rfl⟩
  have HBX := hid hBX
  rw [hBX] at HBE
  obtain ⟨va', vc', hv', -⟩ := HMS.out
  subst hv'
  obtain ⟨RN, hRN⟩ : ∃ RN, (roots ++ [(p, q)]).length = RN := ⟨_, rfl⟩
  rw [hRN] at HBE ⊢
  clear hown hgrow m0 m1 mf HMS HR2 hBX hRN
  go_wp2_with fail
  refine HBE.out.mono ?_
  rintro e w6 ⟨xa, xc, rfl, hm⟩
  have HB6 := hid (HB5.out.trans (hm.1.mono HB5.out.size))
  have HE6 := hid ((hm.1.block _ (lt_of_blk HE5.out)).trans HE5.out)
  have HMX := hid (ms_put2 (b := w.heap.size + 1) (x := .int .i64 0) (y := .int .i64 (-1)) hm.ms HE6.out)
  clear hm HBE
  obtain ⟨s0, s1, tf⟩ := box_two HE6.out
  go_wp2_with fail
  refine bodyPost_ret (v := .tuple #[.slice xa BX.length xc, .agg #[.int .i64 0, .int .i64 (-1)]]) (by simp [results, Tryz.results38, go_sem, s0, s1]) rfl ?_
  have h := HBX.out
  subst h
  exact ⟨_, _, rfl, HMX.out, put2_below HB6.out (Nat.le_succ _)⟩
end Ve
end Go.Proofs.YtanponneancajaaGreatDoor


namespace Go.Proofs.YtanponneancajaaGreatDoor
open Go.RowKit Go.Maps
namespace Ve
set_option maxRecDepth 100000 in
set_option maxHeartbeats 4000000 in
theorem allO_bad (Q : List Raw) (L : List Ent) (roots : List Bm) (v rv : Value) (w : World) (hn : L.length ≤ 1000) (hrn : roots.length ≤ 1000000) (sh : ∀ e, e ∈ L → ShE e) (I : Ixs w v Q L) (hr : MsAt w rv roots) (h0 : ¬ (chkG Q L roots).1 = 0) :
    Calls Tryz.prog 40 #[v, rv] w fun e w' => e = .returned (.tuple #[.slice none 0 0, faultV (chkG Q L roots)]) ∧ Below w.heap.size w w' := by
  have HB0 := hid ((Below.refl w.heap.size w).alloc (Nat.le_refl _) (.cells #[.int .i64 0, .int .i64 0] 64))
  have HE0 := hid (heap_new w (.cells #[.int .i64 0, .int .i64 0] 64))
  have HRO := hid (fun W (h : Below w.heap.size w W) => bo_bad Q L roots v rv W hn hrn sh (I.below h) (hr.below h) h0)
  obtain ⟨a, c, hv1, -⟩ := id I.es
  subst hv1
  obtain ⟨ra, rc, hrv, -⟩ := id hr
  subst hrv
  obtain ⟨cc, oo, hco⟩ : ∃ cc oo, chkG Q L roots = (cc, oo) := ⟨_, _, rfl⟩
  rw [hco] at HRO h0 ⊢
  unfold faultV at HRO ⊢
  simp only at HRO h0 ⊢
  generalize atOf oo = ao at *
  have hnz : ((cc : Int) == 0) = false := by simp; omega
  have hnz2 : ¬ (cc : Int) = 0 := by omega
  clear I hr sh h0 hco
  go_enter Tryz.func40, Tryz.ntmps40
  go_wp2_with fail
  refine (HRO.out _ HB0.out).mono ?_
  rintro e w1 ⟨rfl, hb⟩
  have HB1 := hid (HB0.out.trans (hb.mono HB0.out.size))
  have HE1 := hid ((hb.block _ (lt_of_blk HE0.out)).trans HE0.out)
  clear hb
  have HB2 := hid (HB1.out.alloc HB1.out.size (.cells #[.int .i64 (cc : Int), .int .i64 ao] 64))
  have HE2 := hid (heap_old w1 (.cells #[.int .i64 (cc : Int), .int .i64 ao] 64) HE1.out)
  have HF2 := hid (heap_new w1 (.cells #[.int .i64 (cc : Int), .int .i64 ao] 64))
  have hne : ¬ w1.heap.size = w.heap.size := Nat.ne_of_gt (lt_of_blk HE1.out)
  have hne2 : ¬ w.heap.size = w1.heap.size := Nat.ne_of_lt (lt_of_blk HE1.out)
  go_wp2_with fail
  generalize w1.alloc (.cells #[.int .i64 (cc : Int), .int .i64 ao] 64) = w2 at *
  obtain ⟨s0, s1, tf⟩ := box_two HE2.out
  obtain ⟨f0, f1, _⟩ := box_two HF2.out
  go_loopw [6] (fun sv wr => sv = .slice none 0 0 ∧ wr = w2) (fun _ _ => 0)
  case atStart => exact ⟨rfl, rfl⟩
  case round =>
    obtain ⟨rfl, rfl⟩ := hrel
    go_wp2_with fail
    go_region_with fail
    all_goals
      go_wp2_with fail
      refine bodyPost_ret (v := .tuple #[.slice none 0 0, .agg #[.int .i64 (cc : Int), .int .i64 ao]]) (by simp [results, Tryz.results40, go_sem, s0, s1]) rfl ⟨rfl, ?_⟩
      exact put2_below (below_drawn_of HB2.out 1) (Nat.le_refl _)
theorem latL_take {Q : List Raw} {E : List Bm} {k : Nat} (h : k < E.length) : E ++ latL Q (E.take (k + 1)) = (E ++ latL Q (E.take k)) ++ [(E[k].1, latV Q E[k].1)] := by
  rw [latL_next h, List.append_assoc]
set_option maxRecDepth 100000 in
set_option maxHeartbeats 8000000 in
theorem allO_good (Q : List Raw) (L : List Ent) (roots : List Bm) (v rv : Value) (w : World) (hn : L.length ≤ 400) (hrn : roots.length ≤ 1000000) (hz : ∀ r, r ∈ Q → r.1.1.size ≤ 80 ∧ r.1.2.size ≤ 80) (sh : ∀ e, e ∈ L → ShE e) (I : Ixs w v Q L) (hr : MsAt w rv roots) (h0 : (chkG Q L roots).1 = 0) :
    Calls Tryz.prog 40 #[v, rv] w fun e w' => ∃ a c E, e = .returned (.tuple #[.slice a E.length c, .agg #[.int .i64 0, .int .i64 (-1)]]) ∧ MsAt w' (.slice a E.length c) E ∧ Fix Q L (bX Q L roots) E ∧ Below w.heap.size w w' := by
  have HC := hid (chkG_chk h0)
  have HGD := hid (good_of I HC.out)
  have HB0 := hid ((Below.refl w.heap.size w).alloc (Nat.le_refl _) (.cells #[.int .i64 0, .int .i64 0] 64))
  have HE0 := hid (heap_new w (.cells #[.int .i64 0, .int .i64 0] 64))
  have HRO := hid (fun W (h : Below w.heap.size w W) => bo_all Q L roots v rv W (by omega) hrn sh (I.below h) (hr.below h))
  rw [rF_good h0, faultV0] at HRO
  have HLI := hid (fun E (hE : Sl L E) => show LatIn Q L E from fun x hx => by
    obtain ⟨X, hX⟩ := keptT_ex HGD.out x.1
    exact lat_in I HC.out ⟨x, hE.un x hx, rfl⟩ hX)
  have HR2 := hid (fun E W u (hE : Sl L E) (hEl : E.length ≤ L.length) (h : Below w.heap.size w W) (hu : MsAt W u (E ++ latL Q E)) => show Calls Tryz.prog 83 #[v, u] W fun e w' => ∃ a c, e = .returned (.tuple #[.slice a (upF Q L E).length c, .agg #[.int .i64 0, .int .i64 (-1)]]) ∧ Mr W w' (.slice a (upF Q L E).length c) (upF Q L E) by
    have h1 := bo_all Q L (E ++ latL Q E) v u W (by omega) (by rw [List.length_append, latL_len]; omega) sh (I.below h) hu
    rw [rF_good (upG I HC.out hE (HLI.out E hE)), faultV0] at h1
    exact h1)
  have HLO := hid (fun t W (h : Below w.heap.size w W) => latOf_any Q t v W (by rw [I.ln]; omega) HGD.out hz (keptT_ex HGD.out t) (I.below h).es)
  have HOV := hid (fun E (hE : Sl L E) => up_over I HC.out hE (HLI.out E hE))
  have HLN := hid hn
  obtain ⟨i0, hi0, hz0, hz1, hz2⟩ := info_parts infoMod
  obtain ⟨a, c, hv, -⟩ := id I.es
  subst hv
  obtain ⟨ra, rc, hrv, -⟩ := id hr
  subst hrv
  have HBS := hid (bX_sl Q L roots)
  have HBL := hid (show (bX Q L roots).length ≤ L.length from bX_len)
  clear I hr sh h0 hz
  go_enter Tryz.func40, Tryz.ntmps40
  go_wp2_with fail
  refine (HRO.out _ HB0.out).mono ?_
  rintro e w1 ⟨ba, bc, rfl, hm⟩
  have HB1 := hid (HB0.out.trans (hm.1.mono HB0.out.size))
  have HE1 := hid ((hm.1.block _ (lt_of_blk HE0.out)).trans HE0.out)
  have HM1 := hid (hm.base HB0.out)
  clear hm HRO
  have HA2 := hid ((Below.refl w1.heap.size w1).alloc (Nat.le_refl _) (.cells #[.int .i64 0, .int .i64 (-1)] 64))
  have HE2 := hid (heap_old w1 (.cells #[.int .i64 0, .int .i64 (-1)] 64) HE1.out)
  have HF2 := hid (heap_new w1 (.cells #[.int .i64 0, .int .i64 (-1)] 64))
  have HNE := hid (show w.heap.size < w1.heap.size from lt_of_blk HE1.out)
  go_wp2_with fail
  generalize w1.alloc (.cells #[.int .i64 0, .int .i64 (-1)] 64) = w2 at *
  have HM2 := hid (HM1.out.below HA2.out)
  have HBw2 := hid (HB1.out.trans (HA2.out.mono HB1.out.size))
  clear HB0 HE0 HB1 HE1 HM1 HA2
  go_loopw [6] (fun sv wr => ∃ E, Hid (Mr w wr sv E) ∧ Hid (∃ n, E = upN Q L (bX Q L roots) n) ∧ Hid (Sl L E) ∧ Hid (E.length ≤ L.length) ∧ Hid (Below w2.heap.size w2 wr)) (fun sv wr => L.length - cntV L (rdM wr sv))
  case atStart => exact ⟨_, HM2, hid ⟨0, rfl⟩, HBS, HBL, hid (Below.refl _ _)⟩
  case round =>
    obtain ⟨E, HM, HNN, HSL, HEL, HBr⟩ := hrel
    have HRD := hid (rdM_eq HM.out.ms)
    obtain ⟨ea, ec, hu6⟩ := HM.out.sl
    subst hu6
    have HFr := hid ((HBr.out.block _ (lt_of_blk HF2.out)).trans HF2.out)
    have HEr := hid ((HBr.out.block _ (lt_of_blk HE2.out)).trans HE2.out)
    obtain ⟨f0, f1, _⟩ := box_two HFr.out
    obtain ⟨av, w4, hrun, hown, hgr⟩ := both_run [] E (.slice none 0 0) _ wr wr.heap.size (Nat.le_refl _) (by simp) (by have := HEL.out; have := HLN.out; omega) (World.ownsRow_nil _ _ _ _) HM.out.ms HM.out.em
    have HRUN := hid hrun
    have HD4 := hid (show Below wr.heap.size wr w4 from grown_below hgr)
    rw [List.nil_append] at hown
    have HO4 := hid (show w4.ownsRow wr.heap.size 51 2 av (E ++ latL Q (E.take 0)).length (flatM (E ++ latL Q (E.take 0))) by simpa [latL] using hown)
    obtain ⟨aa, ac, hav⟩ := own_slN hown
    subst hav
    clear hrun hown hgr
    go_wp2_with (at_builtin; refine Lib.wpList_append_run _ rfl _ _ _ _ rfl _ _ rfl rfl _ _ HRUN.out ?_)
    clear f0 f1 HRUN
    generalize hgw : wr = wo at *
    have HWO := hid hgw
    clear hgw
    go_loopw [8, 9] (fun av iv wr => ∃ i : Nat, i ≤ E.length ∧ iv = .int .i64 i ∧ Hid (wr.ownsRow wo.heap.size 51 2 av (E ++ latL Q (E.take i)).length (flatM (E ++ latL Q (E.take i)))) ∧ Hid (Below wo.heap.size wo wr)) (fun _ iv _ => E.length - (intOf iv).toNat)
    case atStart => exact ⟨0, Nat.zero_le _, rfl, HO4, HD4⟩
    case round =>
      obtain ⟨i, hi, rfl, HOW, HBi⟩ := hrel
      have HBw := hid (HM.out.1.trans (HBi.out.mono HM.out.1.size))
      by_cases hlt : i < E.length
      · have hiI := ix_lt hlt
        have hii := ix_pos i
        have HLIi := hid hlt
        have HEM := hid (show E.length ≤ 1000000 by have := HEL.out; have := HLN.out; omega)
        obtain ⟨xb, xo, hxa, y0, y1⟩ := (HM.out.ms.below HBi.out).cells hlt
        subst hxa
        have HST := hid (latL_take (Q := Q) hlt)
        have HNL := hid (show (E ++ latL Q (E.take i)).length ≤ 1000 by rw [List.length_append, latL_len]; have h1 := List.length_take_le' i E; have := HEL.out; have := HLN.out; omega)
        generalize E[i] = x at *
        obtain ⟨p, q⟩ := x
        simp only at y0 y1 HST
        have HLP := hid (HLO.out p wr HBw.out)
        obtain ⟨SX, hSX⟩ : ∃ SX, E ++ latL Q (E.take i) = SX := ⟨_, rfl⟩
        rw [hSX] at HOW HST HNL
        generalize latV Q p = lv at *
        clear hSX hlt
        go_wp2_with fail
        refine HLP.out.mono ?_
        rintro e w5 ⟨rfl, hb⟩
        have HB5 := hid (HBi.out.trans (hb.mono HBi.out.size))
        have HO5 := hid (owns_below HOW.out hb)
        have z0 := cell_below hb y0
        clear hb y0 y1 HLP
        go_wp2_with (at_builtin; refine wpList_append_own _ rfl _ _ 52 rfl wo.heap.size 51 i0 _ 2 32 Tryz.underlying52 hi0 hz0 hz1 hz2 rfl (by decide) _ _ _ rfl (HO5.out.alloc _) ⟨w5.heap.size, 0, none⟩ 1 1 [.string p, .string lv] rfl rfl (World.news_of_block (heap_new _ _)) (by intro u hu; simp at hu; rcases hu with rfl | rfl <;> rfl) (Nat.le_trans (Nat.add_le_add_right HNL.out 1) (by unfold maxLen; decide)) (by have hz := HNL.out; omega) (Nat.le_trans HB5.out.size (by simp)) ?_)
        intro v' w6 hown hgrow _
        have HB6 := hid (rel_app2 HB5.out.size HB5.out HO5.out (Below.refl _ _) hgrow)
        have HO6 := hid (show w6.ownsRow wo.heap.size 51 2 v' (SX ++ [(p, lv)]).length (flatM (SX ++ [(p, lv)])) by rw [List.length_append, flatM_app]; exact hown)
        clear hown hgrow z0
        go_wp2_with fail
        go_roundw
        case rel => first | exact ⟨i + 1, HLIi.out, nr_idx i, hid (by rw [HST.out]; exact HO6.out), HB6⟩ | exact ⟨i + 1, HLIi.out, nx_idx HLIi.out HEM.out, hid (by rw [HST.out]; exact HO6.out), HB6⟩
        case measure => first | exact nr_meas HLIi.out | exact nx_meas HLIi.out HEM.out
      · have hiI := ix_nlt hlt
        have HTA := hid (show E.take i = E from List.take_of_length_le (by omega))
        rw [HTA.out] at HOW
        have HBE := hid (HR2.out E wr _ HSL.out HEL.out HBw.out (own_ms HOW.out))
        obtain ⟨EL, hEL⟩ : ∃ EL, E ++ latL Q E = EL := ⟨_, rfl⟩
        rw [hEL] at HOW
        obtain ⟨oa, oc, hov⟩ := own_slN HOW.out
        subst hov
        clear hlt hEL HTA
        go_wp2_with fail
        refine HBE.out.mono ?_
        rintro e w6 ⟨na, nc, rfl, hm⟩
        have HB6 := hid (HBi.out.trans (hm.1.mono HBi.out.size))
        have HMN6 := hid (hm.base HBw.out)
        have HA7 := hid ((Below.refl w6.heap.size w6).alloc (Nat.le_refl _) (.cells #[.int .i64 0, .int .i64 (-1)] 64))
        have HG7 := hid (heap_new w6 (.cells #[.int .i64 0, .int .i64 (-1)] 64))
        have HSF := hid (show Sl L (upF Q L E) from bX_sl _ _ _)
        have HFL := hid (show (upF Q L E).length ≤ L.length from bX_len)
        have HOE := hid (HOV.out E HSL.out)
        clear hm HBE
        go_wp2_with fail
        generalize w6.alloc (.cells #[.int .i64 0, .int .i64 (-1)] 64) = w7 at *
        have HB7 := hid (HB6.out.trans (HA7.out.mono HB6.out.size))
        have HMN7 := hid (HMN6.out.below HA7.out)
        have HEQ := hid (sameG_any (upF Q L E) E _ _ w7 (by have := HFL.out; have := HLN.out; omega) HMN7.out.ms (HM.out.ms.below HB7.out))
        have HGN := hid (show w.heap.size < w6.heap.size from Nat.lt_of_lt_of_le HNE.out (Nat.le_trans (Nat.le_of_lt (lt_of_blk HF2.out)) (Nat.le_trans HBr.out.size HB6.out.size)))
        clear HA7 HMN6
        by_cases hF : upF Q L E = E
        · rw [decide_eq_true hF] at HEQ
          have HFX := hid (show Fix Q L (bX Q L roots) E from ⟨HNN.out, hF⟩)
          rw [hF] at HMN7 HEQ ⊢
          clear hF HSF HFL HOE
          refine HEQ.out.mono ?_
          rintro e w8 ⟨rfl, hb⟩
          have HB8 := hid (HB7.out.trans (hb.mono HB7.out.size))
          have HG8 := hid ((hb.block _ (lt_of_blk HG7.out)).trans HG7.out)
          have HE8 := hid ((HB8.out.block _ (lt_of_blk HEr.out)).trans HEr.out)
          have HM8 := hid (HMN7.out.below hb)
          have HBz := hid (HM.out.1.trans (HB8.out.mono HM.out.1.size))
          have hne : ¬ w6.heap.size = w.heap.size := Nat.ne_of_gt HGN.out
          have hne2 : ¬ w.heap.size = w6.heap.size := Nat.ne_of_lt HGN.out
          obtain ⟨g0, g1, _⟩ := box_two HG8.out
          obtain ⟨s0, s1, tf⟩ := box_two HE8.out
          clear hb HEQ
          go_wp2_with fail
          go_region_with fail
          all_goals
            go_wp2_with fail
            refine bodyPost_ret (v := .tuple #[.slice na E.length nc, .agg #[.int .i64 0, .int .i64 (-1)]]) (by simp [results, Tryz.results40, go_sem, s0, s1]) rfl ⟨_, _, E, rfl, ?_, HFX.out, put2_below (below_drawn_of HBz.out 1) (Nat.le_refl _)⟩
            first | exact ms_put2 HM8.out.ms HE8.out | exact ms_put2 (W := w8.drewN 1) (HM8.out.ms.below (below_drawn _ 1)) ((below_drawn w8 1).block _ (lt_of_blk HE8.out) |>.trans HE8.out)
        · rw [decide_eq_false hF] at HEQ
          have HCN := hid (cntV_lt HC.out HSL.out HSF.out HOE.out hF)
          have HN2 := hid (show ∃ n, upF Q L E = upN Q L (bX Q L roots) n by
            obtain ⟨n, hn⟩ := HNN.out
            exact ⟨n + 1, by rw [hn]; rfl⟩)
          have HCE := hid (cntV_le L (upF Q L E))
          clear hF
          generalize upF Q L E = F at *
          refine HEQ.out.mono ?_
          rintro e w8 ⟨rfl, hb⟩
          have HM8 := hid (HMN7.out.below hb)
          have HB8 := hid (HB7.out.trans (hb.mono HB7.out.size))
          have HG8 := hid ((hb.block _ (lt_of_blk HG7.out)).trans HG7.out)
          have HB9 := hid (HBr.out.trans (HB8.out.mono HBr.out.size))
          obtain ⟨g0, g1, _⟩ := box_two HG8.out
          clear hb HEQ
          go_wp2_with fail
          go_roundw
          case rel => exact ⟨F, HM8, HN2, HSF, HFL, HB9⟩
          case measure =>
            have h3 := rdM_eq HM8.out.ms
            have h4 := HRD.out
            rw [← HWO.out] at h4
            rw [h3, h4]
            have h1 := HCN.out
            have h2 := HCE.out
            omega
end Ve
end Go.Proofs.YtanponneancajaaGreatDoor


namespace Go.Proofs.YtanponneancajaaGreatDoor
open Go.RowKit Go.Maps
namespace Ve
end Ve
end Go.Proofs.YtanponneancajaaGreatDoor


namespace Go.Proofs.YtanponneancajaaGreatDoor
open Go.RowKit Go.Maps
namespace Ve
theorem rp_none (a : Option Addr) (c : Nat) (w : World) : Calls Tryz.prog 87 #[.slice a 0 c] w fun e w' => e = .returned (.bool true) ∧ Below w.heap.size w w' := by
  go_enter Tryz.func87, Tryz.ntmps87
  go_wp2_with fail
  go_loopw [3] (fun i wr => i = .int .i64 1 ∧ wr = w) (fun i _ => 0)
  case atStart => exact ⟨rfl, rfl⟩
  case round =>
    obtain ⟨rfl, rfl⟩ := hrel
    go_wp2_with fail
    go_ret
    exact ⟨rfl, Below.refl _ _⟩
theorem leqB (a b : ByteArray) (X : World) : (binOp BinOp.leq 9 (.string a) (.string b)).run Tryz.prog X = .ok (.bool (!lt b a)) X := by rw [← noLess_lt]; exact leq_is a b X
set_option maxHeartbeats 2000000 in
theorem rp_some (L : List Bm) (b o c : Nat) (w : World) (hn : L.length ≤ 1000000) (h0 : 0 < L.length)
    (hc : ∀ j (h : j < L.length), w.cell? ⟨b, o + j * 2, none⟩ = some (.string L[j].1) ∧ w.cell? ⟨b, o + j * 2 + 1, none⟩ = some (.string L[j].2)) :
    Calls Tryz.prog 87 #[.slice (some ⟨b, o, none⟩) L.length c] w fun e w' => e = .returned (.bool (risB2 L)) ∧ Below w.heap.size w w' := by
  have HC := hid hc
  have HX := hid (show (∀ j (h : j + 1 < L.length), lt (L[j]'(by omega)).1 L[j + 1].1 = true) → risB2 L = true from fun h => risB2_all h)
  have HY := hid (show ∀ j (h : j + 1 < L.length), lt (L[j]'(by omega)).1 L[j + 1].1 = false → risB2 L = false from fun j h hne => risB2_not h hne)
  generalize risB2 L = z at *
  clear hc
  go_enter Tryz.func87, Tryz.ntmps87
  go_wp2_with fail
  go_loopw [3] (fun i wr => ∃ k : Nat, k + 1 ≤ L.length ∧ i = .int .i64 ((k : Int) + 1) ∧ Hid (∀ j (h : j + 1 < L.length), j < k → lt (L[j]'(by omega)).1 L[j + 1].1 = true) ∧ Hid (Below w.heap.size w wr)) (fun i _ => L.length - (intOf i).toNat)
  case atStart => exact ⟨0, h0, rfl, hid (fun j _ hj => absurd hj (Nat.not_lt_zero _)), hid (Below.refl _ _)⟩
  case round =>
    obtain ⟨k, hk, rfl, HE, HB⟩ := hrel
    by_cases hlt : k + 1 < L.length
    · have hx := cell_below HB.out (HC.out k (Nat.lt_of_succ_lt hlt)).1
      have hx' := cell_below HB.out (HC.out (k + 1) hlt).1
      have hge := fun W => leqB L[k + 1].1 (L[k]'(by omega)).1 W
      have hkI : (k : Int) + 1 < (L.length : Int) := by omega
      have kx1 : (0 : Int) ≤ (k : Int) + 1 := by omega
      have kx2 : (k : Int) + 1 - 1 = (k : Int) := by omega
      have kx3 : (k : Int) < (L.length : Int) := by omega
      have kx4 : (0 : Int) ≤ (k : Int) := by omega
      have ktn : ((k : Int) + 1).toNat = k + 1 := by omega
      have kw0 : wrap64 (k : Int) = (k : Int) := IntWalk.wrap64_in _ (by omega)
      have kw1 : IntKind.i64.wrap (k : Int) = (k : Int) := by rw [IntKind.wrap_i64] <;> omega
      have kw2 : wrap64 ((k : Int) + 1 + 1) = (k : Int) + 1 + 1 := IntWalk.wrap64_in _ (by omega)
      have HLT := hid hlt
      have HN := hid (show lt (L[k]'(by omega)).1 L[k + 1].1 = true → ∀ j (h : j + 1 < L.length), j < k + 1 → lt (L[j]'(by omega)).1 L[j + 1].1 = true from fun h0 j h1 h2 => by
        rcases Nat.lt_or_ge j k with h | h
        · exact HE.out j h1 h
        · have : j = k := by omega
          subst this; exact h0)
      have HYK := hid (HY.out k hlt)
      generalize (L[k]'(Nat.lt_of_succ_lt hlt)) = x at *
      generalize (L[k + 1]'hlt) = y at *
      obtain ⟨x1, x2⟩ := x
      obtain ⟨y1, y2⟩ := y
      simp only at hx hx' hge HN HYK
      clear hlt hk
      cases he : lt x1 y1 with
      | true =>
        have HN2 := hid (HN.out he)
        rw [he] at hge
        clear he HN HYK
        go_wp2_with fail
        go_quiet (fail)
        go_wp2_with fail
        go_roundw
        case rel => exact ⟨k + 1, HLT.out, by first | rfl | (simp only [kw2]; push_cast; rfl), HN2, hid (below_drawn_of HB.out _)⟩
        case measure =>
          have := HLT.out
          simp only [intOf]
          omega
      | false =>
        have HZ := hid (HYK.out he)
        rw [he] at hge
        clear he HN HYK
        go_wp2_with fail
        go_quiet (fail)
        go_wp2_with fail
        go_ret
        exact ⟨by rw [HZ.out]; rfl, below_drawn_of HB.out _⟩
    · have hkI : ¬ (k : Int) + 1 < (L.length : Int) := by omega
      have HZ := hid (HX.out (fun j h => HE.out j h (by omega)))
      go_wp2_with fail
      go_ret
      exact ⟨by rw [HZ.out]; rfl, HB.out⟩
theorem rp_any (L : List Bm) (v : Value) (w : World) (hv : MsAt w v L) (hn : L.length ≤ 1000000) :
    Calls Tryz.prog 87 #[v] w fun e w' => e = .returned (.bool (risB2 L)) ∧ Below w.heap.size w w' := by
  obtain ⟨a, c, rfl, _, h⟩ := hv
  cases L with
  | nil => exact rp_none a c w
  | cons x r =>
    obtain ⟨b, o, rfl, h2⟩ := h (by simp)
    exact rp_some (x :: r) b o c w hn (by simp) h2
end Ve
end Go.Proofs.YtanponneancajaaGreatDoor


namespace Go.Proofs.YtanponneancajaaGreatDoor
open Go.RowKit Go.Maps
namespace Ve
set_option maxRecDepth 100000 in
set_option maxHeartbeats 4000000 in
theorem newsO_bad (Q : List Raw) (L : List Ent) (sel : List Bm) (v sv : Value) (w : World) (hn : L.length ≤ 1000) (sh : ∀ e, e ∈ L → ShE e) (I : Ixs w v Q L) (hs : MsAt w sv sel) (h0 : ¬ (chk Q L).1 = 0) :
    Calls Tryz.prog 41 #[v, sv] w fun e w' => e = .returned (.tuple #[.slice none 0 0, faultV (chk Q L)]) ∧ Below w.heap.size w w' := by
  have HB0 := hid ((Below.refl w.heap.size w).alloc (Nat.le_refl _) (.cells #[.int .i64 0, .int .i64 0] 64))
  have HE0 := hid (heap_new w (.cells #[.int .i64 0, .int .i64 0] 64))
  have HIF := hid (iFault_any Q L v _ hn sh (I.below HB0.out))
  obtain ⟨a, c, hv1, -⟩ := id I.es
  subst hv1
  obtain ⟨sa, sc, hsv, -⟩ := id hs
  subst hsv
  obtain ⟨cc, oo, hco⟩ : ∃ cc oo, chk Q L = (cc, oo) := ⟨_, _, rfl⟩
  rw [hco] at HIF h0 ⊢
  unfold faultV at HIF ⊢
  simp only at HIF h0 ⊢
  generalize atOf oo = ao at *
  have hpos : (0 : Int) < (cc : Int) := by omega
  clear I hs sh h0 hco
  go_enter Tryz.func41, Tryz.ntmps41
  go_wp2_with fail
  refine HIF.out.mono ?_
  rintro e w1 ⟨rfl, hb⟩
  have HB1 := hid (HB0.out.trans (hb.mono HB0.out.size))
  have HE1 := hid ((hb.block _ (lt_of_blk HE0.out)).trans HE0.out)
  clear hb
  have HB2 := hid (HB1.out.alloc HB1.out.size (.cells #[.int .i64 (cc : Int), .int .i64 ao] 64))
  have HE2 := hid (heap_old w1 (.cells #[.int .i64 (cc : Int), .int .i64 ao] 64) HE1.out)
  have HF2 := hid (heap_new w1 (.cells #[.int .i64 (cc : Int), .int .i64 ao] 64))
  have hne : ¬ w1.heap.size = w.heap.size := Nat.ne_of_gt (lt_of_blk HE1.out)
  have hne2 : ¬ w.heap.size = w1.heap.size := Nat.ne_of_lt (lt_of_blk HE1.out)
  go_wp2_with fail
  generalize w1.alloc (.cells #[.int .i64 (cc : Int), .int .i64 ao] 64) = w2 at *
  obtain ⟨s0, s1, tf⟩ := box_two HE2.out
  obtain ⟨f0, f1, _⟩ := box_two HF2.out
  go_region_with fail
  all_goals
    go_wp2_with fail
    refine bodyPost_ret (v := .tuple #[.slice none 0 0, .agg #[.int .i64 (cc : Int), .int .i64 ao]]) (by simp [results, Tryz.results41, go_sem, s0, s1]) rfl ⟨rfl, ?_⟩
    exact put2_below (below_drawn_of HB2.out 1) (Nat.le_refl _)
set_option maxRecDepth 100000 in
set_option maxHeartbeats 4000000 in
theorem newsO_ord (Q : List Raw) (L : List Ent) (sel : List Bm) (v sv : Value) (w : World) (hn : L.length ≤ 1000) (hsn : sel.length ≤ 1000) (sh : ∀ e, e ∈ L → ShE e) (I : Ixs w v Q L) (hs : MsAt w sv sel) (h0 : (chk Q L).1 = 0) (h1 : risB2 sel = false) :
    Calls Tryz.prog 41 #[v, sv] w fun e w' => e = .returned (.tuple #[.slice none 0 0, .agg #[.int .i64 8, .int .i64 (-1)]]) ∧ Below w.heap.size w w' := by
  have HB0 := hid ((Below.refl w.heap.size w).alloc (Nat.le_refl _) (.cells #[.int .i64 0, .int .i64 0] 64))
  have HE0 := hid (heap_new w (.cells #[.int .i64 0, .int .i64 0] 64))
  have HIF := hid (iFault_any Q L v _ hn sh (I.below HB0.out))
  have HRP := hid (fun W (h : Below w.heap.size w W) => rp_any sel sv W (hs.below h) (by omega))
  rw [h1] at HRP
  have HBA := hid (fun W => rbare_any 8 W)
  obtain ⟨a, c, hv1, -⟩ := id I.es
  subst hv1
  obtain ⟨sa, sc, hsv, -⟩ := id hs
  subst hsv
  obtain ⟨oo0, hco⟩ : ∃ oo, chk Q L = (0, oo) := ⟨(chk Q L).2, Prod.ext h0 rfl⟩
  rw [hco] at HIF
  unfold faultV at HIF
  simp only at HIF
  generalize atOf oo0 = ao0 at *
  clear I hs sh h0 hco h1
  go_enter Tryz.func41, Tryz.ntmps41
  go_wp2_with fail
  refine HIF.out.mono ?_
  rintro e w1 ⟨rfl, hb⟩
  have HB1 := hid (HB0.out.trans (hb.mono HB0.out.size))
  have HE1 := hid ((hb.block _ (lt_of_blk HE0.out)).trans HE0.out)
  clear hb
  have HB2 := hid (HB1.out.alloc HB1.out.size (.cells #[.int .i64 0, .int .i64 ao0] 64))
  have HE2 := hid (heap_old w1 (.cells #[.int .i64 0, .int .i64 ao0] 64) HE1.out)
  have hne : ¬ w1.heap.size = w.heap.size := Nat.ne_of_gt (lt_of_blk HE1.out)
  have hne2 : ¬ w.heap.size = w1.heap.size := Nat.ne_of_lt (lt_of_blk HE1.out)
  go_wp2_with fail
  generalize w1.alloc (.cells #[.int .i64 0, .int .i64 ao0] 64) = w2 at *
  refine (HRP.out _ HB2.out).mono ?_
  rintro e w3 ⟨rfl, hb⟩
  have HB3 := hid (HB2.out.trans (hb.mono HB2.out.size))
  have HE3 := hid ((hb.block _ (lt_of_blk HE2.out)).trans HE2.out)
  clear hb
  go_wp2_with fail
  refine (HBA.out _).mono ?_
  rintro e w4 ⟨rfl, hb⟩
  have HB4 := hid (HB3.out.trans (hb.mono HB3.out.size))
  have HE4 := hid ((hb.block _ (lt_of_blk HE3.out)).trans HE3.out)
  clear hb
  obtain ⟨s0, s1, tf⟩ := box_two HE4.out
  go_wp2_with fail
  refine bodyPost_ret (v := .tuple #[.slice none 0 0, .agg #[.int .i64 8, .int .i64 (-1)]]) (by simp [results, Tryz.results41, go_sem, s0, s1]) rfl ⟨rfl, ?_⟩
  exact put2_below HB4.out (Nat.le_refl _)
set_option maxRecDepth 100000 in
set_option maxHeartbeats 4000000 in
theorem newsO_good (Q : List Raw) (L : List Ent) (sel : List Bm) (v sv : Value) (w : World) (hn : L.length ≤ 1000) (hsn : sel.length ≤ 1000) (hz : ∀ r, r ∈ Q → r.1.1.size ≤ 80 ∧ r.1.2.size ≤ 80) (hsz : ∀ x, x ∈ sel → x.2.size < 999999) (sh : ∀ e, e ∈ L → ShE e) (I : Ixs w v Q L) (hs : MsAt w sv sel) (h0 : (chk Q L).1 = 0) (h1 : risB2 sel = true) :
    Calls Tryz.prog 41 #[v, sv] w fun e w' => ∃ na nc, e = .returned (.tuple #[.slice na (newsL Q sel).length nc, .agg #[.int .i64 0, .int .i64 (-1)]]) ∧ MsAt w' (.slice na (newsL Q sel).length nc) (newsL Q sel) ∧ Below w.heap.size w w' := by
  have HB0 := hid ((Below.refl w.heap.size w).alloc (Nat.le_refl _) (.cells #[.int .i64 0, .int .i64 0] 64))
  have HE0 := hid (heap_new w (.cells #[.int .i64 0, .int .i64 0] 64))
  have HIF := hid (iFault_any Q L v _ hn sh (I.below HB0.out))
  have HRP := hid (fun W (h : Below w.heap.size w W) => rp_any sel sv W (hs.below h) (by omega))
  rw [h1] at HRP
  have HGD := hid (good_of I h0)
  have HLO := hid (fun t W (h : Below w.heap.size w W) => latOf_any Q t v W (by rw [I.ln]; omega) HGD.out hz (keptT_ex HGD.out t) (I.below h).es)
  have HLZ := hid (fun t => show (latV Q t).size < 999999 by
    obtain ⟨X, hX⟩ := keptT_ex HGD.out t
    have := lat_sz HGD.out hz hX
    omega)
  have HIL := hid (fun (s t : ByteArray) W (h1 : s.size < 999999) (h2 : t.size < 999999) => isLess_any s t W h1 h2)
  have HMS := hid (fun W (h : Below w.heap.size w W) => hs.below h)
  have HSZ := hid hsz
  have HSN := hid (show sel.length ≤ 1000000 by omega)
  have HSL := hid hsn
  have HFN := hid (fun W => fine_any W)
  obtain ⟨i0, hi0, hz0, hz1, hz2⟩ := info_parts infoMod
  obtain ⟨a, c, hv1, -⟩ := id I.es
  subst hv1
  obtain ⟨sa, sc, hsv, -⟩ := id hs
  subst hsv
  obtain ⟨oo0, hco⟩ : ∃ oo, chk Q L = (0, oo) := ⟨(chk Q L).2, Prod.ext h0 rfl⟩
  rw [hco] at HIF
  unfold faultV at HIF
  simp only at HIF
  generalize atOf oo0 = ao0 at *
  clear I hs sh h0 hco h1 hz hsz
  go_enter Tryz.func41, Tryz.ntmps41
  go_wp2_with fail
  refine HIF.out.mono ?_
  rintro e w1 ⟨rfl, hb⟩
  have HB1 := hid (HB0.out.trans (hb.mono HB0.out.size))
  have HE1 := hid ((hb.block _ (lt_of_blk HE0.out)).trans HE0.out)
  clear hb
  have HB2 := hid (HB1.out.alloc HB1.out.size (.cells #[.int .i64 0, .int .i64 ao0] 64))
  have HE2 := hid (heap_old w1 (.cells #[.int .i64 0, .int .i64 ao0] 64) HE1.out)
  have hne : ¬ w1.heap.size = w.heap.size := Nat.ne_of_gt (lt_of_blk HE1.out)
  have hne2 : ¬ w.heap.size = w1.heap.size := Nat.ne_of_lt (lt_of_blk HE1.out)
  go_wp2_with fail
  generalize w1.alloc (.cells #[.int .i64 0, .int .i64 ao0] 64) = w2 at *
  refine (HRP.out _ HB2.out).mono ?_
  rintro e w3 ⟨rfl, hb⟩
  have HB3 := hid (HB2.out.trans (hb.mono HB2.out.size))
  have HE3 := hid ((hb.block _ (lt_of_blk HE2.out)).trans HE2.out)
  clear hb HB0 HE0 HB1 HE1 HB2 HE2
  go_wp2_with fail
  go_loopw [8, 9] (fun ov iv wr => ∃ i : Nat, i ≤ sel.length ∧ iv = .int .i64 i ∧ Hid (wr.ownsRow w3.heap.size 51 2 ov (newsL Q (sel.take i)).length (flatM (newsL Q (sel.take i)))) ∧ Hid (Below w3.heap.size w3 wr)) (fun _ iv _ => sel.length - (intOf iv).toNat)
  case atStart => exact ⟨0, Nat.zero_le _, rfl, hid (World.ownsRow_nil _ _ _ _), hid (Below.refl _ _)⟩
  case round =>
    obtain ⟨i, hi, rfl, HOW, HBr⟩ := hrel
    have HBw := hid (HB3.out.trans (HBr.out.mono HB3.out.size))
    by_cases hlt : i < sel.length
    · have hiI := ix_lt hlt
      have hii := ix_pos i
      have HLI := hid hlt
      obtain ⟨yb, yo, hya, y0, y1⟩ := (HMS.out _ HBw.out).cells hlt
      subst hya
      have HNX := hid (newsL_next (Q := Q) hlt)
      have HQZ := hid (HSZ.out sel[i] (List.getElem_mem hlt))
      have HNL := hid (show (newsL Q (sel.take i)).length ≤ 1000 from Nat.le_trans (newsL_len Q _) (Nat.le_trans (List.length_take_le' i sel) HSL.out))
      generalize sel[i] = x at *
      obtain ⟨p, q⟩ := x
      simp only at y0 y1 HNX HQZ
      have HLP := hid (HLO.out p wr HBw.out)
      have HLT := hid (fun W => HIL.out q (latV Q p) W HQZ.out (HLZ.out p))
      generalize latV Q p = lv at *
      obtain ⟨SX, hSX⟩ : ∃ SX, newsL Q (sel.take i) = SX := ⟨_, rfl⟩
      rw [hSX] at HOW HNX HNL
      change Hid (newsL Q (sel.take (i + 1)) = SX ++ if lessB q.data.toList lv.data.toList then [(p, lv)] else []) at HNX
      clear hSX hlt
      go_wp2_with fail
      refine HLP.out.mono ?_
      rintro e w4 ⟨rfl, hb⟩
      have HB4 := hid (HBr.out.trans (hb.mono HBr.out.size))
      have HO4 := hid (owns_below HOW.out hb)
      have z0 := cell_below hb y0
      have z1 := cell_below hb y1
      clear hb y0 y1 HLP
      go_wp2_with fail
      refine (HLT.out _).mono ?_
      rintro e w5 ⟨rfl, hb⟩
      have HB5 := hid (HB4.out.trans (hb.mono HB4.out.size))
      have HO5 := hid (owns_below HO4.out hb)
      have x0 := cell_below hb z0
      clear hb z0 z1 HLT
      cases hle : lessB q.data.toList lv.data.toList with
      | false =>
        rw [hle] at HNX
        have HN2 := hid (show newsL Q (sel.take (i + 1)) = SX by rw [HNX.out]; simp)
        clear hle
        go_wp2_with fail
        go_roundw
        case rel => first | exact ⟨i + 1, HLI.out, nr_idx i, hid (by rw [HN2.out]; exact HO5.out), HB5⟩ | exact ⟨i + 1, HLI.out, nx_idx HLI.out HSN.out, hid (by rw [HN2.out]; exact HO5.out), HB5⟩
        case measure => first | exact nr_meas HLI.out | exact nx_meas HLI.out HSN.out
      | true =>
        rw [hle] at HNX
        have HN2 := hid (show newsL Q (sel.take (i + 1)) = SX ++ [(p, lv)] by rw [HNX.out]; simp)
        clear hle
        go_wp2_with (at_builtin; refine wpList_append_own _ rfl _ _ 52 rfl w3.heap.size 51 i0 _ 2 32 Tryz.underlying52 hi0 hz0 hz1 hz2 rfl (by decide) _ _ _ rfl (HO5.out.alloc _) ⟨w5.heap.size, 0, none⟩ 1 1 [.string p, .string lv] rfl rfl (World.news_of_block (heap_new _ _)) (by intro u hu; simp at hu; rcases hu with rfl | rfl <;> rfl) (Nat.le_trans (Nat.add_le_add_right HNL.out 1) (by unfold maxLen; decide)) (by have hz := HNL.out; omega) (Nat.le_trans HB5.out.size (by simp)) ?_)
        intro v' w6 hown hgrow _
        have HB6 := hid (rel_app2 HB5.out.size HB5.out HO5.out (Below.refl _ _) hgrow)
        have HO6 := hid (show w6.ownsRow w3.heap.size 51 2 v' (SX ++ [(p, lv)]).length (flatM (SX ++ [(p, lv)])) by rw [List.length_append, flatM_app]; exact hown)
        clear hown hgrow
        go_wp2_with fail
        go_roundw
        case rel => first | exact ⟨i + 1, HLI.out, nr_idx i, hid (by rw [HN2.out]; exact HO6.out), HB6⟩ | exact ⟨i + 1, HLI.out, nx_idx HLI.out HSN.out, hid (by rw [HN2.out]; exact HO6.out), HB6⟩
        case measure => first | exact nr_meas HLI.out | exact nx_meas HLI.out HSN.out
    · have hiI := ix_nlt hlt
      have HTA := hid (show sel.take i = sel from List.take_of_length_le (by omega))
      rw [HTA.out] at HOW
      obtain ⟨oa, oc, hov⟩ := own_slN HOW.out
      subst hov
      clear hlt
      go_wp2_with fail
      refine (HFN.out _).mono ?_
      rintro e w6 ⟨rfl, hb⟩
      have HB6 := hid (HBw.out.trans (hb.mono HBw.out.size))
      have HE6 := hid ((hb.block _ (Nat.lt_of_lt_of_le (lt_of_blk HE3.out) HBr.out.size)).trans ((HBr.out.block _ (lt_of_blk HE3.out)).trans HE3.out))
      have HM6 := hid ((own_ms HOW.out).below hb)
      clear hb
      obtain ⟨s0, s1, tf⟩ := box_two HE6.out
      go_wp2_with fail
      refine bodyPost_ret (v := .tuple #[.slice oa (newsL Q sel).length oc, .agg #[.int .i64 0, .int .i64 (-1)]]) (by simp [results, Tryz.results41, go_sem, s0, s1]) rfl ⟨_, _, rfl, ms_put2 HM6.out HE6.out, ?_⟩
      exact put2_below HB6.out (Nat.le_refl _)
end Ve
end Go.Proofs.YtanponneancajaaGreatDoor


namespace Go.Proofs.YtanponneancajaaGreatDoor
open Go.RowKit Go.Maps
namespace Ve
open Classical in
noncomputable def oF (Q : List Raw) (L : List Ent) (roots : List Bm) (x : Bm) : Nat × Option Nat := if (chkG Q L roots).1 = 0 then (if x ∈ univ L then (0, none) else (5, none)) else chkG Q L roots
open Classical in
noncomputable def oX (Q : List Raw) (L : List Ent) (roots : List Bm) (x : Bm) : List Bm := if (chkG Q L roots).1 = 0 ∧ x ∈ univ L then bX Q L (roots ++ [x]) else []
theorem oF_le (Q : List Raw) (L : List Ent) (roots : List Bm) (x : Bm) : (oF Q L roots x).1 ≤ 10 := by
  unfold oF
  split
  · split <;> simp
  · exact chkG_le _ _ _
theorem oX_len {Q : List Raw} {L : List Ent} {roots : List Bm} {x : Bm} : (oX Q L roots x).length ≤ L.length := by
  unfold oX
  split
  · exact bX_len
  · simp
theorem oF_same {Q Q' : List Raw} {L : List Ent} (h : Q.map (fun r => r.1) = Q'.map (fun r => r.1)) (roots : List Bm) (x : Bm) : oF Q L roots x = oF Q' L roots x := by unfold oF; rw [chkG_same h]
theorem oX_same {Q Q' : List Raw} {L : List Ent} (h : Q.map (fun r => r.1) = Q'.map (fun r => r.1)) (roots : List Bm) (x : Bm) : oX Q L roots x = oX Q' L roots x := by unfold oX; rw [chkG_same h, bX_same h]
theorem one_all (Q : List Raw) (L : List Ent) (roots : List Bm) (x : Bm) (v rv : Value) (A : Nat → Addr) (m : Int) (w : World) (hn : L.length ≤ 1000) (hrn : roots.length ≤ 400) (sh : ∀ e, e ∈ L → ShE e) (S : Te w A m) (I : Ixs w v Q L) (hr : MsAt w rv roots) (her : Em rv roots) :
    Calls Tryz.prog 36 #[v, rv, .agg #[.string x.1, .string x.2]] w fun e w' => ∃ a c y, e = .returned (.tuple #[.slice a (oX Q L roots x).length c, y]) ∧ MsAt w' (.slice a (oX Q L roots x).length c) (oX Q L roots x) ∧ ErrAt w' A y (oF Q L roots x).1 (oF Q L roots x).2 ∧ Below w.heap.size w w' := by
  by_cases h : (chkG Q L roots).1 = 0
  · by_cases hx : x ∈ univ L
    · refine (one_good Q L roots x v rv A m w hn hrn sh S I hr her h hx).mono ?_
      rintro e w' ⟨a, c, rfl, hm⟩
      unfold oX oF
      rw [if_pos ⟨h, hx⟩, if_pos h, if_pos hx]
      exact ⟨a, c, _, rfl, hm.ms, rfl, hm.1⟩
    · refine (one_not Q L roots x v rv A m w hn hrn sh S I hr h hx).mono ?_
      rintro e w' ⟨rfl, hb⟩
      unfold oX oF
      rw [if_neg (fun e => hx e.2), if_pos h, if_neg hx]
      exact ⟨_, _, _, rfl, ms_nil0 _, rfl, hb⟩
  · refine (one_bad Q L roots x v rv A m w hn hrn sh S I hr h).mono ?_
    rintro e w' ⟨T, a, rfl, he, hb⟩
    unfold oX oF
    rw [if_neg (fun e => h e.1), if_neg h]
    exact ⟨_, _, _, rfl, ms_nil0 _, he, hb⟩
theorem oneO_all (Q : List Raw) (L : List Ent) (roots : List Bm) (x : Bm) (v rv : Value) (w : World) (hn : L.length ≤ 1000) (hrn : roots.length ≤ 400) (sh : ∀ e, e ∈ L → ShE e) (I : Ixs w v Q L) (hr : MsAt w rv roots) (her : Em rv roots) :
    Calls Tryz.prog 38 #[v, rv, .agg #[.string x.1, .string x.2]] w fun e w' => ∃ a c, e = .returned (.tuple #[.slice a (oX Q L roots x).length c, faultV (oF Q L roots x)]) ∧ MsAt w' (.slice a (oX Q L roots x).length c) (oX Q L roots x) ∧ Below w.heap.size w w' := by
  by_cases h : (chkG Q L roots).1 = 0
  · by_cases hx : x ∈ univ L
    · refine (oneO_good Q L roots x v rv w hn hrn sh I hr her h hx).mono ?_
      rintro e w' ⟨a, c, rfl, hm, hb⟩
      unfold oX oF
      rw [if_pos ⟨h, hx⟩, if_pos h, if_pos hx]
      exact ⟨a, c, rfl, hm, hb⟩
    · refine (oneO_not Q L roots x v rv w hn (by omega) sh I hr h hx).mono ?_
      rintro e w' ⟨rfl, hb⟩
      unfold oX oF
      rw [if_neg (fun e => hx e.2), if_pos h, if_neg hx]
      exact ⟨_, _, rfl, ms_nil0 _, hb⟩
  · refine (oneO_bad Q L roots x v rv w hn (by omega) sh I hr h).mono ?_
    rintro e w' ⟨rfl, hb⟩
    unfold oX oF
    rw [if_neg (fun e => h e.1), if_neg h]
    exact ⟨_, _, rfl, ms_nil0 _, hb⟩
theorem fix_len {Q : List Raw} {L : List Ent} {E0 E : List Bm} (h : Fix Q L E0 E) : E.length ≤ L.length := by
  rw [← h.f]; exact bX_len
theorem allE_len {Q : List Raw} {L : List Ent} {roots : List Bm} : (allE Q L roots).length ≤ L.length := by
  unfold allE
  split
  · rename_i h; exact fix_len h.2.choose_spec
  · simp
theorem all_all (Q Q0 : List Raw) (L : List Ent) (roots : List Bm) (v rv : Value) (A : Nat → Addr) (m : Int) (w : World) (hk : Q.map keyR = Q0.map keyR) (hn : L.length ≤ 400) (hrn : roots.length ≤ 1000000) (hz : ∀ r, r ∈ Q → r.1.1.size ≤ 80 ∧ r.1.2.size ≤ 80) (sh : ∀ e, e ∈ L → ShE e) (S : Te w A m) (htab : Lib.TabIs Tryz.prog w powName .u64 Lib.pow10Tab) (I : Ixs w v Q L) (hr : MsAt w rv roots) :
    Calls Tryz.prog 32 #[v, rv] w fun e w' => ∃ a c y, e = .returned (.tuple #[.slice a (allE Q0 L roots).length c, y]) ∧ MsAt w' (.slice a (allE Q0 L roots).length c) (allE Q0 L roots) ∧ ErrAt w' A y (rF Q0 L roots).1 (rF Q0 L roots).2 ∧ Below w.heap.size w w' := by
  have hG : chkG Q L roots = chkG Q0 L roots := chkG_same (key_mod hk) roots
  by_cases h : (chkG Q L roots).1 = 0
  · refine (all_good Q L roots v rv A m w hn hrn hz sh S htab I hr h).mono ?_
    rintro e w' ⟨a, c, E, rfl, hm, hA⟩
    have f := hA.fx.same hk
    rw [bX_same (key_mod hk)] at f
    have he := allE_of (by rw [← hG]; exact h) f
    subst he
    exact ⟨a, c, _, rfl, hm.ms, by rw [rF_good (by rw [← hG]; exact h)]; rfl, hm.1⟩
  · refine (all_bad Q L roots v rv A m w (by omega) hrn sh S I hr h).mono ?_
    rintro e w' ⟨T, a, rfl, he, hb⟩
    rw [hG] at h he
    rw [allE_bad h, rF_bad h]
    exact ⟨_, _, _, rfl, ms_nil0 _, he, hb⟩
theorem allO_all (Q : List Raw) (L : List Ent) (roots : List Bm) (v rv : Value) (w : World) (hn : L.length ≤ 400) (hrn : roots.length ≤ 1000000) (hz : ∀ r, r ∈ Q → r.1.1.size ≤ 80 ∧ r.1.2.size ≤ 80) (sh : ∀ e, e ∈ L → ShE e) (I : Ixs w v Q L) (hr : MsAt w rv roots) :
    Calls Tryz.prog 40 #[v, rv] w fun e w' => ∃ a c, e = .returned (.tuple #[.slice a (allE Q L roots).length c, faultV (rF Q L roots)]) ∧ MsAt w' (.slice a (allE Q L roots).length c) (allE Q L roots) ∧ Below w.heap.size w w' := by
  by_cases h : (chkG Q L roots).1 = 0
  · refine (allO_good Q L roots v rv w hn hrn hz sh I hr h).mono ?_
    rintro e w' ⟨a, c, E, rfl, hm, f, hb⟩
    have he := allE_of h f
    subst he
    exact ⟨a, c, by rw [rF_good h]; rfl, hm, hb⟩
  · refine (allO_bad Q L roots v rv w (by omega) hrn sh I hr h).mono ?_
    rintro e w' ⟨rfl, hb⟩
    rw [allE_bad h, rF_bad h]
    exact ⟨_, _, rfl, ms_nil0 _, hb⟩
def nF (Q : List Raw) (L : List Ent) (sel : List Bm) : Nat × Option Nat := if (chk Q L).1 = 0 then (if risB2 sel then (0, none) else (8, none)) else chk Q L
noncomputable def nX (Q : List Raw) (L : List Ent) (sel : List Bm) : List Bm := if (chk Q L).1 = 0 ∧ risB2 sel = true then newsL Q sel else []
theorem nF_le (Q : List Raw) (L : List Ent) (sel : List Bm) : (nF Q L sel).1 ≤ 10 := by
  unfold nF
  split
  · split <;> simp
  · exact chk_le _ _
theorem nX_len {Q : List Raw} {L : List Ent} {sel : List Bm} : (nX Q L sel).length ≤ sel.length := by
  unfold nX
  split
  · exact newsL_len Q sel
  · simp
theorem nF_same {Q Q' : List Raw} {L : List Ent} (h : Q.map keyR = Q'.map keyR) (sel : List Bm) : nF Q L sel = nF Q' L sel := by unfold nF; rw [chk_same (key_mod h)]
theorem nX_same {Q Q' : List Raw} {L : List Ent} (h : Q.map keyR = Q'.map keyR) (sel : List Bm) : nX Q L sel = nX Q' L sel := by unfold nX; rw [chk_same (key_mod h), newsL_same h]
theorem news_all (Q : List Raw) (L : List Ent) (sel : List Bm) (v sv : Value) (A : Nat → Addr) (m : Int) (w : World) (hn : L.length ≤ 1000) (hsn : sel.length ≤ 1000) (hz : ∀ r, r ∈ Q → r.1.1.size ≤ 80 ∧ r.1.2.size ≤ 80) (hsz : ∀ x, x ∈ sel → x.2.size < 999999) (sh : ∀ e, e ∈ L → ShE e) (S : Te w A m) (htab : Lib.TabIs Tryz.prog w powName .u64 Lib.pow10Tab) (I : Ixs w v Q L) (hs : MsAt w sv sel) :
    Calls Tryz.prog 34 #[v, sv] w fun e w' => ∃ a c y, e = .returned (.tuple #[.slice a (nX Q L sel).length c, y]) ∧ MsAt w' (.slice a (nX Q L sel).length c) (nX Q L sel) ∧ ErrAt w' A y (nF Q L sel).1 (nF Q L sel).2 ∧ Below w.heap.size w w' := by
  by_cases h : (chk Q L).1 = 0
  · cases hr : risB2 sel with
    | true =>
      refine (news_good Q L sel v sv A m w hn hsn hz hsz sh S htab I hs h hr).mono ?_
      rintro e w' ⟨u, rfl, ho, hb⟩
      have hms := own_ms ho
      obtain ⟨a, c, hu⟩ := own_slN ho
      subst hu
      unfold nX nF
      rw [if_pos ⟨h, hr⟩, if_pos h, if_pos hr]
      exact ⟨a, c, _, rfl, hms, rfl, hb⟩
    | false =>
      refine (news_ord Q L sel v sv A m w hn hsn sh S I hs h hr).mono ?_
      rintro e w' ⟨rfl, hb⟩
      unfold nX nF
      rw [if_neg (fun e => by rw [hr] at e; exact absurd e.2 (by decide)), if_pos h, if_neg (by rw [hr]; decide)]
      exact ⟨_, _, _, rfl, ms_nil0 _, rfl, hb⟩
  · refine (news_bad Q L sel v sv A m w hn sh S I hs h).mono ?_
    rintro e w' ⟨T, a, rfl, he, hb⟩
    unfold nX nF
    rw [if_neg (fun e => h e.1), if_neg h]
    exact ⟨_, _, _, rfl, ms_nil0 _, he, hb⟩
theorem newsO_all (Q : List Raw) (L : List Ent) (sel : List Bm) (v sv : Value) (w : World) (hn : L.length ≤ 1000) (hsn : sel.length ≤ 1000) (hz : ∀ r, r ∈ Q → r.1.1.size ≤ 80 ∧ r.1.2.size ≤ 80) (hsz : ∀ x, x ∈ sel → x.2.size < 999999) (sh : ∀ e, e ∈ L → ShE e) (I : Ixs w v Q L) (hs : MsAt w sv sel) :
    Calls Tryz.prog 41 #[v, sv] w fun e w' => ∃ a c, e = .returned (.tuple #[.slice a (nX Q L sel).length c, faultV (nF Q L sel)]) ∧ MsAt w' (.slice a (nX Q L sel).length c) (nX Q L sel) ∧ Below w.heap.size w w' := by
  by_cases h : (chk Q L).1 = 0
  · cases hr : risB2 sel with
    | true =>
      refine (newsO_good Q L sel v sv w hn hsn hz hsz sh I hs h hr).mono ?_
      rintro e w' ⟨a, c, rfl, hm, hb⟩
      unfold nX nF
      rw [if_pos ⟨h, hr⟩, if_pos h, if_pos hr]
      exact ⟨a, c, rfl, hm, hb⟩
    | false =>
      refine (newsO_ord Q L sel v sv w hn hsn sh I hs h hr).mono ?_
      rintro e w' ⟨rfl, hb⟩
      unfold nX nF
      rw [if_neg (fun e => by rw [hr] at e; exact absurd e.2 (by decide)), if_pos h, if_neg (by rw [hr]; decide)]
      exact ⟨_, _, rfl, ms_nil0 _, hb⟩
  · refine (newsO_bad Q L sel v sv w hn sh I hs h).mono ?_
    rintro e w' ⟨rfl, hb⟩
    unfold nX nF
    rw [if_neg (fun e => h e.1), if_neg h]
    exact ⟨_, _, rfl, ms_nil0 _, hb⟩
end Ve
end Go.Proofs.YtanponneancajaaGreatDoor
