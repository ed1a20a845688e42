/-
  PkI
-/
import Derived.Test.YtnkgjddkdikikaaGreatDoorPq2
import Derived.Test.YtnkgjddkdikikaaGreatDoorPq3
import Derived.Test.YtnkgjddkdikikaaGreatDoorPq4
import Derived.Test.YtnkgjddkdikikaaGreatDoorPq7
import Derived.Test.YtnkgjddkdikikaaGreatDoorPq10
import Derived.Test.YtnkgjddkdikikaaGreatDoorPq13
import Derived.Test.YtnkgjddkdikikaaGreatDoorPq16
import Derived.Test.YtnkgjddkdikikaaGreatDoorPq23
import Derived.Test.YtnkgjddkdikikaaGreatDoorPq27
import Derived.Test.YtnkgjddkdikikaaGreatDoorPq29
import Derived.Test.YtnkgjddkdikikaaGreatDoorPq31
import Derived.Test.YtnkgjddkdikikaaGreatDoorPq12
import Derived.Test.YtnkgjddkdikikaaGreatDoorPq5
import Derived.Test.YtnkgjddkdikikaaGreatDoorPq35
import Derived.Test.YtnkgjddkdikikaaGreatDoorPq32
import Derived.Test.YtnkgjddkdikikaaGreatDoorPq24
import Derived.Test.YtnkgjddkdikikaaGreatDoorPq26
import Derived.Test.YtnkgjddkdikikaaGreatDoorPq49
import Derived.Test.YtnkgjddkdikikaaGreatDoorPq45
import Derived.Test.YtnkgjddkdikikaaGreatDoorPq1
import Derived.Test.YtnkgjddkdikikaaGreatDoorPq17
import Derived.Test.YtnkgjddkdikikaaGreatDoorPq14
import Derived.Test.YtnkgjddkdikikaaGreatDoorPq48
import Derived.Test.YtnkgjddkdikikaaGreatDoorPq84
import Derived.Test.YtnkgjddkdikikaaGreatDoorPq89
import Derived.Test.YtnkgjddkdikikaaGreatDoorPq87
namespace Go.Proofs.YtnkgjddkdikikaaGreatDoor
open Go.RowKit Go.Maps
namespace Ve
theorem rap_any (Q : List Raw) (L : List Ent) (R : List Bm) (v rv : Value) (w : World) (hn : L.length ≤ 1000) (sh : ∀ e, e ∈ L → ShE e) (I : Ixs w v Q L) (hR : R.length ≤ 1000) (hr : MsAt w rv R) :
    Calls Tryz.prog 47 #[v, rv] w fun e w' => ∃ u, e = .returned (.tuple #[u, faultV (alF Q L R)]) ∧ TxAt w' u (alX Q L R) ∧ Below w.heap.size w w' := by
  obtain ⟨ra, rc, hrv, -⟩ := id hr
  have tz : ∀ W, TxAt W (.slice none 0 0) [] := fun W => ⟨none, 0, rfl, Nat.le_refl _, fun h => absurd rfl h⟩
  by_cases hc : (chk Q L).1 = 0
  · have hc0 := chk_fine hc
    have e : alF Q L R = slF Q R := by unfold alF; rw [if_neg (by simp [hc])]
    by_cases hs : (slF Q R).1 = 0
    · have hs0 := slF_fine hs
      have e2 : alX Q L R = alN Q L R := by unfold alX; rw [e, if_pos hs]
      rw [e, e2, hs0]
      exact rap_good Q L R v rv w hn sh I hR hr hc0 hs0 (sl_found I hs)
    · have e2 : alX Q L R = [] := by unfold alX; rw [e, if_neg hs]
      rw [e, e2]
      exact (rap_sel Q L R v rv w hn sh I (by omega) hr hc0 hs).mono fun _ w' ⟨h1, h2⟩ => ⟨_, h1, tz w', h2⟩
  · have e : alF Q L R = chk Q L := by unfold alF; rw [if_pos hc]
    have e2 : alX Q L R = [] := by unfold alX; rw [e, if_neg hc]
    rw [e, e2]
    exact (rap_chk Q L v rv ra R.length rc hrv w hn sh I hc).mono fun _ w' ⟨h1, h2⟩ => ⟨_, h1, tz w', h2⟩
theorem path_snoc {Q : List Raw} {k : Nat} (h : k < Q.length) : (pathL (Q.take (k + 1))).foldl insT [] = insT ((pathL (Q.take k)).foldl insT []) Q[k].1.1 := by
  rw [pathL_next h, List.foldl_append]; rfl
theorem path_at {W : World} {b o n c : Nat} {Q : List Raw} (h : EsAt W (.slice (some ⟨b, o, none⟩) n c) Q) {k : Nat} (hk : k < Q.length) : W.cell? ⟨b, o + k * 5, none⟩ = some (.string Q[k].1.1) := by
  obtain ⟨b', o', e, -, c0, -⟩ := es_at h hk
  injection e with e
  injection e with e1 e2
  subst e1 e2
  exact c0
set_option maxRecDepth 100000 in
set_option maxHeartbeats 8000000 in
theorem rpaths_any (Q : List Raw) (v : Value) (w : World) (hn : Q.length ≤ 1000) (hv : EsAt w v Q) :
    Calls Tryz.prog 113 #[v] w fun e w' => ∃ u, e = .returned u ∧ TxAt w' u (phX Q) ∧ Below w.heap.size w w' := by
  obtain ⟨i0, hi, hz0, hz1, hz2⟩ := info_parts infoStr
  have HES := hid (fun W (h : Below w.heap.size w W) => hv.below h)
  obtain ⟨va, vc, hv1, -⟩ := id hv
  subst hv1
  obtain ⟨ans, hans⟩ : ∃ ans, ans = phX Q := ⟨_, rfl⟩
  rw [← hans]
  have HANS := hid hans
  clear hv hans
  go_enter Tryz.func113, Tryz.ntmps113
  go_wp2_with fail
  go_loopw [3, 4] (fun ov iv wr => ∃ (i : Nat) (X : List ByteArray), i ≤ Q.length ∧ iv = .int .i64 i ∧ Hid (X = (pathL (Q.take i)).foldl insT []) ∧ X.length ≤ i ∧ Hid (Ps w wr ov X)) (fun _ iv _ => Q.length - (intOf iv).toNat)
  case atStart => exact ⟨0, [], Nat.zero_le _, rfl, hid rfl, Nat.zero_le _, hid ⟨World.ownsRow_nil _ _ _ _, fun _ => rfl, Below.refl _ _⟩⟩
  case round =>
    obtain ⟨i, X, hi9, rfl, HX, hXl, HPS⟩ := hrel
    by_cases hlt : i < Q.length
    · have hiI := ix_lt hlt
      have hi0 := ix_pos i
      have HLT := hid hlt
      obtain ⟨lb, lo, rfl, -, -⟩ := es_at (HES.out _ HPS.out.bl) hlt
      have HCC := hid (fun W (h : Below w.heap.size w W) => path_at (HES.out W h) hlt)
      have HSN := hid (path_snoc hlt)
      generalize Q[i].1.1 = s at *
      obtain ⟨wo, hwo⟩ : ∃ wo, wo = wr := ⟨_, rfl⟩
      subst hwo
      clear hlt
      by_cases hX0 : X = []
      · subst hX0
        obtain rfl := HPS.out.nl rfl
        have c0 := HCC.out _ HPS.out.bl
        go_wp2_with fail
        go_loopw [5] (fun a wr => a = .int .i64 0 ∧ Hid (Ps w wr (.slice none 0 0) [])) (fun _ _ => 0)
        case atStart => exact ⟨rfl, HPS⟩
        case round =>
          obtain ⟨rfl, HPS2⟩ := hrel
          clear c0
          have c0 := HCC.out _ HPS2.out.bl
          go_wp2_with fail
          go_quiet (fail)
          have HSX := hid (HPS2.out.below (below_drawn _ nq))
          generalize wr.drewN nq = W at *
          clear c0
          have c0 := HCC.out _ HSX.out.bl
          have hwz := HSX.out.bl.size
          go_wp2_with (first
            | (at_builtin; refine wpList_append_own_none rfl _ _ 29 rfl 0 9 i0 1 Tryz.underlying29 hi _ _ _ rfl (World.ownsRow_nil _ _ _ _) rfl ?_)
            | (at_builtin; refine wpList_append_own _ rfl _ _ 29 rfl W.heap.size 9 i0 (.string ByteArray.empty) 1 16 Tryz.underlying29 hi hz0 hz1 hz2 rfl (by decide) _ _ _ rfl (World.ownsRow_nil _ _ _ _) ⟨W.heap.size, 0, none⟩ 1 1 [.string s] rfl rfl ?c1 ?c2 ?c3 ?c4 ?c5 ?_))
          case c1 =>
            intro t u ht
            match t, ht with
            | 0, ht => simp at ht; subst ht; simp [Addr.add]
          case c2 => intro u hu; simp at hu; subst hu; rfl
          case c3 => unfold maxLen; omega
          case c4 => omega
          case c5 => simp
          intro v1 W1 hown1 hgr1 _
          have HO1 := hid hown1
          have HB1 := hid (((Below.refl W.heap.size W).alloc (Nat.le_refl _) _).grown hgr1 (by simp) (fun t ht => by cases ht))
          have HS3 := hid (HSX.out.below HB1.out)
          clear hown1 hgr1 c0
          go_wp2_with (at_builtin; refine wpList_append_own_none rfl _ _ 29 rfl _ 9 i0 1 Tryz.underlying29 hi _ _ _ rfl (HO1.out) rfl ?_)
          have HPE := hid (show Ps w W1 v1 [s] from ⟨by simpa using owns_mono HO1.out hwz, (fun h => by cases h), HS3.out.bl⟩)
          have HSE := hid (show [s] = (pathL (Q.take (i + 1))).foldl insT [] by rw [HSN.out, ← HX.out]; rfl)
          go_roundw
          case rel => exact ⟨i + 1, [s], HLT.out, by first | exact nr_idx i | exact nx_idx HLT.out (by omega : Q.length ≤ 1000000), HSE, by simp, HPE⟩
          case measure => first | exact nr_meas HLT.out | exact nx_meas HLT.out (by omega : Q.length ≤ 1000000)
      · obtain ⟨g, cp, rfl, hg, -, -⟩ := owned_cells HPS.out.own hX0
        have HAT := hid (fun (a : Nat) h1 h2 h3 => insT_at (s := s) (X := X) (a := a) h1 h2 h3)
        have HTW := hid (fun (W : World) (h : Ps w W (.slice (some ⟨g, 0, none⟩) X.length cp) X) => owned_at h.own)
        have hcap := owned_cap HPS.out.own
        have hcp : cp ≤ 9223372036854775807 := hcap.2
        have HCP := hid hcap
        have HSE := hid (show insT X s = (pathL (Q.take (i + 1))).foldl insT [] by rw [HSN.out, ← HX.out])
        have HIL := hid (insT_len (s := s) (X := X))
        clear hcap
        go_wp2_with fail
        go_loopw [5] (fun a wr => ∃ j : Nat, j ≤ X.length ∧ a = .int .i64 j ∧ Hid (∀ t (ht : t < X.length), t < j → lt X[t] s = true) ∧ Hid (Ps w wr (.slice (some ⟨g, 0, none⟩) X.length cp) X)) (fun a _ => X.length - (intOf a).toNat)
        case atStart => exact ⟨0, Nat.zero_le _, rfl, hid (fun t _ h => absurd h (Nat.not_lt_zero t)), HPS⟩
        case round =>
          obtain ⟨j, hj, rfl, HLJ, HPS2⟩ := hrel
          have c0 := HCC.out _ HPS2.out.bl
          by_cases hjX : j < X.length
          · have hjI := ix_lt hjX
            have hj0 := ix_pos j
            have HJX := hid hjX
            have HXC := hid (fun W (h : Ps w W (.slice (some ⟨g, 0, none⟩) X.length cp) X) => HTW.out W h j hjX)
            have x1 := HXC.out _ HPS2.out
            have hls := lss_lt X[j] s
            cases hl : lt X[j] s
            · rw [hl] at hls
              have HIX := hid (HAT.out j hj HLJ.out (fun _ => hl))
              by_cases he : X[j] = s
              · have HIN := hid (show insT X s = X by rw [HIX.out, if_pos (by rw [List.getElem?_eq_getElem hjX]; exact congrArg some he)])
                have hss : (X[j].toList == s.toList) = true := by rw [he]; exact beq_self_eq_true _
                clear hl he HIX HLJ
                generalize X[j] = x at *
                go_wp2_with fail
                go_quiet (fail)
                have HSX := hid (HPS2.out.below (below_drawn _ nq))
                generalize wr.drewN nq = W at *
                clear c0 x1
                have c0 := HCC.out _ HSX.out.bl
                have x1 := HXC.out _ HSX.out
                go_wp2_with fail
                go_quiet (fail)
                have HSY := hid (HSX.out.below (below_drawn _ nq))
                go_wp2_with fail
                go_roundw
                case rel => exact ⟨i + 1, X, HLT.out, by first | exact nr_idx i | exact nx_idx HLT.out (by omega : Q.length ≤ 1000000), hid (by rw [← HSE.out, HIN.out]), by omega, HSY⟩
                case measure => first | exact nr_meas HLT.out | exact nx_meas HLT.out (by omega : Q.length ≤ 1000000)
              · have HIN := hid (show insT X s = X.take j ++ s :: X.drop j by rw [HIX.out, if_neg (by rw [List.getElem?_eq_getElem hjX]; exact fun e => he (Option.some.inj e))])
                have hss := str_ne he
                have t2 : (j : Int) ≤ (cp : Int) := by have := HCP.out.1; omega
                have t3 : (j : Int) ≤ (X.length : Int) := by omega
                have t4 : (X.length : Int) ≤ (cp : Int) := by have := HCP.out.1; omega
                clear hl he HIX HLJ
                generalize X[j] = x at *
                go_wp2_with fail
                go_quiet (fail)
                have HSX := hid (HPS2.out.below (below_drawn _ nq))
                generalize wr.drewN nq = W at *
                clear c0 x1
                have c0 := HCC.out _ HSX.out.bl
                have x1 := HXC.out _ HSX.out
                go_wp2_with fail
                go_quiet (fail)
                have HSY := hid (HSX.out.below (below_drawn _ nq))
                generalize W.drewN nq = W2 at *
                clear c0 x1
                have c0 := HCC.out _ HSY.out.bl
                obtain ⟨XS, hXS⟩ : ∃ XS, XS = (X.take j).map Value.string := ⟨_, rfl⟩
                have HXS := hid hXS
                have HXL := hid (show XS.length = j by rw [hXS]; simp; omega)
                have HXN := hid (show ∀ t u, XS[t]? = some u → W2.cell? ((⟨g, 0, none⟩ : Addr).add t) = some u from fun t u ht => news_at (HTW.out _ HSY.out) 0 j t u (by rw [hXS] at ht; simpa using ht))
                have HXO := hid (show ∀ u, u ∈ XS → u.oneCell' = true from fun u hu => by rw [hXS] at hu; obtain ⟨x, _, rfl⟩ := List.mem_map.1 hu; rfl)
                clear hXS
                go_wp2_with (at_builtin; refine wpList_append_own _ rfl _ _ 29 rfl W2.heap.size 9 i0 (.string ByteArray.empty) 1 16 Tryz.underlying29 hi hz0 hz1 hz2 rfl (by decide) _ _ _ rfl (World.ownsRow_nil _ _ _ _) ⟨g, 0, none⟩ j cp XS rfl ?c0 ?c1 ?c2 ?c3 ?c4 ?c5 ?_)
                first | (case c0 => rw [HXL.out]; simp) | (case c0 => exact HXL.out) | skip
                case c1 => first | exact HXN.out | (intro t u ht; have h := HXN.out t u ht; rw [Addr.add_lit] at h; simpa using h)
                case c2 => exact HXO.out
                case c3 => unfold maxLen; omega
                case c4 => omega
                first | (case c5 => exact Nat.le_refl _) | skip
                intro v1 W3 hown1 hgr1 _
                have HO1 := hid hown1
                have HB1 := hid (grown_below hgr1)
                have HS3 := hid (HSY.out.below HB1.out)
                have hw1 := HB1.out.size
                clear hown1 hgr1 c0
                have c0 := HCC.out _ HS3.out.bl
                go_wp2_with (at_builtin; refine wpList_append_own _ rfl _ _ 29 rfl W2.heap.size 9 i0 (.string ByteArray.empty) 1 16 Tryz.underlying29 hi hz0 hz1 hz2 rfl (by decide) _ _ _ rfl (HO1.out.alloc _) ⟨W3.heap.size, 0, none⟩ 1 1 [.string s] rfl rfl ?d1 ?d2 ?d3 ?d4 ?d5 ?_)
                case d1 =>
                  intro t u ht
                  match t, ht with
                  | 0, ht => simp at ht; subst ht; simp [Addr.add]
                case d2 => intro u hu; simp at hu; subst hu; rfl
                case d3 => unfold maxLen; omega
                case d4 => omega
                case d5 => simp; omega
                intro v2 W4 hown2 hgr2 _
                have HO2 := hid hown2
                have HB2 := hid (rel_app HB1.out.size HB1.out HO1.out (Below.refl _ _) hgr2)
                have HS4 := hid (HSY.out.below HB2.out)
                have HCL2 := hid (HTW.out _ HS4.out)
                have hw2 := HB2.out.size
                clear hown2 hgr2 c0
                go_wp2_with (at_builtin; refine wpList_append_own _ rfl _ _ 29 rfl W2.heap.size 9 i0 (.string ByteArray.empty) 1 16 Tryz.underlying29 hi hz0 hz1 hz2 rfl (by decide) _ _ _ rfl HO2.out ⟨g, j, none⟩ (X.length - j) (cp - j) ((X.drop j).map Value.string) rfl ?e0 ?e1 ?e2 ?e3 ?e4 ?e5 ?_)
                case e0 => simp
                case e1 => intro t u ht; exact news_at HCL2.out j (X.length - j) t u (by rw [List.take_of_length_le (by simp)]; exact ht)
                case e2 => intro u hu; obtain ⟨x, _, rfl⟩ := List.mem_map.1 hu; rfl
                case e3 => unfold maxLen; omega
                case e4 => omega
                case e5 => exact hw2
                intro v3 W5 hown3 hgr3 _
                have HB3 := hid (HB2.out.grown hgr3 hw2 (fun t ht => (HO2.out.lt t ht).1))
                have HS5 := hid (HSY.out.below HB3.out)
                have HO3 := hid (show W5.ownsRow w.heap.size 9 1 v3 (X.take j ++ s :: X.drop j).length ((X.take j ++ s :: X.drop j).map Value.string) by
                  have h := owns_mono hown3 HSY.out.bl.size
                  rw [HXS.out] at h
                  have e1 : (X.take j ++ s :: X.drop j).length = j + 1 + (X.length - j) := by simp; omega
                  rw [e1]
                  simpa using h)
                have HPE := hid (show Ps w W5 v3 (insT X s) from ⟨by rw [HIN.out]; exact HO3.out, (fun h => absurd h (insT_ne _ _)), HS5.out.bl⟩)
                clear hown3 hgr3
                go_wp2_with fail
                go_roundw
                case rel => exact ⟨i + 1, _, HLT.out, by first | exact nr_idx i | exact nx_idx HLT.out (by omega : Q.length ≤ 1000000), HSE, by have := HIL.out; omega, HPE⟩
                case measure => first | exact nr_meas HLT.out | exact nx_meas HLT.out (by omega : Q.length ≤ 1000000)
            · have HL2 := hid (show ∀ t (ht : t < X.length), t < j + 1 → lt X[t] s = true from fun t ht htj => by
                rcases Nat.lt_or_ge t j with h | h
                · exact HLJ.out t ht h
                · have : t = j := by omega
                  subst this; exact hl)
              rw [hl] at hls
              clear hl HLJ
              generalize X[j] = x at *
              go_wp2_with fail
              go_quiet (fail)
              have HSX := hid (HPS2.out.below (below_drawn _ nq))
              go_wp2_with fail
              go_roundw
              case rel => exact ⟨j + 1, HJX.out, by first | exact nr_idx j | exact nx_idx HJX.out (by omega : X.length ≤ 1000000), HL2, HSX⟩
              case measure => first | exact nr_meas HJX.out | exact nx_meas HJX.out (by omega : X.length ≤ 1000000)
          · obtain rfl : j = X.length := by omega
            have HIN := hid (show insT X s = X.take X.length ++ s :: X.drop X.length by rw [HAT.out X.length (Nat.le_refl _) HLJ.out (fun h => absurd h (Nat.lt_irrefl _)), if_neg (by simp)])
            have hjI := ix_nlt hjX
            have hjd : decide ((X.length : Int) < (X.length : Int)) = false := decide_eq_false hjI
            clear HLJ hjX
            by_cases hcx : cp = X.length
            · subst hcx
              have t1 : (0 : Int) ≤ (X.length : Int) := by omega
              have t2 : (X.length : Int) ≤ (X.length : Int) := by omega
              go_wp2_with fail
              go_quiet (fail)
              have HSY := hid (HPS2.out.below (below_drawn _ nq))
              generalize wr.drewN nq = W2 at *
              clear c0
              have c0 := HCC.out _ HSY.out.bl
              obtain ⟨XS, hXS⟩ : ∃ XS, XS = (X.take (X.length)).map Value.string := ⟨_, rfl⟩
              have HXS := hid hXS
              have HXL := hid (show XS.length = (X.length) by rw [hXS]; simp)
              have HXN := hid (show ∀ t u, XS[t]? = some u → W2.cell? ((⟨g, 0, none⟩ : Addr).add t) = some u from fun t u ht => news_at (HTW.out _ HSY.out) 0 (X.length) t u (by rw [hXS] at ht; simpa using ht))
              have HXO := hid (show ∀ u, u ∈ XS → u.oneCell' = true from fun u hu => by rw [hXS] at hu; obtain ⟨x, _, rfl⟩ := List.mem_map.1 hu; rfl)
              clear hXS
              go_wp2_with (at_builtin; refine wpList_append_own _ rfl _ _ 29 rfl W2.heap.size 9 i0 (.string ByteArray.empty) 1 16 Tryz.underlying29 hi hz0 hz1 hz2 rfl (by decide) _ _ _ rfl (World.ownsRow_nil _ _ _ _) ⟨g, 0, none⟩ (X.length) X.length XS rfl ?c0 ?c1 ?c2 ?c3 ?c4 ?c5 ?_)
              first | (case c0 => rw [HXL.out]; simp) | (case c0 => exact HXL.out) | skip
              case c1 => first | exact HXN.out | (intro t u ht; have h := HXN.out t u ht; rw [Addr.add_lit] at h; simpa using h)
              case c2 => exact HXO.out
              case c3 => unfold maxLen; omega
              case c4 => omega
              first | (case c5 => exact Nat.le_refl _) | skip
              intro v1 W3 hown1 hgr1 _
              have HO1 := hid hown1
              have HB1 := hid (grown_below hgr1)
              have HS3 := hid (HSY.out.below HB1.out)
              have hw1 := HB1.out.size
              clear hown1 hgr1 c0
              have c0 := HCC.out _ HS3.out.bl
              go_wp2_with (at_builtin; refine wpList_append_own _ rfl _ _ 29 rfl W2.heap.size 9 i0 (.string ByteArray.empty) 1 16 Tryz.underlying29 hi hz0 hz1 hz2 rfl (by decide) _ _ _ rfl (HO1.out.alloc _) ⟨W3.heap.size, 0, none⟩ 1 1 [.string s] rfl rfl ?d1 ?d2 ?d3 ?d4 ?d5 ?_)
              case d1 =>
                intro t u ht
                match t, ht with
                | 0, ht => simp at ht; subst ht; simp [Addr.add]
              case d2 => intro u hu; simp at hu; subst hu; rfl
              case d3 => unfold maxLen; omega
              case d4 => omega
              case d5 => simp; omega
              intro v2 W4 hown2 hgr2 _
              have HO2 := hid hown2
              have HB2 := hid (rel_app HB1.out.size HB1.out HO1.out (Below.refl _ _) hgr2)
              have HS4 := hid (HSY.out.below HB2.out)
              have HCL2 := hid (HTW.out _ HS4.out)
              have hw2 := HB2.out.size
              clear hown2 hgr2 c0
              go_wp2_with (at_builtin; refine wpList_append_own _ rfl _ _ 29 rfl W2.heap.size 9 i0 (.string ByteArray.empty) 1 16 Tryz.underlying29 hi hz0 hz1 hz2 rfl (by decide) _ _ _ rfl HO2.out _ _ _ [] rfl ?e0 ?e1 ?e2 ?e3 ?e4 ?e5 ?_)
              case e0 => simp
              case e1 => intro t u ht; simp at ht
              case e2 => intro u hu; cases hu
              case e3 => unfold maxLen; omega
              case e4 => omega
              case e5 => exact hw2
              intro v3 W5 hown3 hgr3 _
              have HB3 := hid (HB2.out.grown hgr3 hw2 (fun t ht => (HO2.out.lt t ht).1))
              have HS5 := hid (HSY.out.below HB3.out)
              have HO3 := hid (show W5.ownsRow w.heap.size 9 1 v3 (X.take (X.length) ++ s :: X.drop (X.length)).length ((X.take (X.length) ++ s :: X.drop (X.length)).map Value.string) by
                have h := owns_mono hown3 HSY.out.bl.size
                rw [HXS.out] at h
                have e1 : (X.take (X.length) ++ s :: X.drop (X.length)).length = X.length + 1 := by simp
                rw [e1]
                simpa using h)
              have HPE := hid (show Ps w W5 v3 (insT X s) from ⟨by rw [HIN.out]; exact HO3.out, (fun h => absurd h (insT_ne _ _)), HS5.out.bl⟩)
              clear hown3 hgr3
              go_wp2_with fail
              go_roundw
              case rel => exact ⟨i + 1, _, HLT.out, by first | exact nr_idx i | exact nx_idx HLT.out (by omega : Q.length ≤ 1000000), HSE, by have := HIL.out; omega, HPE⟩
              case measure => first | exact nr_meas HLT.out | exact nx_meas HLT.out (by omega : Q.length ≤ 1000000)
            · have hcx1 : X.length < cp := by have := HCP.out.1; omega
              have hcx2 : (X.length : Int) < (cp : Int) := by omega
              have t1 : (0 : Int) ≤ (X.length : Int) := by omega
              have t2 : (X.length : Int) ≤ (cp : Int) := by omega
              have t3 : (X.length : Int) ≤ (X.length : Int) := by omega
              go_wp2_with fail
              go_quiet (fail)
              have HSY := hid (HPS2.out.below (below_drawn _ nq))
              generalize wr.drewN nq = W2 at *
              clear c0
              have c0 := HCC.out _ HSY.out.bl
              obtain ⟨XS, hXS⟩ : ∃ XS, XS = (X.take (X.length)).map Value.string := ⟨_, rfl⟩
              have HXS := hid hXS
              have HXL := hid (show XS.length = (X.length) by rw [hXS]; simp)
              have HXN := hid (show ∀ t u, XS[t]? = some u → W2.cell? ((⟨g, 0, none⟩ : Addr).add t) = some u from fun t u ht => news_at (HTW.out _ HSY.out) 0 (X.length) t u (by rw [hXS] at ht; simpa using ht))
              have HXO := hid (show ∀ u, u ∈ XS → u.oneCell' = true from fun u hu => by rw [hXS] at hu; obtain ⟨x, _, rfl⟩ := List.mem_map.1 hu; rfl)
              clear hXS
              go_wp2_with (at_builtin; refine wpList_append_own _ rfl _ _ 29 rfl W2.heap.size 9 i0 (.string ByteArray.empty) 1 16 Tryz.underlying29 hi hz0 hz1 hz2 rfl (by decide) _ _ _ rfl (World.ownsRow_nil _ _ _ _) ⟨g, 0, none⟩ (X.length) cp XS rfl ?c0 ?c1 ?c2 ?c3 ?c4 ?c5 ?_)
              first | (case c0 => rw [HXL.out]; simp) | (case c0 => exact HXL.out) | skip
              case c1 => first | exact HXN.out | (intro t u ht; have h := HXN.out t u ht; rw [Addr.add_lit] at h; simpa using h)
              case c2 => exact HXO.out
              case c3 => unfold maxLen; omega
              case c4 => omega
              first | (case c5 => exact Nat.le_refl _) | skip
              intro v1 W3 hown1 hgr1 _
              have HO1 := hid hown1
              have HB1 := hid (grown_below hgr1)
              have HS3 := hid (HSY.out.below HB1.out)
              have hw1 := HB1.out.size
              clear hown1 hgr1 c0
              have c0 := HCC.out _ HS3.out.bl
              go_wp2_with (at_builtin; refine wpList_append_own _ rfl _ _ 29 rfl W2.heap.size 9 i0 (.string ByteArray.empty) 1 16 Tryz.underlying29 hi hz0 hz1 hz2 rfl (by decide) _ _ _ rfl (HO1.out.alloc _) ⟨W3.heap.size, 0, none⟩ 1 1 [.string s] rfl rfl ?d1 ?d2 ?d3 ?d4 ?d5 ?_)
              case d1 =>
                intro t u ht
                match t, ht with
                | 0, ht => simp at ht; subst ht; simp [Addr.add]
              case d2 => intro u hu; simp at hu; subst hu; rfl
              case d3 => unfold maxLen; omega
              case d4 => omega
              case d5 => simp; omega
              intro v2 W4 hown2 hgr2 _
              have HO2 := hid hown2
              have HB2 := hid (rel_app HB1.out.size HB1.out HO1.out (Below.refl _ _) hgr2)
              have HS4 := hid (HSY.out.below HB2.out)
              have HCL2 := hid (HTW.out _ HS4.out)
              have hw2 := HB2.out.size
              clear hown2 hgr2 c0
              go_wp2_with (at_builtin; refine wpList_append_own _ rfl _ _ 29 rfl W2.heap.size 9 i0 (.string ByteArray.empty) 1 16 Tryz.underlying29 hi hz0 hz1 hz2 rfl (by decide) _ _ _ rfl HO2.out _ _ _ [] rfl ?e0 ?e1 ?e2 ?e3 ?e4 ?e5 ?_)
              case e0 => simp
              case e1 => intro t u ht; simp at ht
              case e2 => intro u hu; cases hu
              case e3 => unfold maxLen; omega
              case e4 => omega
              case e5 => exact hw2
              intro v3 W5 hown3 hgr3 _
              have HB3 := hid (HB2.out.grown hgr3 hw2 (fun t ht => (HO2.out.lt t ht).1))
              have HS5 := hid (HSY.out.below HB3.out)
              have HO3 := hid (show W5.ownsRow w.heap.size 9 1 v3 (X.take (X.length) ++ s :: X.drop (X.length)).length ((X.take (X.length) ++ s :: X.drop (X.length)).map Value.string) by
                have h := owns_mono hown3 HSY.out.bl.size
                rw [HXS.out] at h
                have e1 : (X.take (X.length) ++ s :: X.drop (X.length)).length = X.length + 1 := by simp
                rw [e1]
                simpa using h)
              have HPE := hid (show Ps w W5 v3 (insT X s) from ⟨by rw [HIN.out]; exact HO3.out, (fun h => absurd h (insT_ne _ _)), HS5.out.bl⟩)
              clear hown3 hgr3
              go_wp2_with fail
              go_roundw
              case rel => exact ⟨i + 1, _, HLT.out, by first | exact nr_idx i | exact nx_idx HLT.out (by omega : Q.length ≤ 1000000), HSE, by have := HIL.out; omega, HPE⟩
              case measure => first | exact nr_meas HLT.out | exact nx_meas HLT.out (by omega : Q.length ≤ 1000000)
    · have hiI := ix_nlt hlt
      have HXA := hid (show X = ans by rw [HX.out, HANS.out, List.take_of_length_le (by omega)]; rfl)
      clear hlt
      go_wp2_with fail
      go_ret
      exact ⟨_, rfl, by rw [← HXA.out]; exact own_tx HPS.out.own, HPS.out.bl⟩
end Ve
end Go.Proofs.YtnkgjddkdikikaaGreatDoor
