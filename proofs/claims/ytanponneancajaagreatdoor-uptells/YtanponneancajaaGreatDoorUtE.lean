/-
  What AllOf of the document's answer says: built on until nothing changes.
-/
import Derived.Test.YtanponneancajaaGreatDoorUtD
namespace Go.Proofs.YtanponneancajaaGreatDoor
open Go.RowKit Go.Maps
namespace Ve

set_option maxRecDepth 100000 in
set_option maxHeartbeats 4000000 in
theorem allO_bad (Q : List Raw) (L : List Ent) (roots : List Bm) (v rv : Value) (w : World) (hn : L.length ≤ 1000) (hrn : roots.length ≤ 1000000) (sh : ∀ e, e ∈ L → ShE e) (I : Ixs w v Q L) (hr : MsAt w rv roots) (h0 : ¬ (chkG Q L roots).1 = 0) :
    Calls Tryz.prog 40 #[v, rv] w fun e w' => e = .returned (.tuple #[.slice none 0 0, faultV (chkG Q L roots)]) ∧ Below w.heap.size w w' := by
  have HB0 := hid ((Below.refl w.heap.size w).alloc (Nat.le_refl _) (.cells #[.int .i64 0, .int .i64 0] 64))
  have HE0 := hid (heap_new w (.cells #[.int .i64 0, .int .i64 0] 64))
  have HRO := hid (fun W (h : Below w.heap.size w W) => bo_bad Q L roots v rv W hn hrn sh (I.below h) (hr.below h) h0)
  obtain ⟨a, c, hv1, -⟩ := id I.es
  subst hv1
  obtain ⟨ra, rc, hrv, -⟩ := id hr
  subst hrv
  obtain ⟨cc, oo, hco⟩ : ∃ cc oo, chkG Q L roots = (cc, oo) := ⟨_, _, rfl⟩
  rw [hco] at HRO h0 ⊢
  unfold faultV at HRO ⊢
  simp only at HRO h0 ⊢
  generalize atOf oo = ao at *
  have hnz : ((cc : Int) == 0) = false := by simp; omega
  have hnz2 : ¬ (cc : Int) = 0 := by omega
  clear I hr sh h0 hco
  go_enter Tryz.func40, Tryz.ntmps40
  go_wp2_with fail
  refine (HRO.out _ HB0.out).mono ?_
  rintro e w1 ⟨rfl, hb⟩
  have HB1 := hid (HB0.out.trans (hb.mono HB0.out.size))
  have HE1 := hid ((hb.block _ (lt_of_blk HE0.out)).trans HE0.out)
  clear hb
  have HB2 := hid (HB1.out.alloc HB1.out.size (.cells #[.int .i64 (cc : Int), .int .i64 ao] 64))
  have HE2 := hid (heap_old w1 (.cells #[.int .i64 (cc : Int), .int .i64 ao] 64) HE1.out)
  have HF2 := hid (heap_new w1 (.cells #[.int .i64 (cc : Int), .int .i64 ao] 64))
  have hne : ¬ w1.heap.size = w.heap.size := Nat.ne_of_gt (lt_of_blk HE1.out)
  have hne2 : ¬ w.heap.size = w1.heap.size := Nat.ne_of_lt (lt_of_blk HE1.out)
  go_wp2_with fail
  generalize w1.alloc (.cells #[.int .i64 (cc : Int), .int .i64 ao] 64) = w2 at *
  obtain ⟨s0, s1, tf⟩ := box_two HE2.out
  obtain ⟨f0, f1, _⟩ := box_two HF2.out
  go_loopw [6] (fun sv wr => sv = .slice none 0 0 ∧ wr = w2) (fun _ _ => 0)
  case atStart => exact ⟨rfl, rfl⟩
  case round =>
    obtain ⟨rfl, rfl⟩ := hrel
    go_wp2_with fail
    go_region_with fail
    all_goals
      go_wp2_with fail
      refine bodyPost_ret (v := .tuple #[.slice none 0 0, .agg #[.int .i64 (cc : Int), .int .i64 ao]]) (by simp [results, Tryz.results40, go_sem, s0, s1]) rfl ⟨rfl, ?_⟩
      exact put2_below (below_drawn_of HB2.out 1) (Nat.le_refl _)
theorem latL_take {Q : List Raw} {E : List Bm} {k : Nat} (h : k < E.length) : E ++ latL Q (E.take (k + 1)) = (E ++ latL Q (E.take k)) ++ [(E[k].1, latV Q E[k].1)] := by
  rw [latL_next h, List.append_assoc]
set_option maxRecDepth 100000 in
set_option maxHeartbeats 8000000 in
theorem allO_good (Q : List Raw) (L : List Ent) (roots : List Bm) (v rv : Value) (w : World) (hn : L.length ≤ 400) (hrn : roots.length ≤ 1000000) (hz : ∀ r, r ∈ Q → r.1.1.size ≤ 80 ∧ r.1.2.size ≤ 80) (sh : ∀ e, e ∈ L → ShE e) (I : Ixs w v Q L) (hr : MsAt w rv roots) (h0 : (chkG Q L roots).1 = 0) :
    Calls Tryz.prog 40 #[v, rv] w fun e w' => ∃ a c E, e = .returned (.tuple #[.slice a E.length c, .agg #[.int .i64 0, .int .i64 (-1)]]) ∧ MsAt w' (.slice a E.length c) E ∧ Fix Q L (bX Q L roots) E ∧ Below w.heap.size w w' := by
  have HC := hid (chkG_chk h0)
  have HGD := hid (good_of I HC.out)
  have HB0 := hid ((Below.refl w.heap.size w).alloc (Nat.le_refl _) (.cells #[.int .i64 0, .int .i64 0] 64))
  have HE0 := hid (heap_new w (.cells #[.int .i64 0, .int .i64 0] 64))
  have HRO := hid (fun W (h : Below w.heap.size w W) => bo_all Q L roots v rv W (by omega) hrn sh (I.below h) (hr.below h))
  rw [rF_good h0, faultV0] at HRO
  have HLI := hid (fun E (hE : Sl L E) => show LatIn Q L E from fun x hx => by
    obtain ⟨X, hX⟩ := keptT_ex HGD.out x.1
    exact lat_in I HC.out ⟨x, hE.un x hx, rfl⟩ hX)
  have HR2 := hid (fun E W u (hE : Sl L E) (hEl : E.length ≤ L.length) (h : Below w.heap.size w W) (hu : MsAt W u (E ++ latL Q E)) => show Calls Tryz.prog 83 #[v, u] W fun e w' => ∃ a c, e = .returned (.tuple #[.slice a (upF Q L E).length c, .agg #[.int .i64 0, .int .i64 (-1)]]) ∧ Mr W w' (.slice a (upF Q L E).length c) (upF Q L E) by
    have h1 := bo_all Q L (E ++ latL Q E) v u W (by omega) (by rw [List.length_append, latL_len]; omega) sh (I.below h) hu
    rw [rF_good (upG I HC.out hE (HLI.out E hE)), faultV0] at h1
    exact h1)
  have HLO := hid (fun t W (h : Below w.heap.size w W) => latOf_any Q t v W (by rw [I.ln]; omega) HGD.out hz (keptT_ex HGD.out t) (I.below h).es)
  have HOV := hid (fun E (hE : Sl L E) => up_over I HC.out hE (HLI.out E hE))
  have HLN := hid hn
  obtain ⟨i0, hi0, hz0, hz1, hz2⟩ := info_parts infoMod
  obtain ⟨a, c, hv, -⟩ := id I.es
  subst hv
  obtain ⟨ra, rc, hrv, -⟩ := id hr
  subst hrv
  have HBS := hid (bX_sl Q L roots)
  have HBL := hid (show (bX Q L roots).length ≤ L.length from bX_len)
  clear I hr sh h0 hz
  go_enter Tryz.func40, Tryz.ntmps40
  go_wp2_with fail
  refine (HRO.out _ HB0.out).mono ?_
  rintro e w1 ⟨ba, bc, rfl, hm⟩
  have HB1 := hid (HB0.out.trans (hm.1.mono HB0.out.size))
  have HE1 := hid ((hm.1.block _ (lt_of_blk HE0.out)).trans HE0.out)
  have HM1 := hid (hm.base HB0.out)
  clear hm HRO
  have HA2 := hid ((Below.refl w1.heap.size w1).alloc (Nat.le_refl _) (.cells #[.int .i64 0, .int .i64 (-1)] 64))
  have HE2 := hid (heap_old w1 (.cells #[.int .i64 0, .int .i64 (-1)] 64) HE1.out)
  have HF2 := hid (heap_new w1 (.cells #[.int .i64 0, .int .i64 (-1)] 64))
  have HNE := hid (show w.heap.size < w1.heap.size from lt_of_blk HE1.out)
  go_wp2_with fail
  generalize w1.alloc (.cells #[.int .i64 0, .int .i64 (-1)] 64) = w2 at *
  have HM2 := hid (HM1.out.below HA2.out)
  have HBw2 := hid (HB1.out.trans (HA2.out.mono HB1.out.size))
  clear HB0 HE0 HB1 HE1 HM1 HA2
  go_loopw [6] (fun sv wr => ∃ E, Hid (Mr w wr sv E) ∧ Hid (∃ n, E = upN Q L (bX Q L roots) n) ∧ Hid (Sl L E) ∧ Hid (E.length ≤ L.length) ∧ Hid (Below w2.heap.size w2 wr)) (fun sv wr => L.length - cntV L (rdM wr sv))
  case atStart => exact ⟨_, HM2, hid ⟨0, rfl⟩, HBS, HBL, hid (Below.refl _ _)⟩
  case round =>
    obtain ⟨E, HM, HNN, HSL, HEL, HBr⟩ := hrel
    have HRD := hid (rdM_eq HM.out.ms)
    obtain ⟨ea, ec, hu6⟩ := HM.out.sl
    subst hu6
    have HFr := hid ((HBr.out.block _ (lt_of_blk HF2.out)).trans HF2.out)
    have HEr := hid ((HBr.out.block _ (lt_of_blk HE2.out)).trans HE2.out)
    obtain ⟨f0, f1, _⟩ := box_two HFr.out
    obtain ⟨av, w4, hrun, hown, hgr⟩ := both_run [] E (.slice none 0 0) _ wr wr.heap.size (Nat.le_refl _) (by simp) (by have := HEL.out; have := HLN.out; omega) (World.ownsRow_nil _ _ _ _) HM.out.ms HM.out.em
    have HRUN := hid hrun
    have HD4 := hid (show Below wr.heap.size wr w4 from grown_below hgr)
    rw [List.nil_append] at hown
    have HO4 := hid (show w4.ownsRow wr.heap.size 51 2 av (E ++ latL Q (E.take 0)).length (flatM (E ++ latL Q (E.take 0))) by simpa [latL] using hown)
    obtain ⟨aa, ac, hav⟩ := own_slN hown
    subst hav
    clear hrun hown hgr
    go_wp2_with (at_builtin; refine Lib.wpList_append_run _ rfl _ _ _ _ rfl _ _ rfl rfl _ _ HRUN.out ?_)
    clear f0 f1 HRUN
    generalize hgw : wr = wo at *
    have HWO := hid hgw
    clear hgw
    go_loopw [8, 9] (fun av iv wr => ∃ i : Nat, i ≤ E.length ∧ iv = .int .i64 i ∧ Hid (wr.ownsRow wo.heap.size 51 2 av (E ++ latL Q (E.take i)).length (flatM (E ++ latL Q (E.take i)))) ∧ Hid (Below wo.heap.size wo wr)) (fun _ iv _ => E.length - (intOf iv).toNat)
    case atStart => exact ⟨0, Nat.zero_le _, rfl, HO4, HD4⟩
    case round =>
      obtain ⟨i, hi, rfl, HOW, HBi⟩ := hrel
      have HBw := hid (HM.out.1.trans (HBi.out.mono HM.out.1.size))
      by_cases hlt : i < E.length
      · have hiI := ix_lt hlt
        have hii := ix_pos i
        have HLIi := hid hlt
        have HEM := hid (show E.length ≤ 1000000 by have := HEL.out; have := HLN.out; omega)
        obtain ⟨xb, xo, hxa, y0, y1⟩ := (HM.out.ms.below HBi.out).cells hlt
        subst hxa
        have HST := hid (latL_take (Q := Q) hlt)
        have HNL := hid (show (E ++ latL Q (E.take i)).length ≤ 1000 by rw [List.length_append, latL_len]; have h1 := List.length_take_le' i E; have := HEL.out; have := HLN.out; omega)
        generalize E[i] = x at *
        obtain ⟨p, q⟩ := x
        simp only at y0 y1 HST
        have HLP := hid (HLO.out p wr HBw.out)
        obtain ⟨SX, hSX⟩ : ∃ SX, E ++ latL Q (E.take i) = SX := ⟨_, rfl⟩
        rw [hSX] at HOW HST HNL
        generalize latV Q p = lv at *
        clear hSX hlt
        go_wp2_with fail
        refine HLP.out.mono ?_
        rintro e w5 ⟨rfl, hb⟩
        have HB5 := hid (HBi.out.trans (hb.mono HBi.out.size))
        have HO5 := hid (owns_below HOW.out hb)
        have z0 := cell_below hb y0
        clear hb y0 y1 HLP
        go_wp2_with (at_builtin; refine wpList_append_own _ rfl _ _ 52 rfl wo.heap.size 51 i0 _ 2 32 Tryz.underlying52 hi0 hz0 hz1 hz2 rfl (by decide) _ _ _ rfl (HO5.out.alloc _) ⟨w5.heap.size, 0, none⟩ 1 1 [.string p, .string lv] rfl rfl (World.news_of_block (heap_new _ _)) (by intro u hu; simp at hu; rcases hu with rfl | rfl <;> rfl) (Nat.le_trans (Nat.add_le_add_right HNL.out 1) (by unfold maxLen; decide)) (by have hz := HNL.out; omega) (Nat.le_trans HB5.out.size (by simp)) ?_)
        intro v' w6 hown hgrow _
        have HB6 := hid (rel_app2 HB5.out.size HB5.out HO5.out (Below.refl _ _) hgrow)
        have HO6 := hid (show w6.ownsRow wo.heap.size 51 2 v' (SX ++ [(p, lv)]).length (flatM (SX ++ [(p, lv)])) by rw [List.length_append, flatM_app]; exact hown)
        clear hown hgrow z0
        go_wp2_with fail
        go_roundw
        case rel => first | exact ⟨i + 1, HLIi.out, nr_idx i, hid (by rw [HST.out]; exact HO6.out), HB6⟩ | exact ⟨i + 1, HLIi.out, nx_idx HLIi.out HEM.out, hid (by rw [HST.out]; exact HO6.out), HB6⟩
        case measure => first | exact nr_meas HLIi.out | exact nx_meas HLIi.out HEM.out
      · have hiI := ix_nlt hlt
        have HTA := hid (show E.take i = E from List.take_of_length_le (by omega))
        rw [HTA.out] at HOW
        have HBE := hid (HR2.out E wr _ HSL.out HEL.out HBw.out (own_ms HOW.out))
        obtain ⟨EL, hEL⟩ : ∃ EL, E ++ latL Q E = EL := ⟨_, rfl⟩
        rw [hEL] at HOW
        obtain ⟨oa, oc, hov⟩ := own_slN HOW.out
        subst hov
        clear hlt hEL HTA
        go_wp2_with fail
        refine HBE.out.mono ?_
        rintro e w6 ⟨na, nc, rfl, hm⟩
        have HB6 := hid (HBi.out.trans (hm.1.mono HBi.out.size))
        have HMN6 := hid (hm.base HBw.out)
        have HA7 := hid ((Below.refl w6.heap.size w6).alloc (Nat.le_refl _) (.cells #[.int .i64 0, .int .i64 (-1)] 64))
        have HG7 := hid (heap_new w6 (.cells #[.int .i64 0, .int .i64 (-1)] 64))
        have HSF := hid (show Sl L (upF Q L E) from bX_sl _ _ _)
        have HFL := hid (show (upF Q L E).length ≤ L.length from bX_len)
        have HOE := hid (HOV.out E HSL.out)
        clear hm HBE
        go_wp2_with fail
        generalize w6.alloc (.cells #[.int .i64 0, .int .i64 (-1)] 64) = w7 at *
        have HB7 := hid (HB6.out.trans (HA7.out.mono HB6.out.size))
        have HMN7 := hid (HMN6.out.below HA7.out)
        have HEQ := hid (sameG_any (upF Q L E) E _ _ w7 (by have := HFL.out; have := HLN.out; omega) HMN7.out.ms (HM.out.ms.below HB7.out))
        have HGN := hid (show w.heap.size < w6.heap.size from Nat.lt_of_lt_of_le HNE.out (Nat.le_trans (Nat.le_of_lt (lt_of_blk HF2.out)) (Nat.le_trans HBr.out.size HB6.out.size)))
        clear HA7 HMN6
        by_cases hF : upF Q L E = E
        · rw [decide_eq_true hF] at HEQ
          have HFX := hid (show Fix Q L (bX Q L roots) E from ⟨HNN.out, hF⟩)
          rw [hF] at HMN7 HEQ ⊢
          clear hF HSF HFL HOE
          refine HEQ.out.mono ?_
          rintro e w8 ⟨rfl, hb⟩
          have HB8 := hid (HB7.out.trans (hb.mono HB7.out.size))
          have HG8 := hid ((hb.block _ (lt_of_blk HG7.out)).trans HG7.out)
          have HE8 := hid ((HB8.out.block _ (lt_of_blk HEr.out)).trans HEr.out)
          have HM8 := hid (HMN7.out.below hb)
          have HBz := hid (HM.out.1.trans (HB8.out.mono HM.out.1.size))
          have hne : ¬ w6.heap.size = w.heap.size := Nat.ne_of_gt HGN.out
          have hne2 : ¬ w.heap.size = w6.heap.size := Nat.ne_of_lt HGN.out
          obtain ⟨g0, g1, _⟩ := box_two HG8.out
          obtain ⟨s0, s1, tf⟩ := box_two HE8.out
          clear hb HEQ
          go_wp2_with fail
          go_region_with fail
          all_goals
            go_wp2_with fail
            refine bodyPost_ret (v := .tuple #[.slice na E.length nc, .agg #[.int .i64 0, .int .i64 (-1)]]) (by simp [results, Tryz.results40, go_sem, s0, s1]) rfl ⟨_, _, E, rfl, ?_, HFX.out, put2_below (below_drawn_of HBz.out 1) (Nat.le_refl _)⟩
            first | exact ms_put2 HM8.out.ms HE8.out | exact ms_put2 (W := w8.drewN 1) (HM8.out.ms.below (below_drawn _ 1)) ((below_drawn w8 1).block _ (lt_of_blk HE8.out) |>.trans HE8.out)
        · rw [decide_eq_false hF] at HEQ
          have HCN := hid (cntV_lt HC.out HSL.out HSF.out HOE.out hF)
          have HN2 := hid (show ∃ n, upF Q L E = upN Q L (bX Q L roots) n by
            obtain ⟨n, hn⟩ := HNN.out
            exact ⟨n + 1, by rw [hn]; rfl⟩)
          have HCE := hid (cntV_le L (upF Q L E))
          clear hF
          generalize upF Q L E = F at *
          refine HEQ.out.mono ?_
          rintro e w8 ⟨rfl, hb⟩
          have HM8 := hid (HMN7.out.below hb)
          have HB8 := hid (HB7.out.trans (hb.mono HB7.out.size))
          have HG8 := hid ((hb.block _ (lt_of_blk HG7.out)).trans HG7.out)
          have HB9 := hid (HBr.out.trans (HB8.out.mono HBr.out.size))
          obtain ⟨g0, g1, _⟩ := box_two HG8.out
          clear hb HEQ
          go_wp2_with fail
          go_roundw
          case rel => exact ⟨F, HM8, HN2, HSF, HFL, HB9⟩
          case measure =>
            have h3 := rdM_eq HM8.out.ms
            have h4 := HRD.out
            rw [← HWO.out] at h4
            rw [h3, h4]
            have h1 := HCN.out
            have h2 := HCE.out
            omega
end Ve
end Go.Proofs.YtanponneancajaaGreatDoor
