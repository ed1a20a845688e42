/-
  FilTD
-/
import Derived.Test.YtjhlkjgijbobcaaGreatDoorFt46
namespace Go.Proofs.YtjhlkjgijbobcaaGreatDoor
open Go.RowKit
namespace Ve
set_option maxHeartbeats 8000000 in
set_option maxRecDepth 100000 in
theorem tells_main (p : ByteArray) (R X : List Bm) (v u : Value) (s : ByteArray) (m : Bm) (A : Nat → Addr) (k0 : Int) (w : World) (S : Te w A k0) (hr : MsAt w v R) (hx : MsAt w u X) (he : Em v R) (hx2 : Em u X) (h : fitT p R X s m = true) :
    Calls Tryz.prog 3 #[.agg #[.string p, v, u], .string s, .agg #[.string m.1, .string m.2]] w fun e w' => e = .returned (.bool true) ∧ Below w.heap.size w w' := by
  obtain ⟨h1, hR, hX, hS, h3, h4⟩ := fitT_iff h
  have HFL := hid (show Fl w R X v u from ⟨hr, hx, (ok_short hR).1, (ok_short hX).1, (ok_short hR).2, (ok_short hX).2⟩)
  obtain ⟨⟨vp, vc, ev⟩, up, uc, eu⟩ := HFL.out.slices
  subst ev; subst eu
  have HB1 := hid (((Below.refl w.heap.size w).alloc (Nat.le_refl _) (.cells #[.string p, .slice vp R.length vc, .slice up X.length uc] 24)).alloc (by simp) (.cells #[.string m.1, .string m.2] 26))
  have HS := hid S
  have HFD := hid (filed_any A k0 _ (S.below HB1.out))
  have HRR := hid hr
  have HXX := hid hx
  have HE1 := hid he
  have HE2 := hid hx2
  have HP := hid (show p.size < 999999 by omega)
  have HM1 := hid (show m.1.size < 999999 ∧ m.2.size < 999999 by omega)
  have hw0 : IntKind.i64.wrap 0 = 0 := by decide
  have q1 : decide ((90 : Int) < (p.size : Int)) = false := decide_eq_false (by omega)
  have q3 : decide ((90 : Int) < (m.1.size : Int)) = false := decide_eq_false (by omega)
  have q4 : decide ((60 : Int) < (m.2.size : Int)) = false := decide_eq_false (by omega)
  clear S hr hx he hx2 h h1 h3 h4
  rcases fitS_yes hS with s1 | ⟨s1, s2⟩
  all_goals
    go_enter Tryz.func3, Tryz.ntmps3
    go_wp2_with fail
    refine HFD.out.mono ?_
    rintro e w1 ⟨rfl, hb⟩
    have HBa := hid (show Below (w.heap.size + 1 + 1) _ w1 from hb.mono (by simp))
    have HFB := hid (show w1.heap[w.heap.size]? = some (.cells #[.string p, .slice vp R.length vc, .slice up X.length uc] 24 (0, 0)) by rw [HBa.out.block _ (by omega)]; exact heap_old _ _ (heap_new w _))
    have HMB := hid (show w1.heap[w.heap.size + 1]? = some (.cells #[.string m.1, .string m.2] 26 (0, 0)) by
      rw [HBa.out.block _ (by omega)]
      have hz : (w.alloc (.cells #[.string p, .slice vp R.length vc, .slice up X.length uc] 24)).heap.size = w.heap.size + 1 := by simp
      have := heap_new (w.alloc (.cells #[.string p, .slice vp R.length vc, .slice up X.length uc] 24)) (.cells #[.string m.1, .string m.2] 26)
      rw [hz] at this
      exact this)
    obtain ⟨⟨f0, f1, f2⟩, ⟨m0, m1⟩, _, wz⟩ := bx32 HBa.out
    have HBw := hid (HB1.out.trans (hb.mono HB1.out.size))
    have HL1 := hid (fun n => long_any R _ (w1.drewN n) (HRR.out.below (below_drawn_of HBw.out n)))
    have HL2 := hid (fun n => long_any X _ (w1.drewN n) (HXX.out.below (below_drawn_of HBw.out n)))
    rw [hR] at HL1
    rw [hX] at HL2
    clear hb
    go_wp2_with fail
    go_quiet (first
      | (go_at_call_of 6 (Value.slice vp R.length vc); refine (HL1.out _).mono fun e w' h => ⟨h.1, _, h.2⟩)
      | (go_at_call_of 6 (Value.slice up X.length uc); refine (HL2.out _).mono fun e w' h => ⟨h.1, _, h.2⟩))
    clear HL1 HL2 f0 f1 f2 m0 m1 wz
    have HBd := hid (below_drawn_of HBw.out nq)
    have HFq := hid (show (w1.drewN nq).heap[w.heap.size]? = _ from HFB.out)
    have HMq := hid (show (w1.drewN nq).heap[w.heap.size + 1]? = _ from HMB.out)
    generalize w1.drewN nq = wq at *
    obtain ⟨f0, f1, f2⟩ := c3 HFq.out
    obtain ⟨m0, m1⟩ := c2 HMq.out
    go_wp2_with fail
    refine (ownF_any p R X _ _ wq (HFL.out.below HBd.out) HE1.out HE2.out).mono ?_
    rintro e w2 ⟨vo, uo, rfl, hcp⟩
    have HZV := hid hcp.zv
    have HZU := hid hcp.zu
    have HFO := hid (show Fl w2 R X vo uo from ⟨own_ms hcp.ov, own_ms hcp.ou, HFL.out.rs, HFL.out.xs, HFL.out.rn, HFL.out.xn⟩)
    obtain ⟨⟨a1, c1, rfl⟩, a2, c2, rfl⟩ := HFO.out.slices
    have HAo := hid ((Below.refl w2.heap.size w2).alloc (Nat.le_refl _) (.cells #[.string p, .slice a1 R.length c1, .slice a2 X.length c2] 24))
    have HT3 := hid (show Tf w (w2.alloc (.cells #[.string p, .slice a1 R.length c1, .slice a2 X.length c2] 24)) A k0 p R X (.slice vp R.length vc) (.slice up X.length uc) m w2.heap.size (.slice a1 R.length c1) (.slice a2 X.length c2) from
      ⟨HS.out, HFL.out, blk_keep (blk_keep HFq.out hcp.bl) HAo.out, blk_keep (blk_keep HMq.out hcp.bl) HAo.out, heap_new _ _, HFO.out.below HAo.out, (HBd.out.trans (hcp.bl.mono HBd.out.size)).trans (HAo.out.mono (HBd.out.trans (hcp.bl.mono HBd.out.size)).size)⟩)
    have HLO := hid (show w.heap.size + 1 < w2.heap.size from lt_of_blk (blk_keep HMq.out hcp.bl))
    clear hcp f0 f1 f2 m0 m1
    obtain ⟨f0, f1, f2, m0, m1, o0, o1, o2⟩ := HT3.out.cells
    have htt := str_refl (txOf p R X)
    go_wp2_with fail
    generalize w2.alloc (.cells #[.string p, .slice a1 R.length c1, .slice a2 X.length c2] 24) = w3 at *
    go_region_held (fun W => W.cell? ⟨w.heap.size, 0, none⟩ = some (.string p) ∧ W.cell? ⟨w.heap.size, 1, none⟩ = some (.slice vp R.length vc) ∧ W.cell? ⟨w.heap.size, 2, none⟩ = some (.slice up X.length uc) ∧ W.cell? ⟨w.heap.size + 1, 0, none⟩ = some (.string m.1) ∧ W.cell? ⟨w.heap.size + 1, 1, none⟩ = some (.string m.2) ∧ W.cell? ⟨w2.heap.size, 0, none⟩ = some (.string p) ∧ W.cell? ⟨w2.heap.size, 1, none⟩ = some (.slice a1 R.length c1) ∧ W.cell? ⟨w2.heap.size, 2, none⟩ = some (.slice a2 X.length c2) ∧ Hid (Tf w W A k0 p R X (.slice vp R.length vc) (.slice up X.length uc) m w2.heap.size (.slice a1 R.length c1) (.slice a2 X.length c2))) (first | exact HTe.out.held | exact HTd.out.held | exact HTc.out.held | exact HTb.out.held | exact HTa.out.held | exact HT3.out.drew.held) (first
      | (go_at_call 9; refine (fcheck_any p R X _ _ A k0 _ HP.out ?_ ?_).mono ?_; exact HT3.out.drew.te; exact HT3.out.drew.fo; rintro e w' ⟨x, rfl, hx, hb⟩; have HTa := hid (HT3.out.drew.below hb); have HXa := hid hx; clear hx hb)
      | (go_at_call 10; refine (ffault_any p R X _ _ _ HP.out ?_).mono ?_; exact HTa.out.fl; rintro e w' ⟨rfl, hb⟩; have HTb := hid (HTa.out.below hb); have HXb := hid (HXa.out.below hb); clear hb)
      | (go_at_call 8; refine (faulted_any A k0 _ (fileF p R X) _ ?_ ?_ (fileF_le p R X)).mono ?_; exact HTb.out.te; exact HXb.out; rintro e w' ⟨rfl, hb⟩; have HTc := hid (HTb.out.below hb); clear hb)
      | (go_at_call 11; refine (ftext_out p R X _ _ A k0 _ HP.out ?_ ?_).mono ?_; exact HTc.out.te; exact HTc.out.fo; rintro e w' ⟨rfl, hb⟩; have HTd := hid (HTc.out.below hb); clear hb)
      | (go_at_call 12; refine (rtext_out p R X _ _ _ HP.out ?_).mono ?_; exact HTd.out.fl; rintro e w' ⟨rfl, hb⟩; have HTe := hid (HTd.out.below hb); clear hb))
    all_goals
      clear f0 f1 f2 m0 m1 o0 o1 o2 htt
      go_wp2_with fail
      refine (fread_out s A k0 _ HTe.out.te).mono ?_
      rintro e w5 ⟨v5, u5, x5, rfl, hx5, hv5, hu5, hb⟩
      have HT5 := hid (HTe.out.below hb)
      have HX5 := hid hx5
      have HFS := hid (read_fs s.data.toList)
      have HRL := hid (read_le s.data.toList)
      have HRQ := hid (fun W => rdf_out s W)
      generalize readOut s.data.toList = ro at *
      have HF5 := hid (HFS.out.fl hv5 hu5)
      obtain ⟨⟨xa, xn, xc, rfl⟩, ya, yn, yc, rfl⟩ := HF5.out.slices'
      have HAx := hid ((Below.refl w5.heap.size w5).alloc (Nat.le_refl _) (.cells #[.string ro.2.1, .slice xa xn xc, .slice ya yn yc] 24))
      have HT6 := hid (HT5.out.below HAx.out)
      have HB6 := hid (heap_new w5 (.cells #[.string ro.2.1, .slice xa xn xc, .slice ya yn yc] 24))
      have HF6 := hid (HF5.out.below HAx.out)
      have HX6 := hid (HX5.out.below HAx.out)
      have HLX := hid (show w2.heap.size < w5.heap.size from lt_of_blk HT5.out.ob)
      clear hx5 hv5 hu5 hb
      go_wp2_with fail
      generalize w5.alloc (.cells #[.string ro.2.1, .slice xa xn xc, .slice ya yn yc] 24) = w6 at *
      refine (HRQ.out w6).mono ?_
      rintro e w7 ⟨v7, u7, rfl, hv7, hu7, hb⟩
      have HT7 := hid (HT6.out.below hb)
      have HB7 := hid (blk_keep HB6.out hb)
      have HF7 := hid (HF6.out.below hb)
      have HX7 := hid (HX6.out.below hb)
      have HY7 := hid (HFS.out.fl hv7 hu7)
      obtain ⟨⟨za, zn, zc, rfl⟩, ta, tn, tc, rfl⟩ := HY7.out.slices'
      have HAy := hid ((Below.refl w7.heap.size w7).alloc (Nat.le_refl _) (.cells #[.string ro.2.1, .slice za zn zc, .slice ta tn tc] 24))
      have HAg := hid ((Below.refl _ (w7.alloc (.cells #[.string ro.2.1, .slice za zn zc, .slice ta tn tc] 24))).alloc (Nat.le_refl _) (.cells #[.int .i64 (ro.1.1 : Nat), .int .i64 (atOf ro.1.2)] 35))
      have HT8 := hid ((HT7.out.below HAy.out).below HAg.out)
      have HB8 := hid (blk_keep (blk_keep HB7.out HAy.out) HAg.out)
      have HC8 := hid (blk_keep (heap_new w7 (.cells #[.string ro.2.1, .slice za zn zc, .slice ta tn tc] 24)) HAg.out)
      have HG8 := hid (heap_new (w7.alloc (.cells #[.string ro.2.1, .slice za zn zc, .slice ta tn tc] 24)) (.cells #[.int .i64 (ro.1.1 : Nat), .int .i64 (atOf ro.1.2)] 35))
      rw [show (w7.alloc (.cells #[.string ro.2.1, .slice za zn zc, .slice ta tn tc] 24)).heap.size = w7.heap.size + 1 by simp] at HG8
      have HF8 := hid ((HF7.out.below HAy.out).below HAg.out)
      have HX8 := hid ((HX7.out.below HAy.out).below HAg.out)
      have HY8 := hid ((HY7.out.below HAy.out).below HAg.out)
      have HLY := hid (show w5.heap.size < w7.heap.size from lt_of_blk HB7.out)
      clear hv7 hu7 hb
      obtain ⟨x0, x1, x2⟩ := c3 HB8.out
      obtain ⟨y0, y1, y2⟩ := c3 HC8.out
      go_wp2_with fail
      generalize (w7.alloc (.cells #[.string ro.2.1, .slice za zn zc, .slice ta tn tc] 24)).alloc (.cells #[.int .i64 (ro.1.1 : Nat), .int .i64 (atOf ro.1.2)] 35) = w8 at *
      refine (sameF_any ro.2.1 ro.2.2.1 ro.2.2.2 _ _ _ _ w8 HF8.out HY8.out).mono ?_
      rintro e w9 ⟨rfl, hb⟩
      have HT9 := hid (HT8.out.below hb)
      have HB9 := hid (blk_keep HB8.out hb)
      have HC9 := hid (blk_keep HC8.out hb)
      have HG9 := hid (blk_keep HG8.out hb)
      have HX9 := hid (HX8.out.below hb)
      clear hb x0 x1 x2 y0 y1 y2
      obtain ⟨g0, g1⟩ := Ve.c2 HG9.out
      go_wp2_with fail
      refine (faulted_any A k0 _ ro.1 w9 HT9.out.te HX9.out HRL.out).mono ?_
      rintro e w10 ⟨rfl, hb⟩
      have HT10 := hid (HT9.out.below hb)
      have HB10 := hid (blk_keep HB9.out hb)
      have HC10 := hid (blk_keep HC9.out hb)
      clear hb g0 g1
      have nA1 : ¬ w.heap.size = w5.heap.size := by have := HLO.out; have := HLX.out; omega
      have nA2 : ¬ w5.heap.size = w.heap.size := by have := HLO.out; have := HLX.out; omega
      have nA3 : ¬ w.heap.size + 1 = w5.heap.size := by have := HLO.out; have := HLX.out; omega
      have nA4 : ¬ w5.heap.size = w.heap.size + 1 := by have := HLO.out; have := HLX.out; omega
      have nA5 : ¬ w2.heap.size = w5.heap.size := by have := HLX.out; omega
      have nA6 : ¬ w5.heap.size = w2.heap.size := by have := HLX.out; omega
      have nB1 : ¬ w.heap.size = w7.heap.size := by have := HLO.out; have := HLX.out; have := HLY.out; omega
      have nB2 : ¬ w7.heap.size = w.heap.size := by have := HLO.out; have := HLX.out; have := HLY.out; omega
      have nB3 : ¬ w.heap.size + 1 = w7.heap.size := by have := HLO.out; have := HLX.out; have := HLY.out; omega
      have nB4 : ¬ w7.heap.size = w.heap.size + 1 := by have := HLO.out; have := HLX.out; have := HLY.out; omega
      have nB5 : ¬ w2.heap.size = w7.heap.size := by have := HLX.out; have := HLY.out; omega
      have nB6 : ¬ w7.heap.size = w2.heap.size := by have := HLX.out; have := HLY.out; omega
      have nC1 : ¬ w5.heap.size = w7.heap.size := by have := HLY.out; omega
      have nC2 : ¬ w7.heap.size = w5.heap.size := by have := HLY.out; omega
      obtain ⟨f0, f1, f2, m0, m1, o0, o1, o2⟩ := HT10.out.cells
      go_wp2_with fail
      refine (set_any p R X _ _ m A k0 w10 HP.out HT10.out.te HT10.out.fo HZV.out HZU.out HM1.out).mono ?_
      intro e w11 hsp
      obtain ⟨vA, uA, rfl, hv, hu, hb⟩ := setP_out hsp
      have HFSA := hid (set_fs (p := p) (R := R) (X := X) (m := m) HFL.out.rs HFL.out.xs HFL.out.xn HM1.out)
      have HLEA := hid (ok_le p R X m)
      have HSBA := hid (fun W (FW : Fl W R X (.slice vp R.length vc) (.slice up X.length uc)) => setOf_any p R X _ _ m W HP.out FW HM1.out)
      unfold SetQ at HSBA
      generalize outS p X (setF p R X m) = so at *
      have HF11 := hid (HFSA.out.fl hv hu)
      obtain ⟨⟨xaA, xnA, xcA, rfl⟩, yaA, ynA, ycA, rfl⟩ := HF11.out.slices'
      have HT11 := hid (HT10.out.below hb)
      have HB11 := hid (blk_keep HB10.out hb)
      have HC11 := hid (blk_keep HC10.out hb)
      clear hsp hv hu hb f0 f1 f2 m0 m1 o0 o1 o2
      obtain ⟨x0, x1, x2⟩ := c3 HB11.out
      have xf := fun o => Lib.frozen_of_heap HB11.out o
      have HT12 := hid (HT11.out.put HB11.out (by have := HLO.out; have := HLX.out; omega) (by have := HLX.out; omega) (.string so.2.1) (.slice xaA xnA xcA) (.slice yaA ynA ycA))
      have HB12 := hid (put3_block (x := .string so.2.1) (y := .slice xaA xnA xcA) (z := .slice yaA ynA ycA) HB11.out)
      have HC12 := hid (put3_keep (x := .string so.2.1) (y := .slice xaA xnA xcA) (z := .slice yaA ynA ycA) HC11.out (show w7.heap.size ≠ w5.heap.size by have := HLY.out; omega))
      have HF12 := hid (HF11.out.put HB11.out (.string so.2.1) (.slice xaA xnA xcA) (.slice yaA ynA ycA))
      obtain ⟨f0, f1, f2, m0, m1, o0, o1, o2⟩ := HT11.out.cells
      go_wp2_with fail
      refine (HSBA.out _ HT12.out.fl).mono ?_
      clear f0 f1 f2 m0 m1 o0 o1 o2 x0 x1 x2 xf
      rintro e w13 ⟨v9, u9, rfl, hv, hu, hb⟩
      have HT13 := hid (HT12.out.below hb)
      have HB13 := hid (blk_keep HB12.out hb)
      have HC13 := hid (blk_keep HC12.out hb)
      have HF13 := hid (HF12.out.below hb)
      have HY13 := hid (HFSA.out.fl hv hu)
      obtain ⟨⟨zaA, znA, zcA, rfl⟩, taA, tnA, tcA, rfl⟩ := HY13.out.slices'
      clear hv hu hb
      obtain ⟨y0, y1, y2⟩ := c3 HC13.out
      have yf := fun o => Lib.frozen_of_heap HC13.out o
      have HT14 := hid (HT13.out.put HC13.out (by have := HLO.out; have := HLX.out; have := HLY.out; omega) (by have := HLX.out; have := HLY.out; omega) (.string so.2.1) (.slice zaA znA zcA) (.slice taA tnA tcA))
      have HC14 := hid (put3_block (x := .string so.2.1) (y := .slice zaA znA zcA) (z := .slice taA tnA tcA) HC13.out)
      have HB14 := hid (put3_keep (x := .string so.2.1) (y := .slice zaA znA zcA) (z := .slice taA tnA tcA) HB13.out (show w5.heap.size ≠ w7.heap.size by have := HLY.out; omega))
      have HF14 := hid (HF13.out.put HC13.out (.string so.2.1) (.slice zaA znA zcA) (.slice taA tnA tcA))
      have HY14 := hid (HY13.out.put HC13.out (.string so.2.1) (.slice zaA znA zcA) (.slice taA tnA tcA))
      obtain ⟨x0, x1, x2⟩ := c3 HB13.out
      go_wp2_with fail
      refine (sameF_any so.2.1 so.2.2.1 so.2.2.2 _ _ _ _ _ HF14.out HY14.out).mono ?_
      clear x0 x1 x2 y0 y1 y2 yf
      rintro e w15 ⟨rfl, hb⟩
      have HT15 := hid (HT14.out.below hb)
      have HB15 := hid (blk_keep HB14.out hb)
      have HC15 := hid (blk_keep HC14.out hb)
      clear hb
      go_wp2_with fail
      refine (coded_A A k0 so.1 w15 HT15.out.te HLEA.out).mono ?_
      rintro e w20 ⟨rfl, hb⟩
      have HT20 := hid (HT15.out.below hb)
      have HB20 := hid (blk_keep HB15.out hb)
      have HC20 := hid (blk_keep HC15.out hb)
      clear hb
      obtain ⟨f0, f1, f2, m0, m1, o0, o1, o2⟩ := HT20.out.cells
      go_wp2_with fail
      refine (drop_any p R X _ _ m.1 A k0 w20 HP.out HT20.out.te HT20.out.fo HZV.out HZU.out).mono ?_
      intro e w21 hsp
      obtain ⟨vB, uB, rfl, hv, hu, hb⟩ := setP_out hsp
      have HFSB := hid (drop_fs (p := p) (R := R) (X := X) (t := m.1) HFL.out.rs HFL.out.xs HFL.out.rn HFL.out.xn)
      have HLEB := hid (drop_le p R X m.1)
      have HSBB := hid (fun W (FW : Fl W R X (.slice vp R.length vc) (.slice up X.length uc)) => dropOf_any p R X _ _ m.1 W HP.out FW)
      unfold SetQ at HSBB
      generalize outS p X (dropF p R X m.1) = dd at *
      have HF21 := hid (HFSB.out.fl hv hu)
      obtain ⟨⟨xaB, xnB, xcB, rfl⟩, yaB, ynB, ycB, rfl⟩ := HF21.out.slices'
      have HT21 := hid (HT20.out.below hb)
      have HB21 := hid (blk_keep HB20.out hb)
      have HC21 := hid (blk_keep HC20.out hb)
      clear hsp hv hu hb f0 f1 f2 m0 m1 o0 o1 o2
      obtain ⟨x0, x1, x2⟩ := c3 HB21.out
      have xf := fun o => Lib.frozen_of_heap HB21.out o
      have HT22 := hid (HT21.out.put HB21.out (by have := HLO.out; have := HLX.out; omega) (by have := HLX.out; omega) (.string dd.2.1) (.slice xaB xnB xcB) (.slice yaB ynB ycB))
      have HB22 := hid (put3_block (x := .string dd.2.1) (y := .slice xaB xnB xcB) (z := .slice yaB ynB ycB) HB21.out)
      have HC22 := hid (put3_keep (x := .string dd.2.1) (y := .slice xaB xnB xcB) (z := .slice yaB ynB ycB) HC21.out (show w7.heap.size ≠ w5.heap.size by have := HLY.out; omega))
      have HF22 := hid (HF21.out.put HB21.out (.string dd.2.1) (.slice xaB xnB xcB) (.slice yaB ynB ycB))
      obtain ⟨f0, f1, f2, m0, m1, o0, o1, o2⟩ := HT21.out.cells
      go_wp2_with fail
      refine (HSBB.out _ HT22.out.fl).mono ?_
      clear f0 f1 f2 m0 m1 o0 o1 o2 x0 x1 x2 xf
      rintro e w23 ⟨v9, u9, rfl, hv, hu, hb⟩
      have HT23 := hid (HT22.out.below hb)
      have HB23 := hid (blk_keep HB22.out hb)
      have HC23 := hid (blk_keep HC22.out hb)
      have HF23 := hid (HF22.out.below hb)
      have HY23 := hid (HFSB.out.fl hv hu)
      obtain ⟨⟨zaB, znB, zcB, rfl⟩, taB, tnB, tcB, rfl⟩ := HY23.out.slices'
      clear hv hu hb
      obtain ⟨y0, y1, y2⟩ := c3 HC23.out
      have yf := fun o => Lib.frozen_of_heap HC23.out o
      have HT24 := hid (HT23.out.put HC23.out (by have := HLO.out; have := HLX.out; have := HLY.out; omega) (by have := HLX.out; have := HLY.out; omega) (.string dd.2.1) (.slice zaB znB zcB) (.slice taB tnB tcB))
      have HC24 := hid (put3_block (x := .string dd.2.1) (y := .slice zaB znB zcB) (z := .slice taB tnB tcB) HC23.out)
      have HB24 := hid (put3_keep (x := .string dd.2.1) (y := .slice zaB znB zcB) (z := .slice taB tnB tcB) HB23.out (show w5.heap.size ≠ w7.heap.size by have := HLY.out; omega))
      have HF24 := hid (HF23.out.put HC23.out (.string dd.2.1) (.slice zaB znB zcB) (.slice taB tnB tcB))
      have HY24 := hid (HY23.out.put HC23.out (.string dd.2.1) (.slice zaB znB zcB) (.slice taB tnB tcB))
      obtain ⟨x0, x1, x2⟩ := c3 HB23.out
      go_wp2_with fail
      refine (sameF_any dd.2.1 dd.2.2.1 dd.2.2.2 _ _ _ _ _ HF24.out HY24.out).mono ?_
      clear x0 x1 x2 y0 y1 y2 yf
      rintro e w25 ⟨rfl, hb⟩
      have HT25 := hid (HT24.out.below hb)
      have HB25 := hid (blk_keep HB24.out hb)
      have HC25 := hid (blk_keep HC24.out hb)
      clear hb
      obtain ⟨f0, f1, f2, m0, m1, o0, o1, o2⟩ := HT25.out.cells
      go_wp2_with fail
      refine (sameF_any p R X _ _ _ _ w25 HT25.out.fo HT25.out.fl).mono ?_
      rintro e w26 ⟨rfl, hb⟩
      have HT26 := hid (HT25.out.below hb)
      clear hb f0 f1 f2 m0 m1 o0 o1 o2
      go_wp2_with fail
      refine (coded_A A k0 dd.1 w26 HT26.out.te HLEB.out).mono ?_
      rintro e w27 ⟨rfl, hb⟩
      have HT27 := hid (HT26.out.below hb)
      clear hb
      go_wp2_with fail
      go_ret
      exact ⟨rfl, HT27.out.bl⟩
end Ve
end Go.Proofs.YtjhlkjgijbobcaaGreatDoor
