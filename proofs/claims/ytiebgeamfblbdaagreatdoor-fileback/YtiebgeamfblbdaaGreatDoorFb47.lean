/-
  FilZG
-/
import Derived.Test.YtiebgeamfblbdaaGreatDoorFb46
namespace Go.Proofs.YtiebgeamfblbdaaGreatDoor
open Go.RowKit
namespace Ve
theorem fits_iff {p : ByteArray} {R X : List Bm} {m : Bm} (h : fits p R X m = true) : p.size ≤ 90 ∧ okL R = true ∧ okL X = true ∧ m.1.size ≤ 90 ∧ m.2.size ≤ 60 := by
  unfold fits at h
  simp only [Bool.and_eq_true] at h
  exact ⟨of_decide_eq_true h.1.1.1, h.1.1.2.1, h.1.1.2.2, of_decide_eq_true h.1.2, of_decide_eq_true h.2⟩
theorem ok_short {L : List Bm} (h : okL L = true) : shortL L ∧ L.length ≤ 1000000 := by
  obtain ⟨h1, h2⟩ := okL_iff h
  exact ⟨fun m hm => by have := h2 m hm; omega, by omega⟩
theorem setF_ok {p : ByteArray} {R X R' : List Bm} {m : Bm} (h : setF p R X m = .ok R') : R' = setR R m ∧ (fileF p (setR R m) X).1 = 0 := by
  unfold setF at h
  split at h
  · split at h
    · rename_i h2
      injection h with h
      exact ⟨h.symm, h2⟩
    · cases h
  · cases h
theorem dropF_set {p : ByteArray} {R X : List Bm} {m : Bm} (h : (fileF p (setR R m) X).1 = 0) : dropF p (setR R m) X m.1 = .ok (dropR R m.1) := by
  unfold dropF
  rw [if_pos h, eq_set, if_neg (by simp), drop_set]
theorem ms_put {W : World} {b : Nat} {v x y z : Value} {s : ByteArray} {L : List Bm} {T : TypeId} {p1 p2 : Option Addr} {n1 c1 n2 c2 : Nat} (h : MsAt W v L) (hb : W.heap[b]? = some (.cells #[.string s, .slice p1 n1 c1, .slice p2 n2 c2] T (0, 0))) : MsAt (put3 W b x y z) v L := by
  obtain ⟨a, c, e, hc, h2⟩ := h
  refine ⟨a, c, e, hc, fun hL => ?_⟩
  obtain ⟨g, o, e2, h3⟩ := h2 hL
  have hne : g ≠ b := fun eg => by
    have hp : 0 < L.length := List.length_pos_iff.2 hL
    obtain ⟨k1, k2⟩ := h3 0 hp
    rw [eg, Lib.cell_of_heap hb] at k1 k2
    match o with
    | 0 => simp at k2
    | 1 => simp at k1
    | 2 => simp at k1
    | o + 3 => simp at k1
  exact ⟨g, o, e2, fun j hj => ⟨by rw [put3_cell hne]; exact (h3 j hj).1, by rw [put3_cell hne]; exact (h3 j hj).2⟩⟩
theorem put3_block {W : World} {b : Nat} {x y z a1 a2 a3 : Value} {T : TypeId} (hb : W.heap[b]? = some (.cells #[a1, a2, a3] T (0, 0))) : (put3 W b x y z).heap[b]? = some (.cells #[x, y, z] T (0, 0)) := by
  unfold put3
  rw [set_block (set_block (set_block hb))]; rfl
theorem rel_next {t n : Nat} (h : t < n) (h2 : n ≤ 20) : Value.int .i64 (wrap64 ((t : Int) + 1)) = .int .i64 ((t + 1 : Nat) : Int) := by
  rw [IntWalk.wrap64_in _ (by omega)]; rfl
theorem meas_next {t n : Nat} (h : t < n) (h2 : n ≤ 20) : n - (intOf (Value.int .i64 (wrap64 ((t : Int) + 1)))).toNat < n - (intOf (Value.int .i64 (t : Int))).toNat := by
  rw [IntWalk.wrap64_in _ (by omega)]
  simp [intOf]; omega
set_option maxHeartbeats 2000000 in
set_option maxRecDepth 100000 in
theorem back_main (p : ByteArray) (R X : List Bm) (v u : Value) (m : Bm) (A : Nat → Addr) (k0 : Int) (w : World) (S : Te w A k0) (hr : MsAt w v R) (hx : MsAt w u X) (he : Em v R) (hx2 : Em u X) (h : fits p R X m = true) :
    Calls Tryz.prog 3 #[.agg #[.string p, v, u], .agg #[.string m.1, .string m.2]] w fun e w' => e = .returned (.bool true) ∧ Below w.heap.size w w' := by
  obtain ⟨h1, hR, hX, h3, h4⟩ := fits_iff h
  have HFL := hid (show Fl w R X v u from ⟨hr, hx, (ok_short hR).1, (ok_short hX).1, (ok_short hR).2, (ok_short hX).2⟩)
  obtain ⟨⟨vp, vc, ev⟩, up, uc, eu⟩ := HFL.out.slices
  subst ev; subst eu
  have HB1 := hid (((Below.refl w.heap.size w).alloc (Nat.le_refl _) (.cells #[.string p, .slice vp R.length vc, .slice up X.length uc] 24)).alloc (by simp) (.cells #[.string m.1, .string m.2] 26))
  have HS := hid S
  have HFD := hid (filed_any A k0 _ (S.below HB1.out))
  have HRR := hid hr
  have HXX := hid hx
  have HE1 := hid he
  have HE2 := hid hx2
  have HP := hid h1
  have HM1 := hid (show m.1.size < 999999 ∧ m.2.size < 999999 by omega)
  have HOR := hid hR
  have HOX := hid hX
  have hw0 : IntKind.i64.wrap 0 = 0 := by decide
  have q1 : decide ((90 : Int) < (p.size : Int)) = false := decide_eq_false (by omega)
  have q3 : decide ((90 : Int) < (m.1.size : Int)) = false := decide_eq_false (by omega)
  have q4 : decide ((60 : Int) < (m.2.size : Int)) = false := decide_eq_false (by omega)
  clear S hr hx he hx2 h h1 h3 h4
  go_enter Tryz.func3, Tryz.ntmps3
  go_wp2_with fail
  refine HFD.out.mono ?_
  rintro e w1 ⟨rfl, hb⟩
  have HBa := hid (show Below (w.heap.size + 1 + 1) _ w1 from hb.mono (by simp))
  obtain ⟨⟨f0, f1, f2⟩, ⟨m0, m1⟩, wz⟩ := boxes HBa.out
  have HBw := hid (HB1.out.trans (hb.mono HB1.out.size))
  have HL1 := hid (fun n => long_any R _ (w1.drewN n) (HRR.out.below (below_drawn_of HBw.out n)))
  have HL2 := hid (fun n => long_any X _ (w1.drewN n) (HXX.out.below (below_drawn_of HBw.out n)))
  rw [hR] at HL1
  rw [hX] at HL2
  clear hb hR hX
  go_wp2_with fail
  go_quiet (first
    | (go_at_call_of 5 (Value.slice vp R.length vc); refine (HL1.out _).mono fun e w' h => ⟨h.1, _, h.2⟩)
    | (go_at_call_of 5 (Value.slice up X.length uc); refine (HL2.out _).mono fun e w' h => ⟨h.1, _, h.2⟩))
  clear HL1 HL2 q1 q3 q4
  have HBd := hid (below_drawn_of HBw.out nq)
  replace f0 : (w1.drewN nq).cell? ⟨w.heap.size, 0, none⟩ = some (.string p) := f0
  replace f1 : (w1.drewN nq).cell? ⟨w.heap.size, 1, none⟩ = some (.slice vp R.length vc) := f1
  replace f2 : (w1.drewN nq).cell? ⟨w.heap.size, 2, none⟩ = some (.slice up X.length uc) := f2
  replace m0 : (w1.drewN nq).cell? ⟨w.heap.size + 1, 0, none⟩ = some (.string m.1) := m0
  replace m1 : (w1.drewN nq).cell? ⟨w.heap.size + 1, 1, none⟩ = some (.string m.2) := m1
  go_wp2_with fail
  refine (ownF_any p R X _ _ (w1.drewN nq) (HFL.out.below HBd.out) HE1.out HE2.out).mono ?_
  rintro e w2 ⟨vo, uo, rfl, hcp⟩
  have HCP := hid hcp
  have HFO := hid (show Fl w2 R X vo uo from ⟨own_ms hcp.ov, own_ms hcp.ou, HFL.out.rs, HFL.out.xs, HFL.out.rn, HFL.out.xn⟩)
  obtain ⟨⟨a1, c1, rfl⟩, a2, c2, rfl⟩ := HFO.out.slices
  have HB2 := hid (HBd.out.trans (hcp.bl.mono HBd.out.size))
  replace f0 := cell_below hcp.bl f0
  replace f1 := cell_below hcp.bl f1
  replace f2 := cell_below hcp.bl f2
  replace m0 := cell_below hcp.bl m0
  replace m1 := cell_below hcp.bl m1
  clear hcp
  have HAo := hid ((Below.refl w2.heap.size w2).alloc (Nat.le_refl _) (.cells #[.string p, .slice a1 R.length c1, .slice a2 X.length c2] 24))
  have HB3 := hid (HB2.out.trans (HAo.out.mono HB2.out.size))
  replace f0 := cell_below HAo.out f0
  replace f1 := cell_below HAo.out f1
  replace f2 := cell_below HAo.out f2
  replace m0 := cell_below HAo.out m0
  replace m1 := cell_below HAo.out m1
  have o0 : (w2.alloc (.cells #[.string p, .slice a1 R.length c1, .slice a2 X.length c2] 24)).cell? ⟨w2.heap.size, 0, none⟩ = some (.string p) := by simp
  have o1 : (w2.alloc (.cells #[.string p, .slice a1 R.length c1, .slice a2 X.length c2] 24)).cell? ⟨w2.heap.size, 1, none⟩ = some (.slice a1 R.length c1) := by simp
  have o2 : (w2.alloc (.cells #[.string p, .slice a1 R.length c1, .slice a2 X.length c2] 24)).cell? ⟨w2.heap.size, 2, none⟩ = some (.slice a2 X.length c2) := by simp
  have HS3 := hid (HS.out.below HB3.out)
  have HF3 := hid (HFO.out.below HAo.out)
  go_wp2_with fail
  refine (fcheck_any p R X _ _ A k0 _ (by have := HP.out; omega) HS3.out HF3.out).mono ?_
  rintro e w4 ⟨x, rfl, hx, hb⟩
  replace f0 := cell_below hb f0
  replace f1 := cell_below hb f1
  replace f2 := cell_below hb f2
  replace m0 := cell_below hb m0
  replace m1 := cell_below hb m1
  replace o0 := cell_below hb o0
  replace o1 := cell_below hb o1
  replace o2 := cell_below hb o2
  have HB4 := hid (HB3.out.trans (hb.mono HB3.out.size))
  have HS4 := hid (HS3.out.below hb)
  have HF4 := hid (HF3.out.below hb)
  have HX4 := hid hx
  clear hb hx
  by_cases hcode : (fileF p R X).1 = 0
  · have HC0 := hid hcode
    have h9 := HX4.out
    rw [hcode] at h9
    obtain rfl := errAt_nil h9
    clear h9 hcode
    have hsz8 : ¬ 8000 < (bt (fText (p, R, X))).size := by
      have := back_len HC0.out HP.out HOR.out HOX.out
      rw [← len_eq, bt_list]; omega
    have HT4 := hid (ftext_ok p R X _ _ A k0 w4 (by have := HP.out; omega) HS4.out HF4.out HC0.out)
    have HRD := hid (fun W (SW : Te W A k0) => fread_ok (bt (fText (p, R, X))) (p, R, X) A k0 W SW hsz8 (by rw [bt_list]; exact back_read HC0.out) HC0.out)
    clear hsz8
    generalize bt (fText (p, R, X)) = tx at *
    go_wp2_with fail
    refine HT4.out.mono ?_
    rintro e w5 ⟨rfl, hb⟩
    replace f0 := cell_below hb f0
    replace f1 := cell_below hb f1
    replace f2 := cell_below hb f2
    replace m0 := cell_below hb m0
    replace m1 := cell_below hb m1
    replace o0 := cell_below hb o0
    replace o1 := cell_below hb o1
    replace o2 := cell_below hb o2
    have HB5 := hid (HB4.out.trans (hb.mono HB4.out.size))
    have HS5 := hid (HS4.out.below hb)
    have HF5 := hid (HF4.out.below hb)
    clear hb
    go_wp2_with fail
    refine (HRD.out w5 HS5.out).mono ?_
    rintro e w6 ⟨vx, ux, rfl, hvx, hux, hb⟩
    replace f0 := cell_below hb f0
    replace f1 := cell_below hb f1
    replace f2 := cell_below hb f2
    replace m0 := cell_below hb m0
    replace m1 := cell_below hb m1
    replace o0 := cell_below hb o0
    replace o1 := cell_below hb o1
    replace o2 := cell_below hb o2
    have HB6 := hid (HB5.out.trans (hb.mono HB5.out.size))
    have HW6 := hid (show w.heap.size + 1 < w6.heap.size from lt_of_cell m0)
    have HS6 := hid (HS5.out.below hb)
    have HF6 := hid (HF5.out.below hb)
    have HFX := hid (show Fl w6 R X vx ux from ⟨hvx, hux, HFL.out.rs, HFL.out.xs, HFL.out.rn, HFL.out.xn⟩)
    obtain ⟨⟨b1, d1, rfl⟩, b2, d2, rfl⟩ := HFX.out.slices
    have HAx := hid ((Below.refl w6.heap.size w6).alloc (Nat.le_refl _) (.cells #[.string p, .slice b1 R.length d1, .slice b2 X.length d2] 24))
    clear hb hvx hux
    replace f0 := cell_below HAx.out f0
    replace f1 := cell_below HAx.out f1
    replace f2 := cell_below HAx.out f2
    replace m0 := cell_below HAx.out m0
    replace m1 := cell_below HAx.out m1
    replace o0 := cell_below HAx.out o0
    replace o1 := cell_below HAx.out o1
    replace o2 := cell_below HAx.out o2
    have HB7 := hid (HB6.out.trans (HAx.out.mono HB6.out.size))
    have HS7 := hid (HS6.out.below HAx.out)
    have HF7 := hid (HF6.out.below HAx.out)
    have HXB := hid (heap_new w6 (.cells #[.string p, .slice b1 R.length d1, .slice b2 X.length d2] 24))
    go_wp2_with fail
    refine (sameF_any p R X _ _ _ _ _ (HFX.out.below HAx.out) (HFL.out.below HB7.out)).mono ?_
    rintro e w8 ⟨rfl, hb⟩
    replace f0 := cell_below hb f0
    replace f1 := cell_below hb f1
    replace f2 := cell_below hb f2
    replace m0 := cell_below hb m0
    replace m1 := cell_below hb m1
    replace o0 := cell_below hb o0
    replace o1 := cell_below hb o1
    replace o2 := cell_below hb o2
    have HB8 := hid (HB7.out.trans (hb.mono HB7.out.size))
    have HS8 := hid (HS7.out.below hb)
    have HF8 := hid (HF7.out.below hb)
    have HXB8 := hid (show w8.heap[w6.heap.size]? = some (.cells #[.string p, .slice b1 R.length d1, .slice b2 X.length d2] 24 (0, 0)) by rw [hb.block _ (lt_of_blk HXB.out)]; exact HXB.out)
    clear hb
    go_wp2_with fail
    refine (set_any p R X _ _ m A k0 _ (by have := HP.out; omega) HS8.out HF8.out HCP.out.zv HCP.out.zu HM1.out).mono ?_
    rintro e w9 ⟨P, v9, u9, x9, rfl, hb, hm⟩
    have HB9 := hid (HB8.out.trans (hb.mono HB8.out.size))
    have HS9 := hid (HS8.out.below hb)
    have HXB9 := hid (show w9.heap[w6.heap.size]? = some (.cells #[.string p, .slice b1 R.length d1, .slice b2 X.length d2] 24 (0, 0)) by rw [hb.block _ (lt_of_blk HXB8.out)]; exact HXB8.out)
    have HLH := hid (show w.heap.size ≤ w6.heap.size from HB6.out.size)
    have HNE := hid (show w.heap.size + 1 < w6.heap.size from HW6.out)
    replace f0 := cell_below hb f0
    replace f1 := cell_below hb f1
    replace f2 := cell_below hb f2
    replace m0 := cell_below hb m0
    replace m1 := cell_below hb m1
    replace o0 := cell_below hb o0
    replace o1 := cell_below hb o1
    replace o2 := cell_below hb o2
    clear hb
    have x0 : w9.cell? ⟨w6.heap.size, 0, none⟩ = some (.string p) := by rw [Lib.cell_of_heap HXB9.out]; rfl
    have x1 : w9.cell? ⟨w6.heap.size, 1, none⟩ = some (.slice b1 R.length d1) := by rw [Lib.cell_of_heap HXB9.out]; rfl
    have x2 : w9.cell? ⟨w6.heap.size, 2, none⟩ = some (.slice b2 X.length d2) := by rw [Lib.cell_of_heap HXB9.out]; rfl
    have xf := fun o => Lib.frozen_of_heap HXB9.out o
    cases hsf : setF p R X m with
    | error c =>
      rw [hsf] at hm
      obtain ⟨hx9, hc0, rfl, rfl, rfl⟩ := hm
      rw [errA_if A hc0] at hx9
      subst hx9
      clear hsf hc0
      go_wp2_with fail
      go_ret
      exact ⟨rfl, put3_below HB9.out HLH.out⟩
    | ok R' =>
      rw [hsf] at hm
      obtain ⟨rfl, rfl, hv9, hu9, hz9⟩ := hm
      obtain ⟨rfl, hcode'⟩ := setF_ok hsf
      have HC9 := hid hcode'
      have HRI := hid (rising_ok HC0.out).1
      have HRS := hid (rising_ok hcode').1
      have HLR := hid (rising_ok hcode').2.1
      have HF9 := hid (show Fl w9 (setR R m) X v9 u9 from ⟨hv9, hu9, set_short HFL.out.rs HM1.out, HFL.out.xs, by have := HLR.out; omega, HFL.out.xn⟩)
      have HZ9 := hid hz9
      obtain ⟨⟨e1, g1, rfl⟩, e2, g2, rfl⟩ := HF9.out.slices
      clear hv9 hu9 hz9 hsf hcode'
      have HF10 := hid (show Fl (put3 w9 w6.heap.size (.string P) (.slice e1 (setR R m).length g1) (.slice e2 X.length g2)) (setR R m) X (.slice e1 (setR R m).length g1) (.slice e2 X.length g2) from ⟨ms_put HF9.out.r HXB9.out, ms_put HF9.out.x HXB9.out, HF9.out.rs, HF9.out.xs, HF9.out.rn, HF9.out.xn⟩)
      have HFR := hid (show MsAt (put3 w9 w6.heap.size (.string P) (.slice e1 (setR R m).length g1) (.slice e2 X.length g2)) (.slice vp R.length vc) R from ms_put (HFL.out.below HB9.out).r HXB9.out)
      have HB10 := hid (put3_below (x := .string P) (y := .slice e1 (setR R m).length g1) (z := .slice e2 X.length g2) HB9.out HLH.out)
      have HXB10 := hid (put3_block (x := .string P) (y := .slice e1 (setR R m).length g1) (z := .slice e2 X.length g2) HXB9.out)
      have f0' := (put3_cell (W := w9) (b := w6.heap.size) (x := .string P) (y := .slice e1 (setR R m).length g1) (z := .slice e2 X.length g2) (by have := HNE.out; omega)).trans f0
      have f1' := (put3_cell (W := w9) (b := w6.heap.size) (x := .string P) (y := .slice e1 (setR R m).length g1) (z := .slice e2 X.length g2) (by have := HNE.out; omega)).trans f1
      have f2' := (put3_cell (W := w9) (b := w6.heap.size) (x := .string P) (y := .slice e1 (setR R m).length g1) (z := .slice e2 X.length g2) (by have := HNE.out; omega)).trans f2
      have m0' := (put3_cell (W := w9) (b := w6.heap.size) (x := .string P) (y := .slice e1 (setR R m).length g1) (z := .slice e2 X.length g2) (by have := HNE.out; omega)).trans m0
      have m1' := (put3_cell (W := w9) (b := w6.heap.size) (x := .string P) (y := .slice e1 (setR R m).length g1) (z := .slice e2 X.length g2) (by have := HNE.out; omega)).trans m1
      have x0' : (put3 w9 w6.heap.size (.string P) (.slice e1 (setR R m).length g1) (.slice e2 X.length g2)).cell? ⟨w6.heap.size, 0, none⟩ = some (.string P) := by rw [Lib.cell_of_heap HXB10.out]; rfl
      have x1' : (put3 w9 w6.heap.size (.string P) (.slice e1 (setR R m).length g1) (.slice e2 X.length g2)).cell? ⟨w6.heap.size, 1, none⟩ = some (.slice e1 (setR R m).length g1) := by rw [Lib.cell_of_heap HXB10.out]; rfl
      have x2' : (put3 w9 w6.heap.size (.string P) (.slice e1 (setR R m).length g1) (.slice e2 X.length g2)).cell? ⟨w6.heap.size, 2, none⟩ = some (.slice e2 X.length g2) := by rw [Lib.cell_of_heap HXB10.out]; rfl
      have hne1 : ¬ w.heap.size = w6.heap.size := by have := HNE.out; omega
      have hne2 : ¬ w6.heap.size = w.heap.size := by have := HNE.out; omega
      have hne3 : ¬ w.heap.size + 1 = w6.heap.size := by have := HNE.out; omega
      have hne4 : ¬ w6.heap.size = w.heap.size + 1 := by have := HNE.out; omega
      go_wp2_with fail
      refine (fp_any (setR R m) m.1 _ _ HF10.out.rn HF10.out.r).mono ?_
      rintro e w10 ⟨r, rfl, hfp, hw10⟩
      have hw10' : w10 = put3 w9 w6.heap.size (.string P) (.slice e1 (setR R m).length g1) (.slice e2 X.length g2) := hw10
      rw [← hw10'] at f0' f1' f2' m0' m1' x0' x1' x2' HF10 HFR HB10 HXB10
      clear hw10 hw10' f0 f1 f2 m0 m1 x0 x1 x2 xf o0 o1 o2 hne1 hne2 hne3 hne4
      obtain ⟨k, rfl, hk, hRk⟩ := fp_set HRS.out hfp
      clear hfp
      go_wp2_with fail
      refine (fp_any R m.1 _ w10 HFL.out.rn HFR.out).mono ?_
      rintro e w10 ⟨r2, rfl, hfp2, rfl⟩
      have HLS := hid (len_set HRI.out hfp2)
      clear hfp2
      obtain ⟨aq, cq, eq1, _, hcq⟩ := HF10.out.r
      obtain ⟨bb, oo, eq2, hcells⟩ := hcq (fun e => by rw [e] at hk; simp at hk)
      injection eq1 with eq3 eq5 eq4
      rw [eq2] at eq3
      subst eq3
      subst eq4
      clear eq5
      have y0 := (hcells k hk).1
      have y1 := (hcells k hk).2
      rw [hRk] at y0 y1
      have hnq := fun W => modNeq m.1 m.2 m.1 m.2 W
      rw [decide_eq_true ⟨rfl, rfl⟩, Bool.not_true] at hnq
      have hgd := modGuard
      have hkI : (k : Int) < ((setR R m).length : Int) := by omega
      have hk0 : (0 : Int) ≤ (k : Int) := by omega
      have HKL := hid hk
      have hlr := HLR.out
      have hw1 : IntKind.i64.wrap ((R.length : Int) + 1) = (R.length : Int) + 1 := by rw [IntKind.wrap_i64]; have := (rising_ok HC0.out).2.1; omega
      clear hcq hcells hRk hk
      rcases HLS.out with ⟨rfl, hls⟩ | ⟨hr2, hls⟩
      · have l1 : (((setR R m).length : Int) == (R.length : Int) + 1) = true := by simp [hls]
        have l2 : (((setR R m).length : Int) != (R.length : Int) + 1) = false := by simp [hls]
        have l3 : ((setR R m).length : Int) = (R.length : Int) + 1 := by omega
        clear hls
        go_wp2_with fail
        go_quiet (fail)
        clear l1 l2 l3
        have HD10 := hid (below_drawn w10 nq)
        replace f0' := cell_below HD10.out f0'
        replace f1' := cell_below HD10.out f1'
        replace f2' := cell_below HD10.out f2'
        replace m0' := cell_below HD10.out m0'
        replace m1' := cell_below HD10.out m1'
        replace x0' := cell_below HD10.out x0'
        replace x1' := cell_below HD10.out x1'
        replace x2' := cell_below HD10.out x2'
        have HBq := hid (HB10.out.trans (HD10.out.mono HB10.out.size))
        clear y0 y1 hnq hw1 hkI hk0
        go_wp2_with fail
        refine (drop_any P (setR R m) X _ _ m.1 A k0 _ (by have := HP.out; omega) (HS.out.below HBq.out) (HF10.out.below HD10.out) (fun e => absurd (set_mem R m) (by rw [e]; simp)) HZ9.out).mono ?_
        rintro e w12 ⟨P2, vy, uy, xe, rfl, hb, hm⟩
        rw [dropF_set HC9.out] at hm
        obtain ⟨rfl, rfl, hvy, huy, _⟩ := hm
        have HVY := hid hvy
        obtain ⟨ay, cy, evy, _⟩ := hvy
        obtain ⟨az, cz, evz, _⟩ := huy
        subst evy; subst evz
        have HB12 := hid (HBq.out.trans (hb.mono HBq.out.size))
        replace f0' := cell_below hb f0'
        replace f1' := cell_below hb f1'
        replace f2' := cell_below hb f2'
        replace m0' := cell_below hb m0'
        replace m1' := cell_below hb m1'
        replace x0' := cell_below hb x0'
        replace x1' := cell_below hb x1'
        replace x2' := cell_below hb x2'
        have HAy := hid ((Below.refl w12.heap.size w12).alloc (Nat.le_refl _) (.cells #[.string P2, .slice ay (dropR R m.1).length cy, .slice az X.length cz] 24))
        clear hb
        replace f0' := cell_below HAy.out f0'
        replace f1' := cell_below HAy.out f1'
        replace f2' := cell_below HAy.out f2'
        replace m0' := cell_below HAy.out m0'
        replace m1' := cell_below HAy.out m1'
        replace x0' := cell_below HAy.out x0'
        replace x1' := cell_below HAy.out x1'
        replace x2' := cell_below HAy.out x2'
        have HB13 := hid (HB12.out.trans (HAy.out.mono HB12.out.size))
        have z1 : (w12.alloc (.cells #[.string P2, .slice ay (dropR R m.1).length cy, .slice az X.length cz] 24)).cell? ⟨w12.heap.size, 1, none⟩ = some (.slice ay (dropR R m.1).length cy) := by simp
        have HVY2 := hid (HVY.out.below HAy.out)
        have HLD := hid (len_drop R m)
        have HDL := hid (show (dropR R m.1).length ≤ 1000000 by have := HLR.out; have := HLD.out; omega)
        have d1 : (((dropR R m.1).length : Int) == ((setR R m).length : Int) - 1) = true := by have := HLD.out; simp; omega
        have d2 : (((dropR R m.1).length : Int) != ((setR R m).length : Int) - 1) = false := by have := HLD.out; simp; omega
        have d3 : ((dropR R m.1).length : Int) = ((setR R m).length : Int) - 1 := by have := HLD.out; omega
        have hw3 : IntKind.i64.wrap (((setR R m).length : Int) - 1) = ((setR R m).length : Int) - 1 := by rw [IntKind.wrap_i64]; have := HLR.out; omega
        go_wp2_with fail
        refine (fp_any (dropR R m.1) m.1 _ _ HDL.out HVY2.out).mono ?_
        rintro e w13 ⟨r3, rfl, hfp3, hw13⟩
        obtain rfl := fp_drop hfp3
        rw [← hw13] at f0' f1' f2' m0' m1' x0' x1' x2' z1 HVY2 HB13
        clear hfp3 hw13 HAy
        go_wp2_with fail
        clear d1 d2 d3 hw3 x0' x1' x2'
        go_loopw [13] (fun i wr => ∃ t : Nat, t ≤ R.length ∧ i = .int .i64 t ∧ Hid (Below w13.heap.size w13 wr)) (fun i _ => R.length - (intOf i).toNat)
        case atStart => exact ⟨0, Nat.zero_le _, rfl, hid (Below.refl _ _)⟩
        case round =>
          obtain ⟨t, ht, rfl, HBR⟩ := hrel
          have HBT := hid (HB13.out.trans (HBR.out.mono HB13.out.size))
          replace f0' := cell_below HBR.out f0'
          replace f1' := cell_below HBR.out f1'
          replace f2' := cell_below HBR.out f2'
          replace m0' := cell_below HBR.out m0'
          replace m1' := cell_below HBR.out m1'
          replace z1 := cell_below HBR.out z1
          by_cases hlt : t < R.length
          · obtain ⟨ar, cr, er, _, hcr⟩ := (HFL.out.below HBT.out).r
            obtain ⟨rb, ro, er2, hrc⟩ := hcr (fun e => by rw [e] at hlt; simp at hlt)
            injection er with er3 er4 er5
            rw [er2] at er3
            subst er3
            subst er5
            clear er4 hcr
            have r0 := (hrc t hlt).1
            have r1 := (hrc t hlt).2
            have HMQ := hid (HVY2.out.below HBR.out)
            have HQ := hid (fun n => fp_is (dropR R m.1) R[t].1 _ (wr.drewN n) HDL.out (HMQ.out.below (below_drawn wr n)))
            have HE := hid (fp_each HRI.out hlt (fpOf_P (dropR R m.1) R[t].1))
            have htI : (t : Int) < (R.length : Int) := by omega
            have htJ : (0 : Int) ≤ (t : Int) := by omega
            have HT := hid hlt
            have HRL := hid (rising_ok HC0.out).2.1
            clear hrc
            generalize R[t] = x at *
            generalize fpOf (dropR R m.1) x.1 = r at *
            clear hlt
            go_wp2_with fail
            go_quiet ((go_at_call_of 12 (Value.slice ay (dropR R m.1).length cy); refine (HQ.out _).mono fun e w' h => ⟨h.1, _, h.2⟩))
            clear HQ
            have HDa := hid (below_drawn wr nq)
            replace f1' := cell_below HDa.out f1'
            replace m0' := cell_below HDa.out m0'
            replace z1 := cell_below HDa.out z1
            replace r0 := cell_below HDa.out r0
            replace r1 := cell_below HDa.out r1
            replace HMQ := hid (HMQ.out.below HDa.out)
            have HBR2 := hid (HBR.out.trans (HDa.out.mono HBR.out.size))
            clear f0' f2' m1'
            generalize wr.drewN nq = wq at *
            rcases HE.out with ⟨rfl, hx⟩ | ⟨hx, kk, rfl, hkk, hxx⟩
            · rw [hx] at r0
              have hq := str_refl m.1
              have n1 : decide ((-1 : Int) < 0) = true := rfl
              clear hx HE
              go_wp2_with fail
              go_quiet (fail)
              go_wp2_with fail
              go_roundw
              case rel => exact ⟨t + 1, by have := HT.out; omega, rel_next HT.out HRL.out, hid (below_drawn_of HBR2.out _)⟩
              case measure => exact meas_next HT.out HRL.out
            · have hq := str_ne hx
              have n1 : decide ((kk : Int) < 0) = false := decide_eq_false (by omega)
              clear hx HE
              go_wp2_with fail
              go_quiet (fail)
              have HDb := hid (below_drawn wq nq)
              replace f1' := cell_below HDb.out f1'
              replace z1 := cell_below HDb.out z1
              replace r0 := cell_below HDb.out r0
              replace r1 := cell_below HDb.out r1
              have HBR3 := hid (HBR2.out.trans (HDb.out.mono HBR2.out.size))
              have HMQ3 := hid (HMQ.out.below HDb.out)
              clear m0' hq HMQ HBR2
              generalize wq.drewN nq = wz at *
              obtain ⟨aS, cs, es, _, hcs⟩ := HMQ3.out
              obtain ⟨sb, so, es2, hsc⟩ := hcs (fun e => by rw [e] at hkk; simp at hkk)
              injection es with es3 es4 es5
              rw [es2] at es3
              subst es3
              subst es5
              clear es4 hcs
              have s0 := (hsc kk hkk).1
              have s1 := (hsc kk hkk).2
              rw [hxx] at s0 s1
              have hnq := fun W => modNeq x.1 x.2 x.1 x.2 W
              rw [decide_eq_true ⟨rfl, rfl⟩, Bool.not_true] at hnq
              have hkkI : (kk : Int) < ((dropR R m.1).length : Int) := by omega
              have hkkJ : (0 : Int) ≤ (kk : Int) := by omega
              have n2 : decide ((0 : Int) ≤ (kk : Int)) = true := decide_eq_true hkkJ
              clear hsc hxx hkk
              go_wp2_with fail
              go_quiet (fail)
              go_wp2_with fail
              go_roundw
              case rel => exact ⟨t + 1, by have := HT.out; omega, rel_next HT.out HRL.out, hid (below_drawn_of HBR3.out _)⟩
              case measure => exact meas_next HT.out HRL.out
          · go_wp2_with fail
            go_ret
            exact ⟨rfl, HBT.out⟩
      · have l1 : (((setR R m).length : Int) == (R.length : Int)) = true := by simp [hls]
        have l2 : (((setR R m).length : Int) != (R.length : Int)) = false := by simp [hls]
        have l3 : ((setR R m).length : Int) = (R.length : Int) := by omega
        have l4 : decide (r2 < 0) = false := decide_eq_false (by omega)
        have l5 : decide (0 ≤ r2) = true := decide_eq_true hr2
        have l6 : ¬ r2 < 0 := by omega
        clear hls
        go_wp2_with fail
        go_quiet (fail)
        clear l1 l2 l3 l4 l5 l6 hr2
        have HD10 := hid (below_drawn w10 nq)
        replace f0' := cell_below HD10.out f0'
        replace f1' := cell_below HD10.out f1'
        replace f2' := cell_below HD10.out f2'
        replace m0' := cell_below HD10.out m0'
        replace m1' := cell_below HD10.out m1'
        replace x0' := cell_below HD10.out x0'
        replace x1' := cell_below HD10.out x1'
        replace x2' := cell_below HD10.out x2'
        have HBq := hid (HB10.out.trans (HD10.out.mono HB10.out.size))
        clear y0 y1 hnq hw1 hkI hk0
        go_wp2_with fail
        refine (drop_any P (setR R m) X _ _ m.1 A k0 _ (by have := HP.out; omega) (HS.out.below HBq.out) (HF10.out.below HD10.out) (fun e => absurd (set_mem R m) (by rw [e]; simp)) HZ9.out).mono ?_
        rintro e w12 ⟨P2, vy, uy, xe, rfl, hb, hm⟩
        rw [dropF_set HC9.out] at hm
        obtain ⟨rfl, rfl, hvy, huy, _⟩ := hm
        have HVY := hid hvy
        obtain ⟨ay, cy, evy, _⟩ := hvy
        obtain ⟨az, cz, evz, _⟩ := huy
        subst evy; subst evz
        have HB12 := hid (HBq.out.trans (hb.mono HBq.out.size))
        replace f0' := cell_below hb f0'
        replace f1' := cell_below hb f1'
        replace f2' := cell_below hb f2'
        replace m0' := cell_below hb m0'
        replace m1' := cell_below hb m1'
        replace x0' := cell_below hb x0'
        replace x1' := cell_below hb x1'
        replace x2' := cell_below hb x2'
        have HAy := hid ((Below.refl w12.heap.size w12).alloc (Nat.le_refl _) (.cells #[.string P2, .slice ay (dropR R m.1).length cy, .slice az X.length cz] 24))
        clear hb
        replace f0' := cell_below HAy.out f0'
        replace f1' := cell_below HAy.out f1'
        replace f2' := cell_below HAy.out f2'
        replace m0' := cell_below HAy.out m0'
        replace m1' := cell_below HAy.out m1'
        replace x0' := cell_below HAy.out x0'
        replace x1' := cell_below HAy.out x1'
        replace x2' := cell_below HAy.out x2'
        have HB13 := hid (HB12.out.trans (HAy.out.mono HB12.out.size))
        have z1 : (w12.alloc (.cells #[.string P2, .slice ay (dropR R m.1).length cy, .slice az X.length cz] 24)).cell? ⟨w12.heap.size, 1, none⟩ = some (.slice ay (dropR R m.1).length cy) := by simp
        have HVY2 := hid (HVY.out.below HAy.out)
        have HLD := hid (len_drop R m)
        have HDL := hid (show (dropR R m.1).length ≤ 1000000 by have := HLR.out; have := HLD.out; omega)
        have d1 : (((dropR R m.1).length : Int) == ((setR R m).length : Int) - 1) = true := by have := HLD.out; simp; omega
        have d2 : (((dropR R m.1).length : Int) != ((setR R m).length : Int) - 1) = false := by have := HLD.out; simp; omega
        have d3 : ((dropR R m.1).length : Int) = ((setR R m).length : Int) - 1 := by have := HLD.out; omega
        have hw3 : IntKind.i64.wrap (((setR R m).length : Int) - 1) = ((setR R m).length : Int) - 1 := by rw [IntKind.wrap_i64]; have := HLR.out; omega
        go_wp2_with fail
        refine (fp_any (dropR R m.1) m.1 _ _ HDL.out HVY2.out).mono ?_
        rintro e w13 ⟨r3, rfl, hfp3, hw13⟩
        obtain rfl := fp_drop hfp3
        rw [← hw13] at f0' f1' f2' m0' m1' x0' x1' x2' z1 HVY2 HB13
        clear hfp3 hw13 HAy
        go_wp2_with fail
        clear d1 d2 d3 hw3 x0' x1' x2'
        go_loopw [13] (fun i wr => ∃ t : Nat, t ≤ R.length ∧ i = .int .i64 t ∧ Hid (Below w13.heap.size w13 wr)) (fun i _ => R.length - (intOf i).toNat)
        case atStart => exact ⟨0, Nat.zero_le _, rfl, hid (Below.refl _ _)⟩
        case round =>
          obtain ⟨t, ht, rfl, HBR⟩ := hrel
          have HBT := hid (HB13.out.trans (HBR.out.mono HB13.out.size))
          replace f0' := cell_below HBR.out f0'
          replace f1' := cell_below HBR.out f1'
          replace f2' := cell_below HBR.out f2'
          replace m0' := cell_below HBR.out m0'
          replace m1' := cell_below HBR.out m1'
          replace z1 := cell_below HBR.out z1
          by_cases hlt : t < R.length
          · obtain ⟨ar, cr, er, _, hcr⟩ := (HFL.out.below HBT.out).r
            obtain ⟨rb, ro, er2, hrc⟩ := hcr (fun e => by rw [e] at hlt; simp at hlt)
            injection er with er3 er4 er5
            rw [er2] at er3
            subst er3
            subst er5
            clear er4 hcr
            have r0 := (hrc t hlt).1
            have r1 := (hrc t hlt).2
            have HMQ := hid (HVY2.out.below HBR.out)
            have HQ := hid (fun n => fp_is (dropR R m.1) R[t].1 _ (wr.drewN n) HDL.out (HMQ.out.below (below_drawn wr n)))
            have HE := hid (fp_each HRI.out hlt (fpOf_P (dropR R m.1) R[t].1))
            have htI : (t : Int) < (R.length : Int) := by omega
            have htJ : (0 : Int) ≤ (t : Int) := by omega
            have HT := hid hlt
            have HRL := hid (rising_ok HC0.out).2.1
            clear hrc
            generalize R[t] = x at *
            generalize fpOf (dropR R m.1) x.1 = r at *
            clear hlt
            go_wp2_with fail
            go_quiet ((go_at_call_of 12 (Value.slice ay (dropR R m.1).length cy); refine (HQ.out _).mono fun e w' h => ⟨h.1, _, h.2⟩))
            clear HQ
            have HDa := hid (below_drawn wr nq)
            replace f1' := cell_below HDa.out f1'
            replace m0' := cell_below HDa.out m0'
            replace z1 := cell_below HDa.out z1
            replace r0 := cell_below HDa.out r0
            replace r1 := cell_below HDa.out r1
            replace HMQ := hid (HMQ.out.below HDa.out)
            have HBR2 := hid (HBR.out.trans (HDa.out.mono HBR.out.size))
            clear f0' f2' m1'
            generalize wr.drewN nq = wq at *
            rcases HE.out with ⟨rfl, hx⟩ | ⟨hx, kk, rfl, hkk, hxx⟩
            · rw [hx] at r0
              have hq := str_refl m.1
              have n1 : decide ((-1 : Int) < 0) = true := rfl
              clear hx HE
              go_wp2_with fail
              go_quiet (fail)
              go_wp2_with fail
              go_roundw
              case rel => exact ⟨t + 1, by have := HT.out; omega, rel_next HT.out HRL.out, hid (below_drawn_of HBR2.out _)⟩
              case measure => exact meas_next HT.out HRL.out
            · have hq := str_ne hx
              have n1 : decide ((kk : Int) < 0) = false := decide_eq_false (by omega)
              clear hx HE
              go_wp2_with fail
              go_quiet (fail)
              have HDb := hid (below_drawn wq nq)
              replace f1' := cell_below HDb.out f1'
              replace z1 := cell_below HDb.out z1
              replace r0 := cell_below HDb.out r0
              replace r1 := cell_below HDb.out r1
              have HBR3 := hid (HBR2.out.trans (HDb.out.mono HBR2.out.size))
              have HMQ3 := hid (HMQ.out.below HDb.out)
              clear m0' hq HMQ HBR2
              generalize wq.drewN nq = wz at *
              obtain ⟨aS, cs, es, _, hcs⟩ := HMQ3.out
              obtain ⟨sb, so, es2, hsc⟩ := hcs (fun e => by rw [e] at hkk; simp at hkk)
              injection es with es3 es4 es5
              rw [es2] at es3
              subst es3
              subst es5
              clear es4 hcs
              have s0 := (hsc kk hkk).1
              have s1 := (hsc kk hkk).2
              rw [hxx] at s0 s1
              have hnq := fun W => modNeq x.1 x.2 x.1 x.2 W
              rw [decide_eq_true ⟨rfl, rfl⟩, Bool.not_true] at hnq
              have hkkI : (kk : Int) < ((dropR R m.1).length : Int) := by omega
              have hkkJ : (0 : Int) ≤ (kk : Int) := by omega
              have n2 : decide ((0 : Int) ≤ (kk : Int)) = true := decide_eq_true hkkJ
              clear hsc hxx hkk
              go_wp2_with fail
              go_quiet (fail)
              go_wp2_with fail
              go_roundw
              case rel => exact ⟨t + 1, by have := HT.out; omega, rel_next HT.out HRL.out, hid (below_drawn_of HBR3.out _)⟩
              case measure => exact meas_next HT.out HRL.out
          · go_wp2_with fail
            go_ret
            exact ⟨rfl, HBT.out⟩
  · have HC0 := hid hcode
    obtain ⟨T, a9, rfl⟩ := errAt_iface HX4.out hcode
    clear hcode
    go_wp2_with fail
    refine (ftext_bad p R X _ _ A k0 _ (by have := HP.out; omega) HS4.out HF4.out HC0.out).mono ?_
    rintro e w5 ⟨rfl, hb⟩
    have HB5 := hid (HB4.out.trans (hb.mono HB4.out.size))
    clear hb
    go_wp2_with fail
    go_ret
    exact ⟨rfl, HB5.out⟩
end Ve
end Go.Proofs.YtiebgeamfblbdaaGreatDoor
