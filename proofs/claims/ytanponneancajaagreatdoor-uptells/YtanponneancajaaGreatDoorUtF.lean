/-
  What NewsOf of the document's answer says.
-/
import Derived.Test.YtanponneancajaaGreatDoorUtE
import Derived.Test.YtanponneancajaaGreatDoorMtC
namespace Go.Proofs.YtanponneancajaaGreatDoor
open Go.RowKit Go.Maps
namespace Ve

set_option maxRecDepth 100000 in
set_option maxHeartbeats 4000000 in
theorem newsO_bad (Q : List Raw) (L : List Ent) (sel : List Bm) (v sv : Value) (w : World) (hn : L.length ≤ 1000) (sh : ∀ e, e ∈ L → ShE e) (I : Ixs w v Q L) (hs : MsAt w sv sel) (h0 : ¬ (chk Q L).1 = 0) :
    Calls Tryz.prog 41 #[v, sv] w fun e w' => e = .returned (.tuple #[.slice none 0 0, faultV (chk Q L)]) ∧ Below w.heap.size w w' := by
  have HB0 := hid ((Below.refl w.heap.size w).alloc (Nat.le_refl _) (.cells #[.int .i64 0, .int .i64 0] 64))
  have HE0 := hid (heap_new w (.cells #[.int .i64 0, .int .i64 0] 64))
  have HIF := hid (iFault_any Q L v _ hn sh (I.below HB0.out))
  obtain ⟨a, c, hv1, -⟩ := id I.es
  subst hv1
  obtain ⟨sa, sc, hsv, -⟩ := id hs
  subst hsv
  obtain ⟨cc, oo, hco⟩ : ∃ cc oo, chk Q L = (cc, oo) := ⟨_, _, rfl⟩
  rw [hco] at HIF h0 ⊢
  unfold faultV at HIF ⊢
  simp only at HIF h0 ⊢
  generalize atOf oo = ao at *
  have hpos : (0 : Int) < (cc : Int) := by omega
  clear I hs sh h0 hco
  go_enter Tryz.func41, Tryz.ntmps41
  go_wp2_with fail
  refine HIF.out.mono ?_
  rintro e w1 ⟨rfl, hb⟩
  have HB1 := hid (HB0.out.trans (hb.mono HB0.out.size))
  have HE1 := hid ((hb.block _ (lt_of_blk HE0.out)).trans HE0.out)
  clear hb
  have HB2 := hid (HB1.out.alloc HB1.out.size (.cells #[.int .i64 (cc : Int), .int .i64 ao] 64))
  have HE2 := hid (heap_old w1 (.cells #[.int .i64 (cc : Int), .int .i64 ao] 64) HE1.out)
  have HF2 := hid (heap_new w1 (.cells #[.int .i64 (cc : Int), .int .i64 ao] 64))
  have hne : ¬ w1.heap.size = w.heap.size := Nat.ne_of_gt (lt_of_blk HE1.out)
  have hne2 : ¬ w.heap.size = w1.heap.size := Nat.ne_of_lt (lt_of_blk HE1.out)
  go_wp2_with fail
  generalize w1.alloc (.cells #[.int .i64 (cc : Int), .int .i64 ao] 64) = w2 at *
  obtain ⟨s0, s1, tf⟩ := box_two HE2.out
  obtain ⟨f0, f1, _⟩ := box_two HF2.out
  go_region_with fail
  all_goals
    go_wp2_with fail
    refine bodyPost_ret (v := .tuple #[.slice none 0 0, .agg #[.int .i64 (cc : Int), .int .i64 ao]]) (by simp [results, Tryz.results41, go_sem, s0, s1]) rfl ⟨rfl, ?_⟩
    exact put2_below (below_drawn_of HB2.out 1) (Nat.le_refl _)
set_option maxRecDepth 100000 in
set_option maxHeartbeats 4000000 in
theorem newsO_ord (Q : List Raw) (L : List Ent) (sel : List Bm) (v sv : Value) (w : World) (hn : L.length ≤ 1000) (hsn : sel.length ≤ 1000) (sh : ∀ e, e ∈ L → ShE e) (I : Ixs w v Q L) (hs : MsAt w sv sel) (h0 : (chk Q L).1 = 0) (h1 : risB2 sel = false) :
    Calls Tryz.prog 41 #[v, sv] w fun e w' => e = .returned (.tuple #[.slice none 0 0, .agg #[.int .i64 8, .int .i64 (-1)]]) ∧ Below w.heap.size w w' := by
  have HB0 := hid ((Below.refl w.heap.size w).alloc (Nat.le_refl _) (.cells #[.int .i64 0, .int .i64 0] 64))
  have HE0 := hid (heap_new w (.cells #[.int .i64 0, .int .i64 0] 64))
  have HIF := hid (iFault_any Q L v _ hn sh (I.below HB0.out))
  have HRP := hid (fun W (h : Below w.heap.size w W) => rp_any sel sv W (hs.below h) (by omega))
  rw [h1] at HRP
  have HBA := hid (fun W => rbare_any 8 W)
  obtain ⟨a, c, hv1, -⟩ := id I.es
  subst hv1
  obtain ⟨sa, sc, hsv, -⟩ := id hs
  subst hsv
  obtain ⟨oo0, hco⟩ : ∃ oo, chk Q L = (0, oo) := ⟨(chk Q L).2, Prod.ext h0 rfl⟩
  rw [hco] at HIF
  unfold faultV at HIF
  simp only at HIF
  generalize atOf oo0 = ao0 at *
  clear I hs sh h0 hco h1
  go_enter Tryz.func41, Tryz.ntmps41
  go_wp2_with fail
  refine HIF.out.mono ?_
  rintro e w1 ⟨rfl, hb⟩
  have HB1 := hid (HB0.out.trans (hb.mono HB0.out.size))
  have HE1 := hid ((hb.block _ (lt_of_blk HE0.out)).trans HE0.out)
  clear hb
  have HB2 := hid (HB1.out.alloc HB1.out.size (.cells #[.int .i64 0, .int .i64 ao0] 64))
  have HE2 := hid (heap_old w1 (.cells #[.int .i64 0, .int .i64 ao0] 64) HE1.out)
  have hne : ¬ w1.heap.size = w.heap.size := Nat.ne_of_gt (lt_of_blk HE1.out)
  have hne2 : ¬ w.heap.size = w1.heap.size := Nat.ne_of_lt (lt_of_blk HE1.out)
  go_wp2_with fail
  generalize w1.alloc (.cells #[.int .i64 0, .int .i64 ao0] 64) = w2 at *
  refine (HRP.out _ HB2.out).mono ?_
  rintro e w3 ⟨rfl, hb⟩
  have HB3 := hid (HB2.out.trans (hb.mono HB2.out.size))
  have HE3 := hid ((hb.block _ (lt_of_blk HE2.out)).trans HE2.out)
  clear hb
  go_wp2_with fail
  refine (HBA.out _).mono ?_
  rintro e w4 ⟨rfl, hb⟩
  have HB4 := hid (HB3.out.trans (hb.mono HB3.out.size))
  have HE4 := hid ((hb.block _ (lt_of_blk HE3.out)).trans HE3.out)
  clear hb
  obtain ⟨s0, s1, tf⟩ := box_two HE4.out
  go_wp2_with fail
  refine bodyPost_ret (v := .tuple #[.slice none 0 0, .agg #[.int .i64 8, .int .i64 (-1)]]) (by simp [results, Tryz.results41, go_sem, s0, s1]) rfl ⟨rfl, ?_⟩
  exact put2_below HB4.out (Nat.le_refl _)
set_option maxRecDepth 100000 in
set_option maxHeartbeats 4000000 in
theorem newsO_good (Q : List Raw) (L : List Ent) (sel : List Bm) (v sv : Value) (w : World) (hn : L.length ≤ 1000) (hsn : sel.length ≤ 1000) (hz : ∀ r, r ∈ Q → r.1.1.size ≤ 80 ∧ r.1.2.size ≤ 80) (hsz : ∀ x, x ∈ sel → x.2.size < 999999) (sh : ∀ e, e ∈ L → ShE e) (I : Ixs w v Q L) (hs : MsAt w sv sel) (h0 : (chk Q L).1 = 0) (h1 : risB2 sel = true) :
    Calls Tryz.prog 41 #[v, sv] w fun e w' => ∃ na nc, e = .returned (.tuple #[.slice na (newsL Q sel).length nc, .agg #[.int .i64 0, .int .i64 (-1)]]) ∧ MsAt w' (.slice na (newsL Q sel).length nc) (newsL Q sel) ∧ Below w.heap.size w w' := by
  have HB0 := hid ((Below.refl w.heap.size w).alloc (Nat.le_refl _) (.cells #[.int .i64 0, .int .i64 0] 64))
  have HE0 := hid (heap_new w (.cells #[.int .i64 0, .int .i64 0] 64))
  have HIF := hid (iFault_any Q L v _ hn sh (I.below HB0.out))
  have HRP := hid (fun W (h : Below w.heap.size w W) => rp_any sel sv W (hs.below h) (by omega))
  rw [h1] at HRP
  have HGD := hid (good_of I h0)
  have HLO := hid (fun t W (h : Below w.heap.size w W) => latOf_any Q t v W (by rw [I.ln]; omega) HGD.out hz (keptT_ex HGD.out t) (I.below h).es)
  have HLZ := hid (fun t => show (latV Q t).size < 999999 by
    obtain ⟨X, hX⟩ := keptT_ex HGD.out t
    have := lat_sz HGD.out hz hX
    omega)
  have HIL := hid (fun (s t : ByteArray) W (h1 : s.size < 999999) (h2 : t.size < 999999) => isLess_any s t W h1 h2)
  have HMS := hid (fun W (h : Below w.heap.size w W) => hs.below h)
  have HSZ := hid hsz
  have HSN := hid (show sel.length ≤ 1000000 by omega)
  have HSL := hid hsn
  have HFN := hid (fun W => fine_any W)
  obtain ⟨i0, hi0, hz0, hz1, hz2⟩ := info_parts infoMod
  obtain ⟨a, c, hv1, -⟩ := id I.es
  subst hv1
  obtain ⟨sa, sc, hsv, -⟩ := id hs
  subst hsv
  obtain ⟨oo0, hco⟩ : ∃ oo, chk Q L = (0, oo) := ⟨(chk Q L).2, Prod.ext h0 rfl⟩
  rw [hco] at HIF
  unfold faultV at HIF
  simp only at HIF
  generalize atOf oo0 = ao0 at *
  clear I hs sh h0 hco h1 hz hsz
  go_enter Tryz.func41, Tryz.ntmps41
  go_wp2_with fail
  refine HIF.out.mono ?_
  rintro e w1 ⟨rfl, hb⟩
  have HB1 := hid (HB0.out.trans (hb.mono HB0.out.size))
  have HE1 := hid ((hb.block _ (lt_of_blk HE0.out)).trans HE0.out)
  clear hb
  have HB2 := hid (HB1.out.alloc HB1.out.size (.cells #[.int .i64 0, .int .i64 ao0] 64))
  have HE2 := hid (heap_old w1 (.cells #[.int .i64 0, .int .i64 ao0] 64) HE1.out)
  have hne : ¬ w1.heap.size = w.heap.size := Nat.ne_of_gt (lt_of_blk HE1.out)
  have hne2 : ¬ w.heap.size = w1.heap.size := Nat.ne_of_lt (lt_of_blk HE1.out)
  go_wp2_with fail
  generalize w1.alloc (.cells #[.int .i64 0, .int .i64 ao0] 64) = w2 at *
  refine (HRP.out _ HB2.out).mono ?_
  rintro e w3 ⟨rfl, hb⟩
  have HB3 := hid (HB2.out.trans (hb.mono HB2.out.size))
  have HE3 := hid ((hb.block _ (lt_of_blk HE2.out)).trans HE2.out)
  clear hb HB0 HE0 HB1 HE1 HB2 HE2
  go_wp2_with fail
  go_loopw [8, 9] (fun ov iv wr => ∃ i : Nat, i ≤ sel.length ∧ iv = .int .i64 i ∧ Hid (wr.ownsRow w3.heap.size 51 2 ov (newsL Q (sel.take i)).length (flatM (newsL Q (sel.take i)))) ∧ Hid (Below w3.heap.size w3 wr)) (fun _ iv _ => sel.length - (intOf iv).toNat)
  case atStart => exact ⟨0, Nat.zero_le _, rfl, hid (World.ownsRow_nil _ _ _ _), hid (Below.refl _ _)⟩
  case round =>
    obtain ⟨i, hi, rfl, HOW, HBr⟩ := hrel
    have HBw := hid (HB3.out.trans (HBr.out.mono HB3.out.size))
    by_cases hlt : i < sel.length
    · have hiI := ix_lt hlt
      have hii := ix_pos i
      have HLI := hid hlt
      obtain ⟨yb, yo, hya, y0, y1⟩ := (HMS.out _ HBw.out).cells hlt
      subst hya
      have HNX := hid (newsL_next (Q := Q) hlt)
      have HQZ := hid (HSZ.out sel[i] (List.getElem_mem hlt))
      have HNL := hid (show (newsL Q (sel.take i)).length ≤ 1000 from Nat.le_trans (newsL_len Q _) (Nat.le_trans (List.length_take_le' i sel) HSL.out))
      generalize sel[i] = x at *
      obtain ⟨p, q⟩ := x
      simp only at y0 y1 HNX HQZ
      have HLP := hid (HLO.out p wr HBw.out)
      have HLT := hid (fun W => HIL.out q (latV Q p) W HQZ.out (HLZ.out p))
      generalize latV Q p = lv at *
      obtain ⟨SX, hSX⟩ : ∃ SX, newsL Q (sel.take i) = SX := ⟨_, rfl⟩
      rw [hSX] at HOW HNX HNL
      change Hid (newsL Q (sel.take (i + 1)) = SX ++ if lessB q.data.toList lv.data.toList then [(p, lv)] else []) at HNX
      clear hSX hlt
      go_wp2_with fail
      refine HLP.out.mono ?_
      rintro e w4 ⟨rfl, hb⟩
      have HB4 := hid (HBr.out.trans (hb.mono HBr.out.size))
      have HO4 := hid (owns_below HOW.out hb)
      have z0 := cell_below hb y0
      have z1 := cell_below hb y1
      clear hb y0 y1 HLP
      go_wp2_with fail
      refine (HLT.out _).mono ?_
      rintro e w5 ⟨rfl, hb⟩
      have HB5 := hid (HB4.out.trans (hb.mono HB4.out.size))
      have HO5 := hid (owns_below HO4.out hb)
      have x0 := cell_below hb z0
      clear hb z0 z1 HLT
      cases hle : lessB q.data.toList lv.data.toList with
      | false =>
        rw [hle] at HNX
        have HN2 := hid (show newsL Q (sel.take (i + 1)) = SX by rw [HNX.out]; simp)
        clear hle
        go_wp2_with fail
        go_roundw
        case rel => first | exact ⟨i + 1, HLI.out, nr_idx i, hid (by rw [HN2.out]; exact HO5.out), HB5⟩ | exact ⟨i + 1, HLI.out, nx_idx HLI.out HSN.out, hid (by rw [HN2.out]; exact HO5.out), HB5⟩
        case measure => first | exact nr_meas HLI.out | exact nx_meas HLI.out HSN.out
      | true =>
        rw [hle] at HNX
        have HN2 := hid (show newsL Q (sel.take (i + 1)) = SX ++ [(p, lv)] by rw [HNX.out]; simp)
        clear hle
        go_wp2_with (at_builtin; refine wpList_append_own _ rfl _ _ 52 rfl w3.heap.size 51 i0 _ 2 32 Tryz.underlying52 hi0 hz0 hz1 hz2 rfl (by decide) _ _ _ rfl (HO5.out.alloc _) ⟨w5.heap.size, 0, none⟩ 1 1 [.string p, .string lv] rfl rfl (World.news_of_block (heap_new _ _)) (by intro u hu; simp at hu; rcases hu with rfl | rfl <;> rfl) (Nat.le_trans (Nat.add_le_add_right HNL.out 1) (by unfold maxLen; decide)) (by have hz := HNL.out; omega) (Nat.le_trans HB5.out.size (by simp)) ?_)
        intro v' w6 hown hgrow _
        have HB6 := hid (rel_app2 HB5.out.size HB5.out HO5.out (Below.refl _ _) hgrow)
        have HO6 := hid (show w6.ownsRow w3.heap.size 51 2 v' (SX ++ [(p, lv)]).length (flatM (SX ++ [(p, lv)])) by rw [List.length_append, flatM_app]; exact hown)
        clear hown hgrow
        go_wp2_with fail
        go_roundw
        case rel => first | exact ⟨i + 1, HLI.out, nr_idx i, hid (by rw [HN2.out]; exact HO6.out), HB6⟩ | exact ⟨i + 1, HLI.out, nx_idx HLI.out HSN.out, hid (by rw [HN2.out]; exact HO6.out), HB6⟩
        case measure => first | exact nr_meas HLI.out | exact nx_meas HLI.out HSN.out
    · have hiI := ix_nlt hlt
      have HTA := hid (show sel.take i = sel from List.take_of_length_le (by omega))
      rw [HTA.out] at HOW
      obtain ⟨oa, oc, hov⟩ := own_slN HOW.out
      subst hov
      clear hlt
      go_wp2_with fail
      refine (HFN.out _).mono ?_
      rintro e w6 ⟨rfl, hb⟩
      have HB6 := hid (HBw.out.trans (hb.mono HBw.out.size))
      have HE6 := hid ((hb.block _ (Nat.lt_of_lt_of_le (lt_of_blk HE3.out) HBr.out.size)).trans ((HBr.out.block _ (lt_of_blk HE3.out)).trans HE3.out))
      have HM6 := hid ((own_ms HOW.out).below hb)
      clear hb
      obtain ⟨s0, s1, tf⟩ := box_two HE6.out
      go_wp2_with fail
      refine bodyPost_ret (v := .tuple #[.slice oa (newsL Q sel).length oc, .agg #[.int .i64 0, .int .i64 (-1)]]) (by simp [results, Tryz.results41, go_sem, s0, s1]) rfl ⟨_, _, rfl, ms_put2 HM6.out HE6.out, ?_⟩
      exact put2_below HB6.out (Nat.le_refl _)
end Ve
end Go.Proofs.YtanponneancajaaGreatDoor
