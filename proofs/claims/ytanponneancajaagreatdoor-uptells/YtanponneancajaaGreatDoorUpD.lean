/-
  What up.News answers: of each path of a selection whose latest version is greater than its own: that.
-/
import Derived.Test.YtanponneancajaaGreatDoorUpB
import Derived.Deep.RegionHeld
namespace Go.Proofs.YtanponneancajaaGreatDoor
open Go.RowKit Go.Maps
namespace Ve

/-- The news of modules. -/
noncomputable def newsL (Q : List Raw) (E : List Bm) : List Bm := (E.filter fun m => lessB (vb m) (latV Q m.1).data.toList).map fun m => (m.1, latV Q m.1)
theorem latL_get {Q : List Raw} {E : List Bm} {i : Nat} (h : i < (latL Q E).length) (h' : i < E.length) : (latL Q E)[i] = (E[i].1, latV Q E[i].1) := by simp [latL]
theorem newsL_next {Q : List Raw} {E : List Bm} {k : Nat} (h : k < E.length) : newsL Q (E.take (k + 1)) = newsL Q (E.take k) ++ (if lessB (vb E[k]) (latV Q E[k].1).data.toList then [(E[k].1, latV Q E[k].1)] else []) := by
  unfold newsL
  rw [List.take_succ_eq_append_getElem h, List.filter_append, List.map_append]
  congr 1
  cases hb : lessB (vb E[k]) (latV Q E[k].1).data.toList <;> simp [hb]
theorem newsL_len (Q : List Raw) (E : List Bm) : (newsL Q E).length ≤ E.length := by
  unfold newsL
  rw [List.length_map]
  exact List.length_filter_le _ _
theorem newsL_none {Q : List Raw} {E : List Bm} (h : ∀ m, m ∈ E → lessB (vb m) (latV Q m.1).data.toList = false) : newsL Q E = [] := by
  unfold newsL
  rw [List.filter_eq_nil_iff.2 (fun m hm => by rw [h m hm]; simp)]; rfl
theorem lat_sz {Q : List Raw} {t : ByteArray} {X : List ByteArray} (g : Good Q) (hz : ∀ r, r ∈ Q → r.1.1.size ≤ 80 ∧ r.1.2.size ≤ 80) (hK : KeptT Q t X) : (latV Q t).size ≤ 80 := by
  rw [← latV_of hK]
  cases hX : X with
  | nil => exact Nat.zero_le _
  | cons x s =>
    have hp : 0 < X.length := by rw [hX]; simp
    rw [← hX, lastT_get hp]
    obtain ⟨r, hr, e⟩ := kept_has g (R := bestR (ofP t Q)) (fun r hr => ofP_sub r (bestR_sub hr)) hK (x := X[X.length - 1]) (List.getElem_mem _)
    rw [← e]
    exact (hz r (ofP_sub r (bestR_sub hr))).2
set_option maxRecDepth 100000 in
set_option maxHeartbeats 2000000 in
theorem news_bad (Q : List Raw) (L : List Ent) (sel : List Bm) (v sv : Value) (A : Nat → Addr) (m : Int) (w : World) (hn : L.length ≤ 1000) (sh : ∀ e, e ∈ L → ShE e) (S : Te w A m) (I : Ixs w v Q L) (hs : MsAt w sv sel) (h0 : ¬ (chk Q L).1 = 0) :
    Calls Tryz.prog 34 #[v, sv] w fun e w' => ∃ T a, e = .returned (.tuple #[.slice none 0 0, .iface T (.pointer (some a))]) ∧ ErrAt w' A (.iface T (.pointer (some a))) (chk Q L).1 (chk Q L).2 ∧ Below w.heap.size w w' := by
  have HCK := hid (icheck_any Q L v A m w (by omega) sh S I)
  obtain ⟨a, c, hv, -⟩ := id I.es
  subst hv
  obtain ⟨sa, sc, hsv, -⟩ := id hs
  subst hsv
  clear S I hs sh
  go_enter Tryz.func34, Tryz.ntmps34
  go_wp2_with fail
  refine HCK.out.mono ?_
  rintro e w1 ⟨x, rfl, he, hb⟩
  have HB1 := hid hb
  have HE := hid he
  rcases he.kind with ⟨h, _⟩ | ⟨_, T, xa, rfl⟩
  · exact absurd h h0
  clear he hb HCK h0
  go_wp2_with fail
  go_ret2
  exact ⟨_, _, rfl, HE.out, HB1.out⟩
set_option maxRecDepth 100000 in
set_option maxHeartbeats 2000000 in
theorem news_ord (Q : List Raw) (L : List Ent) (sel : List Bm) (v sv : Value) (A : Nat → Addr) (m : Int) (w : World) (hn : L.length ≤ 1000) (hsn : sel.length ≤ 1000) (sh : ∀ e, e ∈ L → ShE e) (S : Te w A m) (I : Ixs w v Q L) (hs : MsAt w sv sel) (h0 : (chk Q L).1 = 0) (h1 : risB2 sel = false) :
    Calls Tryz.prog 34 #[v, sv] w fun e w' => e = .returned (.tuple #[.slice none 0 0, errA A 8]) ∧ Below w.heap.size w w' := by
  have HCK := hid (icheck_any Q L v A m w (by omega) sh S I)
  have HIS := hid (fun W (h : Below w.heap.size w W) => isSel_any sel sv W (hs.below h) (by omega))
  rw [h1] at HIS
  have HS := hid (fun W (h : Below w.heap.size w W) => S.below h)
  obtain ⟨a, c, hv, -⟩ := id I.es
  subst hv
  obtain ⟨sa, sc, hsv, -⟩ := id hs
  subst hsv
  clear S I hs sh h1
  go_enter Tryz.func34, Tryz.ntmps34
  go_wp2_with fail
  refine HCK.out.mono ?_
  rintro e w1 ⟨x, rfl, he, hb⟩
  have HB1 := hid hb
  rcases he.kind with ⟨_, rfl⟩ | ⟨h, _⟩
  · clear he hb HCK h0
    go_wp2_with fail
    refine (HIS.out _ HB1.out).mono ?_
    rintro e w2 ⟨rfl, hb⟩
    have HB2 := hid (HB1.out.trans (hb.mono HB1.out.size))
    have g7 := (HS.out _ HB2.out).sen.g7
    clear hb
    go_wp2_with fail
    go_quiet (fail)
    go_wp2_with fail
    go_ret2
    exact ⟨rfl, below_drawn_of HB2.out _⟩
  · exact absurd h0 h
set_option maxRecDepth 100000 in
set_option maxHeartbeats 4000000 in
theorem news_good (Q : List Raw) (L : List Ent) (sel : List Bm) (v sv : Value) (A : Nat → Addr) (m : Int) (w : World) (hn : L.length ≤ 1000) (hsn : sel.length ≤ 1000) (hz : ∀ r, r ∈ Q → r.1.1.size ≤ 80 ∧ r.1.2.size ≤ 80) (hsz : ∀ x, x ∈ sel → x.2.size < 999999) (sh : ∀ e, e ∈ L → ShE e) (S : Te w A m) (htab : Lib.TabIs Tryz.prog w powName .u64 Lib.pow10Tab) (I : Ixs w v Q L) (hs : MsAt w sv sel) (h0 : (chk Q L).1 = 0) (h1 : risB2 sel = true) :
    Calls Tryz.prog 34 #[v, sv] w fun e w' => ∃ u, e = .returned (.tuple #[u, .nilIface]) ∧ w'.ownsRow w.heap.size 51 2 u (newsL Q sel).length (flatM (newsL Q sel)) ∧ Below w.heap.size w w' := by
  have HCK := hid (icheck_any Q L v A m w (by omega) sh S I)
  have HIS := hid (fun W (h : Below w.heap.size w W) => isSel_any sel sv W (hs.below h) (by omega))
  rw [h1] at HIS
  have HLR := hid (fun W (h : Below w.heap.size w W) => latest_row Q sel v sv A m W (by rw [I.ln]; omega) hsn hz (S.below h) (tab_below htab h) (I.below h).es (hs.below h))
  have HLZ := hid (fun (hK : LatK Q sel) (x : Bm) (hx : x ∈ sel) => show (latV Q x.1).size < 999999 by
    obtain ⟨X, hX⟩ := hK x hx
    have := lat_sz (good_of I h0) hz hX
    omega)
  have HLS := hid (fun (s t : ByteArray) W (h : Below w.heap.size w W) (h1 : s.size < 999999) (h2 : t.size < 999999) => less_any s t (A 0) (A 1) m W h1 h2 (S.below h).vs)
  have HMS := hid (fun W (h : Below w.heap.size w W) => hs.below h)
  have HSZ := hid hsz
  have HSN := hid (show sel.length ≤ 1000000 by omega)
  have HSL := hid hsn
  obtain ⟨i0, hi0, hz0, hz1, hz2⟩ := info_parts infoMod
  obtain ⟨a, c, hv, -⟩ := id I.es
  subst hv
  obtain ⟨sa, sc, hsv, -⟩ := id hs
  subst hsv
  clear S I hs sh h1 htab hz hsz
  go_enter Tryz.func34, Tryz.ntmps34
  go_wp2_with fail
  refine HCK.out.mono ?_
  rintro e w1 ⟨x, rfl, he, hb⟩
  have HB1 := hid hb
  rcases he.kind with ⟨_, rfl⟩ | ⟨h, _⟩
  rotate_left
  · exact absurd h0 h
  clear he hb HCK h0
  go_wp2_with fail
  refine (HIS.out _ HB1.out).mono ?_
  rintro e w2 ⟨rfl, hb⟩
  have HB2 := hid (HB1.out.trans (hb.mono HB1.out.size))
  clear hb
  go_wp2_with fail
  refine (HLR.out _ HB2.out).mono ?_
  rintro e w3 ⟨lu, rfl, ho, hK, hb⟩
  have HB3 := hid (HB2.out.trans (hb.mono HB2.out.size))
  have HML := hid (own_ms ho)
  have HKZ := hid (HLZ.out hK)
  obtain ⟨la, lc, hlu⟩ := own_slN ho
  subst hlu
  clear hb ho hK HLR HIS HLZ
  have HYL := hid (latL_len Q sel)
  have HYG := hid (fun (i : Nat) (h : i < (latL Q sel).length) (h' : i < sel.length) => latL_get (Q := Q) h h')
  obtain ⟨Y, HY⟩ : ∃ Y, Hid (latL Q sel = Y) := ⟨_, hid rfl⟩
  rw [HY.out] at HML HYL HYG ⊢
  clear HY
  go_wp2_with fail
  go_loopw [7, 23] (fun ov iv wr => ∃ i : Nat, i ≤ Y.length ∧ iv = .int .i64 i ∧ Hid (wr.ownsRow w3.heap.size 51 2 ov (newsL Q (sel.take i)).length (flatM (newsL Q (sel.take i)))) ∧ Hid (Below w3.heap.size w3 wr)) (fun _ iv _ => Y.length - (intOf iv).toNat)
  case atStart => exact ⟨0, Nat.zero_le _, rfl, hid (World.ownsRow_nil _ _ _ _), hid (Below.refl _ _)⟩
  case round =>
    obtain ⟨i, hi, rfl, HOW, HBr⟩ := hrel
    have HBw := hid (HB3.out.trans (HBr.out.mono HB3.out.size))
    by_cases hlt : i < Y.length
    · have hls : i < sel.length := by rw [← HYL.out]; exact hlt
      have hiI := ix_lt hlt
      have hsI := ix_lt hls
      have hii := ix_pos i
      have HLI := hid hlt
      have HYM := hid (show Y.length ≤ 1000000 by rw [HYL.out]; exact HSN.out)
      obtain ⟨xb, xo, hxa, x0, x1⟩ := (HML.out.below HBr.out).cells hlt
      subst hxa
      obtain ⟨yb, yo, hya, y0, y1⟩ := (HMS.out _ HBw.out).cells hls
      subst hya
      rw [HYG.out i hlt hls] at x0 x1
      have HNX := hid (newsL_next (Q := Q) hls)
      have HPZ := hid (HKZ.out sel[i] (List.getElem_mem hls))
      have HQZ := hid (HSZ.out sel[i] (List.getElem_mem hls))
      have HNL := hid (show (newsL Q (sel.take i)).length ≤ 1000 from Nat.le_trans (newsL_len Q _) (Nat.le_trans (List.length_take_le' i sel) HSL.out))
      generalize sel[i] = x at *
      obtain ⟨p, q⟩ := x
      simp only at x0 x1 y0 y1 HNX HPZ HQZ
      generalize latV Q p = lv at *
      obtain ⟨SX, hSX⟩ : ∃ SX, newsL Q (sel.take i) = SX := ⟨_, rfl⟩
      rw [hSX] at HOW HNX HNL
      clear hSX hlt hls
      have HAl := hid ((Below.refl wr.heap.size wr).alloc (Nat.le_refl _) (.cells #[.string p, .string lv] 51))
      have HBa := hid (HBr.out.trans (HAl.out.mono HBr.out.size))
      have HBv := hid (HBw.out.trans (HAl.out.mono HBw.out.size))
      have HM0 := hid (heap_new wr (.cells #[.string p, .string lv] 51))
      have HOa := hid (HOW.out.alloc (.cells #[.string p, .string lv] 51))
      have HLP := hid (fun W (h : Below w.heap.size w W) => HLS.out q lv W h HQZ.out HPZ.out)
      replace y1 := cell_below HAl.out y1
      go_wp2_with fail
      obtain ⟨wa, hwa⟩ : ∃ wa, wr.alloc (.cells #[.string p, .string lv] 51) = wa := ⟨_, rfl⟩
      rw [hwa] at HAl HBa HBv HM0 HOa y1 ⊢
      clear hwa
      obtain ⟨m0, m1, mf⟩ := box2J HM0.out
      have HW := hid (fun W' (hW : Below wa.heap.size wa W') => HBv.out.trans (hW.mono HBv.out.size))
      have HT := hid (fun W' (hW : Below wa.heap.size wa W') => (show (fun W' => W'.cell? ⟨yb, yo + i * 2 + 1, none⟩ = some (.string q) ∧ W'.cell? ⟨wr.heap.size, 1, none⟩ = some (.string lv) ∧ Hid (Below wa.heap.size wa W')) W' from ⟨cell_below hW y1, cell_below hW m1, hid hW⟩))
      change Hid (newsL Q (sel.take (i + 1)) = SX ++ if lessB q.data.toList lv.data.toList then [(p, lv)] else []) at HNX
      cases hle : lessB q.data.toList lv.data.toList with
      | false =>
        rw [hle] at HLP HNX
        have HN2 := hid (show newsL Q (sel.take (i + 1)) = SX by rw [HNX.out]; simp)
        clear hle
        go_region_held (fun W' => W'.cell? ⟨yb, yo + i * 2 + 1, none⟩ = some (.string q) ∧ W'.cell? ⟨wr.heap.size, 1, none⟩ = some (.string lv) ∧ Hid (Below wa.heap.size wa W')) (first | exact HT.out _ HRa.out | exact HT.out _ (below_drawn _ 1)) (first
          | (go_at_call 16; refine (HLP.out _ (HW.out _ (below_drawn _ 1))).mono ?_; rintro e w4 ⟨rfl, hb⟩; have HRa := hid ((below_drawn wa 1).trans (hb.mono (Nat.le_refl _))); clear hb))
        all_goals
          have HB5 := hid (HBa.out.trans (HRa.out.mono HBa.out.size))
          have HO5 := hid (owns_below HOa.out HRa.out)
          go_wp2_with fail
          go_roundw
          case rel => first | exact ⟨i + 1, HLI.out, nr_idx i, hid (by rw [HN2.out]; exact HO5.out), HB5⟩ | exact ⟨i + 1, HLI.out, nx_idx HLI.out HYM.out, hid (by rw [HN2.out]; exact HO5.out), HB5⟩
          case measure => first | exact nr_meas HLI.out | exact nx_meas HLI.out HYM.out
      | true =>
        rw [hle] at HLP HNX
        have HN2 := hid (show newsL Q (sel.take (i + 1)) = SX ++ [(p, lv)] by rw [HNX.out]; simp)
        clear hle
        go_region_held (fun W' => W'.cell? ⟨yb, yo + i * 2 + 1, none⟩ = some (.string q) ∧ W'.cell? ⟨wr.heap.size, 1, none⟩ = some (.string lv) ∧ Hid (Below wa.heap.size wa W')) (first | exact HT.out _ HRa.out | exact HT.out _ (below_drawn _ 1)) (first
          | (go_at_call 16; refine (HLP.out _ (HW.out _ (below_drawn _ 1))).mono ?_; rintro e w4 ⟨rfl, hb⟩; have HRa := hid ((below_drawn wa 1).trans (hb.mono (Nat.le_refl _))); clear hb))
        all_goals
          have HB5 := hid (HBa.out.trans (HRa.out.mono HBa.out.size))
          have HO5 := hid (owns_below HOa.out HRa.out)
          have n0 := cell_below HRa.out m0
          have n1 := cell_below HRa.out m1
          clear m0 m1 mf
          go_wp2_with (at_builtin; refine wpList_append_own _ rfl _ _ 52 rfl w3.heap.size 51 i0 _ 2 32 Tryz.underlying52 hi0 hz0 hz1 hz2 rfl (by decide) _ _ _ rfl (HO5.out.alloc _) ⟨w4.heap.size, 0, none⟩ 1 1 [.string p, .string lv] rfl rfl (World.news_of_block (heap_new _ _)) (by intro u hu; simp at hu; rcases hu with rfl | rfl <;> rfl) (Nat.le_trans (Nat.add_le_add_right HNL.out 1) (by unfold maxLen; decide)) (by have hz := HNL.out; omega) (Nat.le_trans HB5.out.size (by simp)) ?_)
          intro v' w6 hown hgrow _
          have HB6 := hid (rel_app2 HB5.out.size HB5.out HO5.out (Below.refl _ _) hgrow)
          have HO6 := hid (show w6.ownsRow w3.heap.size 51 2 v' (SX ++ [(p, lv)]).length (flatM (SX ++ [(p, lv)])) by rw [List.length_append, flatM_app]; exact hown)
          clear hown hgrow
          go_wp2_with fail
          go_roundw
          case rel => first | exact ⟨i + 1, HLI.out, nr_idx i, hid (by rw [HN2.out]; exact HO6.out), HB6⟩ | exact ⟨i + 1, HLI.out, nx_idx HLI.out HYM.out, hid (by rw [HN2.out]; exact HO6.out), HB6⟩
          case measure => first | exact nr_meas HLI.out | exact nx_meas HLI.out HYM.out
    · have hiI := ix_nlt hlt
      have HTA := hid (show sel.take i = sel from List.take_of_length_le (by have := HYL.out; omega))
      rw [HTA.out] at HOW
      have HOF := hid (own_base HOW.out HB3.out.size)
      obtain ⟨oa, oc, hov⟩ := own_slN HOW.out
      subst hov
      clear hlt
      go_wp2_with fail
      go_ret2
      exact ⟨_, rfl, HOF.out, HBw.out⟩
end Ve
end Go.Proofs.YtanponneancajaaGreatDoor
