
import Derived.Test.YtpafkniapacfdaaGreatDoorSs38
namespace Go.Proofs.YtpafkniapacfdaaGreatDoor
open Go.RowKit
namespace Ve
structure PrG (w W : World) (fb : Nat) (u : Value) (X : List Ln) : Prop where
  pb : Fb w W fb 0 (-1)
  own : W.ownsRow (fb + 1) 51 3 u X.length (flatN .i64 X)
theorem PrG.below {w W W' : World} {fb : Nat} {u : Value} {X : List Ln} (h : PrG w W fb u X) (hb : Below W.heap.size W W') : PrG w W' fb u X :=
  ⟨h.pb.below hb, owns_below h.own hb⟩
theorem PrG.far {w W : World} {fb b : Nat} {u : Value} {X : List Ln} (h : PrG w W fb u X) (hb : b ≤ fb) : some b ≠ u.ownBlock := fun e => by
  have := (h.own.lt b e.symm).1
  omega
theorem flatG_snoc (X : List Ln) (x : Ln) : flatN .i64 (X ++ [x]) = flatN .i64 X ++ [.string x.1.1, .string x.1.2, .int .i64 (x.2 : Nat)] := by rw [flatN_app]; rfl
theorem PrG.app {w wr W3 W4 : World} {fb : Nat} {u v' : Value} {X : List Ln} {x : Ln} {o : Obj} (h : PrG w wr fb u X) (hb : Below wr.heap.size wr W3) (hg : (W3.alloc o).grownBy W4 u.ownBlock)
    (hown : W4.ownsRow (fb + 1) 51 3 v' (X.length + 1) (flatN .i64 X ++ [.string x.1.1, .string x.1.2, .int .i64 (x.2 : Nat)])) : PrG w W4 fb v' (X ++ [x]) := by
  have hge := h.pb.ge
  have hlf := lt_of_blk h.pb.f
  have h2 : Below wr.heap.size wr (W3.alloc o) := hb.alloc hb.size o
  have hB : Below w.heap.size w (W3.alloc o) := h.pb.bl.trans (h2.mono h.pb.bl.size)
  have keep : ∀ b ob, b ≤ fb → wr.heap[b]? = some ob → W4.heap[b]? = some ob := fun b ob hbf he => by
    have hbl := lt_of_blk he
    have h3 := hb.size
    rw [hg.block b (by simp; omega) (h.far hbf), h2.block b hbl]; exact he
  refine ⟨⟨hB.grown hg hB.size fun k hk => by have := (h.own.lt k hk).1; omega, keep _ _ (by omega) h.pb.e, keep _ _ (Nat.le_refl _) h.pb.f, hge⟩, ?_⟩
  rw [flatG_snoc, List.length_append]; exact hown
theorem own_setG {W : World} {B fb o n : Nat} {e : TypeId} {u x : Value} {xs : List Value} (h : W.ownsRow B e 3 u n xs) (hne : some fb ≠ u.ownBlock) : (W.setCell ⟨fb, o, none⟩ x).ownsRow B e 3 u n xs := by
  obtain ⟨hl, h | ⟨g, cap, cur, e1, e2, e3, r⟩⟩ := h
  · exact ⟨hl, Or.inl h⟩
  · refine ⟨hl, Or.inr ⟨g, cap, cur, e1, e2, keep_setS e3 (fun h => hne (by rw [e1, h]; rfl)), r⟩⟩
set_option maxRecDepth 100000 in
set_option maxHeartbeats 4000000 in
theorem rss_good (Q : List Raw) (L : List Ent) (R : List Bm) (v rv : Value) (w : World) (hn : L.length ≤ 1000) (sh : ∀ e, e ∈ L → ShE e) (ok : ∀ e, e ∈ L → OkE e) (I : Ixs w v Q L) (hR : R.length ≤ 1000) (hr : MsAt w rv R) (hc : chk Q L = (0, none)) (hs : slF Q R = (0, none)) :
    Calls Tryz.prog 18 #[v, rv] w fun e w' => ∃ u, e = .returned (.tuple #[u, faultV (0, none)]) ∧ LnAt .i64 w' u (sumL Q L R) ∧ Below w.heap.size w w' := by
  obtain ⟨i0, hi0, hz0, hz1, hz2⟩ := info_parts infoGLine
  have HB0 := hid ((Below.refl w.heap.size w).alloc (Nat.le_refl _) (.cells #[.int .i64 0, .int .i64 0] 47))
  have HIF := hid (fun W (h : Below w.heap.size w W) => iFault_any Q L v W hn sh (I.below h))
  have HSF := hid (fun W (h : Below w.heap.size w W) => rsel_any Q R v rv W (by rw [I.ln]; exact hn) (by omega) (I.es.below h) (hr.below h))
  have HFI := hid (fun m W (h : Below w.heap.size w W) => findOf_all Q m v W (by rw [I.ln]; omega) (I.es.below h))
  have HKM := hid (fun j (hj : j < R.length) => (found_iff I R[j]).1 (nonE_found I (by have : (slF Q R).1 = 0 := by rw [hs]
                                                                                       exact this) _ (List.getElem_mem hj)))
  have HMR := hid (fun W (h : Below w.heap.size w W) => hr.below h)
  have HMW := hid hr
  have HI := hid I
  have HOK := hid ok
  have HRR := hid hR
  have HFN := hid (fun W => fine_any W)
  have HQL := hid I.ln
  obtain ⟨va, vc, hv1, -⟩ := id I.es
  subst hv1
  obtain ⟨ra, rc, hrv, -⟩ := id hr
  subst hrv
  rw [hc] at HIF
  rw [hs] at HSF
  unfold faultV at HIF HSF ⊢
  simp only at HIF HSF ⊢
  have ha : atOf none = -1 := rfl
  rw [ha] at HIF HSF ⊢
  clear I sh ok hc hs hr hn
  go_enter Tryz.func18, Tryz.ntmps18
  go_wp2_with fail
  refine (HIF.out _ HB0.out).mono ?_
  rintro e w1 ⟨rfl, hb⟩
  have HP1 := hid (Fb.start (c := 0) (a := -1) (by simpa using hb))
  clear hb
  obtain ⟨-, f0, f1, ff⟩ := HP1.out.cells
  go_wp2_with fail
  generalize w1.alloc (.cells #[.int .i64 0, .int .i64 (-1)] 47) = w2 at *
  refine (HSF.out _ HP1.out.bl).mono ?_
  rintro e w3 ⟨rfl, hb⟩
  have HP3 := hid (HP1.out.below hb)
  clear hb f0 f1 ff HP1
  obtain ⟨-, f0, f1, ff⟩ := HP3.out.cells
  have HP4 := hid (HP3.out.set (x := 0) (y := -1))
  go_wp2_with fail
  generalize (w3.setCell ⟨w1.heap.size, 0, none⟩ (.int .i64 0)).setCell ⟨w1.heap.size, 1, none⟩ (.int .i64 (-1)) = w4 at *
  clear f0 f1 ff HP3
  obtain ⟨-, f0, f1, ff⟩ := HP4.out.cells
  go_wp2_with fail
  have HR4 := hid (show PrG w w4 w1.heap.size (.slice none 0 0) (sumL Q L (R.take 0)) from ⟨HP4.out, World.ownsRow_nil _ _ _ _⟩)
  clear f0 f1 ff
  go_loopw [7, 8] (fun ov iv wr => ∃ i : Nat, i ≤ R.length ∧ iv = .int .i64 i ∧ Hid (PrG w wr w1.heap.size ov (sumL Q L (R.take i)))) (fun _ iv _ => R.length - (intOf iv).toNat)
  case atStart => exact ⟨0, Nat.zero_le _, rfl, HR4⟩
  case round =>
    obtain ⟨i, hi, rfl, HPR⟩ := hrel
    by_cases hlt : i < R.length
    · have hiI := ix_lt hlt
      have hii := ix_pos i
      obtain ⟨xb, xo, hxa, y0, y1⟩ := HMW.out.cells hlt
      subst hxa
      obtain ⟨k, hk⟩ := HKM.out i hlt
      obtain ⟨hkQ, -⟩ := idx_is hk
      have hkL : k < L.length := by rw [← HQL.out]; exact hkQ
      have HST := hid (sumL_next (Q := Q) (L := L) hlt)
      rw [entQ_at hk hkL] at HST
      have HSL := hid (show (sumL Q L (R.take i)).length ≤ 1000 by rw [sumL_len, List.length_take]; omega)
      obtain ⟨eb, eo, hea⟩ : ∃ b o, va = some ⟨b, o, none⟩ := by
        obtain ⟨a', c', e, _, _, h⟩ := HI.out.es
        injection e with q1 q2 q3
        obtain ⟨b, o, h4, _⟩ := h (fun h => by rw [h] at hkQ; simp at hkQ)
        exact ⟨b, o, by rw [q1, h4]⟩
      subst hea
      obtain ⟨ra', rc', pa, pc, z0, z1, z2, z3, z4, hrq, hpk⟩ := ent_at HI.out hkQ hkL
      have HOF := hid (fun W (h : Below w.heap.size w W) => rso_any L[k] ra' rc' pa pc W (HOK.out _ (List.getElem_mem hkL)) (hrq.below h) (hpk.below h))
      have HFI2 := hid (fun W h => HFI.out R[i] W h)
      rw [hk] at HFI2
      have hge := HPR.out.pb.ge
      have HNF := hid (HPR.out.far (b := eb) (by have : eb < w.heap.size := lt_of_cell z0; omega))
      have HNX := hid (HPR.out.far (b := xb) (by have : xb < w.heap.size := lt_of_cell y0; omega))
      clear hrq hpk hk HKM HFI
      generalize sumE L[k] = sm at *
      generalize L[k] = e at *
      obtain ⟨⟨ep, eq⟩, eR, eP, ek⟩ := e
      generalize R[i] = x at *
      obtain ⟨p, q⟩ := x
      dsimp only at y0 y1 z0 z1 z2 z3 z4 HOF HFI2 HST
      obtain ⟨SX, hSX⟩ : ∃ SX, sumL Q L (R.take i) = SX := ⟨_, rfl⟩
      rw [hSX] at HPR HST HSL
      have HLI := hid hlt
      clear hSX hlt
      have HW := hid (fun W' (hW : Below wr.heap.size wr W') => HPR.out.pb.bl.trans (hW.mono HPR.out.pb.bl.size))
      have HT := hid (fun W' (hW : Below wr.heap.size wr W') => (show (fun W' => W'.cell? ⟨xb, xo + i * 2, none⟩ = some (.string p) ∧ W'.cell? ⟨xb, xo + i * 2 + 1, none⟩ = some (.string q) ∧ W'.cell? ⟨eb, eo + k * 5, none⟩ = some (.string ep) ∧ W'.cell? ⟨eb, eo + k * 5 + 1, none⟩ = some (.string eq) ∧ W'.cell? ⟨eb, eo + k * 5 + 2, none⟩ = some (.slice ra' eR.length rc') ∧ W'.cell? ⟨eb, eo + k * 5 + 3, none⟩ = some (.slice pa eP.length pc) ∧ W'.cell? ⟨eb, eo + k * 5 + 4, none⟩ = some (.bool ek)) W' from
        let B := HPR.out.pb.bl.trans (hW.mono HPR.out.pb.bl.size)
        ⟨cell_below B y0, cell_below B y1, cell_below B z0, cell_below B z1, cell_below B z2, cell_below B z3, cell_below B z4⟩))
      clear y0 y1 z0 z1 z2 z3 z4
      have hk0 := ix_pos k
      have hkI : (k : Int) < (Q.length : Int) := by omega
      go_wp2_with fail
      go_region_held_law (fun W' => W'.cell? ⟨xb, xo + i * 2, none⟩ = some (.string p) ∧ W'.cell? ⟨xb, xo + i * 2 + 1, none⟩ = some (.string q) ∧ W'.cell? ⟨eb, eo + k * 5, none⟩ = some (.string ep) ∧ W'.cell? ⟨eb, eo + k * 5 + 1, none⟩ = some (.string eq) ∧ W'.cell? ⟨eb, eo + k * 5 + 2, none⟩ = some (.slice ra' eR.length rc') ∧ W'.cell? ⟨eb, eo + k * 5 + 3, none⟩ = some (.slice pa eP.length pc) ∧ W'.cell? ⟨eb, eo + k * 5 + 4, none⟩ = some (.bool ek)) (first | exact (let ⟨t0, t1, t2, t3, t4, t5, t6⟩ := HT.out _ HRa.out; ⟨keep_growX HR9.out HNX.out t0, keep_growX HR9.out HNX.out t1, keep_growX HR9.out HNF.out t2, keep_growX HR9.out HNF.out t3, keep_growX HR9.out HNF.out t4, keep_growX HR9.out HNF.out t5, keep_growX HR9.out HNF.out t6⟩) | exact HT.out _ (HRa.out.alloc HRa.out.size _) | exact HT.out _ HRa.out | exact HT.out _ (below_drawn _ 1)) (first
        | (go_at_call 50; refine (HFI2.out _ (HW.out _ (below_drawn _ 1))).mono ?_; rintro e w3 ⟨rfl, hb⟩; have HRa := hid ((below_drawn wr 1).trans (hb.mono (Nat.le_refl _))); clear hb)
        | (go_at_call 17; refine (HOF.out _ (HW.out _ HRa.out)).mono ?_; rintro e w3 ⟨rfl, hb⟩; have HRa := hid (HRa.out.trans (hb.mono HRa.out.size)); clear hb)
        | (refine step_append_lies _ (by rfl) _ _ 49 (by rfl) (w1.heap.size + 1) 51 i0 _ 3 40 Tryz.underlying49 hi0 hz0 hz1 hz2 rfl (by decide) _ _ _ (by rfl) ((owns_below HPR.out.own HRa.out).alloc _) ⟨w3.heap.size, 0, none⟩ 1 1 [.string p, .string q, .int .i64 (sm : Nat)] (by rfl) rfl (World.news_of_block (heap_alloc_new _ _)) (by intro u hu; simp at hu; rcases hu with rfl | rfl | rfl <;> rfl) (by decide) (Nat.le_trans (Nat.add_le_add_right HSL.out 1) (by unfold maxLen; decide)) (by have := HSL.out; omega) (by have := HRa.out.size; have := lt_of_blk HPR.out.pb.f; simp; omega) (w3.heap.size + 1) (by simp) ?_; intro g cap w4 hown hgrow hat hlt2; have HR9 := hid hgrow))
      all_goals
        have HPN := hid (HPR.out.app (x := ((p, q), sm)) HRa.out hgrow hown)
        clear hown hgrow hat hlt2 HR9
        go_wp2_with fail
        go_roundw
        case rel => first | exact ⟨i + 1, HLI.out, nr_idx i, by rw [HST.out]; exact HPN⟩ | exact ⟨i + 1, HLI.out, nx_idx HLI.out (by omega), by rw [HST.out]; exact HPN⟩
        case measure => first | exact nr_meas HLI.out | exact nx_meas HLI.out (by omega)
    · have hiI := ix_nlt hlt
      have HTA := hid (show R.take i = R from List.take_of_length_le (by omega))
      rw [HTA.out] at HPR
      clear hlt
      go_wp2_with fail
      refine (HFN.out _).mono ?_
      rintro e w7 ⟨rfl, hb⟩
      have HR7 := hid (HPR.out.below hb)
      clear hb
      obtain ⟨⟨s0, s1, sf⟩, -⟩ := HR7.out.pb.cells
      go_wp2_with fail
      refine bodyPost_ret (v := .tuple #[u7, .agg #[.int .i64 0, .int .i64 (-1)]]) (by simp [results, Tryz.results18, go_sem, s0, s1]) rfl ⟨_, rfl, ?_, ?_⟩
      · have hne : some w.heap.size ≠ u7.ownBlock := HR7.out.far (by have := HR7.out.pb.ge; omega)
        exact own_ln (own_setG (own_setG HR7.out.own hne) hne)
      · exact put2S_below HR7.out.pb.bl (Nat.le_refl _)
end Ve
end Go.Proofs.YtpafkniapacfdaaGreatDoor
