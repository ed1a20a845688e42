/-
  RefR
-/
import Derived.Test.YtjhlkjgijbobcaaGreatDoorFt44
import Derived.Test.YtjhlkjgijbobcaaGreatDoorFt43
import Derived.Test.YtjhlkjgijbobcaaGreatDoorFt42
namespace Go.Proofs.YtjhlkjgijbobcaaGreatDoor
open Go.RowKit
namespace Ve
def SetQ (p : ByteArray) (X : List Bm) (r : Except Nat (List Bm)) (w w' : World) (e : Ending) : Prop :=
  ∃ v u, e = .returned (.tuple #[.agg #[.string (outS p X r).2.1, v, u], .int .i64 ((outS p X r).1 : Nat)]) ∧ MsAt w' v (outS p X r).2.2.1 ∧ MsAt w' u (outS p X r).2.2.2 ∧ Below w.heap.size w w'
theorem rel_app2 {B : Nat} {w wr w2 w3 : World} {e : TypeId} {v : Value} {n : Nat} {xs : List Value} {o : Obj} (hB : B ≤ wr.heap.size) (hb : Below B w wr) (hown : wr.ownsRow B e 2 v n xs) (hb2 : Below wr.heap.size wr w2)
    (hg : (w2.alloc o).grownBy w3 v.ownBlock) : Below B w w3 := by
  have h2 : Below B w w2 := hb.trans (hb2.mono hB)
  have h3 : Below B w (w2.alloc o) := h2.alloc (Nat.le_trans hB hb2.size) o
  exact h3.grown hg (by simp; exact Nat.le_succ_of_le (Nat.le_trans hB hb2.size)) (fun k hk => (hown.lt k hk).1)
def setW (w : World) (p : ByteArray) (v u : Value) (m : Bm) : World :=
  ((w.alloc (.cells #[.string p, v, u] 24)).alloc (.cells #[.string m.1, .string m.2] 26)).alloc (.cells #[.string ⟨#[]⟩, .slice none 0 0, .slice none 0 0] 24)
theorem setW_below (w : World) (p : ByteArray) (v u : Value) (m : Bm) : Below w.heap.size w (setW w p v u m) :=
  ((((Below.refl w.heap.size w).alloc (Nat.le_refl _) _).alloc (by simp) _).alloc (by simp; omega) _)
theorem setW_f (w : World) (p : ByteArray) (v u : Value) (m : Bm) : (setW w p v u m).heap[w.heap.size]? = some (.cells #[.string p, v, u] 24 (0, 0)) :=
  heap_old _ _ (heap_old _ _ (heap_new w _))
theorem setW_m (w : World) (p : ByteArray) (v u : Value) (m : Bm) : (setW w p v u m).heap[w.heap.size + 1]? = some (.cells #[.string m.1, .string m.2] 26 (0, 0)) := by
  have hz : (w.alloc (.cells #[.string p, v, u] 24)).heap.size = w.heap.size + 1 := by simp
  have := heap_new (w.alloc (.cells #[.string p, v, u] 24)) (.cells #[.string m.1, .string m.2] 26)
  rw [hz] at this
  exact heap_old _ _ this
theorem setW_r (w : World) (p : ByteArray) (v u : Value) (m : Bm) : (setW w p v u m).heap[w.heap.size + 1 + 1]? = some (.cells #[.string ⟨#[]⟩, .slice none 0 0, .slice none 0 0] 24 (0, 0)) := by
  have hz : ((w.alloc (.cells #[.string p, v, u] 24)).alloc (.cells #[.string m.1, .string m.2] 26)).heap.size = w.heap.size + 1 + 1 := by simp
  have := heap_new ((w.alloc (.cells #[.string p, v, u] 24)).alloc (.cells #[.string m.1, .string m.2] 26)) (.cells #[.string ⟨#[]⟩, .slice none 0 0, .slice none 0 0] 24)
  rw [hz] at this
  exact this
set_option maxHeartbeats 2000000 in
set_option maxRecDepth 100000 in
theorem setOf_bad (p : ByteArray) (R X : List Bm) (v u : Value) (m : Bm) (w : World) (hp : p.size < 999999) (F : Fl w R X v u) (h : (fileF p R X).1 ≠ 0) :
    Calls Tryz.prog 17 #[.agg #[.string p, v, u], .agg #[.string m.1, .string m.2]] w fun e w' => SetQ p X (setF p R X m) w w' e := by
  obtain ⟨⟨vp, vc, rfl⟩, up, uc, rfl⟩ := F.slices
  have HSF := hid (show setF p R X m = .error (fileF p R X).1 by unfold setF; rw [if_neg h])
  have HB0 := hid (setW_below w p (.slice vp R.length vc) (.slice up X.length uc) m)
  have HFF := hid (ffault_any p R X _ _ _ hp (F.below HB0.out))
  have HRB := hid (setW_r w p (.slice vp R.length vc) (.slice up X.length uc) m)
  have hpos : (0 : Int) < ((fileF p R X).1 : Int) := by omega
  have HNE := hid h
  unfold faultV at HFF
  generalize (fileF p R X).1 = z at *
  generalize atOf (fileF p R X).2 = y at *
  clear F h
  unfold setW at HB0 HFF HRB
  go_enter Tryz.func17, Tryz.ntmps17
  go_wp2_with fail
  refine HFF.out.mono ?_
  rintro e w1 ⟨rfl, hb⟩
  have HB1 := hid (HB0.out.trans (hb.mono HB0.out.size))
  have HR1 := hid (blk_keep HRB.out hb)
  clear hb
  have HBE := hid ((Below.refl w1.heap.size w1).alloc (Nat.le_refl _) (.cells #[.int .i64 z, .int .i64 y] 35))
  have HB2 := hid (HB1.out.trans (HBE.out.mono HB1.out.size))
  have HR2 := hid (blk_keep HR1.out HBE.out)
  have r0 : (w1.alloc (.cells #[.int .i64 z, .int .i64 y] 35)).cell? ⟨w.heap.size + 1 + 1, 0, none⟩ = some (.string ⟨#[]⟩) := by rw [Lib.cell_of_heap HR2.out]; rfl
  have r1 : (w1.alloc (.cells #[.int .i64 z, .int .i64 y] 35)).cell? ⟨w.heap.size + 1 + 1, 1, none⟩ = some (.slice none 0 0) := by rw [Lib.cell_of_heap HR2.out]; rfl
  have r2 : (w1.alloc (.cells #[.int .i64 z, .int .i64 y] 35)).cell? ⟨w.heap.size + 1 + 1, 2, none⟩ = some (.slice none 0 0) := by rw [Lib.cell_of_heap HR2.out]; rfl
  have rf := fun o => Lib.frozen_of_heap HR2.out o
  have e0 : (w1.alloc (.cells #[.int .i64 z, .int .i64 y] 35)).cell? ⟨w1.heap.size, 0, none⟩ = some (.int .i64 z) := by simp
  have hn1 : ¬ w1.heap.size = w.heap.size + 1 + 1 := by have := lt_of_blk HR1.out; omega
  have hn2 : ¬ w.heap.size + 1 + 1 = w1.heap.size := by have := lt_of_blk HR1.out; omega
  go_wp2_with fail
  generalize w1.alloc (.cells #[.int .i64 z, .int .i64 y] 35) = wE at *
  go_region
  go_wp2_with fail
  refine bodyPost_ret (v := .tuple #[.agg #[.string ⟨#[]⟩, .slice none 0 0, .slice none 0 0], .int .i64 z]) (by simp [results, Tryz.results17, go_sem, r0, r1, r2]) rfl ?_
  rw [HSF.out]
  exact ⟨_, _, rfl, ms_nil _, ms_nil _, below_drawn_of (put3_below HB2.out (show w.heap.size ≤ w.heap.size + 1 + 1 by omega)) 1⟩
theorem own_next {W : World} {B : Nat} {e : TypeId} {v : Value} {L L' : List Bm} {x : Bm} (h : W.ownsRow B e 2 v (L.length + 1) (flatM L ++ [.string x.1, .string x.2])) (hl : L' = L ++ [x]) : W.ownsRow B e 2 v L'.length (flatM L') := by
  subst hl
  rw [List.length_append, flatM_app]; exact h
theorem geq_is (a b : ByteArray) (X : World) : (binOp BinOp.geq 9 (.string a) (.string b)).run Tryz.prog X = .ok (.bool (!lt a b)) X := by rw [← noLess_lt, ← noLess_is]; rfl
set_option maxHeartbeats 8000000 in
set_option maxRecDepth 100000 in
theorem setOf_ok (p : ByteArray) (R X : List Bm) (v u : Value) (m : Bm) (w : World) (hp : p.size < 999999) (F : Fl w R X v u) (h : (fileF p R X).1 = 0) (hm : m.1.size < 999999 ∧ m.2.size < 999999) :
    Calls Tryz.prog 17 #[.agg #[.string p, v, u], .agg #[.string m.1, .string m.2]] w fun e w' => SetQ p X (setF p R X m) w w' e := by
  obtain ⟨i0, hi0, hz0, hz1, hz2⟩ := info_parts infoMod
  obtain ⟨⟨vp, vc, rfl⟩, up, uc, rfl⟩ := F.slices
  have HSF := hid (show setF p R X m = if (fileF p (setR R m) X).1 = 0 then .ok (setR R m) else .error (fileF p (setR R m) X).1 by unfold setF; rw [if_pos h])
  have HRI := hid (rising_ok h).1
  have hRn : R.length ≤ 20 := (rising_ok h).2.1
  have HB0 := hid (setW_below w p (.slice vp R.length vc) (.slice up X.length uc) m)
  have HFF := hid (ffault_any p R X _ _ _ hp (F.below HB0.out))
  have HRB := hid (setW_r w p (.slice vp R.length vc) (.slice up X.length uc) m)
  have HFB := hid (setW_f w p (.slice vp R.length vc) (.slice up X.length uc) m)
  have HMB := hid (setW_m w p (.slice vp R.length vc) (.slice up X.length uc) m)
  have HFL := hid F
  have HM := hid hm
  unfold faultV at HFF
  rw [h] at HFF
  generalize atOf (fileF p R X).2 = y at *
  clear F h hm
  unfold setW at HB0 HFF HRB HFB HMB
  go_enter Tryz.func17, Tryz.ntmps17
  go_wp2_with fail
  refine HFF.out.mono ?_
  rintro e w1 ⟨rfl, hb⟩
  have HB1 := hid (HB0.out.trans (hb.mono HB0.out.size))
  have HR1 := hid (blk_keep HRB.out hb)
  have HF1 := hid (blk_keep HFB.out hb)
  have HM1 := hid (blk_keep HMB.out hb)
  have hlt1 : w.heap.size + 1 + 1 < w1.heap.size := lt_of_blk HR1.out
  clear hb
  have HBE := hid ((Below.refl w1.heap.size w1).alloc (Nat.le_refl _) (.cells #[.int .i64 0, .int .i64 y] 35))
  have HEN := hid (heap_new w1 (.cells #[.int .i64 0, .int .i64 y] 35))
  go_wp2_with fail
  generalize hwE : w1.alloc (.cells #[.int .i64 0, .int .i64 y] 35) = wE at *
  have HB2 := hid (HB1.out.trans (HBE.out.mono HB1.out.size))
  have HR2 := hid (blk_keep HR1.out HBE.out)
  have HF2 := hid (blk_keep HF1.out HBE.out)
  have HM2 := hid (blk_keep HM1.out HBE.out)
  have HFE := hid (HFL.out.below HB2.out)
  clear hwE
  go_loopw [7, 8, 9] (fun ov dv iv wr => ∃ k : Nat, k ≤ R.length ∧ iv = .int .i64 k ∧ dv = .bool (stD (R.take k) m) ∧ Hid (wr.ownsRow wE.heap.size 26 2 ov (stO (R.take k) m).length (flatM (stO (R.take k) m))) ∧ Hid (Below wE.heap.size wE wr)) (fun _ _ iv _ => R.length - (intOf iv).toNat)
  case atStart => exact ⟨0, Nat.zero_le _, rfl, rfl, hid (World.ownsRow_nil _ _ _ _), hid (Below.refl _ _)⟩
  case round =>
    obtain ⟨k, hk, rfl, rfl, HO, HB⟩ := hrel
    have HFw := hid (blk_keep HF2.out HB.out)
    have HMw := hid (blk_keep HM2.out HB.out)
    have f0 : wr.cell? ⟨w.heap.size, 0, none⟩ = some (.string p) := by rw [Lib.cell_of_heap HFw.out]; rfl
    have f1 : wr.cell? ⟨w.heap.size, 1, none⟩ = some (.slice vp R.length vc) := by rw [Lib.cell_of_heap HFw.out]; rfl
    have f2 : wr.cell? ⟨w.heap.size, 2, none⟩ = some (.slice up X.length uc) := by rw [Lib.cell_of_heap HFw.out]; rfl
    have m0 : wr.cell? ⟨w.heap.size + 1, 0, none⟩ = some (.string m.1) := by rw [Lib.cell_of_heap HMw.out]; rfl
    have m1 : wr.cell? ⟨w.heap.size + 1, 1, none⟩ = some (.string m.2) := by rw [Lib.cell_of_heap HMw.out]; rfl
    have HLN := hid (show (stO (R.take k) m).length ≤ 50 by have := stO_len (R.take k) m; rw [List.length_take] at this; omega)
    by_cases hlt : k < R.length
    · obtain ⟨b, o, rfl, hc⟩ := HFE.out.r.at (by omega)
      have HXC := hid (hc k hlt)
      have x0 := cell_below HB.out (hc k hlt).1
      have x1 := cell_below HB.out (hc k hlt).2
      have hkI : (k : Int) < (R.length : Int) := by omega
      have HLT := hid hlt
      have HTK := hid (show R.take (k + 1) = R.take k ++ [R[k]] from List.take_succ_eq_append_getElem hlt)
      have HRT := hid (rising_take HRI.out hlt)
      clear hc
      have HA := hid (fun (h1 : stD (R.take k) m = false) (h2 : lt R[k].1 m.1 = true) => (HTK.out ▸ st_a (x := R[k]) h1 h2 : stD (R.take (k + 1)) m = false ∧ stO (R.take (k + 1)) m = stO (R.take k) m ++ [R[k]]))
      have HBB := hid (fun (h1 : stD (R.take k) m = false) (h2 : R[k].1 = m.1) => (HTK.out ▸ st_b (x := R[k]) h1 h2 : stD (R.take (k + 1)) m = true ∧ stO (R.take (k + 1)) m = stO (R.take k) m ++ [m]))
      have HCC := hid (fun (h1 : stD (R.take k) m = false) (h2 : lt m.1 R[k].1 = true) => (HTK.out ▸ st_c (x := R[k]) h1 h2 : stD (R.take (k + 1)) m = true ∧ stO (R.take (k + 1)) m = stO (R.take k) m ++ [m] ++ [R[k]]))
      have HDD := hid (fun (h1 : stD (R.take k) m = true) => (HTK.out ▸ st_d (x := R[k]) h1 HRT.out : stD (R.take (k + 1)) m = true ∧ stO (R.take (k + 1)) m = stO (R.take k) m ++ [R[k]]))
      clear HTK HRT
      generalize R[k] = x at *
      obtain ⟨xp, xv⟩ := x
      have hge := geq_is xp m.1
      clear hlt
      cases hd : stD (R.take k) m
      · rcases lt_three xp m.1 with hl | hl | hl
        · have HN := hid (HA.out hd hl)
          rw [hl] at hge
          clear hd hl HA HBB HCC HDD
          go_wp2_with fail
          go_quiet (fail)
          have HBd := hid (below_drawn_of HB.out nq)
          have HOd := hid (owns_below HO.out (below_drawn wr nq))
          replace f0 : (wr.drewN nq).cell? ⟨w.heap.size, 0, none⟩ = some (.string p) := f0
          replace f1 : (wr.drewN nq).cell? ⟨w.heap.size, 1, none⟩ = some (.slice (some ⟨b, o, none⟩) R.length vc) := f1
          replace f2 : (wr.drewN nq).cell? ⟨w.heap.size, 2, none⟩ = some (.slice up X.length uc) := f2
          replace m0 : (wr.drewN nq).cell? ⟨w.heap.size + 1, 0, none⟩ = some (.string m.1) := m0
          replace m1 : (wr.drewN nq).cell? ⟨w.heap.size + 1, 1, none⟩ = some (.string m.2) := m1
          replace x0 : (wr.drewN nq).cell? ⟨b, o + k * 2, none⟩ = some (.string xp) := x0
          replace x1 : (wr.drewN nq).cell? ⟨b, o + k * 2 + 1, none⟩ = some (.string xv) := x1
          generalize wr.drewN nq = wq at *
          go_wp2_with (at_builtin; refine wpList_append_own _ rfl _ _ 22 rfl wE.heap.size 26 i0 _ 2 32 Tryz.underlying22 hi0 hz0 hz1 hz2 rfl (by decide) _ _ _ rfl (HOd.out.alloc _) ⟨wq.heap.size, 0, none⟩ 1 1 [.string xp, .string xv] rfl rfl ?c1 ?c2 ?c3 ?c4 ?c5 ?_)
          case c1 => exact news2 _ _ _
          case c2 => exact two_one _ _
          case c3 => have := HLN.out; unfold maxLen; omega
          case c4 => have := HLN.out; omega
          case c5 => have := HBd.out.size; simp; omega
          intro v3 w3 hown hgrow _
          have HR3 := hid (rel_app2 HBd.out.size HBd.out HOd.out (Below.refl _ _) hgrow)
          have HO3 := hid hown
          clear hown hgrow
          go_wp2_with fail
          go_roundw
          case rel => exact ⟨k + 1, by have := HLT.out; omega, by go_num, by rw [HN.out.1], hid (own_next HO3.out HN.out.2), HR3⟩
          case measure => have := HLT.out; simp [intOf]; omega
        · have HN := hid (HBB.out hd hl)
          rw [show lt xp m.1 = false by rw [hl]; exact lt_irrefl _] at hge
          have hq := str_refl m.1
          rw [hl] at x0 hge HXC
          clear hd hl HA HBB HCC HDD
          go_wp2_with fail
          go_quiet (fail)
          have HBd := hid (below_drawn_of HB.out nq)
          have HOd := hid (owns_below HO.out (below_drawn wr nq))
          replace f0 : (wr.drewN nq).cell? ⟨w.heap.size, 0, none⟩ = some (.string p) := f0
          replace f1 : (wr.drewN nq).cell? ⟨w.heap.size, 1, none⟩ = some (.slice (some ⟨b, o, none⟩) R.length vc) := f1
          replace f2 : (wr.drewN nq).cell? ⟨w.heap.size, 2, none⟩ = some (.slice up X.length uc) := f2
          replace m0 : (wr.drewN nq).cell? ⟨w.heap.size + 1, 0, none⟩ = some (.string m.1) := m0
          replace m1 : (wr.drewN nq).cell? ⟨w.heap.size + 1, 1, none⟩ = some (.string m.2) := m1
          replace x0 : (wr.drewN nq).cell? ⟨b, o + k * 2, none⟩ = some (.string m.1) := x0
          replace x1 : (wr.drewN nq).cell? ⟨b, o + k * 2 + 1, none⟩ = some (.string xv) := x1
          generalize wr.drewN nq = wq at *
          go_wp2_with (at_builtin; refine wpList_append_own _ rfl _ _ 22 rfl wE.heap.size 26 i0 _ 2 32 Tryz.underlying22 hi0 hz0 hz1 hz2 rfl (by decide) _ _ _ rfl (HOd.out.alloc _) ⟨wq.heap.size, 0, none⟩ 1 1 [.string m.1, .string m.2] rfl rfl ?c1 ?c2 ?c3 ?c4 ?c5 ?_)
          case c1 => exact news2 _ _ _
          case c2 => exact two_one _ _
          case c3 => have := HLN.out; unfold maxLen; omega
          case c4 => have := HLN.out; omega
          case c5 => have := HBd.out.size; simp; omega
          intro v3 w3 hown hgrow _
          have HR3 := hid (rel_app2 HBd.out.size HBd.out HOd.out (Below.refl _ _) hgrow)
          have HO3 := hid hown
          clear hown hgrow
          clear f0 f1 f2 m0 m1 x0 x1
          have HFw3 := hid (blk_keep HF2.out HR3.out)
          have HMw3 := hid (blk_keep HM2.out HR3.out)
          have f1 : w3.cell? ⟨w.heap.size, 1, none⟩ = some (.slice (some ⟨b, o, none⟩) R.length vc) := by rw [Lib.cell_of_heap HFw3.out]; rfl
          have m0 : w3.cell? ⟨w.heap.size + 1, 0, none⟩ = some (.string m.1) := by rw [Lib.cell_of_heap HMw3.out]; rfl
          have x0 := cell_below HR3.out HXC.out.1
          have x1 := cell_below HR3.out HXC.out.2
          go_wp2_with fail
          go_quiet (fail)
          have HR4 := hid (below_drawn_of HR3.out nq)
          have HO4 := hid (owns_below HO3.out (below_drawn w3 nq))
          replace f1 : (w3.drewN nq).cell? ⟨w.heap.size, 1, none⟩ = some (.slice (some ⟨b, o, none⟩) R.length vc) := f1
          replace x0 : (w3.drewN nq).cell? ⟨b, o + k * 2, none⟩ = some (.string m.1) := x0
          replace x1 : (w3.drewN nq).cell? ⟨b, o + k * 2 + 1, none⟩ = some (.string xv) := x1
          generalize w3.drewN nq = w4 at *
          go_wp2_with fail
          go_roundw
          case rel => exact ⟨k + 1, by have := HLT.out; omega, by go_num, by rw [HN.out.1], hid (own_next HO4.out HN.out.2), HR4⟩
          case measure => have := HLT.out; simp [intOf]; omega
        · have HN := hid (HCC.out hd hl)
          rw [lt_asymm hl] at hge
          have hq := str_ne (show ¬ xp = m.1 from fun e => by rw [e, lt_irrefl] at hl; cases hl)
          clear hd hl HA HBB HCC HDD
          go_wp2_with fail
          go_quiet (fail)
          have HBd := hid (below_drawn_of HB.out nq)
          have HOd := hid (owns_below HO.out (below_drawn wr nq))
          replace f0 : (wr.drewN nq).cell? ⟨w.heap.size, 0, none⟩ = some (.string p) := f0
          replace f1 : (wr.drewN nq).cell? ⟨w.heap.size, 1, none⟩ = some (.slice (some ⟨b, o, none⟩) R.length vc) := f1
          replace f2 : (wr.drewN nq).cell? ⟨w.heap.size, 2, none⟩ = some (.slice up X.length uc) := f2
          replace m0 : (wr.drewN nq).cell? ⟨w.heap.size + 1, 0, none⟩ = some (.string m.1) := m0
          replace m1 : (wr.drewN nq).cell? ⟨w.heap.size + 1, 1, none⟩ = some (.string m.2) := m1
          replace x0 : (wr.drewN nq).cell? ⟨b, o + k * 2, none⟩ = some (.string xp) := x0
          replace x1 : (wr.drewN nq).cell? ⟨b, o + k * 2 + 1, none⟩ = some (.string xv) := x1
          generalize wr.drewN nq = wq at *
          go_wp2_with (at_builtin; refine wpList_append_own _ rfl _ _ 22 rfl wE.heap.size 26 i0 _ 2 32 Tryz.underlying22 hi0 hz0 hz1 hz2 rfl (by decide) _ _ _ rfl (HOd.out.alloc _) ⟨wq.heap.size, 0, none⟩ 1 1 [.string m.1, .string m.2] rfl rfl ?c1 ?c2 ?c3 ?c4 ?c5 ?_)
          case c1 => exact news2 _ _ _
          case c2 => exact two_one _ _
          case c3 => have := HLN.out; unfold maxLen; omega
          case c4 => have := HLN.out; omega
          case c5 => have := HBd.out.size; simp; omega
          intro v3 w3 hown hgrow _
          have HR3 := hid (rel_app2 HBd.out.size HBd.out HOd.out (Below.refl _ _) hgrow)
          have HO3 := hid hown
          clear hown hgrow
          clear f0 f1 f2 m0 m1 x0 x1
          have HFw3 := hid (blk_keep HF2.out HR3.out)
          have HMw3 := hid (blk_keep HM2.out HR3.out)
          have f1 : w3.cell? ⟨w.heap.size, 1, none⟩ = some (.slice (some ⟨b, o, none⟩) R.length vc) := by rw [Lib.cell_of_heap HFw3.out]; rfl
          have m0 : w3.cell? ⟨w.heap.size + 1, 0, none⟩ = some (.string m.1) := by rw [Lib.cell_of_heap HMw3.out]; rfl
          have x0 := cell_below HR3.out HXC.out.1
          have x1 := cell_below HR3.out HXC.out.2
          go_wp2_with fail
          go_quiet (fail)
          have HR4 := hid (below_drawn_of HR3.out nq)
          have HO4 := hid (owns_below HO3.out (below_drawn w3 nq))
          replace f1 : (w3.drewN nq).cell? ⟨w.heap.size, 1, none⟩ = some (.slice (some ⟨b, o, none⟩) R.length vc) := f1
          replace x0 : (w3.drewN nq).cell? ⟨b, o + k * 2, none⟩ = some (.string xp) := x0
          replace x1 : (w3.drewN nq).cell? ⟨b, o + k * 2 + 1, none⟩ = some (.string xv) := x1
          generalize w3.drewN nq = w4 at *
          have HL1 := hid (show (stO (R.take k) m ++ [m]).length ≤ 51 by rw [List.length_append]; exact Nat.succ_le_succ HLN.out)
          replace HO4 := hid (own_next (L := stO (R.take k) m) (x := m) HO4.out rfl)
          go_wp2_with (at_builtin; refine wpList_append_own _ rfl _ _ 22 rfl wE.heap.size 26 i0 _ 2 32 Tryz.underlying22 hi0 hz0 hz1 hz2 rfl (by decide) _ _ _ rfl (HO4.out.alloc _) ⟨w4.heap.size, 0, none⟩ 1 1 [.string xp, .string xv] rfl rfl ?c1 ?c2 ?c3 ?c4 ?c5 ?_)
          case c1 => exact news2 _ _ _
          case c2 => exact two_one _ _
          case c3 => have := HL1.out; unfold maxLen; omega
          case c4 => have := HL1.out; omega
          case c5 => have := HR4.out.size; simp; omega
          intro v5 w5 hown hgrow _
          have HR5 := hid (rel_app2 HR4.out.size HR4.out HO4.out (Below.refl _ _) hgrow)
          have HO5 := hid hown
          clear hown hgrow
          go_wp2_with fail
          go_roundw
          case rel => exact ⟨k + 1, by have := HLT.out; omega, by go_num, by rw [HN.out.1], hid (own_next (L := stO (R.take k) m ++ [m]) (x := (xp, xv)) (by rw [List.length_append]; exact HO5.out) HN.out.2), HR5⟩
          case measure => have := HLT.out; simp [intOf]; omega
      · have HN := hid (HDD.out hd)
        clear hd HA HBB HCC HDD
        go_wp2_with fail
        go_quiet (fail)
        have HBd := hid (below_drawn_of HB.out nq)
        have HOd := hid (owns_below HO.out (below_drawn wr nq))
        replace f0 : (wr.drewN nq).cell? ⟨w.heap.size, 0, none⟩ = some (.string p) := f0
        replace f1 : (wr.drewN nq).cell? ⟨w.heap.size, 1, none⟩ = some (.slice (some ⟨b, o, none⟩) R.length vc) := f1
        replace f2 : (wr.drewN nq).cell? ⟨w.heap.size, 2, none⟩ = some (.slice up X.length uc) := f2
        replace m0 : (wr.drewN nq).cell? ⟨w.heap.size + 1, 0, none⟩ = some (.string m.1) := m0
        replace m1 : (wr.drewN nq).cell? ⟨w.heap.size + 1, 1, none⟩ = some (.string m.2) := m1
        replace x0 : (wr.drewN nq).cell? ⟨b, o + k * 2, none⟩ = some (.string xp) := x0
        replace x1 : (wr.drewN nq).cell? ⟨b, o + k * 2 + 1, none⟩ = some (.string xv) := x1
        generalize wr.drewN nq = wq at *
        go_wp2_with (at_builtin; refine wpList_append_own _ rfl _ _ 22 rfl wE.heap.size 26 i0 _ 2 32 Tryz.underlying22 hi0 hz0 hz1 hz2 rfl (by decide) _ _ _ rfl (HOd.out.alloc _) ⟨wq.heap.size, 0, none⟩ 1 1 [.string xp, .string xv] rfl rfl ?c1 ?c2 ?c3 ?c4 ?c5 ?_)
        case c1 => exact news2 _ _ _
        case c2 => exact two_one _ _
        case c3 => have := HLN.out; unfold maxLen; omega
        case c4 => have := HLN.out; omega
        case c5 => have := HBd.out.size; simp; omega
        intro v3 w3 hown hgrow _
        have HR3 := hid (rel_app2 HBd.out.size HBd.out HOd.out (Below.refl _ _) hgrow)
        have HO3 := hid hown
        clear hown hgrow
        go_wp2_with fail
        go_roundw
        case rel => exact ⟨k + 1, by have := HLT.out; omega, by go_num, by rw [HN.out.1], hid (own_next HO3.out HN.out.2), HR3⟩
        case measure => have := HLT.out; simp [intOf]; omega
    · have HTR := hid (show R.take k = R from List.take_of_length_le (by omega))
      rw [HTR.out] at HO HLN
      have HST := hid (st_end R m)
      have HLS := hid (show (setR R m).length ≤ 51 by
        rw [← HST.out]
        have := HLN.out
        split
        · omega
        · rw [List.length_append]; simp; omega)
      rw [HTR.out]
      have hkI : ¬ (k : Int) < (R.length : Int) := by omega
      clear hlt
      cases hd : stD R m
      · rw [hd, if_neg (by decide)] at HST
        go_wp2_with (at_builtin; refine wpList_append_own _ rfl _ _ 22 rfl wE.heap.size 26 i0 _ 2 32 Tryz.underlying22 hi0 hz0 hz1 hz2 rfl (by decide) _ _ _ rfl (HO.out.alloc _) ⟨wr.heap.size, 0, none⟩ 1 1 [.string m.1, .string m.2] rfl rfl ?c1 ?c2 ?c3 ?c4 ?c5 ?_)
        case c2 => exact ⟨rfl, rfl⟩
        case c3 => have := HLN.out; unfold maxLen; omega
        case c4 => have := HLN.out; omega
        case c5 => have := HB.out.size; omega
        intro v3 w3 hown hgrow _
        have HR3 := hid (rel_app2 HB.out.size HB.out HO.out (Below.refl _ _) hgrow)
        have HO3 := hid hown
        clear hown hgrow
        have HOW := hid (own_next (L := stO R m) (x := m) HO3.out HST.out.symm)
        have HBW := HR3
        generalize v3 = vv at *
        generalize w3 = W at *
        clear f0 f1 f2 m0 m1 HO3 HR3
        obtain ⟨na, nn, nc, rfl⟩ := own_sl HOW.out
        have HFW := hid (blk_keep HF2.out HBW.out)
        have HRW := hid (blk_keep HR2.out HBW.out)
        have HEW := hid (blk_keep HEN.out HBW.out)
        have f0 : W.cell? ⟨w.heap.size, 0, none⟩ = some (.string p) := by rw [Lib.cell_of_heap HFW.out]; rfl
        have f1 : W.cell? ⟨w.heap.size, 1, none⟩ = some (.slice vp R.length vc) := by rw [Lib.cell_of_heap HFW.out]; rfl
        have f2 : W.cell? ⟨w.heap.size, 2, none⟩ = some (.slice up X.length uc) := by rw [Lib.cell_of_heap HFW.out]; rfl
        have ff := fun o => Lib.frozen_of_heap HFW.out o
        have HBs := hid ((HB2.out.trans (HBW.out.mono HB2.out.size)).setCell (p := ⟨w.heap.size, 1, none⟩) (Nat.le_refl _) (.slice na nn nc))
        have HFs := hid (set_block (o := 1) (x := .slice na nn nc) HFW.out)
        have HRs := hid (keep_set (o := 1) (x := .slice na nn nc) HRW.out (show w.heap.size + 1 + 1 ≠ w.heap.size by omega))
        have HEs := hid (keep_set (o := 1) (x := .slice na nn nc) HEW.out (show w1.heap.size ≠ w.heap.size by omega))
        have HOs := hid (owns_set (o := 1) (x := .slice na nn nc) HOW.out (own_ne2 HOW.out HFW.out (by decide)))
        have HFl := hid (show Fl (W.setCell ⟨w.heap.size, 1, none⟩ (.slice na nn nc)) (setR R m) X (.slice na nn nc) (.slice up X.length uc) from ⟨own_ms HOs.out, HFL.out.x.below HBs.out, set_short HFL.out.rs HM.out, HFL.out.xs, by have := HLS.out; omega, HFL.out.xn⟩)
        have HF5 := hid (ffault_any p (setR R m) X _ _ _ hp HFl.out)
        unfold faultV at HF5
        go_wp2_with fail
        refine HF5.out.mono ?_
        rintro e w5 ⟨rfl, hb⟩
        have HB5 := hid (HBs.out.trans (hb.mono HBs.out.size))
        have HFk := hid (blk_keep HFs.out hb)
        have HRk := hid (blk_keep HRs.out hb)
        have HEk := hid (blk_keep HEs.out hb)
        have HOk := hid (owns_below HOs.out hb)
        clear hb f0 f1 f2 ff
        have ef := fun o => Lib.frozen_of_heap HEk.out o
        have e0 : w5.cell? ⟨w1.heap.size, 0, none⟩ = some (.int .i64 0) := by rw [Lib.cell_of_heap HEk.out]; rfl
        have e1 : w5.cell? ⟨w1.heap.size, 1, none⟩ = some (.int .i64 y) := by rw [Lib.cell_of_heap HEk.out]; rfl
        have f0 : w5.cell? ⟨w.heap.size, 0, none⟩ = some (.string p) := by rw [Lib.cell_of_heap HFk.out]; rfl
        have f1 : w5.cell? ⟨w.heap.size, 1, none⟩ = some (.slice na nn nc) := by rw [Lib.cell_of_heap HFk.out]; rfl
        have f2 : w5.cell? ⟨w.heap.size, 2, none⟩ = some (.slice up X.length uc) := by rw [Lib.cell_of_heap HFk.out]; rfl
        have r0 : w5.cell? ⟨w.heap.size + 1 + 1, 0, none⟩ = some (.string ⟨#[]⟩) := by rw [Lib.cell_of_heap HRk.out]; rfl
        have r1 : w5.cell? ⟨w.heap.size + 1 + 1, 1, none⟩ = some (.slice none 0 0) := by rw [Lib.cell_of_heap HRk.out]; rfl
        have r2 : w5.cell? ⟨w.heap.size + 1 + 1, 2, none⟩ = some (.slice none 0 0) := by rw [Lib.cell_of_heap HRk.out]; rfl
        have rf := fun o => Lib.frozen_of_heap HRk.out o
        have hn1 : ¬ w.heap.size = w1.heap.size := by omega
        have hn2 : ¬ w1.heap.size = w.heap.size := by omega
        have hn3 : ¬ w.heap.size + 1 + 1 = w1.heap.size := by omega
        have hn4 : ¬ w1.heap.size = w.heap.size + 1 + 1 := by omega
        by_cases hcode : (fileF p (setR R m) X).1 = 0
        · have HSK := hid (show setF p R X m = .ok (setR R m) by rw [HSF.out, if_pos hcode])
          rw [hcode]
          generalize atOf (fileF p (setR R m) X).2 = y2 at *
          have HB6 := hid ((HB5.out.setCell (p := ⟨w1.heap.size, 0, none⟩) (show w.heap.size ≤ w1.heap.size by omega) (.int .i64 0)).setCell (p := ⟨w1.heap.size, 1, none⟩) (show w.heap.size ≤ w1.heap.size by omega) (.int .i64 y2))
          have HF6 := hid (keep_set (o := 1) (x := .int .i64 y2) (keep_set (o := 0) (x := .int .i64 0) HFk.out (show w.heap.size ≠ w1.heap.size by omega)) (show w.heap.size ≠ w1.heap.size by omega))
          have HR6 := hid (keep_set (o := 1) (x := .int .i64 y2) (keep_set (o := 0) (x := .int .i64 0) HRk.out (show w.heap.size + 1 + 1 ≠ w1.heap.size by omega)) (show w.heap.size + 1 + 1 ≠ w1.heap.size by omega))
          have HO6 := hid (owns_set (o := 1) (x := .int .i64 y2) (owns_set (o := 0) (x := .int .i64 0) HOk.out (own_ne2 HOk.out HEk.out (by decide))) (own_ne2 HOk.out HEk.out (by decide)))
          go_wp2_with fail
          refine bodyPost_ret (v := .tuple #[.agg #[.string p, .slice na nn nc, .slice up X.length uc], .int .i64 0]) (by simp [results, Tryz.results17, go_sem, r0, r1, r2]) rfl ?_
          rw [HSK.out]
          have HB7 := hid (put3_below (x := .string p) (y := .slice na nn nc) (z := .slice up X.length uc) HB6.out (show w.heap.size ≤ w.heap.size + 1 + 1 by omega))
          exact ⟨_, _, rfl, own_ms (put3_owns HO6.out (own_ne2 HO6.out HR6.out (by decide))), HFL.out.x.below HB7.out, HB7.out⟩
        · have HSK := hid (show setF p R X m = .error (fileF p (setR R m) X).1 by rw [HSF.out, if_neg hcode])
          have hpos : (0 : Int) < ((fileF p (setR R m) X).1 : Int) := by omega
          generalize (fileF p (setR R m) X).1 = z2 at *
          generalize atOf (fileF p (setR R m) X).2 = y2 at *
          have HB6 := hid ((HB5.out.setCell (p := ⟨w1.heap.size, 0, none⟩) (show w.heap.size ≤ w1.heap.size by omega) (.int .i64 z2)).setCell (p := ⟨w1.heap.size, 1, none⟩) (show w.heap.size ≤ w1.heap.size by omega) (.int .i64 y2))
          have HR6 := hid (keep_set (o := 1) (x := .int .i64 y2) (keep_set (o := 0) (x := .int .i64 z2) HRk.out hn3) hn3)
          have HE6 := hid (set_block (o := 1) (x := .int .i64 y2) (set_block (o := 0) (x := .int .i64 z2) HEk.out))
          go_wp2_with fail
          clear e0 e1 ef r0 r1 r2 rf f0 f1 f2
          have e0 : ((w5.setCell ⟨w1.heap.size, 0, none⟩ (.int .i64 z2)).setCell ⟨w1.heap.size, 1, none⟩ (.int .i64 y2)).cell? ⟨w1.heap.size, 0, none⟩ = some (.int .i64 z2) := by rw [Lib.cell_of_heap HE6.out]; rfl
          have r0 : ((w5.setCell ⟨w1.heap.size, 0, none⟩ (.int .i64 z2)).setCell ⟨w1.heap.size, 1, none⟩ (.int .i64 y2)).cell? ⟨w.heap.size + 1 + 1, 0, none⟩ = some (.string ⟨#[]⟩) := by rw [Lib.cell_of_heap HR6.out]; rfl
          have r1 : ((w5.setCell ⟨w1.heap.size, 0, none⟩ (.int .i64 z2)).setCell ⟨w1.heap.size, 1, none⟩ (.int .i64 y2)).cell? ⟨w.heap.size + 1 + 1, 1, none⟩ = some (.slice none 0 0) := by rw [Lib.cell_of_heap HR6.out]; rfl
          have r2 : ((w5.setCell ⟨w1.heap.size, 0, none⟩ (.int .i64 z2)).setCell ⟨w1.heap.size, 1, none⟩ (.int .i64 y2)).cell? ⟨w.heap.size + 1 + 1, 2, none⟩ = some (.slice none 0 0) := by rw [Lib.cell_of_heap HR6.out]; rfl
          have rf := fun o => Lib.frozen_of_heap HR6.out o
          generalize (w5.setCell ⟨w1.heap.size, 0, none⟩ (.int .i64 z2)).setCell ⟨w1.heap.size, 1, none⟩ (.int .i64 y2) = w6 at *
          go_region
          go_wp2_with fail
          refine bodyPost_ret (v := .tuple #[.agg #[.string ⟨#[]⟩, .slice none 0 0, .slice none 0 0], .int .i64 z2]) (by simp [results, Tryz.results17, go_sem, r0, r1, r2]) rfl ?_
          rw [HSK.out]
          exact ⟨_, _, rfl, ms_nil _, ms_nil _, below_drawn_of (put3_below HB6.out (show w.heap.size ≤ w.heap.size + 1 + 1 by omega)) 1⟩
      · rw [hd, if_pos rfl] at HST
        have HOW := hid (show wr.ownsRow wE.heap.size 26 2 u7 (setR R m).length (flatM (setR R m)) by rw [← HST.out]; exact HO.out)
        have HBW := HB
        clear f0 f1 f2 m0 m1
        generalize wr = W at *
        generalize u7 = vv at *
        obtain ⟨na, nn, nc, rfl⟩ := own_sl HOW.out
        have HFW := hid (blk_keep HF2.out HBW.out)
        have HRW := hid (blk_keep HR2.out HBW.out)
        have HEW := hid (blk_keep HEN.out HBW.out)
        have f0 : W.cell? ⟨w.heap.size, 0, none⟩ = some (.string p) := by rw [Lib.cell_of_heap HFW.out]; rfl
        have f1 : W.cell? ⟨w.heap.size, 1, none⟩ = some (.slice vp R.length vc) := by rw [Lib.cell_of_heap HFW.out]; rfl
        have f2 : W.cell? ⟨w.heap.size, 2, none⟩ = some (.slice up X.length uc) := by rw [Lib.cell_of_heap HFW.out]; rfl
        have ff := fun o => Lib.frozen_of_heap HFW.out o
        have HBs := hid ((HB2.out.trans (HBW.out.mono HB2.out.size)).setCell (p := ⟨w.heap.size, 1, none⟩) (Nat.le_refl _) (.slice na nn nc))
        have HFs := hid (set_block (o := 1) (x := .slice na nn nc) HFW.out)
        have HRs := hid (keep_set (o := 1) (x := .slice na nn nc) HRW.out (show w.heap.size + 1 + 1 ≠ w.heap.size by omega))
        have HEs := hid (keep_set (o := 1) (x := .slice na nn nc) HEW.out (show w1.heap.size ≠ w.heap.size by omega))
        have HOs := hid (owns_set (o := 1) (x := .slice na nn nc) HOW.out (own_ne2 HOW.out HFW.out (by decide)))
        have HFl := hid (show Fl (W.setCell ⟨w.heap.size, 1, none⟩ (.slice na nn nc)) (setR R m) X (.slice na nn nc) (.slice up X.length uc) from ⟨own_ms HOs.out, HFL.out.x.below HBs.out, set_short HFL.out.rs HM.out, HFL.out.xs, by have := HLS.out; omega, HFL.out.xn⟩)
        have HF5 := hid (ffault_any p (setR R m) X _ _ _ hp HFl.out)
        unfold faultV at HF5
        go_wp2_with fail
        refine HF5.out.mono ?_
        rintro e w5 ⟨rfl, hb⟩
        have HB5 := hid (HBs.out.trans (hb.mono HBs.out.size))
        have HFk := hid (blk_keep HFs.out hb)
        have HRk := hid (blk_keep HRs.out hb)
        have HEk := hid (blk_keep HEs.out hb)
        have HOk := hid (owns_below HOs.out hb)
        clear hb f0 f1 f2 ff
        have ef := fun o => Lib.frozen_of_heap HEk.out o
        have e0 : w5.cell? ⟨w1.heap.size, 0, none⟩ = some (.int .i64 0) := by rw [Lib.cell_of_heap HEk.out]; rfl
        have e1 : w5.cell? ⟨w1.heap.size, 1, none⟩ = some (.int .i64 y) := by rw [Lib.cell_of_heap HEk.out]; rfl
        have f0 : w5.cell? ⟨w.heap.size, 0, none⟩ = some (.string p) := by rw [Lib.cell_of_heap HFk.out]; rfl
        have f1 : w5.cell? ⟨w.heap.size, 1, none⟩ = some (.slice na nn nc) := by rw [Lib.cell_of_heap HFk.out]; rfl
        have f2 : w5.cell? ⟨w.heap.size, 2, none⟩ = some (.slice up X.length uc) := by rw [Lib.cell_of_heap HFk.out]; rfl
        have r0 : w5.cell? ⟨w.heap.size + 1 + 1, 0, none⟩ = some (.string ⟨#[]⟩) := by rw [Lib.cell_of_heap HRk.out]; rfl
        have r1 : w5.cell? ⟨w.heap.size + 1 + 1, 1, none⟩ = some (.slice none 0 0) := by rw [Lib.cell_of_heap HRk.out]; rfl
        have r2 : w5.cell? ⟨w.heap.size + 1 + 1, 2, none⟩ = some (.slice none 0 0) := by rw [Lib.cell_of_heap HRk.out]; rfl
        have rf := fun o => Lib.frozen_of_heap HRk.out o
        have hn1 : ¬ w.heap.size = w1.heap.size := by omega
        have hn2 : ¬ w1.heap.size = w.heap.size := by omega
        have hn3 : ¬ w.heap.size + 1 + 1 = w1.heap.size := by omega
        have hn4 : ¬ w1.heap.size = w.heap.size + 1 + 1 := by omega
        by_cases hcode : (fileF p (setR R m) X).1 = 0
        · have HSK := hid (show setF p R X m = .ok (setR R m) by rw [HSF.out, if_pos hcode])
          rw [hcode]
          generalize atOf (fileF p (setR R m) X).2 = y2 at *
          have HB6 := hid ((HB5.out.setCell (p := ⟨w1.heap.size, 0, none⟩) (show w.heap.size ≤ w1.heap.size by omega) (.int .i64 0)).setCell (p := ⟨w1.heap.size, 1, none⟩) (show w.heap.size ≤ w1.heap.size by omega) (.int .i64 y2))
          have HF6 := hid (keep_set (o := 1) (x := .int .i64 y2) (keep_set (o := 0) (x := .int .i64 0) HFk.out (show w.heap.size ≠ w1.heap.size by omega)) (show w.heap.size ≠ w1.heap.size by omega))
          have HR6 := hid (keep_set (o := 1) (x := .int .i64 y2) (keep_set (o := 0) (x := .int .i64 0) HRk.out (show w.heap.size + 1 + 1 ≠ w1.heap.size by omega)) (show w.heap.size + 1 + 1 ≠ w1.heap.size by omega))
          have HO6 := hid (owns_set (o := 1) (x := .int .i64 y2) (owns_set (o := 0) (x := .int .i64 0) HOk.out (own_ne2 HOk.out HEk.out (by decide))) (own_ne2 HOk.out HEk.out (by decide)))
          go_wp2_with fail
          refine bodyPost_ret (v := .tuple #[.agg #[.string p, .slice na nn nc, .slice up X.length uc], .int .i64 0]) (by simp [results, Tryz.results17, go_sem, r0, r1, r2]) rfl ?_
          rw [HSK.out]
          have HB7 := hid (put3_below (x := .string p) (y := .slice na nn nc) (z := .slice up X.length uc) HB6.out (show w.heap.size ≤ w.heap.size + 1 + 1 by omega))
          exact ⟨_, _, rfl, own_ms (put3_owns HO6.out (own_ne2 HO6.out HR6.out (by decide))), HFL.out.x.below HB7.out, HB7.out⟩
        · have HSK := hid (show setF p R X m = .error (fileF p (setR R m) X).1 by rw [HSF.out, if_neg hcode])
          have hpos : (0 : Int) < ((fileF p (setR R m) X).1 : Int) := by omega
          generalize (fileF p (setR R m) X).1 = z2 at *
          generalize atOf (fileF p (setR R m) X).2 = y2 at *
          have HB6 := hid ((HB5.out.setCell (p := ⟨w1.heap.size, 0, none⟩) (show w.heap.size ≤ w1.heap.size by omega) (.int .i64 z2)).setCell (p := ⟨w1.heap.size, 1, none⟩) (show w.heap.size ≤ w1.heap.size by omega) (.int .i64 y2))
          have HR6 := hid (keep_set (o := 1) (x := .int .i64 y2) (keep_set (o := 0) (x := .int .i64 z2) HRk.out hn3) hn3)
          have HE6 := hid (set_block (o := 1) (x := .int .i64 y2) (set_block (o := 0) (x := .int .i64 z2) HEk.out))
          go_wp2_with fail
          clear e0 e1 ef r0 r1 r2 rf f0 f1 f2
          have e0 : ((w5.setCell ⟨w1.heap.size, 0, none⟩ (.int .i64 z2)).setCell ⟨w1.heap.size, 1, none⟩ (.int .i64 y2)).cell? ⟨w1.heap.size, 0, none⟩ = some (.int .i64 z2) := by rw [Lib.cell_of_heap HE6.out]; rfl
          have r0 : ((w5.setCell ⟨w1.heap.size, 0, none⟩ (.int .i64 z2)).setCell ⟨w1.heap.size, 1, none⟩ (.int .i64 y2)).cell? ⟨w.heap.size + 1 + 1, 0, none⟩ = some (.string ⟨#[]⟩) := by rw [Lib.cell_of_heap HR6.out]; rfl
          have r1 : ((w5.setCell ⟨w1.heap.size, 0, none⟩ (.int .i64 z2)).setCell ⟨w1.heap.size, 1, none⟩ (.int .i64 y2)).cell? ⟨w.heap.size + 1 + 1, 1, none⟩ = some (.slice none 0 0) := by rw [Lib.cell_of_heap HR6.out]; rfl
          have r2 : ((w5.setCell ⟨w1.heap.size, 0, none⟩ (.int .i64 z2)).setCell ⟨w1.heap.size, 1, none⟩ (.int .i64 y2)).cell? ⟨w.heap.size + 1 + 1, 2, none⟩ = some (.slice none 0 0) := by rw [Lib.cell_of_heap HR6.out]; rfl
          have rf := fun o => Lib.frozen_of_heap HR6.out o
          generalize (w5.setCell ⟨w1.heap.size, 0, none⟩ (.int .i64 z2)).setCell ⟨w1.heap.size, 1, none⟩ (.int .i64 y2) = w6 at *
          go_region
          go_wp2_with fail
          refine bodyPost_ret (v := .tuple #[.agg #[.string ⟨#[]⟩, .slice none 0 0, .slice none 0 0], .int .i64 z2]) (by simp [results, Tryz.results17, go_sem, r0, r1, r2]) rfl ?_
          rw [HSK.out]
          exact ⟨_, _, rfl, ms_nil _, ms_nil _, below_drawn_of (put3_below HB6.out (show w.heap.size ≤ w.heap.size + 1 + 1 by omega)) 1⟩
end Ve
end Go.Proofs.YtjhlkjgijbobcaaGreatDoor
