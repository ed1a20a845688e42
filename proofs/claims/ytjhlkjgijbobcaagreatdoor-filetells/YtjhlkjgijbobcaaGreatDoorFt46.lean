/-
  RefV FilTC
-/
import Derived.Test.YtjhlkjgijbobcaaGreatDoorFt45
import Derived.Test.YtjhlkjgijbobcaaGreatDoorFt38
import Derived.Test.YtjhlkjgijbobcaaGreatDoorFt44
namespace Go.Proofs.YtjhlkjgijbobcaaGreatDoor
open Go.RowKit
namespace Ve
theorem fp_eqR (R : List Bm) (t : ByteArray) : (fpOf R t = -1 ∧ (eqR R t).isEmpty = true) ∨ (0 ≤ fpOf R t ∧ (eqR R t).isEmpty = false) := by
  rcases fpOf_P R t with ⟨h1, h2⟩ | ⟨k, h1, hk, h2⟩
  · left
    refine ⟨h1, ?_⟩
    rw [List.isEmpty_iff]
    unfold eqR
    rw [List.filter_eq_nil_iff]
    intro m hm
    obtain ⟨j, hj, e⟩ := List.getElem_of_mem hm
    subst e
    simpa using h2 j hj
  · right
    refine ⟨by rw [h1]; omega, ?_⟩
    cases e : (eqR R t).isEmpty
    · rfl
    · rw [List.isEmpty_iff] at e
      unfold eqR at e
      rw [List.filter_eq_nil_iff] at e
      have := e R[k] (List.getElem_mem hk)
      simp [h2] at this
def dropW (w : World) (p : ByteArray) (v u : Value) : World :=
  (w.alloc (.cells #[.string p, v, u] 24)).alloc (.cells #[.string ⟨#[]⟩, .slice none 0 0, .slice none 0 0] 24)
theorem dropW_below (w : World) (p : ByteArray) (v u : Value) : Below w.heap.size w (dropW w p v u) :=
  ((Below.refl w.heap.size w).alloc (Nat.le_refl _) _).alloc (by simp) _
theorem dropW_f (w : World) (p : ByteArray) (v u : Value) : (dropW w p v u).heap[w.heap.size]? = some (.cells #[.string p, v, u] 24 (0, 0)) :=
  heap_old _ _ (heap_new w _)
theorem dropW_r (w : World) (p : ByteArray) (v u : Value) : (dropW w p v u).heap[w.heap.size + 1]? = some (.cells #[.string ⟨#[]⟩, .slice none 0 0, .slice none 0 0] 24 (0, 0)) := by
  have hz : (w.alloc (.cells #[.string p, v, u] 24)).heap.size = w.heap.size + 1 := by simp
  have := heap_new (w.alloc (.cells #[.string p, v, u] 24)) (.cells #[.string ⟨#[]⟩, .slice none 0 0, .slice none 0 0] 24)
  rw [hz] at this
  exact this
set_option maxHeartbeats 2000000 in
set_option maxRecDepth 100000 in
theorem dropOf_bad (p : ByteArray) (R X : List Bm) (v u : Value) (t : ByteArray) (w : World) (hp : p.size < 999999) (F : Fl w R X v u) (h : (fileF p R X).1 ≠ 0) :
    Calls Tryz.prog 20 #[.agg #[.string p, v, u], .string t] w fun e w' => SetQ p X (dropF p R X t) w w' e := by
  obtain ⟨⟨vp, vc, rfl⟩, up, uc, rfl⟩ := F.slices
  have HSF := hid (show dropF p R X t = .error (fileF p R X).1 by unfold dropF; rw [if_neg h])
  have HB0 := hid (dropW_below w p (.slice vp R.length vc) (.slice up X.length uc))
  have HFF := hid (ffault_any p R X _ _ _ hp (F.below HB0.out))
  have HRB := hid (dropW_r w p (.slice vp R.length vc) (.slice up X.length uc))
  have hpos : (0 : Int) < ((fileF p R X).1 : Int) := by omega
  unfold faultV at HFF
  generalize (fileF p R X).1 = z at *
  generalize atOf (fileF p R X).2 = y at *
  clear F h
  unfold dropW at HB0 HFF HRB
  go_enter Tryz.func20, Tryz.ntmps20
  go_wp2_with fail
  refine HFF.out.mono ?_
  rintro e w1 ⟨rfl, hb⟩
  have HB1 := hid (HB0.out.trans (hb.mono HB0.out.size))
  have HR1 := hid (blk_keep HRB.out hb)
  clear hb
  have HBE := hid ((Below.refl w1.heap.size w1).alloc (Nat.le_refl _) (.cells #[.int .i64 z, .int .i64 y] 35))
  have HB2 := hid (HB1.out.trans (HBE.out.mono HB1.out.size))
  have HR2 := hid (blk_keep HR1.out HBE.out)
  have r0 : (w1.alloc (.cells #[.int .i64 z, .int .i64 y] 35)).cell? ⟨w.heap.size + 1, 0, none⟩ = some (.string ⟨#[]⟩) := by rw [Lib.cell_of_heap HR2.out]; rfl
  have r1 : (w1.alloc (.cells #[.int .i64 z, .int .i64 y] 35)).cell? ⟨w.heap.size + 1, 1, none⟩ = some (.slice none 0 0) := by rw [Lib.cell_of_heap HR2.out]; rfl
  have r2 : (w1.alloc (.cells #[.int .i64 z, .int .i64 y] 35)).cell? ⟨w.heap.size + 1, 2, none⟩ = some (.slice none 0 0) := by rw [Lib.cell_of_heap HR2.out]; rfl
  have rf := fun o => Lib.frozen_of_heap HR2.out o
  have e0 : (w1.alloc (.cells #[.int .i64 z, .int .i64 y] 35)).cell? ⟨w1.heap.size, 0, none⟩ = some (.int .i64 z) := by simp
  have hn1 : ¬ w1.heap.size = w.heap.size + 1 := by have := lt_of_blk HR1.out; omega
  have hn2 : ¬ w.heap.size + 1 = w1.heap.size := by have := lt_of_blk HR1.out; omega
  go_wp2_with fail
  generalize w1.alloc (.cells #[.int .i64 z, .int .i64 y] 35) = wE at *
  go_region
  go_wp2_with fail
  refine bodyPost_ret (v := .tuple #[.agg #[.string ⟨#[]⟩, .slice none 0 0, .slice none 0 0], .int .i64 z]) (by simp [results, Tryz.results20, go_sem, r0, r1, r2]) rfl ?_
  rw [HSF.out]
  exact ⟨_, _, rfl, ms_nil _, ms_nil _, below_drawn_of (put3_below HB2.out (show w.heap.size ≤ w.heap.size + 1 by omega)) 1⟩
set_option maxHeartbeats 8000000 in
set_option maxRecDepth 100000 in
theorem dropOf_ok (p : ByteArray) (R X : List Bm) (v u : Value) (t : ByteArray) (w : World) (hp : p.size < 999999) (F : Fl w R X v u) (h : (fileF p R X).1 = 0) :
    Calls Tryz.prog 20 #[.agg #[.string p, v, u], .string t] w fun e w' => SetQ p X (dropF p R X t) w w' e := by
  obtain ⟨i0, hi0, hz0, hz1, hz2⟩ := info_parts infoMod
  obtain ⟨⟨vp, vc, rfl⟩, up, uc, rfl⟩ := F.slices
  have HSF := hid (show dropF p R X t = if (eqR R t).isEmpty then .error 5 else .ok (dropR R t) by unfold dropF; rw [if_pos h])
  have HDR := hid (rising_drop (rising_ok h).1 t)
  have hRn : R.length ≤ 20 := (rising_ok h).2.1
  have HB0 := hid (dropW_below w p (.slice vp R.length vc) (.slice up X.length uc))
  have HFF := hid (ffault_any p R X _ _ _ hp (F.below HB0.out))
  have HRB := hid (dropW_r w p (.slice vp R.length vc) (.slice up X.length uc))
  have HFB := hid (dropW_f w p (.slice vp R.length vc) (.slice up X.length uc))
  have HFL := hid F
  unfold faultV at HFF
  rw [h] at HFF
  generalize atOf (fileF p R X).2 = y at *
  clear F h
  unfold dropW at HB0 HFF HRB HFB
  go_enter Tryz.func20, Tryz.ntmps20
  go_wp2_with fail
  refine HFF.out.mono ?_
  rintro e w1 ⟨rfl, hb⟩
  have HB1 := hid (HB0.out.trans (hb.mono HB0.out.size))
  have HR1 := hid (blk_keep HRB.out hb)
  have HF1 := hid (blk_keep HFB.out hb)
  have hlt1 : w.heap.size + 1 < w1.heap.size := lt_of_blk HR1.out
  clear hb
  have HBE := hid ((Below.refl w1.heap.size w1).alloc (Nat.le_refl _) (.cells #[.int .i64 0, .int .i64 y] 35))
  have HB2 := hid (HB1.out.trans (HBE.out.mono HB1.out.size))
  have HR2 := hid (blk_keep HR1.out HBE.out)
  have HF2 := hid (blk_keep HF1.out HBE.out)
  have HFE := hid (HFL.out.below HB2.out)
  have f0 : (w1.alloc (.cells #[.int .i64 0, .int .i64 y] 35)).cell? ⟨w.heap.size, 0, none⟩ = some (.string p) := by rw [Lib.cell_of_heap HF2.out]; rfl
  have f1 : (w1.alloc (.cells #[.int .i64 0, .int .i64 y] 35)).cell? ⟨w.heap.size, 1, none⟩ = some (.slice vp R.length vc) := by rw [Lib.cell_of_heap HF2.out]; rfl
  have f2 : (w1.alloc (.cells #[.int .i64 0, .int .i64 y] 35)).cell? ⟨w.heap.size, 2, none⟩ = some (.slice up X.length uc) := by rw [Lib.cell_of_heap HF2.out]; rfl
  have r0 : (w1.alloc (.cells #[.int .i64 0, .int .i64 y] 35)).cell? ⟨w.heap.size + 1, 0, none⟩ = some (.string ⟨#[]⟩) := by rw [Lib.cell_of_heap HR2.out]; rfl
  have r1 : (w1.alloc (.cells #[.int .i64 0, .int .i64 y] 35)).cell? ⟨w.heap.size + 1, 1, none⟩ = some (.slice none 0 0) := by rw [Lib.cell_of_heap HR2.out]; rfl
  have r2 : (w1.alloc (.cells #[.int .i64 0, .int .i64 y] 35)).cell? ⟨w.heap.size + 1, 2, none⟩ = some (.slice none 0 0) := by rw [Lib.cell_of_heap HR2.out]; rfl
  have rf := fun o => Lib.frozen_of_heap HR2.out o
  go_wp2_with fail
  generalize w1.alloc (.cells #[.int .i64 0, .int .i64 y] 35) = wE at *
  refine (fp_is R t _ wE HFE.out.rn HFE.out.r).mono ?_
  rintro e w2 ⟨rfl, rfl⟩
  rcases fp_eqR R t with ⟨hf, he⟩ | ⟨hf, he⟩
  · rw [he, if_pos rfl] at HSF
    rw [hf]
    go_wp2_with fail
    refine bodyPost_ret (v := .tuple #[.agg #[.string ⟨#[]⟩, .slice none 0 0, .slice none 0 0], .int .i64 5]) (by simp [results, Tryz.results20, go_sem, r0, r1, r2]) rfl ?_
    rw [HSF.out]
    exact ⟨_, _, rfl, ms_nil _, ms_nil _, put3_below HB2.out (show w.heap.size ≤ w.heap.size + 1 by omega)⟩
  · rw [he, if_neg (by decide), HDR.out] at HSF
    have hneg : ¬ fpOf R t < 0 := by omega
    generalize fpOf R t = fp at *
    clear hf he f0 f1 f2 r0 r1 r2 rf
    go_wp2_with fail
    go_loopw [7, 8] (fun ov iv wr => ∃ k : Nat, k ≤ R.length ∧ iv = .int .i64 k ∧ Hid (wr.ownsRow w2.heap.size 26 2 ov (lft (R.take k) t).length (flatM (lft (R.take k) t))) ∧ Hid (Below w2.heap.size w2 wr)) (fun _ iv _ => R.length - (intOf iv).toNat)
    case atStart => exact ⟨0, Nat.zero_le _, rfl, hid (World.ownsRow_nil _ _ _ _), hid (Below.refl _ _)⟩
    case round =>
      obtain ⟨k, hk, rfl, HO, HB⟩ := hrel
      have HFw := hid (blk_keep HF2.out HB.out)
      have HRw := hid (blk_keep HR2.out HB.out)
      have f0 : wr.cell? ⟨w.heap.size, 0, none⟩ = some (.string p) := by rw [Lib.cell_of_heap HFw.out]; rfl
      have f1 : wr.cell? ⟨w.heap.size, 1, none⟩ = some (.slice vp R.length vc) := by rw [Lib.cell_of_heap HFw.out]; rfl
      have f2 : wr.cell? ⟨w.heap.size, 2, none⟩ = some (.slice up X.length uc) := by rw [Lib.cell_of_heap HFw.out]; rfl
      have HLN := hid (show (lft (R.take k) t).length ≤ 50 by have := lft_len (R.take k) t; rw [List.length_take] at this; omega)
      by_cases hlt : k < R.length
      · obtain ⟨b, o, rfl, hc⟩ := HFE.out.r.at (by omega)
        have x0 := cell_below HB.out (hc k hlt).1
        have x1 := cell_below HB.out (hc k hlt).2
        have hkI : (k : Int) < (R.length : Int) := by omega
        have HLT := hid hlt
        have HTK := hid (show R.take (k + 1) = R.take k ++ [R[k]] from List.take_succ_eq_append_getElem hlt)
        have HA := hid (fun (h1 : ¬ R[k].1 = t) => (HTK.out ▸ lft_yes (x := R[k]) h1 : lft (R.take (k + 1)) t = lft (R.take k) t ++ [R[k]]))
        have HC := hid (fun (h1 : R[k].1 = t) => (HTK.out ▸ lft_no (x := R[k]) h1 : lft (R.take (k + 1)) t = lft (R.take k) t))
        clear HTK hc
        generalize R[k] = x at *
        obtain ⟨xp, xv⟩ := x
        clear hlt
        by_cases hx : xp = t
        · have HN := hid (HC.out hx)
          rw [hx] at x0
          have hq := str_refl t
          clear hx HA HC
          go_wp2_with fail
          go_roundw
          case rel => exact ⟨k + 1, by have := HLT.out; omega, by go_num, by rw [HN.out]; exact HO, HB⟩
          case measure => have := HLT.out; simp [intOf]; omega
        · have HN := hid (HA.out hx)
          have hq := str_ne hx
          clear hx HA HC
          go_wp2_with (at_builtin; refine wpList_append_own _ rfl _ _ 22 rfl w2.heap.size 26 i0 _ 2 32 Tryz.underlying22 hi0 hz0 hz1 hz2 rfl (by decide) _ _ _ rfl (HO.out.alloc _) ⟨wr.heap.size, 0, none⟩ 1 1 [.string xp, .string xv] rfl rfl ?c1 ?c2 ?c3 ?c4 ?c5 ?_)
          case c2 => exact ⟨rfl, rfl⟩
          case c3 => have := HLN.out; unfold maxLen; omega
          case c4 => have := HLN.out; omega
          case c5 => have := HB.out.size; omega
          intro v3 w3 hown hgrow _
          have HR3 := hid (rel_app2 HB.out.size HB.out HO.out (Below.refl _ _) hgrow)
          have HO3 := hid hown
          clear hown hgrow
          go_wp2_with fail
          go_roundw
          case rel => exact ⟨k + 1, by have := HLT.out; omega, by go_num, hid (own_next (x := (xp, xv)) HO3.out HN.out), HR3⟩
          case measure => have := HLT.out; simp [intOf]; omega
      · have HTR := hid (show R.take k = R from List.take_of_length_le (by omega))
        rw [HTR.out] at HO HLN
        have hkI : ¬ (k : Int) < (R.length : Int) := by omega
        clear hlt
        generalize u7 = vv at *
        obtain ⟨na, nn, nc, rfl⟩ := own_sl HO.out
        have ff := fun o => Lib.frozen_of_heap HFw.out o
        have r0 : wr.cell? ⟨w.heap.size + 1, 0, none⟩ = some (.string ⟨#[]⟩) := by rw [Lib.cell_of_heap HRw.out]; rfl
        have r1 : wr.cell? ⟨w.heap.size + 1, 1, none⟩ = some (.slice none 0 0) := by rw [Lib.cell_of_heap HRw.out]; rfl
        have r2 : wr.cell? ⟨w.heap.size + 1, 2, none⟩ = some (.slice none 0 0) := by rw [Lib.cell_of_heap HRw.out]; rfl
        have rf := fun o => Lib.frozen_of_heap HRw.out o
        have HBs := hid ((HB2.out.trans (HB.out.mono HB2.out.size)).setCell (p := ⟨w.heap.size, 1, none⟩) (Nat.le_refl _) (.slice na nn nc))
        have HRs := hid (keep_set (o := 1) (x := .slice na nn nc) HRw.out (show w.heap.size + 1 ≠ w.heap.size by omega))
        have HOs := hid (owns_set (o := 1) (x := .slice na nn nc) HO.out (own_ne2 HO.out HFw.out (by decide)))
        go_wp2_with fail
        refine bodyPost_ret (v := .tuple #[.agg #[.string p, .slice na nn nc, .slice up X.length uc], .int .i64 0]) (by simp [results, Tryz.results20, go_sem, r0, r1, r2]) rfl ?_
        rw [HSF.out]
        have HB7 := hid (put3_below (x := .string p) (y := .slice na nn nc) (z := .slice up X.length uc) HBs.out (show w.heap.size ≤ w.heap.size + 1 by omega))
        exact ⟨_, _, rfl, own_ms (put3_owns HOs.out (own_ne2 HOs.out HRs.out (by decide))), HFL.out.x.below HB7.out, HB7.out⟩
theorem setOf_any (p : ByteArray) (R X : List Bm) (v u : Value) (m : Bm) (w : World) (hp : p.size < 999999) (F : Fl w R X v u) (hm : m.1.size < 999999 ∧ m.2.size < 999999) :
    Calls Tryz.prog 17 #[.agg #[.string p, v, u], .agg #[.string m.1, .string m.2]] w fun e w' => SetQ p X (setF p R X m) w w' e := by
  by_cases h : (fileF p R X).1 = 0
  · exact setOf_ok p R X v u m w hp F h hm
  · exact setOf_bad p R X v u m w hp F h
theorem dropOf_any (p : ByteArray) (R X : List Bm) (v u : Value) (t : ByteArray) (w : World) (hp : p.size < 999999) (F : Fl w R X v u) :
    Calls Tryz.prog 20 #[.agg #[.string p, v, u], .string t] w fun e w' => SetQ p X (dropF p R X t) w w' e := by
  by_cases h : (fileF p R X).1 = 0
  · exact dropOf_ok p R X v u t w hp F h
  · exact dropOf_bad p R X v u t w hp F h
end Ve
end Go.Proofs.YtjhlkjgijbobcaaGreatDoor
namespace Go.Proofs.YtjhlkjgijbobcaaGreatDoor
open Go.RowKit
namespace Ve
theorem fitT_iff {p : ByteArray} {R X : List Bm} {s : ByteArray} {m : Bm} (h : fitT p R X s m = true) : p.size ≤ 90 ∧ okL R = true ∧ okL X = true ∧ fitS s = true ∧ m.1.size ≤ 90 ∧ m.2.size ≤ 60 := by
  unfold fitT at h
  simp only [Bool.and_eq_true] at h
  exact ⟨of_decide_eq_true h.1.1.1.1, h.1.1.1.2.1, h.1.1.1.2.2, h.1.1.2, of_decide_eq_true h.1.2, of_decide_eq_true h.2⟩
theorem ok_short {L : List Bm} (h : okL L = true) : shortL L ∧ L.length ≤ 1000000 := by
  obtain ⟨h1, h2⟩ := okL_iff h
  exact ⟨fun m hm => by have := h2 m hm; omega, by omega⟩
theorem ms_put {W : World} {b : Nat} {v x y z : Value} {s : ByteArray} {L : List Bm} {T : TypeId} {p1 p2 : Option Addr} {n1 c1 n2 c2 : Nat} (h : MsAt W v L) (hb : W.heap[b]? = some (.cells #[.string s, .slice p1 n1 c1, .slice p2 n2 c2] T (0, 0))) : MsAt (put3 W b x y z) v L := by
  obtain ⟨a, c, e, hc, h2⟩ := h
  refine ⟨a, c, e, hc, fun hL => ?_⟩
  obtain ⟨g, o, e2, h3⟩ := h2 hL
  have hne : g ≠ b := fun eg => by
    have hp : 0 < L.length := List.length_pos_iff.2 hL
    obtain ⟨k1, k2⟩ := h3 0 hp
    rw [eg, Lib.cell_of_heap hb] at k1 k2
    match o with
    | 0 => simp at k2
    | 1 => simp at k1
    | 2 => simp at k1
    | o + 3 => simp at k1
  exact ⟨g, o, e2, fun j hj => ⟨by rw [put3_cell hne]; exact (h3 j hj).1, by rw [put3_cell hne]; exact (h3 j hj).2⟩⟩
theorem put3_block {W : World} {b : Nat} {x y z a1 a2 a3 : Value} {T : TypeId} (hb : W.heap[b]? = some (.cells #[a1, a2, a3] T (0, 0))) : (put3 W b x y z).heap[b]? = some (.cells #[x, y, z] T (0, 0)) := by
  unfold put3
  rw [set_block (set_block (set_block hb))]; rfl
theorem put3_keep {W : World} {b b' : Nat} {x y z : Value} {o : Obj} (h : W.heap[b']? = some o) (hne : b' ≠ b) : (put3 W b x y z).heap[b']? = some o := keep_set (keep_set (keep_set h hne) hne) hne
structure Tf (w W : World) (A : Nat → Addr) (k0 : Int) (p : ByteArray) (R X : List Bm) (v u : Value) (m : Bm) (bo : Nat) (vo uo : Value) : Prop where
  t0 : Te w A k0
  l0 : Fl w R X v u
  fb : W.heap[w.heap.size]? = some (.cells #[.string p, v, u] 24 (0, 0))
  mb : W.heap[w.heap.size + 1]? = some (.cells #[.string m.1, .string m.2] 26 (0, 0))
  ob : W.heap[bo]? = some (.cells #[.string p, vo, uo] 24 (0, 0))
  fo : Fl W R X vo uo
  bl : Below w.heap.size w W
theorem Tf.below {w W W' : World} {A : Nat → Addr} {k0 : Int} {p : ByteArray} {R X : List Bm} {v u : Value} {m : Bm} {bo : Nat} {vo uo : Value} (h : Tf w W A k0 p R X v u m bo vo uo) (hb : Below W.heap.size W W') : Tf w W' A k0 p R X v u m bo vo uo :=
  ⟨h.t0, h.l0, blk_keep h.fb hb, blk_keep h.mb hb, blk_keep h.ob hb, h.fo.below hb, h.bl.trans (hb.mono h.bl.size)⟩
theorem Tf.te {w W : World} {A : Nat → Addr} {k0 : Int} {p : ByteArray} {R X : List Bm} {v u : Value} {m : Bm} {bo : Nat} {vo uo : Value} (h : Tf w W A k0 p R X v u m bo vo uo) : Te W A k0 := h.t0.below h.bl
theorem Tf.fl {w W : World} {A : Nat → Addr} {k0 : Int} {p : ByteArray} {R X : List Bm} {v u : Value} {m : Bm} {bo : Nat} {vo uo : Value} (h : Tf w W A k0 p R X v u m bo vo uo) : Fl W R X v u := h.l0.below h.bl
theorem Tf.drew {w W : World} {A : Nat → Addr} {k0 : Int} {p : ByteArray} {R X : List Bm} {v u : Value} {m : Bm} {bo : Nat} {vo uo : Value} (h : Tf w W A k0 p R X v u m bo vo uo) : Tf w W.drew A k0 p R X v u m bo vo uo := h.below (below_drawn W 1)
theorem Tf.put {w W : World} {A : Nat → Addr} {k0 : Int} {p : ByteArray} {R X : List Bm} {v u : Value} {m : Bm} {bo : Nat} {vo uo : Value} (h : Tf w W A k0 p R X v u m bo vo uo) {b : Nat} {s : ByteArray} {T : TypeId} {p1 p2 : Option Addr} {n1 c1 n2 c2 : Nat}
    (hb : W.heap[b]? = some (.cells #[.string s, .slice p1 n1 c1, .slice p2 n2 c2] T (0, 0))) (h1 : w.heap.size + 1 < b) (h2 : bo ≠ b) (x y z : Value) : Tf w (put3 W b x y z) A k0 p R X v u m bo vo uo :=
  ⟨h.t0, h.l0, put3_keep h.fb (by omega), put3_keep h.mb (by omega), put3_keep h.ob h2, ⟨ms_put h.fo.r hb, ms_put h.fo.x hb, h.fo.rs, h.fo.xs, h.fo.rn, h.fo.xn⟩, put3_below h.bl (by omega)⟩
theorem c3 {W : World} {b : Nat} {x y z : Value} {T : TypeId} (h : W.heap[b]? = some (.cells #[x, y, z] T (0, 0))) : W.cell? ⟨b, 0, none⟩ = some x ∧ W.cell? ⟨b, 1, none⟩ = some y ∧ W.cell? ⟨b, 2, none⟩ = some z := by
  refine ⟨?_, ?_, ?_⟩ <;> rw [Lib.cell_of_heap h] <;> rfl
theorem c2 {W : World} {b : Nat} {x y : Value} {T : TypeId} (h : W.heap[b]? = some (.cells #[x, y] T (0, 0))) : W.cell? ⟨b, 0, none⟩ = some x ∧ W.cell? ⟨b, 1, none⟩ = some y := by
  refine ⟨?_, ?_⟩ <;> rw [Lib.cell_of_heap h] <;> rfl
def TfC (w W : World) (p : ByteArray) (v u : Value) (m : Bm) (bo : Nat) (vo uo : Value) : Prop :=
  W.cell? ⟨w.heap.size, 0, none⟩ = some (.string p) ∧ W.cell? ⟨w.heap.size, 1, none⟩ = some v ∧ W.cell? ⟨w.heap.size, 2, none⟩ = some u ∧ W.cell? ⟨w.heap.size + 1, 0, none⟩ = some (.string m.1) ∧ W.cell? ⟨w.heap.size + 1, 1, none⟩ = some (.string m.2) ∧ W.cell? ⟨bo, 0, none⟩ = some (.string p) ∧ W.cell? ⟨bo, 1, none⟩ = some vo ∧ W.cell? ⟨bo, 2, none⟩ = some uo
theorem Tf.cells {w W : World} {A : Nat → Addr} {k0 : Int} {p : ByteArray} {R X : List Bm} {v u : Value} {m : Bm} {bo : Nat} {vo uo : Value} (h : Tf w W A k0 p R X v u m bo vo uo) : TfC w W p v u m bo vo uo :=
  ⟨(c3 h.fb).1, (c3 h.fb).2.1, (c3 h.fb).2.2, (c2 h.mb).1, (c2 h.mb).2, (c3 h.ob).1, (c3 h.ob).2.1, (c3 h.ob).2.2⟩
theorem Tf.held {w W : World} {A : Nat → Addr} {k0 : Int} {p : ByteArray} {R X : List Bm} {v u : Value} {m : Bm} {bo : Nat} {vo uo : Value} (h : Tf w W A k0 p R X v u m bo vo uo) :
    W.cell? ⟨w.heap.size, 0, none⟩ = some (.string p) ∧ W.cell? ⟨w.heap.size, 1, none⟩ = some v ∧ W.cell? ⟨w.heap.size, 2, none⟩ = some u ∧ W.cell? ⟨w.heap.size + 1, 0, none⟩ = some (.string m.1) ∧ W.cell? ⟨w.heap.size + 1, 1, none⟩ = some (.string m.2) ∧ W.cell? ⟨bo, 0, none⟩ = some (.string p) ∧ W.cell? ⟨bo, 1, none⟩ = some vo ∧ W.cell? ⟨bo, 2, none⟩ = some uo ∧ Hid (Tf w W A k0 p R X v u m bo vo uo) :=
  ⟨(c3 h.fb).1, (c3 h.fb).2.1, (c3 h.fb).2.2, (c2 h.mb).1, (c2 h.mb).2, (c3 h.ob).1, (c3 h.ob).2.1, (c3 h.ob).2.2, hid h⟩
theorem setP_out {p : ByteArray} {X : List Bm} {r : Except Nat (List Bm)} {A : Nat → Addr} {w w' : World} {e : Ending} (h : SetP p X r A w w' e) :
    ∃ v u, e = .returned (.tuple #[.agg #[.string (outS p X r).2.1, v, u], errA A (outS p X r).1]) ∧ MsAt w' v (outS p X r).2.2.1 ∧ MsAt w' u (outS p X r).2.2.2 ∧ Below w.heap.size w w' := by
  obtain ⟨P, v, u, x, h1, h2, h3⟩ := h
  cases r with
  | error c =>
    obtain ⟨rfl, _, rfl, rfl, rfl⟩ := h3
    exact ⟨_, _, h1, ms_nil _, ms_nil _, h2⟩
  | ok R' =>
    obtain ⟨rfl, rfl, h4, h5, _⟩ := h3
    exact ⟨_, _, h1, h4, h5, h2⟩
theorem ok_le (p : ByteArray) (R X : List Bm) (m : Bm) : (outS p X (setF p R X m)).1 ≤ 10 := by
  unfold setF
  have h1 := fileF_le p R X
  have h2 := fileF_le p (setR R m) X
  repeat' split
  all_goals simp only [outS]
  all_goals omega
theorem drop_le (p : ByteArray) (R X : List Bm) (t : ByteArray) : (outS p X (dropF p R X t)).1 ≤ 10 := by
  unfold dropF
  have h1 := fileF_le p R X
  repeat' split
  all_goals simp only [outS]
  all_goals omega
theorem read_le (s : List UInt8) : (readOut s).1.1 ≤ 10 := by
  unfold readOut
  cases h : readF s with
  | ok f => exact Nat.zero_le _
  | error co =>
    show co.1 ≤ 10
    unfold readF at h
    split at h
    · injection h with h; rw [← h]; show 2 ≤ 10; omega
    · split at h
      · injection h with h; rw [← h]; show 1 ≤ 10; omega
      · split at h
        · cases h
        · injection h with h; rw [← h]; exact fileF_le _ _ _
def txOf (p : ByteArray) (R X : List Bm) : ByteArray := if (fileF p R X).1 = 0 then bt (fText (p, R, X)) else ⟨#[]⟩
theorem ftext_out (p : ByteArray) (R X : List Bm) (v u : Value) (A : Nat → Addr) (m : Int) (w : World) (hp : p.size < 999999) (S : Te w A m) (F : Fl w R X v u) :
    Calls Tryz.prog 11 #[.agg #[.string p, v, u]] w fun e w' => e = .returned (.string (txOf p R X)) ∧ Below w.heap.size w w' := by
  unfold txOf
  by_cases h : (fileF p R X).1 = 0
  · rw [if_pos h]; exact ftext_ok p R X v u A m w hp S F h
  · rw [if_neg h]; exact ftext_bad p R X v u A m w hp S F h
theorem rtext_out (p : ByteArray) (R X : List Bm) (v u : Value) (w : World) (hp : p.size < 999999) (F : Fl w R X v u) :
    Calls Tryz.prog 12 #[.agg #[.string p, v, u]] w fun e w' => e = .returned (.string (txOf p R X)) ∧ Below w.heap.size w w' := by
  unfold txOf
  by_cases h : (fileF p R X).1 = 0
  · rw [if_pos h]; exact rtext_ok p R X v u w hp F h
  · rw [if_neg h]; exact rtext_bad p R X v u w hp F h
def FsOk (f : Fs) : Prop := shortL f.2.1 ∧ shortL f.2.2 ∧ f.2.1.length ≤ 1000000 ∧ f.2.2.length ≤ 1000000
theorem no_short : shortL [] := fun m hm => absurd hm (by simp)
theorem no_fs : FsOk noFile := ⟨no_short, no_short, Nat.zero_le _, Nat.zero_le _⟩
theorem FsOk.fl {f : Fs} (h : FsOk f) {w : World} {v u : Value} (hv : MsAt w v f.2.1) (hu : MsAt w u f.2.2) : Fl w f.2.1 f.2.2 v u := ⟨hv, hu, h.1, h.2.1, h.2.2.1, h.2.2.2⟩
theorem read_fs (s : List UInt8) : FsOk (readOut s).2 := by
  unfold readOut
  cases h : readF s with
  | error co => exact no_fs
  | ok f =>
    unfold readF at h
    split at h
    · cases h
    · rename_i hl
      cases hr : readL s with
      | error i => rw [hr] at h; cases h
      | ok f' =>
        rw [hr] at h
        simp only at h
        split at h
        · injection h with h
          subst h
          obtain ⟨_, h2⟩ := short_of hr (by omega)
          exact h2
        · cases h
theorem set_fs {p : ByteArray} {R X : List Bm} {m : Bm} (hR : shortL R) (hX : shortL X) (hx : X.length ≤ 1000000) (hm : m.1.size < 999999 ∧ m.2.size < 999999) : FsOk (outS p X (setF p R X m)).2 := by
  unfold setF
  split
  · split
    · rename_i h
      exact ⟨set_short hR hm, hX, by show (setR R m).length ≤ _; have := (rising_ok h).2.1; omega, hx⟩
    · exact no_fs
  · exact no_fs
theorem drop_fs {p : ByteArray} {R X : List Bm} {t : ByteArray} (hR : shortL R) (hX : shortL X) (hn : R.length ≤ 1000000) (hx : X.length ≤ 1000000) : FsOk (outS p X (dropF p R X t)).2 := by
  unfold dropF
  split
  · split
    · exact no_fs
    · rename_i h _
      refine ⟨fun m hm => hR m (drop_mem.1 hm).1, hX, ?_, hx⟩
      show (dropR R t).length ≤ _
      rw [rising_drop (rising_ok h).1]
      exact Nat.le_trans (List.length_filter_le _ _) hn
  · exact no_fs
theorem rdf_out (s : ByteArray) (w : World) : Calls Tryz.prog 14 #[.string s] w fun e w' =>
    ∃ v u, e = .returned (.tuple #[.agg #[.string (readOut s.data.toList).2.1, v, u], .agg #[.int .i64 ((readOut s.data.toList).1.1 : Nat), .int .i64 (atOf (readOut s.data.toList).1.2)]]) ∧ MsAt w' v (readOut s.data.toList).2.2.1 ∧ MsAt w' u (readOut s.data.toList).2.2.2 ∧ Below w.heap.size w w' := rdf_any s w
theorem Fl.put {W : World} {R X : List Bm} {v u : Value} (h : Fl W R X v u) {b : Nat} {s : ByteArray} {T : TypeId} {p1 p2 : Option Addr} {n1 c1 n2 c2 : Nat} (hb : W.heap[b]? = some (.cells #[.string s, .slice p1 n1 c1, .slice p2 n2 c2] T (0, 0))) (x y z : Value) : Fl (put3 W b x y z) R X v u :=
  ⟨ms_put h.r hb, ms_put h.x hb, h.rs, h.xs, h.rn, h.xn⟩
theorem Fl.slices' {w : World} {R X : List Bm} {v u : Value} (h : Fl w R X v u) : (∃ a n c, v = .slice a n c) ∧ ∃ a n c, u = .slice a n c := by
  obtain ⟨⟨a, c, e⟩, b, d, e'⟩ := h.slices
  exact ⟨⟨a, _, c, e⟩, b, _, d, e'⟩
end Ve
end Go.Proofs.YtjhlkjgijbobcaaGreatDoor
