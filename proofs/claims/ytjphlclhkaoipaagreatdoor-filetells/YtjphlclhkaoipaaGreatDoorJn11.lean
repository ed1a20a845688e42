/-
  What the document's answer says of a path that is dropped (DropOf); nothing old in memory turns.
-/
import Derived.Test.YtjphlclhkaoipaaGreatDoorJn10
import Derived.Test.YtjphlclhkaoipaaGreatDoorJn5
import Derived.Test.YtjphlclhkaoipaaGreatDoorJn9
import Derived.ProofKit
import Derived.LaidMore
import Derived.Lay
import Derived.Stop.Joined
import Derived.HandedShaped
import Derived.LaidLaws
import Derived.Below
namespace Go.Proofs.YtjphlclhkaoipaaGreatDoor
open Go.RowKit
namespace Ve

theorem fp_eqR (R : List Bm) (t : ByteArray) : (fpOf R t = -1 ∧ (eqR R t).isEmpty = true) ∨ (0 ≤ fpOf R t ∧ (eqR R t).isEmpty = false) := by
  rcases fpOf_P R t with ⟨h1, h2⟩ | ⟨k, h1, hk, h2⟩
  · left
    refine ⟨h1, ?_⟩
    rw [List.isEmpty_iff]
    unfold eqR
    rw [List.filter_eq_nil_iff]
    intro m hm
    obtain ⟨j, hj, e⟩ := List.getElem_of_mem hm
    subst e
    simpa using h2 j hj
  · right
    refine ⟨by rw [h1]; omega, ?_⟩
    cases e : (eqR R t).isEmpty
    · rfl
    · rw [List.isEmpty_iff] at e
      unfold eqR at e
      rw [List.filter_eq_nil_iff] at e
      have := e R[k] (List.getElem_mem hk)
      simp [h2] at this
/-- The blocks that DropOf lays first. -/
def dropW (w : World) (p : ByteArray) (v u : Value) : World :=
  (w.alloc (.cells #[.string p, v, u] 24)).alloc (.cells #[.string ⟨#[]⟩, .slice none 0 0, .slice none 0 0] 24)
theorem dropW_below (w : World) (p : ByteArray) (v u : Value) : Below w.heap.size w (dropW w p v u) :=
  ((Below.refl w.heap.size w).alloc (Nat.le_refl _) _).alloc (by simp) _
theorem dropW_f (w : World) (p : ByteArray) (v u : Value) : (dropW w p v u).heap[w.heap.size]? = some (.cells #[.string p, v, u] 24 (0, 0)) :=
  heap_old _ _ (heap_new w _)
theorem dropW_r (w : World) (p : ByteArray) (v u : Value) : (dropW w p v u).heap[w.heap.size + 1]? = some (.cells #[.string ⟨#[]⟩, .slice none 0 0, .slice none 0 0] 24 (0, 0)) := by
  have hz : (w.alloc (.cells #[.string p, v, u] 24)).heap.size = w.heap.size + 1 := by simp
  have := heap_new (w.alloc (.cells #[.string p, v, u] 24)) (.cells #[.string ⟨#[]⟩, .slice none 0 0, .slice none 0 0] 24)
  rw [hz] at this
  exact this

set_option maxHeartbeats 2000000 in
set_option maxRecDepth 100000 in
theorem dropOf_bad (p : ByteArray) (R X : List Bm) (v u : Value) (t : ByteArray) (w : World) (hp : p.size < 999999) (F : Fl w R X v u) (h : (fileF p R X).1 ≠ 0) :
    Calls Tryz.prog 19 #[.agg #[.string p, v, u], .string t] w fun e w' => SetQ p X (dropF p R X t) w w' e := by
  obtain ⟨⟨vp, vc, rfl⟩, up, uc, rfl⟩ := F.slices
  have HSF := hid (show dropF p R X t = .error (fileF p R X).1 by unfold dropF; rw [if_neg h])
  have HB0 := hid (dropW_below w p (.slice vp R.length vc) (.slice up X.length uc))
  have HFF := hid (ffault_any p R X _ _ _ hp (F.below HB0.out))
  have HRB := hid (dropW_r w p (.slice vp R.length vc) (.slice up X.length uc))
  have hpos : (0 : Int) < ((fileF p R X).1 : Int) := by omega
  unfold faultV at HFF
  generalize (fileF p R X).1 = z at *
  generalize atOf (fileF p R X).2 = y at *
  clear F h
  unfold dropW at HB0 HFF HRB
  go_enter Tryz.func19, Tryz.ntmps19
  go_wp2_with fail
  refine HFF.out.mono ?_
  rintro e w1 ⟨rfl, hb⟩
  have HB1 := hid (HB0.out.trans (hb.mono HB0.out.size))
  have HR1 := hid (blk_keep HRB.out hb)
  clear hb
  have HBE := hid ((Below.refl w1.heap.size w1).alloc (Nat.le_refl _) (.cells #[.int .i64 z, .int .i64 y] 35))
  have HB2 := hid (HB1.out.trans (HBE.out.mono HB1.out.size))
  have HR2 := hid (blk_keep HR1.out HBE.out)
  have r0 : (w1.alloc (.cells #[.int .i64 z, .int .i64 y] 35)).cell? ⟨w.heap.size + 1, 0, none⟩ = some (.string ⟨#[]⟩) := by rw [Lib.cell_of_heap HR2.out]; rfl
  have r1 : (w1.alloc (.cells #[.int .i64 z, .int .i64 y] 35)).cell? ⟨w.heap.size + 1, 1, none⟩ = some (.slice none 0 0) := by rw [Lib.cell_of_heap HR2.out]; rfl
  have r2 : (w1.alloc (.cells #[.int .i64 z, .int .i64 y] 35)).cell? ⟨w.heap.size + 1, 2, none⟩ = some (.slice none 0 0) := by rw [Lib.cell_of_heap HR2.out]; rfl
  have rf := fun o => Lib.frozen_of_heap HR2.out o
  have e0 : (w1.alloc (.cells #[.int .i64 z, .int .i64 y] 35)).cell? ⟨w1.heap.size, 0, none⟩ = some (.int .i64 z) := by simp
  have hn1 : ¬ w1.heap.size = w.heap.size + 1 := by have := lt_of_blk HR1.out; omega
  have hn2 : ¬ w.heap.size + 1 = w1.heap.size := by have := lt_of_blk HR1.out; omega
  go_wp2_with fail
  generalize w1.alloc (.cells #[.int .i64 z, .int .i64 y] 35) = wE at *
  go_region
  go_wp2_with fail
  refine bodyPost_ret (v := .tuple #[.agg #[.string ⟨#[]⟩, .slice none 0 0, .slice none 0 0], .int .i64 z]) (by simp [results, Tryz.results19, go_sem, r0, r1, r2]) rfl ?_
  rw [HSF.out]
  exact ⟨_, _, rfl, ms_nil _, ms_nil _, below_drawn_of (put3_below HB2.out (show w.heap.size ≤ w.heap.size + 1 by omega)) 1⟩

set_option maxHeartbeats 8000000 in
set_option maxRecDepth 100000 in
theorem dropOf_ok (p : ByteArray) (R X : List Bm) (v u : Value) (t : ByteArray) (w : World) (hp : p.size < 999999) (F : Fl w R X v u) (h : (fileF p R X).1 = 0) :
    Calls Tryz.prog 19 #[.agg #[.string p, v, u], .string t] w fun e w' => SetQ p X (dropF p R X t) w w' e := by
  obtain ⟨i0, hi0, hz0, hz1, hz2⟩ := info_parts infoMod
  obtain ⟨⟨vp, vc, rfl⟩, up, uc, rfl⟩ := F.slices
  have HSF := hid (show dropF p R X t = if (eqR R t).isEmpty then .error 5 else .ok (dropR R t) by unfold dropF; rw [if_pos h])
  have HDR := hid (rising_drop (rising_ok h).1 t)
  have hRn : R.length ≤ 20 := (rising_ok h).2.1
  have HB0 := hid (dropW_below w p (.slice vp R.length vc) (.slice up X.length uc))
  have HFF := hid (ffault_any p R X _ _ _ hp (F.below HB0.out))
  have HRB := hid (dropW_r w p (.slice vp R.length vc) (.slice up X.length uc))
  have HFB := hid (dropW_f w p (.slice vp R.length vc) (.slice up X.length uc))
  have HFL := hid F
  unfold faultV at HFF
  rw [h] at HFF
  generalize atOf (fileF p R X).2 = y at *
  clear F h
  unfold dropW at HB0 HFF HRB HFB
  go_enter Tryz.func19, Tryz.ntmps19
  go_wp2_with fail
  refine HFF.out.mono ?_
  rintro e w1 ⟨rfl, hb⟩
  have HB1 := hid (HB0.out.trans (hb.mono HB0.out.size))
  have HR1 := hid (blk_keep HRB.out hb)
  have HF1 := hid (blk_keep HFB.out hb)
  have hlt1 : w.heap.size + 1 < w1.heap.size := lt_of_blk HR1.out
  clear hb
  have HBE := hid ((Below.refl w1.heap.size w1).alloc (Nat.le_refl _) (.cells #[.int .i64 0, .int .i64 y] 35))
  have HB2 := hid (HB1.out.trans (HBE.out.mono HB1.out.size))
  have HR2 := hid (blk_keep HR1.out HBE.out)
  have HF2 := hid (blk_keep HF1.out HBE.out)
  have HFE := hid (HFL.out.below HB2.out)
  have f0 : (w1.alloc (.cells #[.int .i64 0, .int .i64 y] 35)).cell? ⟨w.heap.size, 0, none⟩ = some (.string p) := by rw [Lib.cell_of_heap HF2.out]; rfl
  have f1 : (w1.alloc (.cells #[.int .i64 0, .int .i64 y] 35)).cell? ⟨w.heap.size, 1, none⟩ = some (.slice vp R.length vc) := by rw [Lib.cell_of_heap HF2.out]; rfl
  have f2 : (w1.alloc (.cells #[.int .i64 0, .int .i64 y] 35)).cell? ⟨w.heap.size, 2, none⟩ = some (.slice up X.length uc) := by rw [Lib.cell_of_heap HF2.out]; rfl
  have r0 : (w1.alloc (.cells #[.int .i64 0, .int .i64 y] 35)).cell? ⟨w.heap.size + 1, 0, none⟩ = some (.string ⟨#[]⟩) := by rw [Lib.cell_of_heap HR2.out]; rfl
  have r1 : (w1.alloc (.cells #[.int .i64 0, .int .i64 y] 35)).cell? ⟨w.heap.size + 1, 1, none⟩ = some (.slice none 0 0) := by rw [Lib.cell_of_heap HR2.out]; rfl
  have r2 : (w1.alloc (.cells #[.int .i64 0, .int .i64 y] 35)).cell? ⟨w.heap.size + 1, 2, none⟩ = some (.slice none 0 0) := by rw [Lib.cell_of_heap HR2.out]; rfl
  have rf := fun o => Lib.frozen_of_heap HR2.out o
  go_wp2_with fail
  generalize w1.alloc (.cells #[.int .i64 0, .int .i64 y] 35) = wE at *
  refine (fp_is R t _ wE HFE.out.rn HFE.out.r).mono ?_
  rintro e w2 ⟨rfl, rfl⟩
  rcases fp_eqR R t with ⟨hf, he⟩ | ⟨hf, he⟩
  · rw [he, if_pos rfl] at HSF
    rw [hf]
    go_wp2_with fail
    refine bodyPost_ret (v := .tuple #[.agg #[.string ⟨#[]⟩, .slice none 0 0, .slice none 0 0], .int .i64 5]) (by simp [results, Tryz.results19, go_sem, r0, r1, r2]) rfl ?_
    rw [HSF.out]
    exact ⟨_, _, rfl, ms_nil _, ms_nil _, put3_below HB2.out (show w.heap.size ≤ w.heap.size + 1 by omega)⟩
  · rw [he, if_neg (by decide), HDR.out] at HSF
    have hneg : ¬ fpOf R t < 0 := by omega
    generalize fpOf R t = fp at *
    clear hf he f0 f1 f2 r0 r1 r2 rf
    go_wp2_with fail
    go_loopw [7, 8] (fun ov iv wr => ∃ k : Nat, k ≤ R.length ∧ iv = .int .i64 k ∧ Hid (wr.ownsRow w2.heap.size 26 2 ov (lft (R.take k) t).length (flatM (lft (R.take k) t))) ∧ Hid (Below w2.heap.size w2 wr)) (fun _ iv _ => R.length - (intOf iv).toNat)
    case atStart => exact ⟨0, Nat.zero_le _, rfl, hid (World.ownsRow_nil _ _ _ _), hid (Below.refl _ _)⟩
    case round =>
      obtain ⟨k, hk, rfl, HO, HB⟩ := hrel
      have HFw := hid (blk_keep HF2.out HB.out)
      have HRw := hid (blk_keep HR2.out HB.out)
      have f0 : wr.cell? ⟨w.heap.size, 0, none⟩ = some (.string p) := by rw [Lib.cell_of_heap HFw.out]; rfl
      have f1 : wr.cell? ⟨w.heap.size, 1, none⟩ = some (.slice vp R.length vc) := by rw [Lib.cell_of_heap HFw.out]; rfl
      have f2 : wr.cell? ⟨w.heap.size, 2, none⟩ = some (.slice up X.length uc) := by rw [Lib.cell_of_heap HFw.out]; rfl
      have HLN := hid (show (lft (R.take k) t).length ≤ 50 by have := lft_len (R.take k) t; rw [List.length_take] at this; omega)
      by_cases hlt : k < R.length
      · obtain ⟨b, o, rfl, hc⟩ := HFE.out.r.at (by omega)
        have x0 := cell_below HB.out (hc k hlt).1
        have x1 := cell_below HB.out (hc k hlt).2
        have hkI : (k : Int) < (R.length : Int) := by omega
        have HLT := hid hlt
        have HTK := hid (show R.take (k + 1) = R.take k ++ [R[k]] from List.take_succ_eq_append_getElem hlt)
        have HA := hid (fun (h1 : ¬ R[k].1 = t) => (HTK.out ▸ lft_yes (x := R[k]) h1 : lft (R.take (k + 1)) t = lft (R.take k) t ++ [R[k]]))
        have HC := hid (fun (h1 : R[k].1 = t) => (HTK.out ▸ lft_no (x := R[k]) h1 : lft (R.take (k + 1)) t = lft (R.take k) t))
        clear HTK hc
        generalize R[k] = x at *
        obtain ⟨xp, xv⟩ := x
        clear hlt
        by_cases hx : xp = t
        · have HN := hid (HC.out hx)
          rw [hx] at x0
          have hq := str_refl t
          clear hx HA HC
          go_wp2_with fail
          go_roundw
          case rel => exact ⟨k + 1, by have := HLT.out; omega, by go_num, by rw [HN.out]; exact HO, HB⟩
          case measure => have := HLT.out; simp [intOf]; omega
        · have HN := hid (HA.out hx)
          have hq := str_ne hx
          clear hx HA HC
          go_wp2_with (at_builtin; refine wpList_append_own _ rfl _ _ 22 rfl w2.heap.size 26 i0 _ 2 32 Tryz.underlying22 hi0 hz0 hz1 hz2 rfl (by decide) _ _ _ rfl (HO.out.alloc _) ⟨wr.heap.size, 0, none⟩ 1 1 [.string xp, .string xv] rfl rfl ?c1 ?c2 ?c3 ?c4 ?c5 ?_)
          case c2 => exact ⟨rfl, rfl⟩
          case c3 => have := HLN.out; unfold maxLen; omega
          case c4 => have := HLN.out; omega
          case c5 => have := HB.out.size; omega
          intro v3 w3 hown hgrow _
          have HR3 := hid (rel_app2 HB.out.size HB.out HO.out (Below.refl _ _) hgrow)
          have HO3 := hid hown
          clear hown hgrow
          go_wp2_with fail
          go_roundw
          case rel => exact ⟨k + 1, by have := HLT.out; omega, by go_num, hid (own_next (x := (xp, xv)) HO3.out HN.out), HR3⟩
          case measure => have := HLT.out; simp [intOf]; omega
      · have HTR := hid (show R.take k = R from List.take_of_length_le (by omega))
        rw [HTR.out] at HO HLN
        have hkI : ¬ (k : Int) < (R.length : Int) := by omega
        clear hlt
        generalize u7 = vv at *
        obtain ⟨na, nn, nc, rfl⟩ := own_sl HO.out
        have ff := fun o => Lib.frozen_of_heap HFw.out o
        have r0 : wr.cell? ⟨w.heap.size + 1, 0, none⟩ = some (.string ⟨#[]⟩) := by rw [Lib.cell_of_heap HRw.out]; rfl
        have r1 : wr.cell? ⟨w.heap.size + 1, 1, none⟩ = some (.slice none 0 0) := by rw [Lib.cell_of_heap HRw.out]; rfl
        have r2 : wr.cell? ⟨w.heap.size + 1, 2, none⟩ = some (.slice none 0 0) := by rw [Lib.cell_of_heap HRw.out]; rfl
        have rf := fun o => Lib.frozen_of_heap HRw.out o
        have HBs := hid ((HB2.out.trans (HB.out.mono HB2.out.size)).setCell (p := ⟨w.heap.size, 1, none⟩) (Nat.le_refl _) (.slice na nn nc))
        have HRs := hid (keep_set (o := 1) (x := .slice na nn nc) HRw.out (show w.heap.size + 1 ≠ w.heap.size by omega))
        have HOs := hid (owns_set (o := 1) (x := .slice na nn nc) HO.out (own_ne2 HO.out HFw.out (by decide)))
        go_wp2_with fail
        refine bodyPost_ret (v := .tuple #[.agg #[.string p, .slice na nn nc, .slice up X.length uc], .int .i64 0]) (by simp [results, Tryz.results19, go_sem, r0, r1, r2]) rfl ?_
        rw [HSF.out]
        have HB7 := hid (put3_below (x := .string p) (y := .slice na nn nc) (z := .slice up X.length uc) HBs.out (show w.heap.size ≤ w.heap.size + 1 by omega))
        exact ⟨_, _, rfl, own_ms (put3_owns HOs.out (own_ne2 HOs.out HRs.out (by decide))), HFL.out.x.below HB7.out, HB7.out⟩
theorem setOf_any (p : ByteArray) (R X : List Bm) (v u : Value) (m : Bm) (w : World) (hp : p.size < 999999) (F : Fl w R X v u) (hm : m.1.size < 999999 ∧ m.2.size < 999999) :
    Calls Tryz.prog 16 #[.agg #[.string p, v, u], .agg #[.string m.1, .string m.2]] w fun e w' => SetQ p X (setF p R X m) w w' e := by
  by_cases h : (fileF p R X).1 = 0
  · exact setOf_ok p R X v u m w hp F h hm
  · exact setOf_bad p R X v u m w hp F h
theorem dropOf_any (p : ByteArray) (R X : List Bm) (v u : Value) (t : ByteArray) (w : World) (hp : p.size < 999999) (F : Fl w R X v u) :
    Calls Tryz.prog 19 #[.agg #[.string p, v, u], .string t] w fun e w' => SetQ p X (dropF p R X t) w w' e := by
  by_cases h : (fileF p R X).1 = 0
  · exact dropOf_ok p R X v u t w hp F h
  · exact dropOf_bad p R X v u t w hp F h
end Ve
end Go.Proofs.YtjphlclhkaoipaaGreatDoor

/-
  FileTells answers true at a file, a text and a module that are not too long for it.
-/
namespace Go.Proofs.YtjphlclhkaoipaaGreatDoor
open Go.RowKit
namespace Ve

theorem fitT_iff {p : ByteArray} {R X : List Bm} {s : ByteArray} {m : Bm} (h : fitT p R X s m = true) : p.size ≤ 90 ∧ okL R = true ∧ okL X = true ∧ fitS s = true ∧ m.1.size ≤ 90 ∧ m.2.size ≤ 60 := by
  unfold fitT at h
  simp only [Bool.and_eq_true] at h
  exact ⟨of_decide_eq_true h.1.1.1.1, h.1.1.1.2.1, h.1.1.1.2.2, h.1.1.2, of_decide_eq_true h.1.2, of_decide_eq_true h.2⟩
theorem ok_short {L : List Bm} (h : okL L = true) : shortL L ∧ L.length ≤ 1000000 := by
  obtain ⟨h1, h2⟩ := okL_iff h
  exact ⟨fun m hm => by have := h2 m hm; omega, by omega⟩
/-- Rows of modules lie in no block of a file. -/
theorem ms_put {W : World} {b : Nat} {v x y z : Value} {s : ByteArray} {L : List Bm} {T : TypeId} {p1 p2 : Option Addr} {n1 c1 n2 c2 : Nat} (h : MsAt W v L) (hb : W.heap[b]? = some (.cells #[.string s, .slice p1 n1 c1, .slice p2 n2 c2] T (0, 0))) : MsAt (put3 W b x y z) v L := by
  obtain ⟨a, c, e, hc, h2⟩ := h
  refine ⟨a, c, e, hc, fun hL => ?_⟩
  obtain ⟨g, o, e2, h3⟩ := h2 hL
  have hne : g ≠ b := fun eg => by
    have hp : 0 < L.length := List.length_pos_iff.2 hL
    obtain ⟨k1, k2⟩ := h3 0 hp
    rw [eg, Lib.cell_of_heap hb] at k1 k2
    match o with
    | 0 => simp at k2
    | 1 => simp at k1
    | 2 => simp at k1
    | o + 3 => simp at k1
  exact ⟨g, o, e2, fun j hj => ⟨by rw [put3_cell hne]; exact (h3 j hj).1, by rw [put3_cell hne]; exact (h3 j hj).2⟩⟩
theorem put3_block {W : World} {b : Nat} {x y z a1 a2 a3 : Value} {T : TypeId} (hb : W.heap[b]? = some (.cells #[a1, a2, a3] T (0, 0))) : (put3 W b x y z).heap[b]? = some (.cells #[x, y, z] T (0, 0)) := by
  unfold put3
  rw [set_block (set_block (set_block hb))]; rfl
theorem put3_keep {W : World} {b b' : Nat} {x y z : Value} {o : Obj} (h : W.heap[b']? = some o) (hne : b' ≠ b) : (put3 W b x y z).heap[b']? = some o := keep_set (keep_set (keep_set h hne) hne) hne
/-- The walk's state: the file, the module and the own copy lie in their boxes. -/
structure Tf (w W : World) (A : Nat → Addr) (k0 : Int) (p : ByteArray) (R X : List Bm) (v u : Value) (m : Bm) (bo : Nat) (vo uo : Value) : Prop where
  t0 : Te w A k0
  l0 : Fl w R X v u
  fb : W.heap[w.heap.size]? = some (.cells #[.string p, v, u] 24 (0, 0))
  mb : W.heap[w.heap.size + 1]? = some (.cells #[.string m.1, .string m.2] 26 (0, 0))
  ob : W.heap[bo]? = some (.cells #[.string p, vo, uo] 24 (0, 0))
  fo : Fl W R X vo uo
  bl : Below w.heap.size w W
theorem Tf.below {w W W' : World} {A : Nat → Addr} {k0 : Int} {p : ByteArray} {R X : List Bm} {v u : Value} {m : Bm} {bo : Nat} {vo uo : Value} (h : Tf w W A k0 p R X v u m bo vo uo) (hb : Below W.heap.size W W') : Tf w W' A k0 p R X v u m bo vo uo :=
  ⟨h.t0, h.l0, blk_keep h.fb hb, blk_keep h.mb hb, blk_keep h.ob hb, h.fo.below hb, h.bl.trans (hb.mono h.bl.size)⟩
theorem Tf.te {w W : World} {A : Nat → Addr} {k0 : Int} {p : ByteArray} {R X : List Bm} {v u : Value} {m : Bm} {bo : Nat} {vo uo : Value} (h : Tf w W A k0 p R X v u m bo vo uo) : Te W A k0 := h.t0.below h.bl
theorem Tf.fl {w W : World} {A : Nat → Addr} {k0 : Int} {p : ByteArray} {R X : List Bm} {v u : Value} {m : Bm} {bo : Nat} {vo uo : Value} (h : Tf w W A k0 p R X v u m bo vo uo) : Fl W R X v u := h.l0.below h.bl
theorem Tf.drew {w W : World} {A : Nat → Addr} {k0 : Int} {p : ByteArray} {R X : List Bm} {v u : Value} {m : Bm} {bo : Nat} {vo uo : Value} (h : Tf w W A k0 p R X v u m bo vo uo) : Tf w W.drew A k0 p R X v u m bo vo uo := h.below (below_drawn W 1)
theorem Tf.put {w W : World} {A : Nat → Addr} {k0 : Int} {p : ByteArray} {R X : List Bm} {v u : Value} {m : Bm} {bo : Nat} {vo uo : Value} (h : Tf w W A k0 p R X v u m bo vo uo) {b : Nat} {s : ByteArray} {T : TypeId} {p1 p2 : Option Addr} {n1 c1 n2 c2 : Nat}
    (hb : W.heap[b]? = some (.cells #[.string s, .slice p1 n1 c1, .slice p2 n2 c2] T (0, 0))) (h1 : w.heap.size + 1 < b) (h2 : bo ≠ b) (x y z : Value) : Tf w (put3 W b x y z) A k0 p R X v u m bo vo uo :=
  ⟨h.t0, h.l0, put3_keep h.fb (by omega), put3_keep h.mb (by omega), put3_keep h.ob h2, ⟨ms_put h.fo.r hb, ms_put h.fo.x hb, h.fo.rs, h.fo.xs, h.fo.rn, h.fo.xn⟩, put3_below h.bl (by omega)⟩
theorem c3 {W : World} {b : Nat} {x y z : Value} {T : TypeId} (h : W.heap[b]? = some (.cells #[x, y, z] T (0, 0))) : W.cell? ⟨b, 0, none⟩ = some x ∧ W.cell? ⟨b, 1, none⟩ = some y ∧ W.cell? ⟨b, 2, none⟩ = some z := by
  refine ⟨?_, ?_, ?_⟩ <;> rw [Lib.cell_of_heap h] <;> rfl
theorem c2 {W : World} {b : Nat} {x y : Value} {T : TypeId} (h : W.heap[b]? = some (.cells #[x, y] T (0, 0))) : W.cell? ⟨b, 0, none⟩ = some x ∧ W.cell? ⟨b, 1, none⟩ = some y := by
  refine ⟨?_, ?_⟩ <;> rw [Lib.cell_of_heap h] <;> rfl
/-- The cells that the walk reads. -/
def TfC (w W : World) (p : ByteArray) (v u : Value) (m : Bm) (bo : Nat) (vo uo : Value) : Prop :=
  W.cell? ⟨w.heap.size, 0, none⟩ = some (.string p) ∧ W.cell? ⟨w.heap.size, 1, none⟩ = some v ∧ W.cell? ⟨w.heap.size, 2, none⟩ = some u ∧ W.cell? ⟨w.heap.size + 1, 0, none⟩ = some (.string m.1) ∧ W.cell? ⟨w.heap.size + 1, 1, none⟩ = some (.string m.2) ∧ W.cell? ⟨bo, 0, none⟩ = some (.string p) ∧ W.cell? ⟨bo, 1, none⟩ = some vo ∧ W.cell? ⟨bo, 2, none⟩ = some uo
theorem Tf.cells {w W : World} {A : Nat → Addr} {k0 : Int} {p : ByteArray} {R X : List Bm} {v u : Value} {m : Bm} {bo : Nat} {vo uo : Value} (h : Tf w W A k0 p R X v u m bo vo uo) : TfC w W p v u m bo vo uo :=
  ⟨(c3 h.fb).1, (c3 h.fb).2.1, (c3 h.fb).2.2, (c2 h.mb).1, (c2 h.mb).2, (c3 h.ob).1, (c3 h.ob).2.1, (c3 h.ob).2.2⟩
theorem Tf.held {w W : World} {A : Nat → Addr} {k0 : Int} {p : ByteArray} {R X : List Bm} {v u : Value} {m : Bm} {bo : Nat} {vo uo : Value} (h : Tf w W A k0 p R X v u m bo vo uo) :
    W.cell? ⟨w.heap.size, 0, none⟩ = some (.string p) ∧ W.cell? ⟨w.heap.size, 1, none⟩ = some v ∧ W.cell? ⟨w.heap.size, 2, none⟩ = some u ∧ W.cell? ⟨w.heap.size + 1, 0, none⟩ = some (.string m.1) ∧ W.cell? ⟨w.heap.size + 1, 1, none⟩ = some (.string m.2) ∧ W.cell? ⟨bo, 0, none⟩ = some (.string p) ∧ W.cell? ⟨bo, 1, none⟩ = some vo ∧ W.cell? ⟨bo, 2, none⟩ = some uo ∧ Hid (Tf w W A k0 p R X v u m bo vo uo) :=
  ⟨(c3 h.fb).1, (c3 h.fb).2.1, (c3 h.fb).2.2, (c2 h.mb).1, (c2 h.mb).2, (c3 h.ob).1, (c3 h.ob).2.1, (c3 h.ob).2.2, hid h⟩
theorem setP_out {p : ByteArray} {X : List Bm} {r : Except Nat (List Bm)} {A : Nat → Addr} {w w' : World} {e : Ending} (h : SetP p X r A w w' e) :
    ∃ v u, e = .returned (.tuple #[.agg #[.string (outS p X r).2.1, v, u], errA A (outS p X r).1]) ∧ MsAt w' v (outS p X r).2.2.1 ∧ MsAt w' u (outS p X r).2.2.2 ∧ Below w.heap.size w w' := by
  obtain ⟨P, v, u, x, h1, h2, h3⟩ := h
  cases r with
  | error c =>
    obtain ⟨rfl, _, rfl, rfl, rfl⟩ := h3
    exact ⟨_, _, h1, ms_nil _, ms_nil _, h2⟩
  | ok R' =>
    obtain ⟨rfl, rfl, h4, h5, _⟩ := h3
    exact ⟨_, _, h1, h4, h5, h2⟩
theorem ok_le (p : ByteArray) (R X : List Bm) (m : Bm) : (outS p X (setF p R X m)).1 ≤ 10 := by
  unfold setF
  have h1 := fileF_le p R X
  have h2 := fileF_le p (setR R m) X
  repeat' split
  all_goals simp only [outS]
  all_goals omega
theorem drop_le (p : ByteArray) (R X : List Bm) (t : ByteArray) : (outS p X (dropF p R X t)).1 ≤ 10 := by
  unfold dropF
  have h1 := fileF_le p R X
  repeat' split
  all_goals simp only [outS]
  all_goals omega
theorem read_le (s : List UInt8) : (readOut s).1.1 ≤ 10 := by
  unfold readOut
  cases h : readF s with
  | ok f => exact Nat.zero_le _
  | error co =>
    show co.1 ≤ 10
    unfold readF at h
    split at h
    · injection h with h; rw [← h]; show 2 ≤ 10; omega
    · split at h
      · injection h with h; rw [← h]; show 1 ≤ 10; omega
      · split at h
        · cases h
        · injection h with h; rw [← h]; exact fileF_le _ _ _
/-- The text that both write. -/
def txOf (p : ByteArray) (R X : List Bm) : ByteArray := if (fileF p R X).1 = 0 then bt (fText (p, R, X)) else ⟨#[]⟩
theorem ftext_out (p : ByteArray) (R X : List Bm) (v u : Value) (A : Nat → Addr) (m : Int) (w : World) (hp : p.size < 999999) (S : Te w A m) (F : Fl w R X v u) :
    Calls Tryz.prog 10 #[.agg #[.string p, v, u]] w fun e w' => e = .returned (.string (txOf p R X)) ∧ Below w.heap.size w w' := by
  unfold txOf
  by_cases h : (fileF p R X).1 = 0
  · rw [if_pos h]; exact ftext_ok p R X v u A m w hp S F h
  · rw [if_neg h]; exact ftext_bad p R X v u A m w hp S F h
theorem rtext_out (p : ByteArray) (R X : List Bm) (v u : Value) (w : World) (hp : p.size < 999999) (F : Fl w R X v u) :
    Calls Tryz.prog 11 #[.agg #[.string p, v, u]] w fun e w' => e = .returned (.string (txOf p R X)) ∧ Below w.heap.size w w' := by
  unfold txOf
  by_cases h : (fileF p R X).1 = 0
  · rw [if_pos h]; exact rtext_ok p R X v u w hp F h
  · rw [if_neg h]; exact rtext_bad p R X v u w hp F h
/-- A file that is not too long for a walk. -/
def FsOk (f : Fs) : Prop := shortL f.2.1 ∧ shortL f.2.2 ∧ f.2.1.length ≤ 1000000 ∧ f.2.2.length ≤ 1000000
theorem no_short : shortL [] := fun m hm => absurd hm (by simp)
theorem no_fs : FsOk noFile := ⟨no_short, no_short, Nat.zero_le _, Nat.zero_le _⟩
theorem FsOk.fl {f : Fs} (h : FsOk f) {w : World} {v u : Value} (hv : MsAt w v f.2.1) (hu : MsAt w u f.2.2) : Fl w f.2.1 f.2.2 v u := ⟨hv, hu, h.1, h.2.1, h.2.2.1, h.2.2.2⟩
theorem read_fs (s : List UInt8) : FsOk (readOut s).2 := by
  unfold readOut
  cases h : readF s with
  | error co => exact no_fs
  | ok f =>
    unfold readF at h
    split at h
    · cases h
    · rename_i hl
      cases hr : readL s with
      | error i => rw [hr] at h; cases h
      | ok f' =>
        rw [hr] at h
        simp only at h
        split at h
        · injection h with h
          subst h
          obtain ⟨_, h2⟩ := short_of hr (by omega)
          exact h2
        · cases h
theorem set_fs {p : ByteArray} {R X : List Bm} {m : Bm} (hR : shortL R) (hX : shortL X) (hx : X.length ≤ 1000000) (hm : m.1.size < 999999 ∧ m.2.size < 999999) : FsOk (outS p X (setF p R X m)).2 := by
  unfold setF
  split
  · split
    · rename_i h
      exact ⟨set_short hR hm, hX, by show (setR R m).length ≤ _; have := (rising_ok h).2.1; omega, hx⟩
    · exact no_fs
  · exact no_fs
theorem drop_fs {p : ByteArray} {R X : List Bm} {t : ByteArray} (hR : shortL R) (hX : shortL X) (hn : R.length ≤ 1000000) (hx : X.length ≤ 1000000) : FsOk (outS p X (dropF p R X t)).2 := by
  unfold dropF
  split
  · split
    · exact no_fs
    · rename_i h _
      refine ⟨fun m hm => hR m (drop_mem.1 hm).1, hX, ?_, hx⟩
      show (dropR R t).length ≤ _
      rw [rising_drop (rising_ok h).1]
      exact Nat.le_trans (List.length_filter_le _ _) hn
  · exact no_fs
theorem rdf_out (s : ByteArray) (w : World) : Calls Tryz.prog 13 #[.string s] w fun e w' =>
    ∃ v u, e = .returned (.tuple #[.agg #[.string (readOut s.data.toList).2.1, v, u], .agg #[.int .i64 ((readOut s.data.toList).1.1 : Nat), .int .i64 (atOf (readOut s.data.toList).1.2)]]) ∧ MsAt w' v (readOut s.data.toList).2.2.1 ∧ MsAt w' u (readOut s.data.toList).2.2.2 ∧ Below w.heap.size w w' := rdf_any s w
theorem Fl.put {W : World} {R X : List Bm} {v u : Value} (h : Fl W R X v u) {b : Nat} {s : ByteArray} {T : TypeId} {p1 p2 : Option Addr} {n1 c1 n2 c2 : Nat} (hb : W.heap[b]? = some (.cells #[.string s, .slice p1 n1 c1, .slice p2 n2 c2] T (0, 0))) (x y z : Value) : Fl (put3 W b x y z) R X v u :=
  ⟨ms_put h.r hb, ms_put h.x hb, h.rs, h.xs, h.rn, h.xn⟩
theorem Fl.slices' {w : World} {R X : List Bm} {v u : Value} (h : Fl w R X v u) : (∃ a n c, v = .slice a n c) ∧ ∃ a n c, u = .slice a n c := by
  obtain ⟨⟨a, c, e⟩, b, d, e'⟩ := h.slices
  exact ⟨⟨a, _, c, e⟩, b, _, d, e'⟩
end Ve
end Go.Proofs.YtjphlclhkaoipaaGreatDoor

/-
  FileTells answers true at a file, a text and a module that are not too long for it.
-/
namespace Go.Proofs.YtjphlclhkaoipaaGreatDoor
open Go.RowKit
namespace Ve

set_option maxHeartbeats 8000000 in
set_option maxRecDepth 100000 in
theorem tells_main (p : ByteArray) (R X : List Bm) (v u : Value) (s : ByteArray) (m : Bm) (A : Nat → Addr) (k0 : Int) (w : World) (S : Te w A k0) (hr : MsAt w v R) (hx : MsAt w u X) (he : Em v R) (hx2 : Em u X) (h : fitT p R X s m = true) :
    Calls Tryz.prog 3 #[.agg #[.string p, v, u], .string s, .agg #[.string m.1, .string m.2]] w fun e w' => e = .returned (.bool true) ∧ Below w.heap.size w w' := by
  obtain ⟨h1, hR, hX, hS, h3, h4⟩ := fitT_iff h
  have HFL := hid (show Fl w R X v u from ⟨hr, hx, (ok_short hR).1, (ok_short hX).1, (ok_short hR).2, (ok_short hX).2⟩)
  obtain ⟨⟨vp, vc, ev⟩, up, uc, eu⟩ := HFL.out.slices
  subst ev; subst eu
  have HB1 := hid (((Below.refl w.heap.size w).alloc (Nat.le_refl _) (.cells #[.string p, .slice vp R.length vc, .slice up X.length uc] 24)).alloc (by simp) (.cells #[.string m.1, .string m.2] 26))
  have HS := hid S
  have HFD := hid (filed_any A k0 _ (S.below HB1.out))
  have HRR := hid hr
  have HXX := hid hx
  have HE1 := hid he
  have HE2 := hid hx2
  have HP := hid (show p.size < 999999 by omega)
  have HM1 := hid (show m.1.size < 999999 ∧ m.2.size < 999999 by omega)
  have hw0 : IntKind.i64.wrap 0 = 0 := by decide
  have q1 : decide ((90 : Int) < (p.size : Int)) = false := decide_eq_false (by omega)
  have q3 : decide ((90 : Int) < (m.1.size : Int)) = false := decide_eq_false (by omega)
  have q4 : decide ((60 : Int) < (m.2.size : Int)) = false := decide_eq_false (by omega)
  clear S hr hx he hx2 h h1 h3 h4
  rcases fitS_yes hS with s1 | ⟨s1, s2⟩
  all_goals
    go_enter Tryz.func3, Tryz.ntmps3
    go_wp2_with fail
    refine HFD.out.mono ?_
    rintro e w1 ⟨rfl, hb⟩
    have HBa := hid (show Below (w.heap.size + 1 + 1) _ w1 from hb.mono (by simp))
    have HFB := hid (show w1.heap[w.heap.size]? = some (.cells #[.string p, .slice vp R.length vc, .slice up X.length uc] 24 (0, 0)) by rw [HBa.out.block _ (by omega)]; exact heap_old _ _ (heap_new w _))
    have HMB := hid (show w1.heap[w.heap.size + 1]? = some (.cells #[.string m.1, .string m.2] 26 (0, 0)) by
      rw [HBa.out.block _ (by omega)]
      have hz : (w.alloc (.cells #[.string p, .slice vp R.length vc, .slice up X.length uc] 24)).heap.size = w.heap.size + 1 := by simp
      have := heap_new (w.alloc (.cells #[.string p, .slice vp R.length vc, .slice up X.length uc] 24)) (.cells #[.string m.1, .string m.2] 26)
      rw [hz] at this
      exact this)
    obtain ⟨⟨f0, f1, f2⟩, ⟨m0, m1⟩, _, wz⟩ := bx32 HBa.out
    have HBw := hid (HB1.out.trans (hb.mono HB1.out.size))
    have HL1 := hid (fun n => long_any R _ (w1.drewN n) (HRR.out.below (below_drawn_of HBw.out n)))
    have HL2 := hid (fun n => long_any X _ (w1.drewN n) (HXX.out.below (below_drawn_of HBw.out n)))
    rw [hR] at HL1
    rw [hX] at HL2
    clear hb
    go_wp2_with fail
    go_quiet (first
      | (go_at_call_of 5 (Value.slice vp R.length vc); refine (HL1.out _).mono fun e w' h => ⟨h.1, _, h.2⟩)
      | (go_at_call_of 5 (Value.slice up X.length uc); refine (HL2.out _).mono fun e w' h => ⟨h.1, _, h.2⟩))
    clear HL1 HL2 f0 f1 f2 m0 m1 wz
    have HBd := hid (below_drawn_of HBw.out nq)
    have HFq := hid (show (w1.drewN nq).heap[w.heap.size]? = _ from HFB.out)
    have HMq := hid (show (w1.drewN nq).heap[w.heap.size + 1]? = _ from HMB.out)
    generalize w1.drewN nq = wq at *
    obtain ⟨f0, f1, f2⟩ := c3 HFq.out
    obtain ⟨m0, m1⟩ := c2 HMq.out
    go_wp2_with fail
    refine (ownF_any p R X _ _ wq (HFL.out.below HBd.out) HE1.out HE2.out).mono ?_
    rintro e w2 ⟨vo, uo, rfl, hcp⟩
    have HZV := hid hcp.zv
    have HZU := hid hcp.zu
    have HFO := hid (show Fl w2 R X vo uo from ⟨own_ms hcp.ov, own_ms hcp.ou, HFL.out.rs, HFL.out.xs, HFL.out.rn, HFL.out.xn⟩)
    obtain ⟨⟨a1, c1, rfl⟩, a2, c2, rfl⟩ := HFO.out.slices
    have HAo := hid ((Below.refl w2.heap.size w2).alloc (Nat.le_refl _) (.cells #[.string p, .slice a1 R.length c1, .slice a2 X.length c2] 24))
    have HT3 := hid (show Tf w (w2.alloc (.cells #[.string p, .slice a1 R.length c1, .slice a2 X.length c2] 24)) A k0 p R X (.slice vp R.length vc) (.slice up X.length uc) m w2.heap.size (.slice a1 R.length c1) (.slice a2 X.length c2) from
      ⟨HS.out, HFL.out, blk_keep (blk_keep HFq.out hcp.bl) HAo.out, blk_keep (blk_keep HMq.out hcp.bl) HAo.out, heap_new _ _, HFO.out.below HAo.out, (HBd.out.trans (hcp.bl.mono HBd.out.size)).trans (HAo.out.mono (HBd.out.trans (hcp.bl.mono HBd.out.size)).size)⟩)
    have HLO := hid (show w.heap.size + 1 < w2.heap.size from lt_of_blk (blk_keep HMq.out hcp.bl))
    clear hcp f0 f1 f2 m0 m1
    obtain ⟨f0, f1, f2, m0, m1, o0, o1, o2⟩ := HT3.out.cells
    have htt := str_refl (txOf p R X)
    go_wp2_with fail
    generalize w2.alloc (.cells #[.string p, .slice a1 R.length c1, .slice a2 X.length c2] 24) = w3 at *
    go_region_held (fun W => W.cell? ⟨w.heap.size, 0, none⟩ = some (.string p) ∧ W.cell? ⟨w.heap.size, 1, none⟩ = some (.slice vp R.length vc) ∧ W.cell? ⟨w.heap.size, 2, none⟩ = some (.slice up X.length uc) ∧ W.cell? ⟨w.heap.size + 1, 0, none⟩ = some (.string m.1) ∧ W.cell? ⟨w.heap.size + 1, 1, none⟩ = some (.string m.2) ∧ W.cell? ⟨w2.heap.size, 0, none⟩ = some (.string p) ∧ W.cell? ⟨w2.heap.size, 1, none⟩ = some (.slice a1 R.length c1) ∧ W.cell? ⟨w2.heap.size, 2, none⟩ = some (.slice a2 X.length c2) ∧ Hid (Tf w W A k0 p R X (.slice vp R.length vc) (.slice up X.length uc) m w2.heap.size (.slice a1 R.length c1) (.slice a2 X.length c2))) (first | exact HTe.out.held | exact HTd.out.held | exact HTc.out.held | exact HTb.out.held | exact HTa.out.held | exact HT3.out.drew.held) (first
      | (go_at_call 8; refine (fcheck_any p R X _ _ A k0 _ HP.out ?_ ?_).mono ?_; exact HT3.out.drew.te; exact HT3.out.drew.fo; rintro e w' ⟨x, rfl, hx, hb⟩; have HTa := hid (HT3.out.drew.below hb); have HXa := hid hx; clear hx hb)
      | (go_at_call 9; refine (ffault_any p R X _ _ _ HP.out ?_).mono ?_; exact HTa.out.fl; rintro e w' ⟨rfl, hb⟩; have HTb := hid (HTa.out.below hb); have HXb := hid (HXa.out.below hb); clear hb)
      | (go_at_call 7; refine (faulted_any A k0 _ (fileF p R X) _ ?_ ?_ (fileF_le p R X)).mono ?_; exact HTb.out.te; exact HXb.out; rintro e w' ⟨rfl, hb⟩; have HTc := hid (HTb.out.below hb); clear hb)
      | (go_at_call 10; refine (ftext_out p R X _ _ A k0 _ HP.out ?_ ?_).mono ?_; exact HTc.out.te; exact HTc.out.fo; rintro e w' ⟨rfl, hb⟩; have HTd := hid (HTc.out.below hb); clear hb)
      | (go_at_call 11; refine (rtext_out p R X _ _ _ HP.out ?_).mono ?_; exact HTd.out.fl; rintro e w' ⟨rfl, hb⟩; have HTe := hid (HTd.out.below hb); clear hb))
    all_goals
      clear f0 f1 f2 m0 m1 o0 o1 o2 htt
      go_wp2_with fail
      refine (fread_out s A k0 _ HTe.out.te).mono ?_
      rintro e w5 ⟨v5, u5, x5, rfl, hx5, hv5, hu5, hb⟩
      have HT5 := hid (HTe.out.below hb)
      have HX5 := hid hx5
      have HFS := hid (read_fs s.data.toList)
      have HRL := hid (read_le s.data.toList)
      have HRQ := hid (fun W => rdf_out s W)
      generalize readOut s.data.toList = ro at *
      have HF5 := hid (HFS.out.fl hv5 hu5)
      obtain ⟨⟨xa, xn, xc, rfl⟩, ya, yn, yc, rfl⟩ := HF5.out.slices'
      have HAx := hid ((Below.refl w5.heap.size w5).alloc (Nat.le_refl _) (.cells #[.string ro.2.1, .slice xa xn xc, .slice ya yn yc] 24))
      have HT6 := hid (HT5.out.below HAx.out)
      have HB6 := hid (heap_new w5 (.cells #[.string ro.2.1, .slice xa xn xc, .slice ya yn yc] 24))
      have HF6 := hid (HF5.out.below HAx.out)
      have HX6 := hid (HX5.out.below HAx.out)
      have HLX := hid (show w2.heap.size < w5.heap.size from lt_of_blk HT5.out.ob)
      clear hx5 hv5 hu5 hb
      go_wp2_with fail
      generalize w5.alloc (.cells #[.string ro.2.1, .slice xa xn xc, .slice ya yn yc] 24) = w6 at *
      refine (HRQ.out w6).mono ?_
      rintro e w7 ⟨v7, u7, rfl, hv7, hu7, hb⟩
      have HT7 := hid (HT6.out.below hb)
      have HB7 := hid (blk_keep HB6.out hb)
      have HF7 := hid (HF6.out.below hb)
      have HX7 := hid (HX6.out.below hb)
      have HY7 := hid (HFS.out.fl hv7 hu7)
      obtain ⟨⟨za, zn, zc, rfl⟩, ta, tn, tc, rfl⟩ := HY7.out.slices'
      have HAy := hid ((Below.refl w7.heap.size w7).alloc (Nat.le_refl _) (.cells #[.string ro.2.1, .slice za zn zc, .slice ta tn tc] 24))
      have HAg := hid ((Below.refl _ (w7.alloc (.cells #[.string ro.2.1, .slice za zn zc, .slice ta tn tc] 24))).alloc (Nat.le_refl _) (.cells #[.int .i64 (ro.1.1 : Nat), .int .i64 (atOf ro.1.2)] 35))
      have HT8 := hid ((HT7.out.below HAy.out).below HAg.out)
      have HB8 := hid (blk_keep (blk_keep HB7.out HAy.out) HAg.out)
      have HC8 := hid (blk_keep (heap_new w7 (.cells #[.string ro.2.1, .slice za zn zc, .slice ta tn tc] 24)) HAg.out)
      have HG8 := hid (heap_new (w7.alloc (.cells #[.string ro.2.1, .slice za zn zc, .slice ta tn tc] 24)) (.cells #[.int .i64 (ro.1.1 : Nat), .int .i64 (atOf ro.1.2)] 35))
      rw [show (w7.alloc (.cells #[.string ro.2.1, .slice za zn zc, .slice ta tn tc] 24)).heap.size = w7.heap.size + 1 by simp] at HG8
      have HF8 := hid ((HF7.out.below HAy.out).below HAg.out)
      have HX8 := hid ((HX7.out.below HAy.out).below HAg.out)
      have HY8 := hid ((HY7.out.below HAy.out).below HAg.out)
      have HLY := hid (show w5.heap.size < w7.heap.size from lt_of_blk HB7.out)
      clear hv7 hu7 hb
      obtain ⟨x0, x1, x2⟩ := c3 HB8.out
      obtain ⟨y0, y1, y2⟩ := c3 HC8.out
      go_wp2_with fail
      generalize (w7.alloc (.cells #[.string ro.2.1, .slice za zn zc, .slice ta tn tc] 24)).alloc (.cells #[.int .i64 (ro.1.1 : Nat), .int .i64 (atOf ro.1.2)] 35) = w8 at *
      refine (sameF_any ro.2.1 ro.2.2.1 ro.2.2.2 _ _ _ _ w8 HF8.out HY8.out).mono ?_
      rintro e w9 ⟨rfl, hb⟩
      have HT9 := hid (HT8.out.below hb)
      have HB9 := hid (blk_keep HB8.out hb)
      have HC9 := hid (blk_keep HC8.out hb)
      have HG9 := hid (blk_keep HG8.out hb)
      have HX9 := hid (HX8.out.below hb)
      clear hb x0 x1 x2 y0 y1 y2
      obtain ⟨g0, g1⟩ := Ve.c2 HG9.out
      go_wp2_with fail
      refine (faulted_any A k0 _ ro.1 w9 HT9.out.te HX9.out HRL.out).mono ?_
      rintro e w10 ⟨rfl, hb⟩
      have HT10 := hid (HT9.out.below hb)
      have HB10 := hid (blk_keep HB9.out hb)
      have HC10 := hid (blk_keep HC9.out hb)
      clear hb g0 g1
      have nA1 : ¬ w.heap.size = w5.heap.size := by have := HLO.out; have := HLX.out; omega
      have nA2 : ¬ w5.heap.size = w.heap.size := by have := HLO.out; have := HLX.out; omega
      have nA3 : ¬ w.heap.size + 1 = w5.heap.size := by have := HLO.out; have := HLX.out; omega
      have nA4 : ¬ w5.heap.size = w.heap.size + 1 := by have := HLO.out; have := HLX.out; omega
      have nA5 : ¬ w2.heap.size = w5.heap.size := by have := HLX.out; omega
      have nA6 : ¬ w5.heap.size = w2.heap.size := by have := HLX.out; omega
      have nB1 : ¬ w.heap.size = w7.heap.size := by have := HLO.out; have := HLX.out; have := HLY.out; omega
      have nB2 : ¬ w7.heap.size = w.heap.size := by have := HLO.out; have := HLX.out; have := HLY.out; omega
      have nB3 : ¬ w.heap.size + 1 = w7.heap.size := by have := HLO.out; have := HLX.out; have := HLY.out; omega
      have nB4 : ¬ w7.heap.size = w.heap.size + 1 := by have := HLO.out; have := HLX.out; have := HLY.out; omega
      have nB5 : ¬ w2.heap.size = w7.heap.size := by have := HLX.out; have := HLY.out; omega
      have nB6 : ¬ w7.heap.size = w2.heap.size := by have := HLX.out; have := HLY.out; omega
      have nC1 : ¬ w5.heap.size = w7.heap.size := by have := HLY.out; omega
      have nC2 : ¬ w7.heap.size = w5.heap.size := by have := HLY.out; omega
      obtain ⟨f0, f1, f2, m0, m1, o0, o1, o2⟩ := HT10.out.cells
      go_wp2_with fail
      refine (set_any p R X _ _ m A k0 w10 HP.out HT10.out.te HT10.out.fo HZV.out HZU.out HM1.out).mono ?_
      intro e w11 hsp
      obtain ⟨vA, uA, rfl, hv, hu, hb⟩ := setP_out hsp
      have HFSA := hid (set_fs (p := p) (R := R) (X := X) (m := m) HFL.out.rs HFL.out.xs HFL.out.xn HM1.out)
      have HLEA := hid (ok_le p R X m)
      have HSBA := hid (fun W (FW : Fl W R X (.slice vp R.length vc) (.slice up X.length uc)) => setOf_any p R X _ _ m W HP.out FW HM1.out)
      unfold SetQ at HSBA
      generalize outS p X (setF p R X m) = so at *
      have HF11 := hid (HFSA.out.fl hv hu)
      obtain ⟨⟨xaA, xnA, xcA, rfl⟩, yaA, ynA, ycA, rfl⟩ := HF11.out.slices'
      have HT11 := hid (HT10.out.below hb)
      have HB11 := hid (blk_keep HB10.out hb)
      have HC11 := hid (blk_keep HC10.out hb)
      clear hsp hv hu hb f0 f1 f2 m0 m1 o0 o1 o2
      obtain ⟨x0, x1, x2⟩ := c3 HB11.out
      have xf := fun o => Lib.frozen_of_heap HB11.out o
      have HT12 := hid (HT11.out.put HB11.out (by have := HLO.out; have := HLX.out; omega) (by have := HLX.out; omega) (.string so.2.1) (.slice xaA xnA xcA) (.slice yaA ynA ycA))
      have HB12 := hid (put3_block (x := .string so.2.1) (y := .slice xaA xnA xcA) (z := .slice yaA ynA ycA) HB11.out)
      have HC12 := hid (put3_keep (x := .string so.2.1) (y := .slice xaA xnA xcA) (z := .slice yaA ynA ycA) HC11.out (show w7.heap.size ≠ w5.heap.size by have := HLY.out; omega))
      have HF12 := hid (HF11.out.put HB11.out (.string so.2.1) (.slice xaA xnA xcA) (.slice yaA ynA ycA))
      obtain ⟨f0, f1, f2, m0, m1, o0, o1, o2⟩ := HT11.out.cells
      go_wp2_with fail
      refine (HSBA.out _ HT12.out.fl).mono ?_
      clear f0 f1 f2 m0 m1 o0 o1 o2 x0 x1 x2 xf
      rintro e w13 ⟨v9, u9, rfl, hv, hu, hb⟩
      have HT13 := hid (HT12.out.below hb)
      have HB13 := hid (blk_keep HB12.out hb)
      have HC13 := hid (blk_keep HC12.out hb)
      have HF13 := hid (HF12.out.below hb)
      have HY13 := hid (HFSA.out.fl hv hu)
      obtain ⟨⟨zaA, znA, zcA, rfl⟩, taA, tnA, tcA, rfl⟩ := HY13.out.slices'
      clear hv hu hb
      obtain ⟨y0, y1, y2⟩ := c3 HC13.out
      have yf := fun o => Lib.frozen_of_heap HC13.out o
      have HT14 := hid (HT13.out.put HC13.out (by have := HLO.out; have := HLX.out; have := HLY.out; omega) (by have := HLX.out; have := HLY.out; omega) (.string so.2.1) (.slice zaA znA zcA) (.slice taA tnA tcA))
      have HC14 := hid (put3_block (x := .string so.2.1) (y := .slice zaA znA zcA) (z := .slice taA tnA tcA) HC13.out)
      have HB14 := hid (put3_keep (x := .string so.2.1) (y := .slice zaA znA zcA) (z := .slice taA tnA tcA) HB13.out (show w5.heap.size ≠ w7.heap.size by have := HLY.out; omega))
      have HF14 := hid (HF13.out.put HC13.out (.string so.2.1) (.slice zaA znA zcA) (.slice taA tnA tcA))
      have HY14 := hid (HY13.out.put HC13.out (.string so.2.1) (.slice zaA znA zcA) (.slice taA tnA tcA))
      obtain ⟨x0, x1, x2⟩ := c3 HB13.out
      go_wp2_with fail
      refine (sameF_any so.2.1 so.2.2.1 so.2.2.2 _ _ _ _ _ HF14.out HY14.out).mono ?_
      clear x0 x1 x2 y0 y1 y2 yf
      rintro e w15 ⟨rfl, hb⟩
      have HT15 := hid (HT14.out.below hb)
      have HB15 := hid (blk_keep HB14.out hb)
      have HC15 := hid (blk_keep HC14.out hb)
      clear hb
      go_wp2_with fail
      refine (coded_A A k0 so.1 w15 HT15.out.te HLEA.out).mono ?_
      rintro e w20 ⟨rfl, hb⟩
      have HT20 := hid (HT15.out.below hb)
      have HB20 := hid (blk_keep HB15.out hb)
      have HC20 := hid (blk_keep HC15.out hb)
      clear hb
      obtain ⟨f0, f1, f2, m0, m1, o0, o1, o2⟩ := HT20.out.cells
      go_wp2_with fail
      refine (drop_any p R X _ _ m.1 A k0 w20 HP.out HT20.out.te HT20.out.fo HZV.out HZU.out).mono ?_
      intro e w21 hsp
      obtain ⟨vB, uB, rfl, hv, hu, hb⟩ := setP_out hsp
      have HFSB := hid (drop_fs (p := p) (R := R) (X := X) (t := m.1) HFL.out.rs HFL.out.xs HFL.out.rn HFL.out.xn)
      have HLEB := hid (drop_le p R X m.1)
      have HSBB := hid (fun W (FW : Fl W R X (.slice vp R.length vc) (.slice up X.length uc)) => dropOf_any p R X _ _ m.1 W HP.out FW)
      unfold SetQ at HSBB
      generalize outS p X (dropF p R X m.1) = dd at *
      have HF21 := hid (HFSB.out.fl hv hu)
      obtain ⟨⟨xaB, xnB, xcB, rfl⟩, yaB, ynB, ycB, rfl⟩ := HF21.out.slices'
      have HT21 := hid (HT20.out.below hb)
      have HB21 := hid (blk_keep HB20.out hb)
      have HC21 := hid (blk_keep HC20.out hb)
      clear hsp hv hu hb f0 f1 f2 m0 m1 o0 o1 o2
      obtain ⟨x0, x1, x2⟩ := c3 HB21.out
      have xf := fun o => Lib.frozen_of_heap HB21.out o
      have HT22 := hid (HT21.out.put HB21.out (by have := HLO.out; have := HLX.out; omega) (by have := HLX.out; omega) (.string dd.2.1) (.slice xaB xnB xcB) (.slice yaB ynB ycB))
      have HB22 := hid (put3_block (x := .string dd.2.1) (y := .slice xaB xnB xcB) (z := .slice yaB ynB ycB) HB21.out)
      have HC22 := hid (put3_keep (x := .string dd.2.1) (y := .slice xaB xnB xcB) (z := .slice yaB ynB ycB) HC21.out (show w7.heap.size ≠ w5.heap.size by have := HLY.out; omega))
      have HF22 := hid (HF21.out.put HB21.out (.string dd.2.1) (.slice xaB xnB xcB) (.slice yaB ynB ycB))
      obtain ⟨f0, f1, f2, m0, m1, o0, o1, o2⟩ := HT21.out.cells
      go_wp2_with fail
      refine (HSBB.out _ HT22.out.fl).mono ?_
      clear f0 f1 f2 m0 m1 o0 o1 o2 x0 x1 x2 xf
      rintro e w23 ⟨v9, u9, rfl, hv, hu, hb⟩
      have HT23 := hid (HT22.out.below hb)
      have HB23 := hid (blk_keep HB22.out hb)
      have HC23 := hid (blk_keep HC22.out hb)
      have HF23 := hid (HF22.out.below hb)
      have HY23 := hid (HFSB.out.fl hv hu)
      obtain ⟨⟨zaB, znB, zcB, rfl⟩, taB, tnB, tcB, rfl⟩ := HY23.out.slices'
      clear hv hu hb
      obtain ⟨y0, y1, y2⟩ := c3 HC23.out
      have yf := fun o => Lib.frozen_of_heap HC23.out o
      have HT24 := hid (HT23.out.put HC23.out (by have := HLO.out; have := HLX.out; have := HLY.out; omega) (by have := HLX.out; have := HLY.out; omega) (.string dd.2.1) (.slice zaB znB zcB) (.slice taB tnB tcB))
      have HC24 := hid (put3_block (x := .string dd.2.1) (y := .slice zaB znB zcB) (z := .slice taB tnB tcB) HC23.out)
      have HB24 := hid (put3_keep (x := .string dd.2.1) (y := .slice zaB znB zcB) (z := .slice taB tnB tcB) HB23.out (show w5.heap.size ≠ w7.heap.size by have := HLY.out; omega))
      have HF24 := hid (HF23.out.put HC23.out (.string dd.2.1) (.slice zaB znB zcB) (.slice taB tnB tcB))
      have HY24 := hid (HY23.out.put HC23.out (.string dd.2.1) (.slice zaB znB zcB) (.slice taB tnB tcB))
      obtain ⟨x0, x1, x2⟩ := c3 HB23.out
      go_wp2_with fail
      refine (sameF_any dd.2.1 dd.2.2.1 dd.2.2.2 _ _ _ _ _ HF24.out HY24.out).mono ?_
      clear x0 x1 x2 y0 y1 y2 yf
      rintro e w25 ⟨rfl, hb⟩
      have HT25 := hid (HT24.out.below hb)
      have HB25 := hid (blk_keep HB24.out hb)
      have HC25 := hid (blk_keep HC24.out hb)
      clear hb
      obtain ⟨f0, f1, f2, m0, m1, o0, o1, o2⟩ := HT25.out.cells
      go_wp2_with fail
      refine (sameF_any p R X _ _ _ _ w25 HT25.out.fo HT25.out.fl).mono ?_
      rintro e w26 ⟨rfl, hb⟩
      have HT26 := hid (HT25.out.below hb)
      clear hb f0 f1 f2 m0 m1 o0 o1 o2
      go_wp2_with fail
      refine (coded_A A k0 dd.1 w26 HT26.out.te HLEB.out).mono ?_
      rintro e w27 ⟨rfl, hb⟩
      have HT27 := hid (HT26.out.below hb)
      clear hb
      go_wp2_with fail
      go_ret
      exact ⟨rfl, HT27.out.bl⟩
end Ve
end Go.Proofs.YtjphlclhkaoipaaGreatDoor

/-
  The plain wrap with a condition, the world's shape kept; variables laid over a world.
-/
namespace Go.Proofs.YtjphlclhkaoipaaGreatDoor
open Go.ChangeShapes Go.WideShapes Go.ChangeAt Go.RowKit
namespace Ve

/-- The plain wrap with a condition, the world's shape kept. -/
theorem wrap_and_shaped {H : Type} {enc : TypeId × Value → H} {a : Assume} {C : Checked} {os : Go.Os} {f : FuncId} {fn : Func} {s : ChangeSpec} {conds : List PathCond} {apart fresh handsOn again : Bool} {X : World → Array Value → Prop}
    (hX : ∀ (w w' : World) (args : Array Value), w.heap = w'.heap → X w args → X w' args)
    (own : ownKnob C.prog.godebug = none) (started : os.Started) (noInit : C.prog.inits.idxOf? f = none) (hfn : C.prog.funcs[f]? = some fn)
    (witness : ∃ (w : World) (tape : Tape) (i : Input), w.os = os ∧ (w.forCall tape i).Shaped C.prog ∧ i.vars = [] ∧ Input.okWide C.prog (w.forCall tape i) .any w.heap.size f i ∧
      ((s.pre enc C.prog fn conds apart (w.forCall tape i).memory i.args ∧ X (w.forCall tape i).memory i.args) ∧ sizedMet enc C.prog fn (OpenSpec.ofChange s) apart (w.forCall tape i).memory i.args) ∧ a.holds C.prog (lone (Frame.enter C.prog f i.args .normal) [] (w.forCall tape i)))
    (contract : ∀ (W : World) (base : Nat) (args : Array Value) (ds gs : List (DataW H)) (before : List MemPlace),
      (∀ (j : Nat) t v, fn.params[j]? = some t → args[j]? = some v → Value.okWide C.prog W .any base t v) →
      DataW.Whole enc C.prog fn.params.toList s.vars apart W args.toList ds gs before → X W args → W.ShapedOpen C.prog →
      Calls C.prog f args W fun e W' => ∃ v, e = .returned v ∧ s.post enc C.prog fn apart fresh handsOn again W args v W') :
    ReturnsInHanded a C os f .any (fun w args => (s.pre enc C.prog fn conds apart w args ∧ X w args) ∧ sizedMet enc C.prog fn (OpenSpec.ofChange s) apart w args) (s.post enc C.prog fn apart fresh handsOn again) := by
  refine returnsInHanded_of_calls own started noInit witness ?_
  intro w tape i _ hsh _ hok hpre _
  obtain ⟨_, _, _, fn', hfn', _, _, _, _, hval⟩ := hok
  have e : fn' = fn := Option.some.inj (hfn'.symm.trans hfn)
  subst e
  obtain ⟨⟨⟨ds, gs, before, hw, _⟩, hx⟩, _⟩ := hpre
  have hw' := DataW.Whole.of_heap (w' := w.forCall tape i) (by rfl) hw
  refine (contract (w.forCall tape i) w.heap.size i.args ds gs before hval hw' (hX _ _ _ (by rfl) hx) hsh).mono fun e W' ⟨v, he, hp⟩ => ?_
  subst he
  exact ChangeSpec.post_blind hp

/-- All that is listed, laid over a world. -/
theorem laidMet_over {P : Program} {w0 : World} {laid : List (String × DataW Unit)} (args : Array Value)
    (hf : w0.layFits P laid [] = true) (hi : w0.layIfaces P laid (w0.layVars P laid) = true) :
    laidMet P laid ((w0.layVars P laid).forCall (fun _ _ => 0) ⟨#[], args, []⟩).memory := by
  have e1 : (laid.filter fun x => (laid.map (·.1)).contains x.1) = laid := List.filter_eq_self.2 fun x hx => List.contains_iff_mem.2 (List.mem_map.2 ⟨x, hx, rfl⟩)
  have e2 : (laid.filter fun x => !(laid.map (·.1)).contains x.1) = [] := List.filter_eq_nil_iff.2 fun x hx => by rw [List.contains_iff_mem.2 (List.mem_map.2 ⟨x, hx, rfl⟩)]; simp
  have h : laidMet P laid (w0.layVars P laid) := laidMet_layVars (w0 := w0) (laid.map (·.1)) [] (by rw [e1]) (by rw [e1]; exact hf) (by rw [e1]; exact hi) (by rw [e2]; exact LaidIn.none)
  exact h.of_heap (by simp [World.memory, World.forCall, Input.heap])
end Ve
end Go.Proofs.YtjphlclhkaoipaaGreatDoor

/-
  What a list of laid sentinels gives a walk, however long the list: each variable's cell, each pointee's block, and that no two are one.
-/
namespace Go.Proofs.YtjphlclhkaoipaaGreatDoor
namespace Er
open Go

theorem sens_rest {P : Program} {nm : String} {W : World} {ti tp te ts : TypeId} {ms : Array (String × TypeId)} {f : Field}
    (hi : P.underlying ti = some (.interface ms)) (hrow : ∀ u, P.typeName? 3 u = some nm → u = tp)
    (hp : P.underlying tp = some (.pointer te)) (he : P.underlying te = some (.struct #[f])) (hft : f.type = ts) (hfo : f.offset = 0) (hs : P.underlying ts = some .string) (hc : P.cellsOf te = 1) (hcs : P.cellsOf ts = 1) (rest : List (String × DataW Unit)) :
    ∀ (ns : List (String × Nat × List UInt8)) (ps : List MemPlace),
      DataW.LaidVars P W ((ns.map fun x => (x.1, DataW.iface nm (.ptr (.agg [.lit (.string x.2.2)])))) ++ rest) ps →
      (∀ x, x ∈ ns → P.globalNamed x.1 = some x.2.1 ∧ (P.globals[x.2.1]?).map (·.type) = some ti) →
      (∀ b off, MemPlace.cell b off ∈ ps → (∃ c t, W.heap[b]? = some (.cells c t (0, 0))) ∧ ∀ u v, W.cell? ⟨b, off, none⟩ = some (.iface u v) → Value.okWide P W .any 0 u v) →
      ∃ al : List Addr, al.length = ns.length ∧ (al.map fun a => MemPlace.cell a.block a.off).Sublist ps ∧
        ∀ (i : Nat) (x : String × Nat × List UInt8) (a : Addr), ns[i]? = some x → al[i]? = some a →
          W.cell? ⟨x.2.1, 0, none⟩ = some (.iface tp (.pointer (some a))) ∧ ∃ c t, W.heap[a.block]? = some (.cells c t (0, 0)) := by
  intro ns
  induction ns with
  | nil =>
    intro ps _ _ _
    exact ⟨[], rfl, List.nil_sublist _, fun i x a h => by simp at h⟩
  | cons n r ih =>
    intro ps hl hg hr
    obtain ⟨g, t, cs, fuel, p, q, hg0, ht0, hv0, hd0, hq, e0⟩ := hl
    obtain ⟨k1, k2⟩ := hg n (List.mem_cons_self)
    obtain rfl := Option.some.inj (k1.symm.trans hg0)
    obtain rfl := Option.some.inj (k2.symm.trans ht0)
    subst e0
    obtain ⟨l0⟩ := cs
    have ok0 : ∀ u v, l0 = [.iface u v] → Value.okWide P W .any 0 u v := fun u v e => by
      subst e
      exact (hr n.2.1 0 (by simp [MemPlace.row])).2 u v (by simpa using World.var?_cell hg0 hv0 0)
    obtain ⟨a0, s0, rfl, hc0, hs0, hz0, rfl⟩ := errorString_of_trod hi hrow hp he hft hfo hs hc hcs hd0 ok0
    obtain ⟨al, hlen, hsub, hall⟩ := ih q hq (fun x hx => hg x (List.mem_cons_of_mem _ hx)) (fun b off hm => hr b off (by simp [hm]))
    refine ⟨a0 :: al, by simp [hlen], ?_, ?_⟩
    · simp only [List.map_cons, MemPlace.row, List.range_one, List.map_nil, Nat.add_zero]
      exact List.Sublist.cons _ (List.Sublist.cons_cons _ hsub)
    · intro i x a hx ha
      cases i with
      | zero =>
        simp only [List.getElem?_cons_zero, Option.some.injEq] at hx ha
        subst hx; subst ha
        exact ⟨by simpa using World.var?_cell hg0 hv0 0, (hr a0.block a0.off (by simp [MemPlace.row])).1⟩
      | succ i =>
        simp only [List.getElem?_cons_succ] at hx ha
        exact hall i x a hx ha

theorem unlike {al : List Addr} {ps : List MemPlace} (hs : (al.map fun a => MemPlace.cell a.block a.off).Sublist ps) (hn : ps.Nodup) {i j : Nat} (hi : i < al.length) (hj : j < al.length) (hij : i ≠ j) : al[i] ≠ al[j] := by
  have h1 : (al.map fun a => MemPlace.cell a.block a.off).Nodup := hs.nodup hn
  intro e
  rw [List.Nodup, List.pairwise_iff_getElem] at h1
  rcases Nat.lt_or_gt_of_ne hij with h | h
  · exact h1 i j (by simpa using hi) (by simpa using hj) h (by simp [e])
  · exact h1 j i (by simpa using hj) (by simpa using hi) h (by simp [e])
end Er
end Go.Proofs.YtjphlclhkaoipaaGreatDoor
