/-
  RefO
-/
import Derived.Test.YtjhlkjgijbobcaaGreatDoorFt33
import Derived.Test.YtjhlkjgijbobcaaGreatDoorFt36
namespace Go.Proofs.YtjhlkjgijbobcaaGreatDoor
open Go.RowKit
namespace Ve
def atOf : Option Nat → Int
  | none => -1
  | some i => (i : Int)
def faultV (r : Nat × Option Nat) : Value := .agg #[.int .i64 (r.1 : Nat), .int .i64 (atOf r.2)]
theorem MsAt.at {w : World} {a : Option Addr} {n c : Nat} {L : List Bm} (h : MsAt w (.slice a n c) L) (h0 : 0 < L.length) :
    ∃ b o, a = some ⟨b, o, none⟩ ∧ ∀ j (h : j < L.length), w.cell? ⟨b, o + j * 2, none⟩ = some (.string L[j].1) ∧ w.cell? ⟨b, o + j * 2 + 1, none⟩ = some (.string L[j].2) := by
  obtain ⟨a', c', e, _, h⟩ := h
  obtain ⟨b, o, e2, h2⟩ := h (by intro e; rw [e] at h0; simp at h0)
  injection e with e3 e4 e5
  exact ⟨b, o, by rw [e3, e2], h2⟩
theorem blk_keep {W W' : World} {b : Nat} {o : Obj} (h : W.heap[b]? = some o) (hb : Below W.heap.size W W') : W'.heap[b]? = some o := by rw [hb.block _ (lt_of_blk h)]; exact h
theorem fld0 (a b : Int) (W : World) : (Instr.field 35 (.agg #[.int .i64 a, .int .i64 b]) 0).run Tryz.prog W = .ok (.int .i64 a) W := by kernel_rfl
theorem bx32 {w w3 : World} {a b c d e : Value} {T T' : TypeId} (hb : Below (w.heap.size + 1 + 1) ((w.alloc (.cells #[a, b, c] T)).alloc (.cells #[d, e] T')) w3) :
    (w3.cell? ⟨w.heap.size, 0, none⟩ = some a ∧ w3.cell? ⟨w.heap.size, 1, none⟩ = some b ∧ w3.cell? ⟨w.heap.size, 2, none⟩ = some c) ∧ (w3.cell? ⟨w.heap.size + 1, 0, none⟩ = some d ∧ w3.cell? ⟨w.heap.size + 1, 1, none⟩ = some e) ∧ (∀ o, w3.frozen? ⟨w.heap.size + 1, o, none⟩ = false) ∧ w.heap.size + 1 < w3.heap.size := by
  have h1 : w3.heap[w.heap.size]? = some (.cells #[a, b, c] T (0, 0)) := by rw [hb.block _ (by omega)]; exact heap_old _ _ (heap_new w _)
  have hz : (w.alloc (.cells #[a, b, c] T)).heap.size = w.heap.size + 1 := by simp
  have h2 : w3.heap[w.heap.size + 1]? = some (.cells #[d, e] T' (0, 0)) := by
    have := heap_new (w.alloc (.cells #[a, b, c] T)) (.cells #[d, e] T')
    rw [hz] at this
    rw [hb.block _ (by omega)]; exact this
  refine ⟨⟨?_, ?_, ?_⟩, ⟨?_, ?_⟩, fun o => Lib.frozen_of_heap h2 o, lt_of_blk h2⟩
  · rw [Lib.cell_of_heap h1]; rfl
  · rw [Lib.cell_of_heap h1]; rfl
  · rw [Lib.cell_of_heap h1]; rfl
  · rw [Lib.cell_of_heap h2]; rfl
  · rw [Lib.cell_of_heap h2]; rfl
theorem put2_below {W w : World} {B b : Nat} {x y : Value} (h : Below B w W) (hb : B ≤ b) : Below B w ((W.setCell ⟨b, 0, none⟩ x).setCell ⟨b, 1, none⟩ y) :=
  (h.setCell (p := ⟨b, 0, none⟩) hb _).setCell (p := ⟨b, 1, none⟩) hb _
theorem rbare_any (n : Int) (w : World) : Calls Tryz.prog 29 #[.int .i64 n] w fun e w' => e = .returned (.agg #[.int .i64 n, .int .i64 (-1)]) ∧ Below w.heap.size w w' := by
  go_enter Tryz.func29, Tryz.ntmps29
  go_wp2_with fail
  refine bodyPost_ret (v := .agg #[.int .i64 n, .int .i64 (-1)]) (by simp [results, Tryz.results29, go_sem]) rfl ⟨rfl, ?_⟩
  exact (Below.refl w.heap.size w).alloc (Nat.le_refl _) _
theorem fine_any (w : World) : Calls Tryz.prog 33 #[] w fun e w' => e = .returned (.agg #[.int .i64 0, .int .i64 (-1)]) ∧ Below w.heap.size w w' := by
  go_enter Tryz.func33, Tryz.ntmps33
  go_wp2_with fail
  refine bodyPost_ret (v := .agg #[.int .i64 0, .int .i64 (-1)]) (by simp [results, Tryz.results33, go_sem]) rfl ⟨rfl, ?_⟩
  exact (Below.refl w.heap.size w).alloc (Nat.le_refl _) _
set_option maxHeartbeats 1000000 in
theorem ff_path (p : ByteArray) (R X : List Bm) (v u : Value) (w : World) (hp : p.size < 999999) (F : Fl w R X v u) (h : pathErr p.data.toList ≠ 0) :
    Calls Tryz.prog 10 #[.agg #[.string p, v, u]] w fun e w' => e = .returned (faultV (fileF p R X)) ∧ Below w.heap.size w w' := by
  rw [fileF_path h]
  obtain ⟨⟨vp, vc, rfl⟩, up, uc, rfl⟩ := F.slices
  have HB0 := hid (((Below.refl w.heap.size w).alloc (Nat.le_refl _) (.cells #[.string p, .slice vp R.length vc, .slice up X.length uc] 24)).alloc (by simp) (.cells #[.int .i64 0, .int .i64 0] 35))
  have HP := hid (pathError_any p ((w.alloc (.cells #[.string p, .slice vp R.length vc, .slice up X.length uc] 24)).alloc (.cells #[.int .i64 0, .int .i64 0] 35)) (by omega))
  have hpos : (0 : Int) < (pathErr p.data.toList : Int) := by omega
  generalize pathErr p.data.toList = z at *
  clear F h
  go_enter Tryz.func10, Tryz.ntmps10
  go_wp2_with fail
  refine HP.out.mono ?_
  rintro e w1 ⟨rfl, hb⟩
  obtain ⟨⟨r0, r1, r2⟩, ⟨s0, s1⟩, sf, rz⟩ := bx32 (hb.mono (by simp))
  have HB := hid (HB0.out.trans (hb.mono HB0.out.size))
  clear hb
  go_wp2_with fail
  refine (rbare_any _ _).mono ?_
  rintro e w2 ⟨rfl, hb⟩
  replace s0 := cell_below hb s0
  replace s1 := cell_below hb s1
  have tf := fun o => (hb.frozen (p := ⟨w.heap.size + 1, o, none⟩) rz).trans (sf o)
  have HB2 := hid (HB.out.trans (hb.mono HB.out.size))
  clear hb sf
  go_wp2_with fail
  refine bodyPost_ret (v := .agg #[.int .i64 z, .int .i64 (-1)]) (by simp [results, Tryz.results10, go_sem, s0, s1]) rfl ⟨rfl, ?_⟩
  exact put2_below HB2.out (by omega)
set_option maxHeartbeats 1000000 in
theorem ff_full (p : ByteArray) (R X : List Bm) (v u : Value) (w : World) (hp : p.size < 999999) (F : Fl w R X v u) (h : pathErr p.data.toList = 0) (h2 : 20 < R.length ∨ 20 < X.length) :
    Calls Tryz.prog 10 #[.agg #[.string p, v, u]] w fun e w' => e = .returned (faultV (fileF p R X)) ∧ Below w.heap.size w w' := by
  rw [fileF_full h h2]
  obtain ⟨⟨vp, vc, rfl⟩, up, uc, rfl⟩ := F.slices
  have HB0 := hid (((Below.refl w.heap.size w).alloc (Nat.le_refl _) (.cells #[.string p, .slice vp R.length vc, .slice up X.length uc] 24)).alloc (by simp) (.cells #[.int .i64 0, .int .i64 0] 35))
  have HP := hid (pathError_any p ((w.alloc (.cells #[.string p, .slice vp R.length vc, .slice up X.length uc] 24)).alloc (.cells #[.int .i64 0, .int .i64 0] 35)) (by omega))
  rw [h] at HP
  clear F h
  by_cases h4 : 20 < R.length
  · have h5 : (20 : Int) < (R.length : Int) := by omega
    clear h2 h4
    go_enter Tryz.func10, Tryz.ntmps10
    go_wp2_with fail
    refine HP.out.mono ?_
    rintro e w1 ⟨rfl, hb⟩
    obtain ⟨⟨r0, r1, r2⟩, ⟨s0, s1⟩, sf, rz⟩ := bx32 (hb.mono (by simp))
    have HB := hid (HB0.out.trans (hb.mono HB0.out.size))
    clear hb
    go_wp2_with fail
    refine (rbare_any _ _).mono ?_
    rintro e w2 ⟨rfl, hb⟩
    replace s0 := cell_below hb s0
    replace s1 := cell_below hb s1
    have tf := fun o => (hb.frozen (p := ⟨w.heap.size + 1, o, none⟩) rz).trans (sf o)
    have HB2 := hid (HB.out.trans (hb.mono HB.out.size))
    clear hb sf
    go_wp2_with fail
    refine bodyPost_ret (v := .agg #[.int .i64 7, .int .i64 (-1)]) (by simp [results, Tryz.results10, go_sem, s0, s1]) rfl ⟨rfl, ?_⟩
    exact put2_below HB2.out (by omega)
  · have h5 : ¬ (20 : Int) < (R.length : Int) := by omega
    have h6 : (20 : Int) < (X.length : Int) := by omega
    clear h2 h4
    go_enter Tryz.func10, Tryz.ntmps10
    go_wp2_with fail
    refine HP.out.mono ?_
    rintro e w1 ⟨rfl, hb⟩
    obtain ⟨⟨r0, r1, r2⟩, ⟨s0, s1⟩, sf, rz⟩ := bx32 (hb.mono (by simp))
    have HB := hid (HB0.out.trans (hb.mono HB0.out.size))
    clear hb
    go_wp2_with fail
    refine (rbare_any _ _).mono ?_
    rintro e w2 ⟨rfl, hb⟩
    replace s0 := cell_below hb s0
    replace s1 := cell_below hb s1
    have tf := fun o => (hb.frozen (p := ⟨w.heap.size + 1, o, none⟩) rz).trans (sf o)
    have HB2 := hid (HB.out.trans (hb.mono HB.out.size))
    clear hb sf
    go_wp2_with fail
    refine bodyPost_ret (v := .agg #[.int .i64 7, .int .i64 (-1)]) (by simp [results, Tryz.results10, go_sem, s0, s1]) rfl ⟨rfl, ?_⟩
    exact put2_below HB2.out (by omega)
set_option maxHeartbeats 1000000 in
theorem ff_req (p : ByteArray) (R X : List Bm) (v u : Value) (i : Nat) (w : World) (hp : p.size < 999999) (F : Fl w R X v u) (h : pathErr p.data.toList = 0) (h2 : ¬ (20 < R.length ∨ 20 < X.length)) (h3 : fstE (reqE p R) R.length = some i) :
    Calls Tryz.prog 10 #[.agg #[.string p, v, u]] w fun e w' => e = .returned (faultV (fileF p R X)) ∧ Below w.heap.size w w' := by
  rw [fileF_req h h2 h3]
  obtain ⟨⟨vp, vc, rfl⟩, up, uc, rfl⟩ := F.slices
  have HB0 := hid (((Below.refl w.heap.size w).alloc (Nat.le_refl _) (.cells #[.string p, .slice vp R.length vc, .slice up X.length uc] 24)).alloc (by simp) (.cells #[.int .i64 0, .int .i64 0] 35))
  have HP := hid (pathError_any p ((w.alloc (.cells #[.string p, .slice vp R.length vc, .slice up X.length uc] 24)).alloc (.cells #[.int .i64 0, .int .i64 0] 35)) (by omega))
  rw [h] at HP
  have HF := hid (F.below HB0.out)
  have HRR := hid (show reqsR p R = (reqE p R i, i) by unfold reqsR; rw [h3])
  have hpos : (0 : Int) < (reqE p R i : Int) := by have := (fstE_of_some h3).2.1; omega
  have h4 : ¬ (20 : Int) < (R.length : Int) := by omega
  have h5 : ¬ (20 : Int) < (X.length : Int) := by omega
  generalize reqE p R i = z at *
  clear F h h2 h3
  go_enter Tryz.func10, Tryz.ntmps10
  go_wp2_with fail
  refine HP.out.mono ?_
  rintro e w1 ⟨rfl, hb⟩
  obtain ⟨⟨r0, r1, r2⟩, ⟨s0, s1⟩, sf, rz⟩ := bx32 (hb.mono (by simp))
  have HB := hid (HB0.out.trans (hb.mono HB0.out.size))
  have HRQ := hid (reqsE_any p R _ w1 HF.out.rn HF.out.rs (HF.out.r.below hb))
  rw [HRR.out] at HRQ
  clear hb
  go_wp2_with fail
  refine HRQ.out.mono ?_
  rintro e w2 ⟨rfl, hb⟩
  replace s0 := cell_below hb s0
  replace s1 := cell_below hb s1
  have tf := fun o => (hb.frozen (p := ⟨w.heap.size + 1, o, none⟩) rz).trans (sf o)
  have HB2 := hid (HB.out.trans (hb.mono HB.out.size))
  clear hb sf
  go_wp2_with fail
  refine bodyPost_ret (v := .agg #[.int .i64 z, .int .i64 i]) (by simp [results, Tryz.results10, go_sem, s0, s1]) rfl ⟨rfl, ?_⟩
  exact put2_below HB2.out (by omega)
theorem ff_ex_is {p : ByteArray} {R X : List Bm} {k : Nat} (h : pathErr p.data.toList = 0) (h2 : ¬ (20 < R.length ∨ 20 < X.length)) (h3 : fstE (reqE p R) R.length = none) (h0 : ∀ j, j < k → exE X j = 0) (hk : k < X.length) (h4 : exE X k ≠ 0) : fileF p R X = (exE X k, some k) :=
  fileF_ex h h2 h3 (fstE_some h0 h4 hk)
theorem ff_cl_is {p : ByteArray} {R X : List Bm} {k : Nat} (h : pathErr p.data.toList = 0) (h2 : ¬ (20 < R.length ∨ 20 < X.length)) (h3 : fstE (reqE p R) R.length = none) (hx : ∀ j, j < X.length → exE X j = 0) (h0 : ∀ j, j < k → clE X R j = 0) (hk : k < R.length) (h4 : clE X R k ≠ 0) : fileF p R X = (9, some k) := by
  rw [fileF_cl h h2 h3 (fstE_none hx)]
  have e := fstE_some h0 h4 hk
  rw [codeE_some e, e]
  have : clE X R k = 9 := by
    unfold clE at h4 ⊢
    rw [List.getElem?_eq_getElem hk] at h4 ⊢
    simp only at h4 ⊢
    split
    · rfl
    · rename_i hh; rw [if_neg hh] at h4; exact absurd rfl h4
  rw [this]
theorem ff_fine_is {p : ByteArray} {R X : List Bm} (h : pathErr p.data.toList = 0) (h2 : ¬ (20 < R.length ∨ 20 < X.length)) (h3 : fstE (reqE p R) R.length = none) (hx : ∀ j, j < X.length → exE X j = 0) (h0 : ∀ j, j < R.length → clE X R j = 0) : fileF p R X = (0, none) := by
  rw [fileF_cl h h2 h3 (fstE_none hx)]
  have e := fstE_none h0
  rw [codeE_none e, e]
def noneB (X : List Bm) (m : Bm) (k : Nat) : Prop := ∀ j (h : j < X.length), j < k → ¬ (m.1 = X[j].1 ∧ m.2 = X[j].2)
theorem noneB_next {X : List Bm} {m : Bm} {k : Nat} (hk : k < X.length) (h : noneB X m k) (hm : ¬ (m.1 = X[k].1 ∧ m.2 = X[k].2)) : noneB X m (k + 1) := fun j hj hjk => by
  rcases Nat.lt_or_ge j k with h1 | h1
  · exact h j hj h1
  · have : j = k := by omega
    subst this; exact hm
theorem noneB_cl {X R : List Bm} {k : Nat} (hk : k < R.length) (h : noneB X R[k] X.length) : clE X R k = 0 := by
  unfold clE
  rw [List.getElem?_eq_getElem hk]
  simp only
  rw [hasB_not, if_neg (by decide)]
  intro hm
  obtain ⟨j, hj, e⟩ := List.getElem_of_mem hm
  exact h j hj hj ⟨by rw [e], by rw [e]⟩
theorem someB_cl {X R : List Bm} {k j : Nat} (hk : k < R.length) (hj : j < X.length) (h : R[k].1 = X[j].1 ∧ R[k].2 = X[j].2) : clE X R k ≠ 0 := by
  unfold clE
  rw [List.getElem?_eq_getElem hk]
  simp only
  have : R[k] = X[j] := by
    generalize R[k] = a at *; generalize X[j] = b at *
    obtain ⟨a1, a2⟩ := a; obtain ⟨b1, b2⟩ := b
    simp only at h; rw [h.1, h.2]
  rw [hasB_iff.2 (by rw [this]; exact List.getElem_mem hj), if_pos rfl]; decide
set_option maxHeartbeats 8000000 in
set_option maxRecDepth 100000 in
theorem ff_rest (p : ByteArray) (R X : List Bm) (v u : Value) (w : World) (hp : p.size < 999999) (F : Fl w R X v u) (h : pathErr p.data.toList = 0) (h2 : ¬ (20 < R.length ∨ 20 < X.length)) (h3 : fstE (reqE p R) R.length = none) :
    Calls Tryz.prog 10 #[.agg #[.string p, v, u]] w fun e w' => e = .returned (faultV (fileF p R X)) ∧ Below w.heap.size w w' := by
  have HX1 := hid (fun k => ff_ex_is (k := k) h h2 h3)
  have HX2 := hid (fun k => ff_cl_is (k := k) h h2 h3)
  have HX3 := hid (ff_fine_is h h2 h3)
  have HRR := hid (show reqsR p R = (0, 0) by unfold reqsR; rw [h3])
  obtain ⟨⟨vp, vc, rfl⟩, up, uc, rfl⟩ := F.slices
  have HB0 := hid (((Below.refl w.heap.size w).alloc (Nat.le_refl _) (.cells #[.string p, .slice vp R.length vc, .slice up X.length uc] 24)).alloc (by simp) (.cells #[.int .i64 0, .int .i64 0] 35))
  have HP := hid (pathError_any p ((w.alloc (.cells #[.string p, .slice vp R.length vc, .slice up X.length uc] 24)).alloc (.cells #[.int .i64 0, .int .i64 0] 35)) (by omega))
  rw [h] at HP
  have HF := hid (F.below HB0.out)
  obtain ⟨⟨z0, z1, z2⟩, ⟨y0, y1⟩, yf, yz⟩ := bx32 (Below.refl (w.heap.size + 1 + 1) ((w.alloc (.cells #[.string p, .slice vp R.length vc, .slice up X.length uc] 24)).alloc (.cells #[.int .i64 0, .int .i64 0] 35)))
  have HZ0 := hid z0
  have HZ1 := hid z1
  have HZ2 := hid z2
  have HY0 := hid y0
  have HY1 := hid y1
  have HYF := hid yf
  have HYZ := hid yz
  have h4 : ¬ (20 : Int) < (R.length : Int) := by omega
  have h5 : ¬ (20 : Int) < (X.length : Int) := by omega
  have hRn : R.length ≤ 20 := by omega
  have hXn : X.length ≤ 20 := by omega
  have hgd := modGuard
  clear F h h2 h3 z0 z1 z2 y0 y1 yf yz
  go_enter Tryz.func10, Tryz.ntmps10
  go_wp2_with fail
  generalize hW : (w.alloc (.cells #[.string p, .slice vp R.length vc, .slice up X.length uc] 24)).alloc (.cells #[.int .i64 0, .int .i64 0] 35) = W0 at *
  refine HP.out.mono ?_
  rintro e w1 ⟨rfl, hb⟩
  have HB1 := hid hb
  have r0 := cell_below hb HZ0.out
  have r1 := cell_below hb HZ1.out
  have r2 := cell_below hb HZ2.out
  have HRQ := hid (reqsE_any p R _ w1 HF.out.rn HF.out.rs (HF.out.r.below hb))
  rw [HRR.out] at HRQ
  clear hb
  go_wp2_with fail
  refine HRQ.out.mono ?_
  rintro e w2 ⟨rfl, hb⟩
  have HB2 := hid (HB1.out.trans (hb.mono HB1.out.size))
  replace r0 := cell_below hb r0
  replace r1 := cell_below hb r1
  replace r2 := cell_below hb r2
  clear hb
  go_wp2_with fail
  go_loopw [5] (fun i wr => ∃ k : Nat, k ≤ X.length ∧ i = .int .i64 k ∧ Hid (∀ j, j < k → exE X j = 0) ∧ Hid (Below W0.heap.size W0 wr)) (fun i _ => X.length - (intOf i).toNat)
  case atStart => exact ⟨0, Nat.zero_le _, rfl, hid (fun j hj => absurd hj (by omega)), HB2⟩
  case round =>
    obtain ⟨k, hk, rfl, HZ, HB⟩ := hrel
    clear r0 r1 r2
    have r0 := cell_below HB.out HZ0.out
    have r1 := cell_below HB.out HZ1.out
    have r2 := cell_below HB.out HZ2.out
    by_cases hlt : k < X.length
    · obtain ⟨b, o, rfl, hc⟩ := HF.out.x.at (by omega)
      have hx := cell_below HB.out (hc k hlt).1
      have hy := cell_below HB.out (hc k hlt).2
      have hkI : (k : Int) < (X.length : Int) := by omega
      have HM := hid (modError_any X[k].1 X[k].2 wr (by have := (HF.out.xs X[k] (List.getElem_mem hlt)).1; omega) (by have := (HF.out.xs X[k] (List.getElem_mem hlt)).2; omega))
      rw [show modErr X[k].1.data.toList X[k].2.data.toList = mErr X[k] from rfl] at HM
      have HN := hid (fun h => HX1.out k HZ.out hlt h)
      have HY := hid (fun h => zero_next HZ.out h)
      have HLT := hid hlt
      have HCC := hid hc
      clear hc
      rcases Nat.eq_zero_or_pos k with h00 | h00
      · have HE := hid (show exE X k = exW none X[k] by subst h00; exact exE_0 hlt)
        have g3 : decide (0 < k) = false := decide_eq_false (by omega)
        generalize X[k] = x at *
        obtain ⟨p1, v1⟩ := x
        clear hlt h00
        by_cases h0 : mErr (p1, v1) = 0
        · have HV := hid (HY.out (by rw [HE.out, exW_none h0]))
          rw [h0] at HM
          clear h0
          go_wp2_with fail
          refine HM.out.mono ?_
          rintro e w3 ⟨rfl, hb⟩
          have HB3 := hid (HB.out.trans (hb.mono HB.out.size))
          replace r2 := cell_below hb r2
          clear hb
          go_wp2_with fail
          go_roundw
          case rel => exact ⟨k + 1, by have := HLT.out; omega, by go_num, HV, HB3⟩
          case measure => have := HLT.out; simp [intOf]; omega
        · have HV := hid (HN.out (by rw [HE.out, exW_bad h0]; exact h0))
          rw [HE.out, exW_bad h0] at HV
          have hpos : (0 : Int) < (mErr (p1, v1) : Int) := by omega
          have hne : ((mErr (p1, v1) : Int) == 0) = false := beq_eq_false_iff_ne.2 (by omega)
          generalize mErr (p1, v1) = z at *
          clear h0
          go_wp2_with fail
          refine HM.out.mono ?_
          rintro e w3 ⟨rfl, hb⟩
          have HB3 := hid (HB.out.trans (hb.mono HB.out.size))
          clear hb
          have s0 := cell_below HB3.out HY0.out
          have s1 := cell_below HB3.out HY1.out
          have sf := fun o => (HB3.out.frozen (p := ⟨w.heap.size + 1, o, none⟩) HYZ.out).trans (HYF.out o)
          go_wp2_with fail
          refine bodyPost_ret (v := .agg #[.int .i64 z, .int .i64 k]) (by simp [results, Tryz.results10, go_sem, s0, s1]) rfl ⟨?_, ?_⟩
          · rw [HV.out]; rfl
          · exact put2_below (HB0.out.trans (HB3.out.mono HB0.out.size)) (by omega)
      · obtain ⟨q, hq⟩ : ∃ q, k = q + 1 := ⟨k - 1, by omega⟩
        have hql : q < X.length := by omega
        have HE := hid (show exE X k = exW (some X[q]) X[k] by subst hq; exact exE_1 hlt)
        have hxq := cell_below HB.out (HCC.out q hql).1
        have hyq := cell_below HB.out (HCC.out q hql).2
        have hs1 := (HF.out.xs X[q] (List.getElem_mem hql)).2
        have hs2 := (HF.out.xs X[k] (List.getElem_mem hlt)).2
        have gw : IntKind.i64.wrap ((k : Int) - 1) = (q : Int) := by rw [IntKind.wrap_i64]; omega
        have gw2 : (k : Int) - 1 = (q : Int) := by omega
        have gw3 : IntKind.i64.wrap (q : Int) = (q : Int) := by rw [IntKind.wrap_i64]; omega
        have g1 : (0 : Int) ≤ (q : Int) := by omega
        have g2 : (q : Int) < (X.length : Int) := by omega
        have g3 : (0 : Int) < (k : Int) := by omega
        have g4 : decide (0 < k) = true := decide_eq_true (by omega)
        generalize X[k] = x at *
        generalize X[q] = y at *
        obtain ⟨p1, v1⟩ := x
        obtain ⟨p2, v2⟩ := y
        have HA := hid (fun W => isAhead_any p2 v2 p1 v1 W hs1 hs2)
        rw [show aheadB p2.data.toList v2.data.toList p1.data.toList v1.data.toList = mAhead (p2, v2) (p1, v1) from rfl] at HA
        clear hlt hql hq h00 hs1 hs2
        by_cases h0 : mErr (p1, v1) = 0
        · rw [h0] at HM
          rw [exW_some h0] at HE
          generalize mAhead (p2, v2) (p1, v1) = z at *
          clear h0
          cases z
          · have HV := hid (HN.out (by rw [HE.out]; decide))
            rw [HE.out] at HV
            go_wp2_with fail
            refine HM.out.mono ?_
            rintro e w3 ⟨rfl, hb⟩
            have HB3 := hid (HB.out.trans (hb.mono HB.out.size))
            replace r2 := cell_below hb r2
            replace hx := cell_below hb hx
            replace hy := cell_below hb hy
            replace hxq := cell_below hb hxq
            replace hyq := cell_below hb hyq
            clear hb
            go_wp2_with fail
            go_region_with (go_at_call 32; refine (HA.out _).mono ?_; rintro e w4 ⟨rfl, hb⟩; have HB4 := hid ((HB3.out.trans ((below_drawn _ 1).mono HB3.out.size)).trans (hb.mono HB3.out.size)); clear hb)
            all_goals
              have s0 := cell_below HB4.out HY0.out
              have s1 := cell_below HB4.out HY1.out
              have sf := fun o => (HB4.out.frozen (p := ⟨w.heap.size + 1, o, none⟩) HYZ.out).trans (HYF.out o)
              go_wp2_with fail
              refine bodyPost_ret (v := .agg #[.int .i64 8, .int .i64 k]) (by simp [results, Tryz.results10, go_sem, s0, s1]) rfl ⟨?_, ?_⟩
              · rw [HV.out]; rfl
              · exact put2_below (HB0.out.trans (HB4.out.mono HB0.out.size)) (by omega)
          · have HV := hid (HY.out (by rw [HE.out]; rfl))
            go_wp2_with fail
            refine HM.out.mono ?_
            rintro e w3 ⟨rfl, hb⟩
            have HB3 := hid (HB.out.trans (hb.mono HB.out.size))
            replace r2 := cell_below hb r2
            replace hx := cell_below hb hx
            replace hy := cell_below hb hy
            replace hxq := cell_below hb hxq
            replace hyq := cell_below hb hyq
            clear hb
            go_wp2_with fail
            go_region_with (go_at_call 32; refine (HA.out _).mono ?_; rintro e w4 ⟨rfl, hb⟩; have HB4 := hid ((HB3.out.trans ((below_drawn _ 1).mono HB3.out.size)).trans (hb.mono HB3.out.size)); clear hb)
            all_goals
              go_wp2_with fail
              go_roundw
              case rel => exact ⟨k + 1, by have := HLT.out; omega, by go_num, HV, HB4⟩
              case measure => have := HLT.out; simp [intOf]; omega
        · have HV := hid (HN.out (by rw [HE.out, exW_bad h0]; exact h0))
          rw [HE.out, exW_bad h0] at HV
          have hpos : (0 : Int) < (mErr (p1, v1) : Int) := by omega
          have hne : ((mErr (p1, v1) : Int) == 0) = false := beq_eq_false_iff_ne.2 (by omega)
          generalize mErr (p1, v1) = z at *
          clear h0
          go_wp2_with fail
          refine HM.out.mono ?_
          rintro e w3 ⟨rfl, hb⟩
          have HB3 := hid (HB.out.trans (hb.mono HB.out.size))
          clear hb
          have s0 := cell_below HB3.out HY0.out
          have s1 := cell_below HB3.out HY1.out
          have sf := fun o => (HB3.out.frozen (p := ⟨w.heap.size + 1, o, none⟩) HYZ.out).trans (HYF.out o)
          go_wp2_with fail
          refine bodyPost_ret (v := .agg #[.int .i64 z, .int .i64 k]) (by simp [results, Tryz.results10, go_sem, s0, s1]) rfl ⟨?_, ?_⟩
          · rw [HV.out]; rfl
          · exact put2_below (HB0.out.trans (HB3.out.mono HB0.out.size)) (by omega)
    · have HXA := hid (show ∀ j, j < X.length → exE X j = 0 from fun j hj => HZ.out j (by omega))
      go_wp2_with fail
      go_loopw [8] (fun i wr => ∃ k : Nat, k ≤ R.length ∧ i = .int .i64 k ∧ Hid (∀ j, j < k → clE X R j = 0) ∧ Hid (Below W0.heap.size W0 wr)) (fun i _ => R.length - (intOf i).toNat)
      case atStart => exact ⟨0, Nat.zero_le _, rfl, hid (fun j hj => absurd hj (by omega)), HB⟩
      case round =>
        obtain ⟨k3, hk3, rfl, HZ3, HBr⟩ := hrel
        clear r0 r1 r2
        have r1 := cell_below HBr.out HZ1.out
        have r2 := cell_below HBr.out HZ2.out
        by_cases hlt3 : k3 < R.length
        · obtain ⟨b, o, rfl, hc⟩ := HF.out.r.at (by omega)
          have hkI : (k3 : Int) < (R.length : Int) := by omega
          have HCC := hid (hc k3 hlt3)
          have HN := hid (fun h => HX2.out k3 HXA.out HZ3.out hlt3 h)
          have HY := hid (fun h => zero_next HZ3.out h)
          have HL3 := hid hlt3
          clear hc
          go_wp2_with fail
          go_loopw [9] (fun i wr => ∃ k : Nat, k ≤ X.length ∧ i = .int .i64 k ∧ Hid (noneB X R[k3] k) ∧ Hid (Below W0.heap.size W0 wr)) (fun i _ => X.length - (intOf i).toNat)
          case atStart => exact ⟨0, Nat.zero_le _, rfl, hid (fun j _ hj => absurd hj (by omega)), HBr⟩
          case round =>
            obtain ⟨k4, hk4, rfl, HZ4, HBq⟩ := hrel
            clear r1 r2
            have r1 := cell_below HBq.out HZ1.out
            have r2 := cell_below HBq.out HZ2.out
            by_cases hlt4 : k4 < X.length
            · obtain ⟨b', o', rfl, hc'⟩ := HF.out.x.at (by omega)
              have hx := cell_below HBq.out HCC.out.1
              have hy := cell_below HBq.out HCC.out.2
              have hx' := cell_below HBq.out (hc' k4 hlt4).1
              have hy' := cell_below HBq.out (hc' k4 hlt4).2
              have hkI4 : (k4 : Int) < (X.length : Int) := by omega
              have HL4 := hid hlt4
              have HV1 := hid (fun hd => HN.out (someB_cl HL3.out hlt4 hd))
              have HV2 := hid (fun hd => noneB_next hlt4 HZ4.out hd)
              generalize X[k4] = y at *
              generalize R[k3] = x at *
              have heq := fun W => modEql x.1 x.2 y.1 y.2 W
              clear hc' hlt4
              by_cases hd : x.1 = y.1 ∧ x.2 = y.2
              · have HV := hid (HV1.out hd)
                rw [decide_eq_true hd] at heq
                clear hd
                go_wp2_with fail
                go_quiet (fail)
                have HBd := hid (below_drawn_of HBq.out nq)
                have s0 := cell_below HBd.out HY0.out
                have s1 := cell_below HBd.out HY1.out
                have sf := fun o => (HBd.out.frozen (p := ⟨w.heap.size + 1, o, none⟩) HYZ.out).trans (HYF.out o)
                generalize wr.drewN nq = wq at *
                go_wp2_with fail
                refine bodyPost_ret (v := .agg #[.int .i64 9, .int .i64 k3]) (by simp [results, Tryz.results10, go_sem, s0, s1]) rfl ⟨?_, ?_⟩
                · rw [HV.out]; rfl
                · exact put2_below (HB0.out.trans (HBd.out.mono HB0.out.size)) (by omega)
              · have HV := hid (HV2.out hd)
                rw [decide_eq_false hd] at heq
                clear hd
                go_wp2_with fail
                go_quiet (fail)
                go_wp2_with fail
                go_roundw
                case rel => exact ⟨k4 + 1, by have := HL4.out; omega, by go_num, HV, hid (below_drawn_of HBq.out _)⟩
                case measure => have := HL4.out; simp [intOf]; omega
            · have HV := hid (HY.out (noneB_cl HL3.out (fun j hj _ => HZ4.out j hj (by omega))))
              go_wp2_with fail
              go_roundw
              case rel => exact ⟨k3 + 1, by have := HL3.out; omega, by go_num, HV, HBq⟩
              case measure => have := HL3.out; simp [intOf]; omega
        · have HV := hid (HX3.out HXA.out (fun j hj => HZ3.out j (by omega)))
          go_wp2_with fail
          refine (fine_any _).mono ?_
          rintro e w3 ⟨rfl, hb⟩
          have HB3 := hid (HBr.out.trans (hb.mono HBr.out.size))
          clear hb
          have s0 := cell_below HB3.out HY0.out
          have s1 := cell_below HB3.out HY1.out
          have sf := fun o => (HB3.out.frozen (p := ⟨w.heap.size + 1, o, none⟩) HYZ.out).trans (HYF.out o)
          go_wp2_with fail
          refine bodyPost_ret (v := .agg #[.int .i64 0, .int .i64 (-1)]) (by simp [results, Tryz.results10, go_sem, s0, s1]) rfl ⟨?_, ?_⟩
          · rw [HV.out]; rfl
          · exact put2_below (HB0.out.trans (HB3.out.mono HB0.out.size)) (by omega)
theorem ffault_any (p : ByteArray) (R X : List Bm) (v u : Value) (w : World) (hp : p.size < 999999) (F : Fl w R X v u) :
    Calls Tryz.prog 10 #[.agg #[.string p, v, u]] w fun e w' => e = .returned (faultV (fileF p R X)) ∧ Below w.heap.size w w' := by
  by_cases h : pathErr p.data.toList = 0
  · by_cases h2 : 20 < R.length ∨ 20 < X.length
    · exact ff_full p R X v u w hp F h h2
    · cases h3 : fstE (reqE p R) R.length with
      | some i => exact ff_req p R X v u i w hp F h h2 h3
      | none => exact ff_rest p R X v u w hp F h h2 h3
  · exact ff_path p R X v u w hp F h
end Ve
end Go.Proofs.YtjhlkjgijbobcaaGreatDoor
