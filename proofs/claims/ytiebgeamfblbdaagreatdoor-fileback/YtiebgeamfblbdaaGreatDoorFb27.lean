/-
  FileE
-/
import Derived.Test.YtiebgeamfblbdaaGreatDoorFb26
namespace Go.Proofs.YtiebgeamfblbdaaGreatDoor
open Go.RowKit
namespace Ve
structure Fl (w : World) (R X : List Bm) (v u : Value) : Prop where
  r : MsAt w v R
  x : MsAt w u X
  rs : shortL R
  xs : shortL X
  rn : R.length ≤ 1000000
  xn : X.length ≤ 1000000
theorem Fl.below {w w' : World} {R X : List Bm} {v u : Value} (h : Fl w R X v u) (hb : Below w.heap.size w w') : Fl w' R X v u := ⟨h.r.below hb, h.x.below hb, h.rs, h.xs, h.rn, h.xn⟩
theorem Fl.slices {w : World} {R X : List Bm} {v u : Value} (h : Fl w R X v u) : (∃ a c, v = .slice a R.length c) ∧ ∃ a c, u = .slice a X.length c := by
  obtain ⟨a, c, e, _⟩ := h.r
  obtain ⟨a2, c2, e2, _⟩ := h.x
  exact ⟨⟨a, c, e⟩, a2, c2, e2⟩
theorem fileF_path {p : ByteArray} {R X : List Bm} (h : pathErr p.data.toList ≠ 0) : fileF p R X = (pathErr p.data.toList, none) := by unfold fileF; rw [if_neg h]
theorem fileF_full {p : ByteArray} {R X : List Bm} (h : pathErr p.data.toList = 0) (h2 : 20 < R.length ∨ 20 < X.length) : fileF p R X = (7, none) := by unfold fileF; rw [if_pos h, if_pos h2]
theorem fileF_req {p : ByteArray} {R X : List Bm} {i : Nat} (h : pathErr p.data.toList = 0) (h2 : ¬ (20 < R.length ∨ 20 < X.length)) (h3 : fstE (reqE p R) R.length = some i) : fileF p R X = (reqE p R i, some i) := by unfold fileF; rw [if_pos h, if_neg h2, h3]
theorem fileF_ex {p : ByteArray} {R X : List Bm} {i : Nat} (h : pathErr p.data.toList = 0) (h2 : ¬ (20 < R.length ∨ 20 < X.length)) (h3 : fstE (reqE p R) R.length = none) (h4 : fstE (exE X) X.length = some i) : fileF p R X = (exE X i, some i) := by unfold fileF; rw [if_pos h, if_neg h2, h3]; simp only; rw [h4]
theorem fileF_cl {p : ByteArray} {R X : List Bm} (h : pathErr p.data.toList = 0) (h2 : ¬ (20 < R.length ∨ 20 < X.length)) (h3 : fstE (reqE p R) R.length = none) (h4 : fstE (exE X) X.length = none) : fileF p R X = (codeE (clE X R) R.length, fstE (clE X R) R.length) := by
  unfold fileF; rw [if_pos h, if_neg h2, h3]; simp only; rw [h4]; simp only
  cases h5 : fstE (clE X R) R.length with
  | none => rw [codeE_none h5]
  | some i =>
    rw [codeE_some h5]
    obtain ⟨h6, h7, _⟩ := fstE_of_some h5
    rw [clE_at h6] at h7 ⊢
    simp only
    by_cases h8 : hasB X R[i] = true
    · rw [if_pos h8]
    · rw [if_neg h8] at h7; exact absurd rfl h7
set_option maxHeartbeats 1000000 in
theorem check_path (p : ByteArray) (R X : List Bm) (v u : Value) (A : Nat → Addr) (m : Int) (w : World) (hp : p.size < 999999) (S : Te w A m) (F : Fl w R X v u) (h : pathErr p.data.toList ≠ 0) :
    Calls Tryz.prog 7 #[.agg #[.string p, v, u]] w fun e w' => ∃ x, e = .returned x ∧ ErrAt w' A x (fileF p R X).1 (fileF p R X).2 ∧ Below w.heap.size w w' := by
  rw [fileF_path h]
  obtain ⟨⟨vp, vc, rfl⟩, up, uc, rfl⟩ := F.slices
  have HB0 := hid ((Below.refl w.heap.size w).alloc (Nat.le_refl _) (.cells #[.string p, .slice vp R.length vc, .slice up X.length uc] 24))
  have HP := hid (mpath_is p A m _ (by omega) (S.below HB0.out))
  have HE := hid (errA_if A h)
  rw [HE.out] at HP
  clear S F h
  go_enter Tryz.func7, Tryz.ntmps7
  go_wp2_with fail
  refine HP.out.mono ?_
  rintro e w1 ⟨rfl, hb⟩
  have HB := hid (HB0.out.trans (hb.mono HB0.out.size))
  clear hb
  go_wp2_with fail
  go_ret
  exact ⟨_, rfl, HE.out.symm, HB.out⟩
set_option maxHeartbeats 1000000 in
theorem check_full (p : ByteArray) (R X : List Bm) (v u : Value) (A : Nat → Addr) (m : Int) (w : World) (hp : p.size < 999999) (S : Te w A m) (F : Fl w R X v u) (h : pathErr p.data.toList = 0) (h2 : 20 < R.length ∨ 20 < X.length) :
    Calls Tryz.prog 7 #[.agg #[.string p, v, u]] w fun e w' => ∃ x, e = .returned x ∧ ErrAt w' A x (fileF p R X).1 (fileF p R X).2 ∧ Below w.heap.size w w' := by
  rw [fileF_full h h2]
  obtain ⟨⟨vp, vc, rfl⟩, up, uc, rfl⟩ := F.slices
  have HB0 := hid ((Below.refl w.heap.size w).alloc (Nat.le_refl _) (.cells #[.string p, .slice vp R.length vc, .slice up X.length uc] 24))
  have HS := hid (S.below HB0.out)
  have HP := hid (mpath_is p A m _ (by omega) HS.out)
  rw [h, errA0] at HP
  clear S F h
  by_cases h3 : 20 < R.length
  · have h4 : (20 : Int) < (R.length : Int) := by omega
    go_enter Tryz.func7, Tryz.ntmps7
    go_wp2_with fail
    refine HP.out.mono ?_
    rintro e w1 ⟨rfl, hb⟩
    obtain ⟨⟨r0, r1, r2⟩, rz⟩ := res3 (hb.mono (by simp))
    have HB := hid (HB0.out.trans (hb.mono HB0.out.size))
    have gg := (HS.out.below hb).sen.g6
    clear hb
    go_wp2_with fail
    go_ret
    exact ⟨_, rfl, rfl, HB.out⟩
  · have h3' : ¬ (20 : Int) < (R.length : Int) := by omega
    have h4 : (20 : Int) < (X.length : Int) := by omega
    clear h2 h3
    go_enter Tryz.func7, Tryz.ntmps7
    go_wp2_with fail
    refine HP.out.mono ?_
    rintro e w1 ⟨rfl, hb⟩
    obtain ⟨⟨r0, r1, r2⟩, rz⟩ := res3 (hb.mono (by simp))
    have HB := hid (HB0.out.trans (hb.mono HB0.out.size))
    have gg := (HS.out.below hb).sen.g6
    clear hb
    go_wp2_with fail
    go_ret
    exact ⟨_, rfl, rfl, HB.out⟩
set_option maxHeartbeats 1000000 in
theorem check_req (p : ByteArray) (R X : List Bm) (v u : Value) (i : Nat) (A : Nat → Addr) (m : Int) (w : World) (hp : p.size < 999999) (S : Te w A m) (F : Fl w R X v u) (h : pathErr p.data.toList = 0) (h2 : ¬ (20 < R.length ∨ 20 < X.length)) (h3 : fstE (reqE p R) R.length = some i) :
    Calls Tryz.prog 7 #[.agg #[.string p, v, u]] w fun e w' => ∃ x, e = .returned x ∧ ErrAt w' A x (fileF p R X).1 (fileF p R X).2 ∧ Below w.heap.size w w' := by
  rw [fileF_req h h2 h3]
  obtain ⟨⟨vp, vc, rfl⟩, up, uc, rfl⟩ := F.slices
  have HB0 := hid ((Below.refl w.heap.size w).alloc (Nat.le_refl _) (.cells #[.string p, .slice vp R.length vc, .slice up X.length uc] 24))
  have HS := hid (S.below HB0.out)
  have HP := hid (mpath_is p A m _ (by omega) HS.out)
  rw [h, errA0] at HP
  have HF := hid (F.below HB0.out)
  have H3 := hid h3
  have h4 : ¬ (20 : Int) < (R.length : Int) := by omega
  have h5 : ¬ (20 : Int) < (X.length : Int) := by omega
  clear S F h h2 h3
  go_enter Tryz.func7, Tryz.ntmps7
  go_wp2_with fail
  refine HP.out.mono ?_
  rintro e w1 ⟨rfl, hb⟩
  obtain ⟨⟨r0, r1, r2⟩, rz⟩ := res3 (hb.mono (by simp))
  have HB := hid (HB0.out.trans (hb.mono HB0.out.size))
  have HS1 := hid (HS.out.below hb)
  have HF1 := hid (HF.out.below hb)
  clear hb
  go_wp2_with fail
  refine (reqs_any p R _ A m _ HF1.out.rn HF1.out.rs HS1.out HF1.out.r).mono ?_
  rintro e w2 ⟨x, rfl, he, hb⟩
  rw [codeE_some H3.out, H3.out] at he
  obtain ⟨h0, b, rfl, hx, hy⟩ := he
  have HX := hid (show ErrAt w2 A (.iface 81 (.pointer (some ⟨b, 0, none⟩))) (reqE p R i) (some i) from ⟨h0, b, rfl, hx, hy⟩)
  have HB2 := hid (HB.out.trans (hb.mono HB.out.size))
  clear hb hx hy h0
  go_wp2_with fail
  go_ret
  exact ⟨_, rfl, HX.out, HB2.out⟩
set_option maxHeartbeats 1000000 in
theorem check_ex (p : ByteArray) (R X : List Bm) (v u : Value) (i : Nat) (A : Nat → Addr) (m : Int) (w : World) (hp : p.size < 999999) (S : Te w A m) (F : Fl w R X v u) (h : pathErr p.data.toList = 0) (h2 : ¬ (20 < R.length ∨ 20 < X.length)) (h3 : fstE (reqE p R) R.length = none) (h4 : fstE (exE X) X.length = some i) :
    Calls Tryz.prog 7 #[.agg #[.string p, v, u]] w fun e w' => ∃ x, e = .returned x ∧ ErrAt w' A x (fileF p R X).1 (fileF p R X).2 ∧ Below w.heap.size w w' := by
  rw [fileF_ex h h2 h3 h4]
  obtain ⟨⟨vp, vc, rfl⟩, up, uc, rfl⟩ := F.slices
  have HB0 := hid ((Below.refl w.heap.size w).alloc (Nat.le_refl _) (.cells #[.string p, .slice vp R.length vc, .slice up X.length uc] 24))
  have HS := hid (S.below HB0.out)
  have HP := hid (mpath_is p A m _ (by omega) HS.out)
  rw [h, errA0] at HP
  have HF := hid (F.below HB0.out)
  have H3 := hid h3
  have H4 := hid h4
  have h5 : ¬ (20 : Int) < (R.length : Int) := by omega
  have h6 : ¬ (20 : Int) < (X.length : Int) := by omega
  clear S F h h2 h3 h4
  go_enter Tryz.func7, Tryz.ntmps7
  go_wp2_with fail
  refine HP.out.mono ?_
  rintro e w1 ⟨rfl, hb⟩
  have HBa := hid (hb.mono (show w.heap.size + 1 ≤ _ by simp))
  obtain ⟨⟨r0, r1, r2⟩, rz⟩ := res3 HBa.out
  have HB := hid (HB0.out.trans (hb.mono HB0.out.size))
  have HS1 := hid (HS.out.below hb)
  have HF1 := hid (HF.out.below hb)
  clear hb
  go_wp2_with fail
  refine (reqs_any p R _ A m _ HF1.out.rn HF1.out.rs HS1.out HF1.out.r).mono ?_
  rintro e w2 ⟨x, rfl, he, hb⟩
  rw [codeE_none H3.out, H3.out] at he
  have he : x = .nilIface := he
  subst he
  have HBb := hid (HBa.out.trans (hb.mono (by omega)))
  obtain ⟨⟨s0, s1, s2⟩, sz⟩ := res3 HBb.out
  have HB2 := hid (HB.out.trans (hb.mono HB.out.size))
  have HS2 := hid (HS1.out.below hb)
  have HF2 := hid (HF1.out.below hb)
  clear hb r0 r1 r2
  go_wp2_with fail
  refine (ex_any X _ A m _ HF2.out.xn HF2.out.xs HS2.out HF2.out.x).mono ?_
  rintro e w3 ⟨x, rfl, he, hb⟩
  rw [codeE_some H4.out, H4.out] at he
  obtain ⟨h0, b, rfl, hx, hy⟩ := he
  have HX := hid (show ErrAt w3 A (.iface 81 (.pointer (some ⟨b, 0, none⟩))) (exE X i) (some i) from ⟨h0, b, rfl, hx, hy⟩)
  have HB3 := hid (HB2.out.trans (hb.mono HB2.out.size))
  clear hb hx hy h0
  go_wp2_with fail
  go_ret
  exact ⟨_, rfl, HX.out, HB3.out⟩
set_option maxHeartbeats 1000000 in
theorem check_cl (p : ByteArray) (R X : List Bm) (v u : Value) (A : Nat → Addr) (m : Int) (w : World) (hp : p.size < 999999) (S : Te w A m) (F : Fl w R X v u) (h : pathErr p.data.toList = 0) (h2 : ¬ (20 < R.length ∨ 20 < X.length)) (h3 : fstE (reqE p R) R.length = none) (h4 : fstE (exE X) X.length = none) :
    Calls Tryz.prog 7 #[.agg #[.string p, v, u]] w fun e w' => ∃ x, e = .returned x ∧ ErrAt w' A x (fileF p R X).1 (fileF p R X).2 ∧ Below w.heap.size w w' := by
  rw [fileF_cl h h2 h3 h4]
  obtain ⟨⟨vp, vc, rfl⟩, up, uc, rfl⟩ := F.slices
  have HB0 := hid ((Below.refl w.heap.size w).alloc (Nat.le_refl _) (.cells #[.string p, .slice vp R.length vc, .slice up X.length uc] 24))
  have HS := hid (S.below HB0.out)
  have HP := hid (mpath_is p A m _ (by omega) HS.out)
  rw [h, errA0] at HP
  have HF := hid (F.below HB0.out)
  have H3 := hid h3
  have H4 := hid h4
  have h5 : ¬ (20 : Int) < (R.length : Int) := by omega
  have h6 : ¬ (20 : Int) < (X.length : Int) := by omega
  clear S F h h2 h3 h4
  go_enter Tryz.func7, Tryz.ntmps7
  go_wp2_with fail
  refine HP.out.mono ?_
  rintro e w1 ⟨rfl, hb⟩
  have HBa := hid (hb.mono (show w.heap.size + 1 ≤ _ by simp))
  obtain ⟨⟨r0, r1, r2⟩, rz⟩ := res3 HBa.out
  have HB := hid (HB0.out.trans (hb.mono HB0.out.size))
  have HS1 := hid (HS.out.below hb)
  have HF1 := hid (HF.out.below hb)
  clear hb
  go_wp2_with fail
  refine (reqs_any p R _ A m _ HF1.out.rn HF1.out.rs HS1.out HF1.out.r).mono ?_
  rintro e w2 ⟨x, rfl, he, hb⟩
  rw [codeE_none H3.out, H3.out] at he
  have he : x = .nilIface := he
  subst he
  have HBb := hid (HBa.out.trans (hb.mono (by omega)))
  obtain ⟨⟨s0, s1, s2⟩, sz⟩ := res3 HBb.out
  have HB2 := hid (HB.out.trans (hb.mono HB.out.size))
  have HS2 := hid (HS1.out.below hb)
  have HF2 := hid (HF1.out.below hb)
  clear hb r0 r1 r2
  go_wp2_with fail
  refine (ex_any X _ A m _ HF2.out.xn HF2.out.xs HS2.out HF2.out.x).mono ?_
  rintro e w3 ⟨x, rfl, he, hb⟩
  rw [codeE_none H4.out, H4.out] at he
  have he : x = .nilIface := he
  subst he
  have HBc := hid (HBb.out.trans (hb.mono (by omega)))
  obtain ⟨⟨q0, q1, q2⟩, qz⟩ := res3 HBc.out
  have HB3 := hid (HB2.out.trans (hb.mono HB2.out.size))
  have HS3 := hid (HS2.out.below hb)
  have HF3 := hid (HF2.out.below hb)
  clear hb s0 s1 s2
  go_wp2_with fail
  refine (clash_any p R X _ _ A m _ HF3.out.rn HF3.out.xn HS3.out HF3.out.r HF3.out.x).mono ?_
  rintro e w4 ⟨x, rfl, he, hb⟩
  have HX := hid he
  have HB4 := hid (HB3.out.trans (hb.mono HB3.out.size))
  clear hb he
  go_wp2_with fail
  go_ret
  exact ⟨_, rfl, HX.out, HB4.out⟩
theorem fcheck_any (p : ByteArray) (R X : List Bm) (v u : Value) (A : Nat → Addr) (m : Int) (w : World) (hp : p.size < 999999) (S : Te w A m) (F : Fl w R X v u) :
    Calls Tryz.prog 7 #[.agg #[.string p, v, u]] w fun e w' => ∃ x, e = .returned x ∧ ErrAt w' A x (fileF p R X).1 (fileF p R X).2 ∧ Below w.heap.size w w' := by
  by_cases h : pathErr p.data.toList = 0
  · by_cases h2 : 20 < R.length ∨ 20 < X.length
    · exact check_full p R X v u A m w hp S F h h2
    · cases h3 : fstE (reqE p R) R.length with
      | some i => exact check_req p R X v u i A m w hp S F h h2 h3
      | none =>
        cases h4 : fstE (exE X) X.length with
        | some i => exact check_ex p R X v u i A m w hp S F h h2 h3 h4
        | none => exact check_cl p R X v u A m w hp S F h h2 h3 h4
  · exact check_path p R X v u A m w hp S F h
end Ve
end Go.Proofs.YtiebgeamfblbdaaGreatDoor
