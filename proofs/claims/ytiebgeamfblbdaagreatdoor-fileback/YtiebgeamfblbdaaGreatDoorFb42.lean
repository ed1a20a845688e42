/-
  FileY FileZ
-/
import Derived.Test.YtiebgeamfblbdaaGreatDoorFb41
namespace Go.Proofs.YtiebgeamfblbdaaGreatDoor
open Go.RowKit
namespace Ve
structure Nx (wb W : World) (nx : Nat) (p : ByteArray) (R X : List Bm) (v u : Value) : Prop where
  bl : Below wb.heap.size wb W
  lo : wb.heap.size ≤ nx
  blk : W.heap[nx]? = some (.cells #[.string p, v, u] 24 (0, 0))
  ov : W.ownsRow wb.heap.size 26 2 v R.length (flatM R)
  ou : W.ownsRow wb.heap.size 26 2 u X.length (flatM X)
  ap : ∀ g, v.ownBlock = some g → u.ownBlock ≠ some g
theorem Nx.below {wb W W' : World} {nx : Nat} {p : ByteArray} {R X : List Bm} {v u : Value} (h : Nx wb W nx p R X v u) (hb : Below W.heap.size W W') : Nx wb W' nx p R X v u :=
  ⟨h.bl.trans (hb.mono h.bl.size), h.lo, by rw [hb.block _ (lt_of_blk h.blk)]; exact h.blk, owns_below h.ov hb, owns_below h.ou hb, h.ap⟩
theorem Nx.c0 {wb W : World} {nx : Nat} {p : ByteArray} {R X : List Bm} {v u : Value} (h : Nx wb W nx p R X v u) : W.cell? ⟨nx, 0, none⟩ = some (.string p) := by rw [Lib.cell_of_heap h.blk]; rfl
theorem Nx.c1 {wb W : World} {nx : Nat} {p : ByteArray} {R X : List Bm} {v u : Value} (h : Nx wb W nx p R X v u) : W.cell? ⟨nx, 1, none⟩ = some v := by rw [Lib.cell_of_heap h.blk]; rfl
theorem Nx.c2 {wb W : World} {nx : Nat} {p : ByteArray} {R X : List Bm} {v u : Value} (h : Nx wb W nx p R X v u) : W.cell? ⟨nx, 2, none⟩ = some u := by rw [Lib.cell_of_heap h.blk]; rfl
theorem Nx.fz {wb W : World} {nx : Nat} {p : ByteArray} {R X : List Bm} {v u : Value} (h : Nx wb W nx p R X v u) (o : Nat) : W.frozen? ⟨nx, o, none⟩ = false := Lib.frozen_of_heap h.blk o
theorem Nx.start {wb W : World} {p : ByteArray} {R X : List Bm} {v u : Value} (hb : Below wb.heap.size wb W) (hv : W.ownsRow wb.heap.size 26 2 v R.length (flatM R)) (hu : W.ownsRow wb.heap.size 26 2 u X.length (flatM X)) (ha : ∀ g, v.ownBlock = some g → u.ownBlock ≠ some g) :
    Nx wb (W.alloc (.cells #[.string p, v, u] 24)) W.heap.size p R X v u :=
  have h1 := (Below.refl W.heap.size W).alloc (Nat.le_refl _) (.cells #[.string p, v, u] 24)
  ⟨hb.trans (h1.mono hb.size), hb.size, heap_new W _, owns_below hv h1, owns_below hu h1, ha⟩
theorem Nx.blkI {wb W W6 : World} {nx : Nat} {p : ByteArray} {R X R' : List Bm} {v u v' : Value} (h : Nx wb W nx p R X v u) (hi : Insd wb.heap.size W W6 v v' R') : W6.heap[nx]? = some (.cells #[.string p, v, u] 24 (0, 0)) := by
  rw [hi.gr.block nx (lt_of_blk h.blk) (fun e => own_ne2 h.ov h.blk (by decide) e.symm)]; exact h.blk
theorem Nx.insd {wb W W6 : World} {nx : Nat} {p : ByteArray} {R X R' : List Bm} {v u v' : Value} (h : Nx wb W nx p R X v u) (hi : Insd wb.heap.size W W6 v v' R') : Nx wb (W6.setCell ⟨nx, 1, none⟩ v') nx p R' X v' u := by
  have hbk := h.blkI hi
  have hb6 : Below wb.heap.size wb W6 := h.bl.grown hi.gr h.bl.size (fun k hk => (h.ov.lt k hk).1)
  have hu6 := owns_far h.ou hi.gr (fun k hk e => h.ap k e hk)
  refine ⟨hb6.setCell (p := ⟨nx, 1, none⟩) h.lo _, h.lo, by rw [set_block hbk]; rfl, owns_set hi.own (own_ne2 hi.own hbk (by decide)), owns_set hu6 (own_ne2 hu6 hbk (by decide)), fun g hg hu => ?_⟩
  rcases hi.at_ with e | e
  · exact h.ap g (e ▸ hg) hu
  · have h1 := e g hg
    have h2 := (own_lt h.ou hu).1
    omega
theorem row_set {cur : List Value} {R : List Bm} {m : Bm} {i n : Nat} (hn : R.length = n) (hi : i < n) (hl : n * 2 ≤ cur.length) (ht : cur.take (n * 2) = flatM R) :
    (cur.take (i * 2) ++ [Value.string m.1, .string m.2] ++ cur.drop (i * 2 + 2)).length = cur.length ∧ (cur.take (i * 2) ++ [Value.string m.1, .string m.2] ++ cur.drop (i * 2 + 2)).take (n * 2) = flatM (R.take i ++ m :: R.drop (i + 1)) := by
  have h1 : cur.take (i * 2) = flatM (R.take i) := by
    rw [← flat_take R i (by omega), ← ht, List.take_take, show min (i * 2) (n * 2) = i * 2 by omega]
  have h2 : cur = flatM R ++ cur.drop (n * 2) := by rw [← ht, List.take_append_drop]
  have h3 : cur.drop (i * 2 + 2) = flatM (R.drop (i + 1)) ++ cur.drop (n * 2) := by
    have e1 : flatM R = flatM (R.take (i + 1)) ++ flatM (R.drop (i + 1)) := by rw [← flatM_app, List.take_append_drop]
    have e2 : (flatM (R.take (i + 1))).length = i * 2 + 2 := by rw [flatM_len]; simp; omega
    have e3 : cur.drop (i * 2 + 2) = (flatM R ++ cur.drop (n * 2)).drop (i * 2 + 2) := congrArg (List.drop (i * 2 + 2)) h2
    rw [e3, e1, List.append_assoc, ← e2, List.drop_left]
  refine ⟨by simp; omega, ?_⟩
  have e4 : (flatM (R.take i) ++ [Value.string m.1, .string m.2] ++ flatM (R.drop (i + 1))).length = n * 2 := by
    simp only [List.length_append, flatM_len, List.length_take, List.length_drop, List.length_cons, List.length_nil]
    omega
  rw [h1, h3, ← List.append_assoc, ← e4, List.take_left, flatM_app, flat_cons, List.append_assoc]
theorem Nx.set {wb W : World} {nx g n cap k : Nat} {p : ByteArray} {R X : List Bm} {u : Value} {m : Bm} (h : Nx wb W nx p R X (.slice (some ⟨g, 0, none⟩) n cap) u) (hn : R.length = n) (hk : k < n) :
    Nx wb ((W.setCell ⟨g, k * 2, none⟩ (.string m.1)).setCell ⟨g, k * 2 + 1, none⟩ (.string m.2)) nx p (R.take k ++ m :: R.drop (k + 1)) X (.slice (some ⟨g, 0, none⟩) n cap) u := by
  obtain ⟨_, ⟨h0, _⟩ | ⟨g', cap', cur, e1, hB, hg, hcap, hcm, hcs, hct⟩⟩ := h.ov
  · cases h0
  · injection e1 with e1 _ e3
    injection e1 with e1
    injection e1 with e1 _ _
    subst e1; subst e3
    subst hn
    have hrs := row_set (cur := cur.toList) (m := m) rfl hk (by simp; omega) hct
    have hrow := setCells_row [Value.string m.1, .string m.2] (k * 2) cur W hg (by simp; omega)
    have hl : (R.take k ++ m :: R.drop (k + 1)).length = R.length := by simp; omega
    have hng : nx ≠ g := fun e => own_ne2 h.ov h.blk (by decide) (by rw [e]; rfl)
    have hug : u.ownBlock ≠ some g := h.ap g rfl
    refine ⟨(h.bl.setCell (p := ⟨g, k * 2, none⟩) hB _).setCell (p := ⟨g, k * 2 + 1, none⟩) hB _, h.lo, ?_, ?_, owns_set (owns_set h.ou hug) hug, h.ap⟩
    · exact (keep_set (keep_set h.blk hng) hng)
    · rw [hl]
      exact own_of_row (W := W.setCells g (k * 2) [Value.string m.1, .string m.2]) hrow hB hl hcap hcm (by have := hrs.1; simp at this ⊢; omega) (by have := hrs.2; simpa using this)
theorem set_is {R : List Bm} {p : ByteArray} {k : Nat} {m : Bm} (hm : m.1 = p) (hr : rising R) (hk : k ≤ R.length) (h : bound R p k k) : (thereB R p k = true → k < R.length ∧ R.take k ++ m :: R.drop (k + 1) = setR R m) ∧ (thereB R p k = false → R.take k ++ m :: R.drop k = setR R m) := by
  have h1 := (bound_split hr hk h).1
  unfold setR
  rw [hm, ← h1]
  rcases there_split hr hk h with ⟨e1, e2, e3, _⟩ | ⟨e1, e2, _⟩
  · exact ⟨fun _ => ⟨e2, by rw [e3]⟩, fun e => by rw [e1] at e; cases e⟩
  · exact ⟨(fun e => by rw [e1] at e; cases e), fun _ => by rw [e2]⟩
theorem set_short {R : List Bm} {m : Bm} (h : shortL R) (hm : m.1.size < 999999 ∧ m.2.size < 999999) : shortL (setR R m) := by
  intro x hx
  unfold setR at hx
  rcases List.mem_append.1 hx with h1 | h1
  · exact h x (loR_mem.1 h1).1
  · rcases List.mem_cons.1 h1 with h1 | h1
    · rw [h1]; exact hm
    · exact h x (hiR_mem.1 h1).1
theorem set_len {R : List Bm} {m : Bm} (h : R.length ≤ 1000) : (setR R m).length ≤ 1000000 := by
  unfold setR
  have h1 : (loR R m.1).length ≤ R.length := List.length_filter_le _ _
  have h2 : (hiR R m.1).length ≤ R.length := List.length_filter_le _ _
  simp; omega
end Ve
end Go.Proofs.YtiebgeamfblbdaaGreatDoor
namespace Go.Proofs.YtiebgeamfblbdaaGreatDoor
open Go.RowKit
namespace Ve
theorem own_fz {W : World} {B n cap g : Nat} {e : TypeId} {xs : List Value} (h : W.ownsRow B e 2 (.slice (some ⟨g, 0, none⟩) n cap) n xs) : ∀ o, W.frozen? ⟨g, o, none⟩ = false := by
  obtain ⟨_, ⟨h0, _⟩ | ⟨g', cap', cur, e1, _, hg, _⟩⟩ := h
  · cases h0
  · injection e1 with e1 _ _
    injection e1 with e1
    injection e1 with e1 _ _
    subst e1
    exact fun o => Lib.frozen_of_heap hg o
theorem own_cells2 {W : World} {B cap g : Nat} {e : TypeId} {L : List Bm} (h : W.ownsRow B e 2 (.slice (some ⟨g, 0, none⟩) L.length cap) L.length (flatM L)) {j : Nat} (hj : j < L.length) : W.cell? ⟨g, j * 2, none⟩ = some (.string L[j].1) ∧ W.cell? ⟨g, j * 2 + 1, none⟩ = some (.string L[j].2) := by
  obtain ⟨a, c, e1, _, h2⟩ := own_ms h
  obtain ⟨b, o, e2, h3⟩ := h2 (fun e => by rw [e] at hj; simp at hj)
  injection e1 with e1 _ _
  rw [e2] at e1
  injection e1 with e1
  injection e1 with e3 e4 _
  subst e3; subst e4
  have := h3 j hj
  rw [Nat.zero_add] at this
  exact this
theorem rising_ok {p : ByteArray} {R X : List Bm} (h : (fileF p R X).1 = 0) : rising R ∧ R.length ≤ 20 ∧ X.length ≤ 20 := by
  by_cases h1 : pathErr p.data.toList = 0
  · by_cases h2 : 20 < R.length ∨ 20 < X.length
    · rw [fileF_full h1 h2] at h; cases h
    · cases h3 : fstE (reqE p R) R.length with
      | some i =>
        rw [fileF_req h1 h2 h3] at h
        exact absurd h (fstE_of_some h3).2.1
      | none => exact ⟨rising_of (fstE_of_none h3), by omega, by omega⟩
  · rw [fileF_path h1] at h; exact absurd h h1
set_option maxHeartbeats 4000000 in
set_option maxRecDepth 100000 in
theorem set_good (p : ByteArray) (R X : List Bm) (v u : Value) (m : Bm) (A : Nat → Addr) (k0 : Int) (w : World) (hp : p.size < 999999) (S : Te w A k0) (F : Fl w R X v u) (hz : R = [] → v = .slice none 0 0) (hx : X = [] → u = .slice none 0 0) (h : (fileF p R X).1 = 0) (hm : m.1.size < 999999 ∧ m.2.size < 999999) :
    Calls Tryz.prog 11 #[.agg #[.string p, v, u], .agg #[.string m.1, .string m.2]] w fun e w' => ∃ P a n c a' n' c' x v2 u2, e = .returned (.tuple #[.agg #[.string P, .slice a n c, .slice a' n' c'], x]) ∧ RightP p (setR R m) X v2 u2 A P (.slice a n c) (.slice a' n' c') x ∧ MsAt w' v2 (setR R m) ∧ MsAt w' u2 X ∧ (X = [] → u2 = .slice none 0 0) ∧ Below w.heap.size w w' := by
  obtain ⟨hr, hl, _⟩ := rising_ok h
  obtain ⟨⟨vp, vc, rfl⟩, up, uc, rfl⟩ := F.slices
  have HB1 := hid ((((Below.refl w.heap.size w).alloc (Nat.le_refl _) (.cells #[.string p, .slice vp R.length vc, .slice up X.length uc] 24)).alloc (by simp) (.cells #[.string m.1, .string m.2] 26)).alloc (by simp; omega) (.cells #[.string ⟨#[]⟩, .slice none 0 0, .slice none 0 0] 24))
  have HS := hid (S.below HB1.out)
  have HF := hid (F.below HB1.out)
  have HC := hid (copy_of p R X _ _ _ HF.out hz hx)
  have HN := hid h
  have HRI := hid hr
  have HMS := hid hm
  have HLN := hid hl
  clear S F hz hx h hr hm hl
  go_enter Tryz.func11, Tryz.ntmps11
  go_wp2_with fail
  refine HC.out.mono ?_
  rintro e w1 ⟨v1, u1, rfl, hcp⟩
  have HCP := hid hcp
  have HS1 := hid (HS.out.below hcp.bl)
  have HF1 := hid (show Fl w1 R X v1 u1 from ⟨own_ms hcp.ov, own_ms hcp.ou, HF.out.rs, HF.out.xs, HF.out.rn, HF.out.xn⟩)
  obtain ⟨⟨a1, c1, rfl⟩, a2, c2, rfl⟩ := HF1.out.slices
  have HRT := hid (right_ok p R X _ _ A k0 w1 hp HS1.out HF1.out HN.out)
  clear hcp
  go_wp2_with fail
  refine HRT.out.mono ?_
  rintro e w2 ⟨rfl, hb⟩
  have HNX := hid (Nx.start (p := p) (HCP.out.bl.trans (hb.mono HCP.out.bl.size)) (owns_below HCP.out.ov hb) (owns_below HCP.out.ou hb) HCP.out.ap)
  have HBa := hid (show Below (w.heap.size + 1 + 1 + 1) _ _ from HNX.out.bl.mono (by simp))
  obtain ⟨_, _, ⟨m0, m1⟩, _, _⟩ := three_a HBa.out
  have n1 := HNX.out.c1
  clear hb
  go_wp2_with fail
  refine (find_any R m.1 _ _ HRI.out (by have := HLN.out; omega) (own_ms HNX.out.ov)).mono ?_
  rintro e w4 ⟨k, hk, rfl, hbd, hb⟩
  have HSI := hid (set_is (m := m) rfl HRI.out hk hbd)
  have HN4 := hid (HNX.out.below hb)
  have HBb := hid (show Below (w.heap.size + 1 + 1 + 1) _ _ from HN4.out.bl.mono (by simp))
  obtain ⟨_, _, ⟨q0, q1⟩, _, _⟩ := three_a HBb.out
  have HSS := hid (HF.out.rs)
  clear hb m0 m1 n1 hbd
  have n1 := HN4.out.c1
  cases hth : thereB R m.1 k with
  | false =>
    have HSR := hid (HSI.out.2 hth)
    have HBn := hid ((Below.refl w4.heap.size w4).alloc (Nat.le_refl _) (.cells #[.string m.1, .string m.2] 26))
    have HN5 := hid (HN4.out.below HBn.out)
    clear hth
    go_wp2_with fail
    refine (ins_any R m _ _ w4.heap.size k _ HF1.out.rn HN5.out.bl.size HN5.out.ov (heap_new w4 _) (fun e => by have := (own_lt HN4.out.ov e).1; omega) hk).mono ?_
    rintro e w6 ⟨v', rfl, hi⟩
    rw [HSR.out] at hi
    obtain ⟨va, vn, vcc, rfl⟩ := own_sl hi.own
    have hbk := HN5.out.blkI hi
    have d0 : w6.cell? ⟨w2.heap.size, 0, none⟩ = some (.string p) := by rw [Lib.cell_of_heap hbk]; rfl
    have d1 : w6.cell? ⟨w2.heap.size, 1, none⟩ = some (.slice a1 R.length c1) := by rw [Lib.cell_of_heap hbk]; rfl
    have d2 : w6.cell? ⟨w2.heap.size, 2, none⟩ = some (.slice a2 X.length c2) := by rw [Lib.cell_of_heap hbk]; rfl
    have df := fun o => Lib.frozen_of_heap hbk o
    have HN7 := hid (HN5.out.insd hi)
    have e0 := HN7.out.c0
    have e1 := HN7.out.c1
    have e2 := HN7.out.c2
    clear hi hbk q0 q1 n1
    go_wp2_with fail
    have HS7 := hid (HS.out.below HN7.out.bl)
    have HF7 := hid (show Fl _ (setR R m) X _ _ from ⟨own_ms HN7.out.ov, own_ms HN7.out.ou, set_short HSS.out HMS.out, HF.out.xs, set_len (by have := HLN.out; omega), HF.out.xn⟩)
    refine (right_any p (setR R m) X _ _ A k0 _ hp HS7.out HF7.out).mono ?_
    rintro e w8 ⟨P, ra, rn, rc, ra', rn', rc', x, rfl, hrp, hb⟩
    have HRP := hid hrp
    have HN8 := hid (HN7.out.below hb)
    have HBc := hid (show Below (w.heap.size + 1 + 1 + 1) _ _ from HN8.out.bl.mono (by simp))
    obtain ⟨⟨r0, r1, r2⟩, rf, _, rz, rb⟩ := three_a HBc.out
    have HRB := hid rb
    clear hb hrp rb d0 d1 d2 e0 e1 e2
    go_wp2_with fail
    refine bodyPost_ret (v := .tuple #[.agg #[.string P, .slice ra rn rc, .slice ra' rn' rc'], x]) (by simp [results, Tryz.results11, go_sem, r0, r1, r2]) rfl ?_
    exact ⟨_, _, _, _, _, _, _, _, _, _, rfl, HRP.out, own_ms (put3_owns HN8.out.ov (own_ne2 HN8.out.ov HRB.out (by decide))), own_ms (put3_owns HN8.out.ou (own_ne2 HN8.out.ou HRB.out (by decide))), HCP.out.zu, put3_below (HB1.out.trans (HN8.out.bl.mono HB1.out.size)) (by omega)⟩
  | true =>
    obtain ⟨hkl, hsr⟩ := HSI.out.1 hth
    obtain ⟨g, cap, hv1⟩ : ∃ g cap, Value.slice a1 R.length c1 = .slice (some ⟨g, 0, none⟩) R.length cap := by
      obtain ⟨_, ⟨_, h0⟩ | ⟨g, cap, cur, e1, _⟩⟩ := HN4.out.ov
      · omega
      · exact ⟨g, cap, e1⟩
    injection hv1 with hv1 _ hv2
    subst hv1; subst hv2
    have d0 := (own_cells2 HN4.out.ov hkl).1
    have d1 := (own_cells2 HN4.out.ov hkl).2
    have df := own_fz HN4.out.ov
    have HN7 := hid (HN4.out.set (m := m) (k := k) rfl hkl)
    rw [hsr] at HN7
    have e0 := HN7.out.c0
    have e1 := HN7.out.c1
    have e2 := HN7.out.c2
    have hkI : (k : Int) < (R.length : Int) := by omega
    have hk0 : (0 : Int) ≤ (k : Int) := by omega
    clear hth hsr
    go_wp2_with fail
    have HS7 := hid (HS.out.below HN7.out.bl)
    have HF7 := hid (show Fl _ (setR R m) X _ _ from ⟨own_ms HN7.out.ov, own_ms HN7.out.ou, set_short HSS.out HMS.out, HF.out.xs, set_len (by have := HLN.out; omega), HF.out.xn⟩)
    refine (right_any p (setR R m) X _ _ A k0 _ hp HS7.out HF7.out).mono ?_
    rintro e w8 ⟨P, ra, rn, rc, ra', rn', rc', x, rfl, hrp, hb⟩
    have HRP := hid hrp
    have HN8 := hid (HN7.out.below hb)
    have HBc := hid (show Below (w.heap.size + 1 + 1 + 1) _ _ from HN8.out.bl.mono (by simp))
    obtain ⟨⟨r0, r1, r2⟩, rf, _, rz, rb⟩ := three_a HBc.out
    have HRB := hid rb
    clear hb hrp rb d0 d1 e0 e1 e2
    go_wp2_with fail
    refine bodyPost_ret (v := .tuple #[.agg #[.string P, .slice ra rn rc, .slice ra' rn' rc'], x]) (by simp [results, Tryz.results11, go_sem, r0, r1, r2]) rfl ?_
    exact ⟨_, _, _, _, _, _, _, _, _, _, rfl, HRP.out, own_ms (put3_owns HN8.out.ov (own_ne2 HN8.out.ov HRB.out (by decide))), own_ms (put3_owns HN8.out.ou (own_ne2 HN8.out.ou HRB.out (by decide))), HCP.out.zu, put3_below (HB1.out.trans (HN8.out.bl.mono HB1.out.size)) (by omega)⟩
end Ve
end Go.Proofs.YtiebgeamfblbdaaGreatDoor
