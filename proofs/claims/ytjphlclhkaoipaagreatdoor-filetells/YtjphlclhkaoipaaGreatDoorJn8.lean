/-
  What Set of package file answers of a file that is right; nothing old in memory turns.
-/
import Derived.Test.YtjphlclhkaoipaaGreatDoorJn7
import Derived.Laws.AppendOwnNone
import Derived.Test.YtjphlclhkaoipaaGreatDoorJn6
namespace Go.Proofs.YtjphlclhkaoipaaGreatDoor
open Go.RowKit
namespace Ve

/-- A file of the call's own, in block nx. -/
structure Nx (wb W : World) (nx : Nat) (p : ByteArray) (R X : List Bm) (v u : Value) : Prop where
  bl : Below wb.heap.size wb W
  lo : wb.heap.size ≤ nx
  blk : W.heap[nx]? = some (.cells #[.string p, v, u] 24 (0, 0))
  ov : W.ownsRow wb.heap.size 26 2 v R.length (flatM R)
  ou : W.ownsRow wb.heap.size 26 2 u X.length (flatM X)
  ap : ∀ g, v.ownBlock = some g → u.ownBlock ≠ some g
theorem Nx.below {wb W W' : World} {nx : Nat} {p : ByteArray} {R X : List Bm} {v u : Value} (h : Nx wb W nx p R X v u) (hb : Below W.heap.size W W') : Nx wb W' nx p R X v u :=
  ⟨h.bl.trans (hb.mono h.bl.size), h.lo, by rw [hb.block _ (lt_of_blk h.blk)]; exact h.blk, owns_below h.ov hb, owns_below h.ou hb, h.ap⟩
theorem Nx.c0 {wb W : World} {nx : Nat} {p : ByteArray} {R X : List Bm} {v u : Value} (h : Nx wb W nx p R X v u) : W.cell? ⟨nx, 0, none⟩ = some (.string p) := by rw [Lib.cell_of_heap h.blk]; rfl
theorem Nx.c1 {wb W : World} {nx : Nat} {p : ByteArray} {R X : List Bm} {v u : Value} (h : Nx wb W nx p R X v u) : W.cell? ⟨nx, 1, none⟩ = some v := by rw [Lib.cell_of_heap h.blk]; rfl
theorem Nx.c2 {wb W : World} {nx : Nat} {p : ByteArray} {R X : List Bm} {v u : Value} (h : Nx wb W nx p R X v u) : W.cell? ⟨nx, 2, none⟩ = some u := by rw [Lib.cell_of_heap h.blk]; rfl
theorem Nx.fz {wb W : World} {nx : Nat} {p : ByteArray} {R X : List Bm} {v u : Value} (h : Nx wb W nx p R X v u) (o : Nat) : W.frozen? ⟨nx, o, none⟩ = false := Lib.frozen_of_heap h.blk o
theorem Nx.start {wb W : World} {p : ByteArray} {R X : List Bm} {v u : Value} (hb : Below wb.heap.size wb W) (hv : W.ownsRow wb.heap.size 26 2 v R.length (flatM R)) (hu : W.ownsRow wb.heap.size 26 2 u X.length (flatM X)) (ha : ∀ g, v.ownBlock = some g → u.ownBlock ≠ some g) :
    Nx wb (W.alloc (.cells #[.string p, v, u] 24)) W.heap.size p R X v u :=
  have h1 := (Below.refl W.heap.size W).alloc (Nat.le_refl _) (.cells #[.string p, v, u] 24)
  ⟨hb.trans (h1.mono hb.size), hb.size, heap_new W _, owns_below hv h1, owns_below hu h1, ha⟩
theorem Nx.blkI {wb W W6 : World} {nx : Nat} {p : ByteArray} {R X R' : List Bm} {v u v' : Value} (h : Nx wb W nx p R X v u) (hi : Insd wb.heap.size W W6 v v' R') : W6.heap[nx]? = some (.cells #[.string p, v, u] 24 (0, 0)) := by
  rw [hi.gr.block nx (lt_of_blk h.blk) (fun e => own_ne2 h.ov h.blk (by decide) e.symm)]; exact h.blk
theorem Nx.insd {wb W W6 : World} {nx : Nat} {p : ByteArray} {R X R' : List Bm} {v u v' : Value} (h : Nx wb W nx p R X v u) (hi : Insd wb.heap.size W W6 v v' R') : Nx wb (W6.setCell ⟨nx, 1, none⟩ v') nx p R' X v' u := by
  have hbk := h.blkI hi
  have hb6 : Below wb.heap.size wb W6 := h.bl.grown hi.gr h.bl.size (fun k hk => (h.ov.lt k hk).1)
  have hu6 := owns_far h.ou hi.gr (fun k hk e => h.ap k e hk)
  refine ⟨hb6.setCell (p := ⟨nx, 1, none⟩) h.lo _, h.lo, by rw [set_block hbk]; rfl, owns_set hi.own (own_ne2 hi.own hbk (by decide)), owns_set hu6 (own_ne2 hu6 hbk (by decide)), fun g hg hu => ?_⟩
  rcases hi.at_ with e | e
  · exact h.ap g (e ▸ hg) hu
  · have h1 := e g hg
    have h2 := (own_lt h.ou hu).1
    omega
theorem row_set {cur : List Value} {R : List Bm} {m : Bm} {i n : Nat} (hn : R.length = n) (hi : i < n) (hl : n * 2 ≤ cur.length) (ht : cur.take (n * 2) = flatM R) :
    (cur.take (i * 2) ++ [Value.string m.1, .string m.2] ++ cur.drop (i * 2 + 2)).length = cur.length ∧ (cur.take (i * 2) ++ [Value.string m.1, .string m.2] ++ cur.drop (i * 2 + 2)).take (n * 2) = flatM (R.take i ++ m :: R.drop (i + 1)) := by
  have h1 : cur.take (i * 2) = flatM (R.take i) := by
    rw [← flat_take R i (by omega), ← ht, List.take_take, show min (i * 2) (n * 2) = i * 2 by omega]
  have h2 : cur = flatM R ++ cur.drop (n * 2) := by rw [← ht, List.take_append_drop]
  have h3 : cur.drop (i * 2 + 2) = flatM (R.drop (i + 1)) ++ cur.drop (n * 2) := by
    have e1 : flatM R = flatM (R.take (i + 1)) ++ flatM (R.drop (i + 1)) := by rw [← flatM_app, List.take_append_drop]
    have e2 : (flatM (R.take (i + 1))).length = i * 2 + 2 := by rw [flatM_len]; simp; omega
    have e3 : cur.drop (i * 2 + 2) = (flatM R ++ cur.drop (n * 2)).drop (i * 2 + 2) := congrArg (List.drop (i * 2 + 2)) h2
    rw [e3, e1, List.append_assoc, ← e2, List.drop_left]
  refine ⟨by simp; omega, ?_⟩
  have e4 : (flatM (R.take i) ++ [Value.string m.1, .string m.2] ++ flatM (R.drop (i + 1))).length = n * 2 := by
    simp only [List.length_append, flatM_len, List.length_take, List.length_drop, List.length_cons, List.length_nil]
    omega
  rw [h1, h3, ← List.append_assoc, ← e4, List.take_left, flatM_app, flat_cons, List.append_assoc]
theorem Nx.set {wb W : World} {nx g n cap k : Nat} {p : ByteArray} {R X : List Bm} {u : Value} {m : Bm} (h : Nx wb W nx p R X (.slice (some ⟨g, 0, none⟩) n cap) u) (hn : R.length = n) (hk : k < n) :
    Nx wb ((W.setCell ⟨g, k * 2, none⟩ (.string m.1)).setCell ⟨g, k * 2 + 1, none⟩ (.string m.2)) nx p (R.take k ++ m :: R.drop (k + 1)) X (.slice (some ⟨g, 0, none⟩) n cap) u := by
  obtain ⟨_, ⟨h0, _⟩ | ⟨g', cap', cur, e1, hB, hg, hcap, hcm, hcs, hct⟩⟩ := h.ov
  · cases h0
  · injection e1 with e1 _ e3
    injection e1 with e1
    injection e1 with e1 _ _
    subst e1; subst e3
    subst hn
    have hrs := row_set (cur := cur.toList) (m := m) rfl hk (by simp; omega) hct
    have hrow := setCells_row [Value.string m.1, .string m.2] (k * 2) cur W hg (by simp; omega)
    have hl : (R.take k ++ m :: R.drop (k + 1)).length = R.length := by simp; omega
    have hng : nx ≠ g := fun e => own_ne2 h.ov h.blk (by decide) (by rw [e]; rfl)
    have hug : u.ownBlock ≠ some g := h.ap g rfl
    refine ⟨(h.bl.setCell (p := ⟨g, k * 2, none⟩) hB _).setCell (p := ⟨g, k * 2 + 1, none⟩) hB _, h.lo, ?_, ?_, owns_set (owns_set h.ou hug) hug, h.ap⟩
    · exact (keep_set (keep_set h.blk hng) hng)
    · rw [hl]
      exact own_of_row (W := W.setCells g (k * 2) [Value.string m.1, .string m.2]) hrow hB hl hcap hcm (by have := hrs.1; simp at this ⊢; omega) (by have := hrs.2; simpa using this)
theorem set_is {R : List Bm} {p : ByteArray} {k : Nat} {m : Bm} (hm : m.1 = p) (hr : rising R) (hk : k ≤ R.length) (h : bound R p k k) : (thereB R p k = true → k < R.length ∧ R.take k ++ m :: R.drop (k + 1) = setR R m) ∧ (thereB R p k = false → R.take k ++ m :: R.drop k = setR R m) := by
  have h1 := (bound_split hr hk h).1
  unfold setR
  rw [hm, ← h1]
  rcases there_split hr hk h with ⟨e1, e2, e3, _⟩ | ⟨e1, e2, _⟩
  · exact ⟨fun _ => ⟨e2, by rw [e3]⟩, fun e => by rw [e1] at e; cases e⟩
  · exact ⟨(fun e => by rw [e1] at e; cases e), fun _ => by rw [e2]⟩
theorem set_short {R : List Bm} {m : Bm} (h : shortL R) (hm : m.1.size < 999999 ∧ m.2.size < 999999) : shortL (setR R m) := by
  intro x hx
  unfold setR at hx
  rcases List.mem_append.1 hx with h1 | h1
  · exact h x (loR_mem.1 h1).1
  · rcases List.mem_cons.1 h1 with h1 | h1
    · rw [h1]; exact hm
    · exact h x (hiR_mem.1 h1).1
theorem set_len {R : List Bm} {m : Bm} (h : R.length ≤ 1000) : (setR R m).length ≤ 1000000 := by
  unfold setR
  have h1 : (loR R m.1).length ≤ R.length := List.length_filter_le _ _
  have h2 : (hiR R m.1).length ≤ R.length := List.length_filter_le _ _
  simp; omega
end Ve
end Go.Proofs.YtjphlclhkaoipaaGreatDoor

/-
  What Set of package file answers of a file that is right; nothing old in memory turns.
-/
namespace Go.Proofs.YtjphlclhkaoipaaGreatDoor
open Go.RowKit
namespace Ve

theorem own_fz {W : World} {B n cap g : Nat} {e : TypeId} {xs : List Value} (h : W.ownsRow B e 2 (.slice (some ⟨g, 0, none⟩) n cap) n xs) : ∀ o, W.frozen? ⟨g, o, none⟩ = false := by
  obtain ⟨_, ⟨h0, _⟩ | ⟨g', cap', cur, e1, _, hg, _⟩⟩ := h
  · cases h0
  · injection e1 with e1 _ _
    injection e1 with e1
    injection e1 with e1 _ _
    subst e1
    exact fun o => Lib.frozen_of_heap hg o
theorem own_cells2 {W : World} {B cap g : Nat} {e : TypeId} {L : List Bm} (h : W.ownsRow B e 2 (.slice (some ⟨g, 0, none⟩) L.length cap) L.length (flatM L)) {j : Nat} (hj : j < L.length) : W.cell? ⟨g, j * 2, none⟩ = some (.string L[j].1) ∧ W.cell? ⟨g, j * 2 + 1, none⟩ = some (.string L[j].2) := by
  obtain ⟨a, c, e1, _, h2⟩ := own_ms h
  obtain ⟨b, o, e2, h3⟩ := h2 (fun e => by rw [e] at hj; simp at hj)
  injection e1 with e1 _ _
  rw [e2] at e1
  injection e1 with e1
  injection e1 with e3 e4 _
  subst e3; subst e4
  have := h3 j hj
  rw [Nat.zero_add] at this
  exact this
theorem rising_ok {p : ByteArray} {R X : List Bm} (h : (fileF p R X).1 = 0) : rising R ∧ R.length ≤ 20 ∧ X.length ≤ 20 := by
  by_cases h1 : pathErr p.data.toList = 0
  · by_cases h2 : 20 < R.length ∨ 20 < X.length
    · rw [fileF_full h1 h2] at h; cases h
    · cases h3 : fstE (reqE p R) R.length with
      | some i =>
        rw [fileF_req h1 h2 h3] at h
        exact absurd h (fstE_of_some h3).2.1
      | none => exact ⟨rising_of (fstE_of_none h3), by omega, by omega⟩
  · rw [fileF_path h1] at h; exact absurd h h1
set_option maxHeartbeats 4000000 in
set_option maxRecDepth 100000 in
/-- Set of a module, of a file that is right. -/
theorem set_good (p : ByteArray) (R X : List Bm) (v u : Value) (m : Bm) (A : Nat → Addr) (k0 : Int) (w : World) (hp : p.size < 999999) (S : Te w A k0) (F : Fl w R X v u) (hz : R = [] → v = .slice none 0 0) (hx : X = [] → u = .slice none 0 0) (h : (fileF p R X).1 = 0) (hm : m.1.size < 999999 ∧ m.2.size < 999999) :
    Calls Tryz.prog 15 #[.agg #[.string p, v, u], .agg #[.string m.1, .string m.2]] w fun e w' => ∃ P a n c a' n' c' x v2 u2, e = .returned (.tuple #[.agg #[.string P, .slice a n c, .slice a' n' c'], x]) ∧ RightP p (setR R m) X v2 u2 A P (.slice a n c) (.slice a' n' c') x ∧ MsAt w' v2 (setR R m) ∧ MsAt w' u2 X ∧ (X = [] → u2 = .slice none 0 0) ∧ Below w.heap.size w w' := by
  obtain ⟨hr, hl, _⟩ := rising_ok h
  obtain ⟨⟨vp, vc, rfl⟩, up, uc, rfl⟩ := F.slices
  have HB1 := hid ((((Below.refl w.heap.size w).alloc (Nat.le_refl _) (.cells #[.string p, .slice vp R.length vc, .slice up X.length uc] 24)).alloc (by simp) (.cells #[.string m.1, .string m.2] 26)).alloc (by simp; omega) (.cells #[.string ⟨#[]⟩, .slice none 0 0, .slice none 0 0] 24))
  have HS := hid (S.below HB1.out)
  have HF := hid (F.below HB1.out)
  have HC := hid (copy_of p R X _ _ _ HF.out hz hx)
  have HN := hid h
  have HRI := hid hr
  have HMS := hid hm
  have HLN := hid hl
  clear S F hz hx h hr hm hl
  go_enter Tryz.func15, Tryz.ntmps15
  go_wp2_with fail
  refine HC.out.mono ?_
  rintro e w1 ⟨v1, u1, rfl, hcp⟩
  have HCP := hid hcp
  have HS1 := hid (HS.out.below hcp.bl)
  have HF1 := hid (show Fl w1 R X v1 u1 from ⟨own_ms hcp.ov, own_ms hcp.ou, HF.out.rs, HF.out.xs, HF.out.rn, HF.out.xn⟩)
  obtain ⟨⟨a1, c1, rfl⟩, a2, c2, rfl⟩ := HF1.out.slices
  have HRT := hid (right_ok p R X _ _ A k0 w1 hp HS1.out HF1.out HN.out)
  clear hcp
  go_wp2_with fail
  refine HRT.out.mono ?_
  rintro e w2 ⟨rfl, hb⟩
  have HNX := hid (Nx.start (p := p) (HCP.out.bl.trans (hb.mono HCP.out.bl.size)) (owns_below HCP.out.ov hb) (owns_below HCP.out.ou hb) HCP.out.ap)
  have HBa := hid (show Below (w.heap.size + 1 + 1 + 1) _ _ from HNX.out.bl.mono (by simp))
  obtain ⟨_, _, ⟨m0, m1⟩, _, _⟩ := three_a HBa.out
  have n1 := HNX.out.c1
  clear hb
  go_wp2_with fail
  refine (find_any R m.1 _ _ HRI.out (by have := HLN.out; omega) (own_ms HNX.out.ov)).mono ?_
  rintro e w4 ⟨k, hk, rfl, hbd, hb⟩
  have HSI := hid (set_is (m := m) rfl HRI.out hk hbd)
  have HN4 := hid (HNX.out.below hb)
  have HBb := hid (show Below (w.heap.size + 1 + 1 + 1) _ _ from HN4.out.bl.mono (by simp))
  obtain ⟨_, _, ⟨q0, q1⟩, _, _⟩ := three_a HBb.out
  have HSS := hid (HF.out.rs)
  clear hb m0 m1 n1 hbd
  have n1 := HN4.out.c1
  cases hth : thereB R m.1 k with
  | false =>
    have HSR := hid (HSI.out.2 hth)
    have HBn := hid ((Below.refl w4.heap.size w4).alloc (Nat.le_refl _) (.cells #[.string m.1, .string m.2] 26))
    have HN5 := hid (HN4.out.below HBn.out)
    clear hth
    go_wp2_with fail
    refine (ins_any R m _ _ w4.heap.size k _ HF1.out.rn HN5.out.bl.size HN5.out.ov (heap_new w4 _) (fun e => by have := (own_lt HN4.out.ov e).1; omega) hk).mono ?_
    rintro e w6 ⟨v', rfl, hi⟩
    rw [HSR.out] at hi
    obtain ⟨va, vn, vcc, rfl⟩ := own_sl hi.own
    have hbk := HN5.out.blkI hi
    have d0 : w6.cell? ⟨w2.heap.size, 0, none⟩ = some (.string p) := by rw [Lib.cell_of_heap hbk]; rfl
    have d1 : w6.cell? ⟨w2.heap.size, 1, none⟩ = some (.slice a1 R.length c1) := by rw [Lib.cell_of_heap hbk]; rfl
    have d2 : w6.cell? ⟨w2.heap.size, 2, none⟩ = some (.slice a2 X.length c2) := by rw [Lib.cell_of_heap hbk]; rfl
    have df := fun o => Lib.frozen_of_heap hbk o
    have HN7 := hid (HN5.out.insd hi)
    have e0 := HN7.out.c0
    have e1 := HN7.out.c1
    have e2 := HN7.out.c2
    clear hi hbk q0 q1 n1
    go_wp2_with fail
    have HS7 := hid (HS.out.below HN7.out.bl)
    have HF7 := hid (show Fl _ (setR R m) X _ _ from ⟨own_ms HN7.out.ov, own_ms HN7.out.ou, set_short HSS.out HMS.out, HF.out.xs, set_len (by have := HLN.out; omega), HF.out.xn⟩)
    refine (right_any p (setR R m) X _ _ A k0 _ hp HS7.out HF7.out).mono ?_
    rintro e w8 ⟨P, ra, rn, rc, ra', rn', rc', x, rfl, hrp, hb⟩
    have HRP := hid hrp
    have HN8 := hid (HN7.out.below hb)
    have HBc := hid (show Below (w.heap.size + 1 + 1 + 1) _ _ from HN8.out.bl.mono (by simp))
    obtain ⟨⟨r0, r1, r2⟩, rf, _, rz, rb⟩ := three_a HBc.out
    have HRB := hid rb
    clear hb hrp rb d0 d1 d2 e0 e1 e2
    go_wp2_with fail
    refine bodyPost_ret (v := .tuple #[.agg #[.string P, .slice ra rn rc, .slice ra' rn' rc'], x]) (by simp [results, Tryz.results15, go_sem, r0, r1, r2]) rfl ?_
    exact ⟨_, _, _, _, _, _, _, _, _, _, rfl, HRP.out, own_ms (put3_owns HN8.out.ov (own_ne2 HN8.out.ov HRB.out (by decide))), own_ms (put3_owns HN8.out.ou (own_ne2 HN8.out.ou HRB.out (by decide))), HCP.out.zu, put3_below (HB1.out.trans (HN8.out.bl.mono HB1.out.size)) (by omega)⟩
  | true =>
    obtain ⟨hkl, hsr⟩ := HSI.out.1 hth
    obtain ⟨g, cap, hv1⟩ : ∃ g cap, Value.slice a1 R.length c1 = .slice (some ⟨g, 0, none⟩) R.length cap := by
      obtain ⟨_, ⟨_, h0⟩ | ⟨g, cap, cur, e1, _⟩⟩ := HN4.out.ov
      · omega
      · exact ⟨g, cap, e1⟩
    injection hv1 with hv1 _ hv2
    subst hv1; subst hv2
    have d0 := (own_cells2 HN4.out.ov hkl).1
    have d1 := (own_cells2 HN4.out.ov hkl).2
    have df := own_fz HN4.out.ov
    have HN7 := hid (HN4.out.set (m := m) (k := k) rfl hkl)
    rw [hsr] at HN7
    have e0 := HN7.out.c0
    have e1 := HN7.out.c1
    have e2 := HN7.out.c2
    have hkI : (k : Int) < (R.length : Int) := by omega
    have hk0 : (0 : Int) ≤ (k : Int) := by omega
    clear hth hsr
    go_wp2_with fail
    have HS7 := hid (HS.out.below HN7.out.bl)
    have HF7 := hid (show Fl _ (setR R m) X _ _ from ⟨own_ms HN7.out.ov, own_ms HN7.out.ou, set_short HSS.out HMS.out, HF.out.xs, set_len (by have := HLN.out; omega), HF.out.xn⟩)
    refine (right_any p (setR R m) X _ _ A k0 _ hp HS7.out HF7.out).mono ?_
    rintro e w8 ⟨P, ra, rn, rc, ra', rn', rc', x, rfl, hrp, hb⟩
    have HRP := hid hrp
    have HN8 := hid (HN7.out.below hb)
    have HBc := hid (show Below (w.heap.size + 1 + 1 + 1) _ _ from HN8.out.bl.mono (by simp))
    obtain ⟨⟨r0, r1, r2⟩, rf, _, rz, rb⟩ := three_a HBc.out
    have HRB := hid rb
    clear hb hrp rb d0 d1 e0 e1 e2
    go_wp2_with fail
    refine bodyPost_ret (v := .tuple #[.agg #[.string P, .slice ra rn rc, .slice ra' rn' rc'], x]) (by simp [results, Tryz.results15, go_sem, r0, r1, r2]) rfl ?_
    exact ⟨_, _, _, _, _, _, _, _, _, _, rfl, HRP.out, own_ms (put3_owns HN8.out.ov (own_ne2 HN8.out.ov HRB.out (by decide))), own_ms (put3_owns HN8.out.ou (own_ne2 HN8.out.ou HRB.out (by decide))), HCP.out.zu, put3_below (HB1.out.trans (HN8.out.bl.mono HB1.out.size)) (by omega)⟩
end Ve
end Go.Proofs.YtjphlclhkaoipaaGreatDoor

/-
  What Set and Drop of package file answer; nothing old in memory turns.
-/
namespace Go.Proofs.YtjphlclhkaoipaaGreatDoor
open Go.RowKit
namespace Ve

/-- file.Set. -/
theorem set_any (p : ByteArray) (R X : List Bm) (v u : Value) (m : Bm) (A : Nat → Addr) (k0 : Int) (w : World) (hp : p.size < 999999) (S : Te w A k0) (F : Fl w R X v u) (hz : R = [] → v = .slice none 0 0) (hx : X = [] → u = .slice none 0 0) (hm : m.1.size < 999999 ∧ m.2.size < 999999) :
    Calls Tryz.prog 15 #[.agg #[.string p, v, u], .agg #[.string m.1, .string m.2]] w fun e w' => SetP p X (setF p R X m) A w w' e := by
  by_cases h : (fileF p R X).1 = 0
  · refine (set_good p R X v u m A k0 w hp S F hz hx h hm).mono fun e w' ⟨P, a, n, c, a', n', c', x, v2, u2, h1, h2, h3, h4, h5, h6⟩ => ?_
    unfold RightP at h2
    by_cases h7 : (fileF p (setR R m) X).1 = 0
    · rw [if_pos h7] at h2
      obtain ⟨rfl, e1, e2, rfl⟩ := h2
      have : setF P R X m = .ok (setR R m) := by unfold setF; rw [if_pos h, if_pos h7]
      rw [this]
      exact ⟨_, _, _, _, h1, h6, rfl, rfl, by rw [e1]; exact h3, by rw [e2]; exact h4, fun h => by rw [e2]; exact h5 h⟩
    · rw [if_neg h7] at h2
      obtain ⟨e0, e1, e2, rfl⟩ := h2
      have : setF p R X m = .error (fileF p (setR R m) X).1 := by unfold setF; rw [if_pos h, if_neg h7]
      rw [this]
      exact ⟨_, _, _, _, h1, h6, rfl, h7, e0, e1, e2⟩
  · have : setF p R X m = .error (fileF p R X).1 := by unfold setF; rw [if_neg h]
    rw [this]
    exact (set_bad p R X v u m A k0 w hp S F hz hx h).mono fun e w' ⟨h1, h2⟩ => ⟨_, _, _, _, h1, h2, rfl, h, rfl, rfl, rfl⟩
/-- What Drop answers. -/
def dropF (p : ByteArray) (R X : List Bm) (t : ByteArray) : Except Nat (List Bm) :=
  if (fileF p R X).1 = 0 then (if (eqR R t).isEmpty then .error 5 else .ok (dropR R t)) else .error (fileF p R X).1
set_option maxHeartbeats 2000000 in
theorem drop_bad (p : ByteArray) (R X : List Bm) (v u : Value) (t : ByteArray) (A : Nat → Addr) (k : Int) (w : World) (hp : p.size < 999999) (S : Te w A k) (F : Fl w R X v u) (hz : R = [] → v = .slice none 0 0) (hx : X = [] → u = .slice none 0 0) (h : (fileF p R X).1 ≠ 0) :
    Calls Tryz.prog 18 #[.agg #[.string p, v, u], .string t] w fun e w' => e = .returned (.tuple #[.agg #[.string ⟨#[]⟩, .slice none 0 0, .slice none 0 0], errA A (fileF p R X).1]) ∧ Below w.heap.size w w' := by
  obtain ⟨⟨vp, vc, rfl⟩, up, uc, rfl⟩ := F.slices
  have HB1 := hid (((Below.refl w.heap.size w).alloc (Nat.le_refl _) (.cells #[.string p, .slice vp R.length vc, .slice up X.length uc] 24)).alloc (by simp) (.cells #[.string ⟨#[]⟩, .slice none 0 0, .slice none 0 0] 24))
  have HS := hid (S.below HB1.out)
  have HF := hid (F.below HB1.out)
  have HC := hid (copy_of p R X _ _ _ HF.out hz hx)
  have HEI := hid (errA_if A h)
  have HN := hid h
  rw [HEI.out]
  clear S F hz hx h
  go_enter Tryz.func18, Tryz.ntmps18
  go_wp2_with fail
  refine HC.out.mono ?_
  rintro e w1 ⟨v1, u1, rfl, hcp⟩
  have HCP := hid hcp
  have HS1 := hid (HS.out.below hcp.bl)
  have HF1 := hid (show Fl w1 R X v1 u1 from ⟨own_ms hcp.ov, own_ms hcp.ou, HF.out.rs, HF.out.xs, HF.out.rn, HF.out.xn⟩)
  obtain ⟨⟨a1, c1, rfl⟩, a2, c2, rfl⟩ := HF1.out.slices
  have HRT := hid (right_bad p R X _ _ A k w1 hp HS1.out HF1.out HN.out)
  rw [HEI.out] at HRT
  have HBa := hid (show Below (w.heap.size + 1 + 1) _ w1 from hcp.bl.mono (by simp))
  clear hcp
  go_wp2_with fail
  refine HRT.out.mono ?_
  rintro e w2 ⟨rfl, hb⟩
  have HBb := hid (HBa.out.trans (hb.mono (by have := HBa.out.size; simpa using this)))
  have HBc := hid (HBb.out.alloc (by have := HBb.out.size; simpa using this) (.cells #[.string ⟨#[]⟩, .slice none 0 0, .slice none 0 0] 24))
  obtain ⟨_, ⟨r0, r1, r2⟩, rf, rz⟩ := two3 HBc.out
  have HBd := hid (HB1.out.trans (HBc.out.mono (by omega)))
  clear hb
  go_wp2_with fail
  refine bodyPost_ret (v := .tuple #[.agg #[.string ⟨#[]⟩, .slice none 0 0, .slice none 0 0], .iface 200 (.pointer (some (A ((fileF p R X).1 - 1))))]) (by simp [results, Tryz.results18, go_sem, r0, r1, r2]) rfl ?_
  exact ⟨rfl, put3_below HBd.out (by omega)⟩
theorem del_is {R : List Bm} {p : ByteArray} {k : Nat} (hr : rising R) (hk : k ≤ R.length) (h : bound R p k k) : (thereB R p k = true → k < R.length ∧ R.take k ++ R.drop (k + 1) = dropR R p ∧ (eqR R p).isEmpty = false) ∧ (thereB R p k = false → (eqR R p).isEmpty = true) := by
  have h1 := (bound_split hr hk h).1
  unfold dropR
  rw [← h1]
  rcases there_split hr hk h with ⟨e1, e2, e3, q, e4, _⟩ | ⟨e1, e2, e3⟩
  · exact ⟨fun _ => ⟨e2, by rw [e3], by rw [e4]; rfl⟩, fun e => by rw [e1] at e; cases e⟩
  · exact ⟨(fun e => by rw [e1] at e; cases e), fun _ => by rw [e3]; rfl⟩
set_option maxHeartbeats 4000000 in
set_option maxRecDepth 100000 in
theorem drop_good (p : ByteArray) (R X : List Bm) (v u : Value) (t : ByteArray) (A : Nat → Addr) (k0 : Int) (w : World) (hp : p.size < 999999) (S : Te w A k0) (F : Fl w R X v u) (hz : R = [] → v = .slice none 0 0) (hx : X = [] → u = .slice none 0 0) (h : (fileF p R X).1 = 0) (r : Except Nat (List Bm)) (hr0 : r = if (eqR R t).isEmpty then .error 5 else .ok (dropR R t)) :
    Calls Tryz.prog 18 #[.agg #[.string p, v, u], .string t] w fun e w' => SetP p X r A w w' e := by
  have HR0 := hid hr0
  clear hr0
  obtain ⟨hr, hl, _⟩ := rising_ok h
  obtain ⟨⟨vp, vc, rfl⟩, up, uc, rfl⟩ := F.slices
  have HB1 := hid (((Below.refl w.heap.size w).alloc (Nat.le_refl _) (.cells #[.string p, .slice vp R.length vc, .slice up X.length uc] 24)).alloc (by simp) (.cells #[.string ⟨#[]⟩, .slice none 0 0, .slice none 0 0] 24))
  have HLT := hid (lt_of_cell S.sen.g4)
  have HS := hid (S.below HB1.out)
  have HF := hid (F.below HB1.out)
  have HC := hid (copy_of p R X _ _ _ HF.out hz hx)
  have HN := hid h
  have HRI := hid hr
  have HLN := hid hl
  clear S F hz hx h hr hl
  go_enter Tryz.func18, Tryz.ntmps18
  go_wp2_with fail
  refine HC.out.mono ?_
  rintro e w1 ⟨v1, u1, rfl, hcp⟩
  have HCP := hid hcp
  have HS1 := hid (HS.out.below hcp.bl)
  have HF1 := hid (show Fl w1 R X v1 u1 from ⟨own_ms hcp.ov, own_ms hcp.ou, HF.out.rs, HF.out.xs, HF.out.rn, HF.out.xn⟩)
  obtain ⟨⟨a1, c1, rfl⟩, a2, c2, rfl⟩ := HF1.out.slices
  have HRT := hid (right_ok p R X _ _ A k0 w1 hp HS1.out HF1.out HN.out)
  clear hcp
  go_wp2_with fail
  refine HRT.out.mono ?_
  rintro e w2 ⟨rfl, hb⟩
  have HNX := hid (Nx.start (p := p) (HCP.out.bl.trans (hb.mono HCP.out.bl.size)) (owns_below HCP.out.ov hb) (owns_below HCP.out.ou hb) HCP.out.ap)
  have n1 := HNX.out.c1
  clear hb
  go_wp2_with fail
  refine (find_any R t _ _ HRI.out (by have := HLN.out; omega) (own_ms HNX.out.ov)).mono ?_
  rintro e w4 ⟨k, hk, rfl, hbd, hb⟩
  have HSI := hid (del_is HRI.out hk hbd)
  have HN4 := hid (HNX.out.below hb)
  have HBb := hid (show Below (w.heap.size + 1 + 1) _ _ from HN4.out.bl.mono (by simp))
  have HS4 := hid (HS.out.below HN4.out.bl)
  clear hb n1 hbd
  have n1 := HN4.out.c1
  cases hth : thereB R t k with
  | false =>
    have HEM := hid (HSI.out.2 hth)
    obtain ⟨_, ⟨r0, r1, r2⟩, rf, rz⟩ := two3 HBb.out
    have g := HS4.out.sen.g4
    have hne1 : ¬ w.heap.size + 1 = 2 := by have : 2 < w.heap.size := HLT.out; omega
    have hne2 : ¬ 2 = w.heap.size + 1 := fun h => hne1 h.symm
    clear hth
    go_wp2_with fail
    go_region
    all_goals (try go_wp2)
    all_goals
      refine bodyPost_ret (v := .tuple #[.agg #[.string ⟨#[]⟩, .slice none 0 0, .slice none 0 0], .iface 200 (.pointer (some (A 4)))]) (by simp [results, Tryz.results18, go_sem, r0, r1, r2]) rfl ?_
      rw [HR0.out, HEM.out, if_pos rfl]
      exact ⟨_, _, _, _, rfl, (put3_below (HB1.out.trans (HN4.out.bl.mono HB1.out.size)) (by omega)).drew, rfl, by decide, rfl, rfl, rfl⟩
  | true =>
    obtain ⟨hkl, hsr, hem⟩ := HSI.out.1 hth
    have HEM := hid hem
    have HSR := hid hsr
    have hw1 : IntKind.i64.wrap ((k : Int) + 1) = (k : Int) + 1 := by rw [IntKind.wrap_i64]; have := HLN.out; omega
    clear hth hsr hem
    go_wp2_with fail
    refine (del_any R _ _ k _ HF1.out.rn HN4.out.ov hkl).mono ?_
    rintro e w6 ⟨v', rfl, hi⟩
    rw [HSR.out] at hi
    obtain ⟨va, vn, vcc, rfl⟩ := own_sl hi.own
    have hbk := HN4.out.blkI hi
    have d0 : w6.cell? ⟨w2.heap.size, 0, none⟩ = some (.string p) := by rw [Lib.cell_of_heap hbk]; rfl
    have d1 : w6.cell? ⟨w2.heap.size, 1, none⟩ = some (.slice a1 R.length c1) := by rw [Lib.cell_of_heap hbk]; rfl
    have d2 : w6.cell? ⟨w2.heap.size, 2, none⟩ = some (.slice a2 X.length c2) := by rw [Lib.cell_of_heap hbk]; rfl
    have df := fun o => Lib.frozen_of_heap hbk o
    have HN7 := hid (HN4.out.insd hi)
    have e0 := HN7.out.c0
    have e1 := HN7.out.c1
    have e2 := HN7.out.c2
    have HBc := hid (show Below (w.heap.size + 1 + 1) _ _ from HN7.out.bl.mono (by simp))
    obtain ⟨_, ⟨r0, r1, r2⟩, rf, rz⟩ := two3 HBc.out
    have HRB := hid (two3b HBc.out)
    clear hi hbk n1
    go_wp2_with fail
    refine bodyPost_ret (v := .tuple #[.agg #[.string p, .slice va vn vcc, .slice a2 X.length c2], .nilIface]) (by simp [results, Tryz.results18, go_sem, r0, r1, r2]) rfl ?_
    rw [HR0.out, HEM.out, if_neg (by simp)]
    exact ⟨_, _, _, _, rfl, put3_below (HB1.out.trans (HN7.out.bl.mono HB1.out.size)) (by omega), rfl, rfl, own_ms (put3_owns HN7.out.ov (own_ne2 HN7.out.ov HRB.out (by decide))), own_ms (put3_owns HN7.out.ou (own_ne2 HN7.out.ou HRB.out (by decide))), HCP.out.zu⟩
/-- file.Drop. -/
theorem drop_any (p : ByteArray) (R X : List Bm) (v u : Value) (t : ByteArray) (A : Nat → Addr) (k0 : Int) (w : World) (hp : p.size < 999999) (S : Te w A k0) (F : Fl w R X v u) (hz : R = [] → v = .slice none 0 0) (hx : X = [] → u = .slice none 0 0) :
    Calls Tryz.prog 18 #[.agg #[.string p, v, u], .string t] w fun e w' => SetP p X (dropF p R X t) A w w' e := by
  unfold dropF
  by_cases h : (fileF p R X).1 = 0
  · rw [if_pos h]; exact drop_good p R X v u t A k0 w hp S F hz hx h _ rfl
  · rw [if_neg h]
    exact (drop_bad p R X v u t A k0 w hp S F hz hx h).mono fun e w' ⟨h1, h2⟩ => ⟨_, _, _, _, h1, h2, rfl, h, rfl, rfl, rfl⟩
end Ve
end Go.Proofs.YtjphlclhkaoipaaGreatDoor

/-
  What the statements' own helpers answer of files: OwnMods, OwnFile, LongMods, SameMods, SameFile, FindPath; nothing old in memory turns.
-/
namespace Go.Proofs.YtjphlclhkaoipaaGreatDoor
open Go.RowKit
namespace Ve

set_option maxHeartbeats 1000000 in
theorem ownM_some (b o c : Nat) (L : List Bm) (w : World) (hn : L.length ≤ 1000000) (hL : L ≠ []) (hc : ∀ j u, (flatM L)[j]? = some u → w.cell? ⟨b, o + j, none⟩ = some u) :
    Calls Tryz.prog 20 #[.slice (some ⟨b, o, none⟩) L.length c] w fun e w' => ∃ v, e = .returned v ∧ w'.ownsRow w.heap.size 26 2 v L.length (flatM L) ∧ Below w.heap.size w w' := by
  obtain ⟨i0, hi, hz0, hz1, hz2⟩ := info_parts infoMod
  have HC := hid hc
  have hpos : 0 < L.length := List.length_pos_iff.2 hL
  clear hc hL
  go_enter Tryz.func20, Tryz.ntmps20
  go_wp2_with (at_builtin; refine wpList_append_own _ rfl _ _ 22 rfl w.heap.size 26 i0 _ 2 32 Tryz.underlying22 hi hz0 hz1 hz2 rfl (by decide) _ _ _ rfl (World.ownsRow_nil _ _ _ _) ⟨b, o, none⟩ L.length c (flatM L) rfl ?qc1 ?qc2 ?qc3 ?qc4 ?qc5 ?qc6 ?_)
  case qc1 => exact flatM_len L
  case qc2 =>
    intro j u hj
    rw [Addr.add_lit]
    exact HC.out j u hj
  case qc3 => exact flat_one L
  case qc4 => rw [Nat.zero_add]; unfold maxLen; omega
  case qc5 => rw [Nat.zero_add]; omega
  case qc6 => exact Nat.le_refl _
  intro v' w1 hown hgrow hnil
  obtain ⟨va, vn, vc, rfl⟩ := own_sl hown
  have HO := hid hown
  have HG := hid hgrow
  clear hown hgrow hnil
  go_wp2_with fail
  go_ret
  refine ⟨_, rfl, by simpa using HO.out, ?_⟩
  exact (Below.refl _ w).grown HG.out (Nat.le_refl _) (by intro k hk; simp [Value.ownBlock] at hk)
set_option maxHeartbeats 1000000 in
theorem ownM_nil (w : World) : Calls Tryz.prog 20 #[.slice none 0 0] w fun e w' => e = .returned (.slice none 0 0) ∧ w' = w := by
  obtain ⟨i0, hi, hz0, hz1, hz2⟩ := info_parts infoMod
  go_enter Tryz.func20, Tryz.ntmps20
  go_wp2_with (at_builtin; refine wpList_append_own_none rfl _ _ 22 rfl w.heap.size 26 i0 2 Tryz.underlying22 hi _ _ _ rfl (World.ownsRow_nil _ _ _ _) rfl ?_)
  go_ret
  exact ⟨rfl, rfl⟩
set_option maxHeartbeats 1000000 in
theorem ownM_none (a : Addr) (c : Nat) (w : World) : Calls Tryz.prog 20 #[.slice (some a) 0 c] w fun e w' => e = .returned (.slice none 0 0) ∧ w' = w := by
  have hrun : ∀ ty, (Builtin.append_ #[22, 22] ty #[.slice none 0 0, .slice (some a) 0 c]).run Tryz.prog w = .ok (.slice none 0 0) w := fun ty => by
    obtain ⟨i0, hi, hz0, hz1, hz2⟩ := info_parts infoMod
    have hl : (loadCells a 0).run Tryz.prog w = .ok #[] w := by simpa using run_loadCells_list (P := Tryz.prog) w a [] (by simp)
    simp [Builtin.append_, run_underlying Tryz.underlying22, Builtin.lenOf, Builtin.firstCells, Go.sizeOf, typeInfo, hi, hl]
  go_enter Tryz.func20, Tryz.ntmps20
  go_wp2_with (at_builtin; refine Lib.wpList_append_run _ rfl _ _ _ _ rfl _ _ rfl rfl _ _ (hrun _) ?_)
  go_ret
  exact ⟨rfl, rfl⟩
/-- An empty slice is nil, or it lies somewhere. -/
def Em (v : Value) (L : List Bm) : Prop := ∀ a c, v = .slice a L.length c → L = [] → (Value.slice a 0 c = .slice none 0 0 ∨ ∃ a', Value.slice a 0 c = .slice (some a') 0 c)
theorem ownM_any (v : Value) (L : List Bm) (w : World) (hn : L.length ≤ 1000000) (hv : MsAt w v L) (hem : Em v L) :
    Calls Tryz.prog 20 #[v] w fun e w' => ∃ u, e = .returned u ∧ w'.ownsRow w.heap.size 26 2 u L.length (flatM L) ∧ (L = [] → u = .slice none 0 0) ∧ Below w.heap.size w w' := by
  obtain ⟨a, c, rfl, _, h⟩ := hv
  have hz : L = [] → _ := hem a c rfl
  cases L with
  | nil =>
    rcases hz rfl with hz | ⟨a', hz⟩
    · show Calls Tryz.prog 20 #[.slice a 0 c] w _
      rw [hz]
      exact (ownM_nil w).mono fun e w' ⟨h1, h2⟩ => ⟨_, h1, World.ownsRow_nil _ _ _ _, fun _ => rfl, by rw [h2]; exact Below.refl _ _⟩
    · show Calls Tryz.prog 20 #[.slice a 0 c] w _
      rw [hz]
      exact (ownM_none a' c w).mono fun e w' ⟨h1, h2⟩ => ⟨_, h1, World.ownsRow_nil _ _ _ _, fun _ => rfl, by rw [h2]; exact Below.refl _ _⟩
  | cons x r =>
    obtain ⟨b, o, rfl, h2⟩ := h (by simp)
    exact (ownM_some b o c (x :: r) w hn (by simp) (ms_flat h2)).mono fun e w' ⟨u, h1, h2, h3⟩ => ⟨u, h1, h2, (fun h => by cases h), h3⟩
theorem two3a {w w3 : World} {o : Obj} {a b c : Value} {T : TypeId} (hb : Below (w.heap.size + 1 + 1) ((w.alloc (.cells #[a, b, c] T)).alloc o) w3) : w3.heap[w.heap.size]? = some (.cells #[a, b, c] T (0, 0)) := by
  rw [hb.block _ (by omega)]; exact heap_old _ _ (heap_new w _)
set_option maxHeartbeats 2000000 in
theorem ownF_any (p : ByteArray) (R X : List Bm) (v u : Value) (w : World) (F : Fl w R X v u) (he : Em v R) (hx : Em u X) :
    Calls Tryz.prog 6 #[.agg #[.string p, v, u]] w fun e w' => ∃ v' u', e = .returned (.agg #[.string p, v', u']) ∧ Cp2 w w' R X v' u' := by
  obtain ⟨⟨vp, vc, rfl⟩, up, uc, rfl⟩ := F.slices
  have HB1 := hid (((Below.refl w.heap.size w).alloc (Nat.le_refl _) (.cells #[.string p, .slice vp R.length vc, .slice up X.length uc] 24)).alloc (by simp) (.cells #[.string ⟨#[]⟩, .slice none 0 0, .slice none 0 0] 24))
  have HF := hid F
  have HE1 := hid he
  have HE2 := hid hx
  clear F he hx
  go_enter Tryz.func6, Tryz.ntmps6
  go_wp2_with fail
  refine (ownM_any (.slice vp R.length vc) R _ HF.out.rn (HF.out.r.below HB1.out) HE1.out).mono ?_
  rintro e w1 ⟨v1, rfl, ho1, hz1, hb⟩
  obtain ⟨va, vn, vcc, rfl⟩ := own_sl ho1
  have HO1 := hid ho1
  have HZ1 := hid hz1
  have HBa := hid (show Below (w.heap.size + 1 + 1) _ w1 from hb.mono (by simp))
  have HBw := hid (HB1.out.trans (hb.mono HB1.out.size))
  obtain ⟨⟨q0, q1, q2⟩, ⟨r0, r1, r2⟩, rf, rz⟩ := two3 HBa.out
  have HRB := hid (two3b HBa.out)
  have HQB := hid (two3a HBa.out)
  have qf := fun o => Lib.frozen_of_heap HQB.out o
  have HW2 := hid (HBw.out.setCell (p := ⟨w.heap.size, 1, none⟩) (Nat.le_refl _) (.slice va vn vcc))
  have HQ2 := hid (set_block (o := 1) (x := .slice va vn vcc) HQB.out)
  clear hb ho1 hz1
  go_wp2_with fail
  refine (ownM_any (.slice up X.length uc) X _ HF.out.xn (HF.out.x.below HW2.out) HE2.out).mono ?_
  rintro e w2 ⟨u1, rfl, ho2, hz2, hb⟩
  obtain ⟨ua, un, ucc, rfl⟩ := own_sl ho2
  have HO2 := hid ho2
  have HZ2 := hid hz2
  have hsz : (w1.setCell ⟨w.heap.size, 1, none⟩ (.slice va vn vcc)).heap.size = w1.heap.size := by simp [World.setCell]
  have HQ3 := hid (show w2.heap[w.heap.size]? = some (.cells #[.string p, .slice va vn vcc, .slice up X.length uc] 24 (0, 0)) by
    rw [hb.block _ (by rw [hsz]; omega)]; exact HQ2.out)
  have HR3 := hid (show w2.heap[w.heap.size + 1]? = some (.cells #[.string ⟨#[]⟩, .slice none 0 0, .slice none 0 0] 24 (0, 0)) by
    rw [hb.block _ (by rw [hsz]; omega)]; exact keep_set HRB.out (by omega))
  have HB3 := hid (HW2.out.trans (hb.mono HW2.out.size))
  have HO4 := hid (owns_below (owns_set (o := 1) (x := .slice va vn vcc) HO1.out (own_ne2 HO1.out HQB.out (by decide))) hb)
  have s0 : w2.cell? ⟨w.heap.size, 0, none⟩ = some (.string p) := by rw [Lib.cell_of_heap HQ3.out]; rfl
  have s1 : w2.cell? ⟨w.heap.size, 1, none⟩ = some (.slice va vn vcc) := by rw [Lib.cell_of_heap HQ3.out]; rfl
  have s2 : w2.cell? ⟨w.heap.size, 2, none⟩ = some (.slice up X.length uc) := by rw [Lib.cell_of_heap HQ3.out]; rfl
  have sf := fun o => Lib.frozen_of_heap HQ3.out o
  have t0 : w2.cell? ⟨w.heap.size + 1, 0, none⟩ = some (.string ⟨#[]⟩) := by rw [Lib.cell_of_heap HR3.out]; rfl
  have t1 : w2.cell? ⟨w.heap.size + 1, 1, none⟩ = some (.slice none 0 0) := by rw [Lib.cell_of_heap HR3.out]; rfl
  have t2 : w2.cell? ⟨w.heap.size + 1, 2, none⟩ = some (.slice none 0 0) := by rw [Lib.cell_of_heap HR3.out]; rfl
  have tf := fun o => Lib.frozen_of_heap HR3.out o
  have HSZ := hid hsz
  clear hb ho2 hz2 q0 q1 q2 r0 r1 r2 rf qf hsz
  go_wp2_with fail
  refine bodyPost_ret (v := .agg #[.string p, .slice va vn vcc, .slice ua un ucc]) (by simp [results, Tryz.results6, go_sem, t0, t1, t2]) rfl ?_
  have a1 : ∀ {n : Nat} {x : Value} {xs : List Value}, w2.ownsRow w.heap.size 26 2 x n xs → ((put3 (w2.setCell ⟨w.heap.size, 2, none⟩ (.slice ua un ucc)) (w.heap.size + 1) (.string p) (.slice va vn vcc) (.slice ua un ucc))).ownsRow w.heap.size 26 2 x n xs := fun h =>
    put3_owns (owns_set h (own_ne2 h HQ3.out (by decide))) (own_ne2 h HR3.out (by decide))
  refine ⟨_, _, rfl, a1 (own_base HO4.out HB1.out.size), a1 (own_base HO2.out HW2.out.size), fun g hg hu => ?_, put3_below (HB3.out.setCell (p := ⟨w.heap.size, 2, none⟩) (Nat.le_refl _) _) (by omega), HZ1.out, HZ2.out⟩
  have e1 := (own_lt HO1.out hg).1
  have e2 := (own_lt HO2.out hu).2
  have e3 := HSZ.out
  omega
end Ve
end Go.Proofs.YtjphlclhkaoipaaGreatDoor

/-
  What Read of package file answers; nothing old in memory turns.
-/
namespace Go.Proofs.YtjphlclhkaoipaaGreatDoor
open Go.RowKit
namespace Ve

set_option maxHeartbeats 1000000 in
theorem fread_long (s : ByteArray) (A : Nat → Addr) (m : Int) (w : World) (S : Te w A m) (h : 8000 < s.size) :
    Calls Tryz.prog 12 #[.string s] w fun e w' => e = .returned (.tuple #[.agg #[.string ⟨#[]⟩, .slice none 0 0, .slice none 0 0], errA A 2]) ∧ Below w.heap.size w w' := by
  have HB0 := hid ((Below.refl w.heap.size w).alloc (Nat.le_refl _) (.cells #[.string ⟨#[]⟩, .slice none 0 0, .slice none 0 0] 24))
  have g := (S.below HB0.out).sen.g1
  obtain ⟨⟨r0, r1, r2⟩, rz⟩ := res3 (Below.refl _ (w.alloc (.cells #[.string ⟨#[]⟩, .slice none 0 0, .slice none 0 0] 24)))
  have rf := res3f (Below.refl _ (w.alloc (.cells #[.string ⟨#[]⟩, .slice none 0 0, .slice none 0 0] 24)))
  have hne1 : ¬ w.heap.size = 1 := by have := lt_of_cell S.sen.g1; simp at this; omega
  have hne2 : ¬ 1 = w.heap.size := fun h => hne1 h.symm
  have h8 : (8000 : Int) < (s.size : Int) := by omega
  clear S h
  go_enter Tryz.func12, Tryz.ntmps12
  go_wp2_with fail
  generalize hw : w.alloc (.cells #[.string ⟨#[]⟩, .slice none 0 0, .slice none 0 0] 24) = wq
  rw [hw] at g r0 r1 r2 rz rf HB0
  clear hw
  go_region
  all_goals (try go_wp2)
  all_goals
    refine bodyPost_ret (v := .tuple #[.agg #[.string ⟨#[]⟩, .slice none 0 0, .slice none 0 0], .iface 200 (.pointer (some (A 1)))]) (by simp [results, Tryz.results12, go_sem, r0, r1, r2]) rfl ⟨rfl, ?_⟩
    exact (put3_below HB0.out (Nat.le_refl _)).drew

theorem short_of {s : List UInt8} {f : Fs} (h : readL s = .ok f) (hs : s.length < 99999) : f.1.size < 999999 ∧ shortL f.2.1 ∧ shortL f.2.2 ∧ f.2.1.length ≤ 1000000 ∧ f.2.2.length ≤ 1000000 := by
  obtain ⟨h1, h2, h3⟩ := readL_short h
  refine ⟨by omega, fun m hm => ?_, fun m hm => ?_, by omega, by omega⟩
  · have := h2 m (List.mem_append_left _ hm); omega
  · have := h2 m (List.mem_append_right _ hm); omega

set_option maxHeartbeats 1000000 in
theorem fread_line (s : ByteArray) (i : Nat) (A : Nat → Addr) (m : Int) (w : World) (S : Te w A m) (h : ¬ 8000 < s.size) (hr : readL s.data.toList = .error i) :
    Calls Tryz.prog 12 #[.string s] w fun e w' => ∃ x, e = .returned (.tuple #[.agg #[.string ⟨#[]⟩, .slice none 0 0, .slice none 0 0], x]) ∧ ErrAt w' A x 1 (some i) ∧ Below w.heap.size w w' := by
  have HB0 := hid ((Below.refl w.heap.size w).alloc (Nat.le_refl _) (.cells #[.string ⟨#[]⟩, .slice none 0 0, .slice none 0 0] 24))
  have HL := hid (lines_any s A m _ (by omega) (S.below HB0.out))
  have h8 : ¬ (8000 : Int) < (s.size : Int) := by omega
  have HR := hid hr
  clear S h hr
  go_enter Tryz.func12, Tryz.ntmps12
  go_wp2_with fail
  refine HL.out.mono ?_
  rintro e w1 ⟨P, v, u, x, rfl, hb, ⟨va, vn, vc, rfl⟩, ⟨ua, un, uc, rfl⟩, hm⟩
  rw [HR.out] at hm
  have hm : ErrAt w1 A x 1 (some i) := hm
  have HE := hid hm
  obtain ⟨_, b, rfl, _, _⟩ := hm
  have HBx := hid (show Below (w.heap.size + 1) (w.alloc (.cells #[.string ⟨#[]⟩, .slice none 0 0, .slice none 0 0] 24)) w1 from hb.mono (by simp))
  have HBy := hid (HBx.out.alloc (by have := HBx.out.size; simpa using this) (.cells #[.string P, .slice va vn vc, .slice ua un uc] 24))
  have HE2 := hid (HE.out.below ((Below.refl w1.heap.size w1).alloc (Nat.le_refl _) (.cells #[.string P, .slice va vn vc, .slice ua un uc] 24)))
  obtain ⟨⟨r0, r1, r2⟩, rz⟩ := res3 HBy.out
  have rf := res3f HBy.out
  have HB2 := hid (HB0.out.trans (HBy.out.mono (by omega)))
  clear hb
  go_wp2_with fail
  refine bodyPost_ret (v := .tuple #[.agg #[.string ⟨#[]⟩, .slice none 0 0, .slice none 0 0], .iface 79 (.pointer (some ⟨b, 0, none⟩))]) (by simp [results, Tryz.results12, go_sem, r0, r1, r2]) rfl ?_
  exact ⟨_, rfl, put3_err HE2.out r0, put3_below HB2.out (Nat.le_refl _)⟩

theorem ms_put3 {W : World} {b : Nat} {v x y z : Value} {L : List Bm} {cs : Array Value} (hb : W.heap[b]? = some (.cells cs 24 (0, 0))) {B : Nat} (hown : W.ownsRow B 26 2 v L.length (flatM L)) : MsAt (put3 W b x y z) v L := own_ms (put3_owns hown (own_ne2 hown hb (by decide)))

set_option maxHeartbeats 1000000 in
theorem fread_file (s : ByteArray) (f : Fs) (A : Nat → Addr) (m : Int) (w : World) (S : Te w A m) (h : ¬ 8000 < s.size) (hr : readL s.data.toList = .ok f) (hf : (fileF f.1 f.2.1 f.2.2).1 ≠ 0) :
    Calls Tryz.prog 12 #[.string s] w fun e w' => e = .returned (.tuple #[.agg #[.string ⟨#[]⟩, .slice none 0 0, .slice none 0 0], errA A (fileF f.1 f.2.1 f.2.2).1]) ∧ Below w.heap.size w w' := by
  have HB0 := hid ((Below.refl w.heap.size w).alloc (Nat.le_refl _) (.cells #[.string ⟨#[]⟩, .slice none 0 0, .slice none 0 0] 24))
  have HS0 := hid (S.below HB0.out)
  have HL := hid (lines_any s A m _ (by omega) HS0.out)
  have h8 : ¬ (8000 : Int) < (s.size : Int) := by omega
  have HSH := hid (short_of hr (by simp; omega))
  have HR := hid hr
  have HF := hid hf
  rw [errA_if A hf]
  have HEI := hid (errA_if A hf)
  clear S h hr hf
  go_enter Tryz.func12, Tryz.ntmps12
  go_wp2_with fail
  refine HL.out.mono ?_
  rintro e w1 ⟨P, v, u, x, rfl, hb, _, _, hm⟩
  rw [HR.out] at hm
  obtain ⟨rfl, rfl, hv, hu, _⟩ := hm
  have HBx := hid (show Below (w.heap.size + 1) (w.alloc (.cells #[.string ⟨#[]⟩, .slice none 0 0, .slice none 0 0] 24)) w1 from hb.mono (by simp))
  have HS1 := hid (HS0.out.below hb)
  have HFL := hid (show Fl w1 f.2.1 f.2.2 v u from ⟨own_ms hv, own_ms hu, HSH.out.2.1, HSH.out.2.2.1, HSH.out.2.2.2.1, HSH.out.2.2.2.2⟩)
  obtain ⟨⟨va, vc, rfl⟩, ua, uc, rfl⟩ := HFL.out.slices
  have HBn := hid ((Below.refl w1.heap.size w1).alloc (Nat.le_refl _) (.cells #[.string f.1, .slice va f.2.1.length vc, .slice ua f.2.2.length uc] 24))
  have HBy := hid (HBx.out.trans (HBn.out.mono (by have := HBx.out.size; simpa using this)))
  have HRT := hid (right_bad f.1 f.2.1 f.2.2 _ _ A m _ HSH.out.1 (HS1.out.below HBn.out) (HFL.out.below HBn.out) HF.out)
  rw [HEI.out] at HRT
  clear hb hv hu
  go_wp2_with fail
  refine HRT.out.mono ?_
  rintro e w2 ⟨rfl, hb⟩
  have HBz := hid (HBy.out.trans (hb.mono (by have := HBy.out.size; simpa using this)))
  obtain ⟨⟨r0, r1, r2⟩, rz⟩ := res3 HBz.out
  have rf := res3f HBz.out
  have HB2 := hid (HB0.out.trans (HBz.out.mono (by omega)))
  clear hb
  go_wp2_with fail
  refine bodyPost_ret (v := .tuple #[.agg #[.string ⟨#[]⟩, .slice none 0 0, .slice none 0 0], .iface 200 (.pointer (some (A ((fileF f.1 f.2.1 f.2.2).1 - 1))))]) (by simp [results, Tryz.results12, go_sem, r0, r1, r2]) rfl ?_
  exact ⟨rfl, put3_below HB2.out (Nat.le_refl _)⟩
set_option maxHeartbeats 1000000 in
theorem fread_ok (s : ByteArray) (f : Fs) (A : Nat → Addr) (m : Int) (w : World) (S : Te w A m) (h : ¬ 8000 < s.size) (hr : readL s.data.toList = .ok f) (hf : (fileF f.1 f.2.1 f.2.2).1 = 0) :
    Calls Tryz.prog 12 #[.string s] w fun e w' => ∃ v u, e = .returned (.tuple #[.agg #[.string f.1, v, u], .nilIface]) ∧ MsAt w' v f.2.1 ∧ MsAt w' u f.2.2 ∧ Below w.heap.size w w' := by
  have HB0 := hid ((Below.refl w.heap.size w).alloc (Nat.le_refl _) (.cells #[.string ⟨#[]⟩, .slice none 0 0, .slice none 0 0] 24))
  have HS0 := hid (S.below HB0.out)
  have HL := hid (lines_any s A m _ (by omega) HS0.out)
  have h8 : ¬ (8000 : Int) < (s.size : Int) := by omega
  have HSH := hid (short_of hr (by simp; omega))
  have HR := hid hr
  have HF := hid hf
  clear S h hr hf
  go_enter Tryz.func12, Tryz.ntmps12
  go_wp2_with fail
  refine HL.out.mono ?_
  rintro e w1 ⟨P, v, u, x, rfl, hb, _, _, hm⟩
  rw [HR.out] at hm
  obtain ⟨rfl, rfl, hv, hu, _⟩ := hm
  have HBx := hid (show Below (w.heap.size + 1) (w.alloc (.cells #[.string ⟨#[]⟩, .slice none 0 0, .slice none 0 0] 24)) w1 from hb.mono (by simp))
  have HS1 := hid (HS0.out.below hb)
  have HFL := hid (show Fl w1 f.2.1 f.2.2 v u from ⟨own_ms hv, own_ms hu, HSH.out.2.1, HSH.out.2.2.1, HSH.out.2.2.2.1, HSH.out.2.2.2.2⟩)
  have HV := hid hv
  have HU := hid hu
  obtain ⟨⟨va, vc, rfl⟩, ua, uc, rfl⟩ := HFL.out.slices
  have HBn := hid ((Below.refl w1.heap.size w1).alloc (Nat.le_refl _) (.cells #[.string f.1, .slice va f.2.1.length vc, .slice ua f.2.2.length uc] 24))
  have HBy := hid (HBx.out.trans (HBn.out.mono (by have := HBx.out.size; simpa using this)))
  have HRT := hid (right_ok f.1 f.2.1 f.2.2 _ _ A m _ HSH.out.1 (HS1.out.below HBn.out) (HFL.out.below HBn.out) HF.out)
  clear hb hv hu
  go_wp2_with fail
  refine HRT.out.mono ?_
  rintro e w2 ⟨rfl, hb⟩
  have HBz := hid (HBy.out.trans (hb.mono (by have := HBy.out.size; simpa using this)))
  obtain ⟨⟨r0, r1, r2⟩, rz⟩ := res3 HBz.out
  have rf := res3f HBz.out
  have HRB := hid (res3b HBz.out)
  have HB2 := hid (HB0.out.trans (HBz.out.mono (by omega)))
  have HV2 := hid (owns_below (owns_below HV.out HBn.out) hb)
  have HU2 := hid (owns_below (owns_below HU.out HBn.out) hb)
  clear hb
  go_wp2_with fail
  refine bodyPost_ret (v := .tuple #[.agg #[.string f.1, .slice va f.2.1.length vc, .slice ua f.2.2.length uc], .nilIface]) (by simp [results, Tryz.results12, go_sem, r0, r1, r2]) rfl ?_
  exact ⟨_, _, rfl, ms_put3 HRB.out HV2.out, ms_put3 HRB.out HU2.out, put3_below HB2.out (Nat.le_refl _)⟩
/-- file.Read. -/
theorem fread_any (s : ByteArray) (A : Nat → Addr) (m : Int) (w : World) (S : Te w A m) : Calls Tryz.prog 12 #[.string s] w fun e w' => ReadFP s.data.toList A w w' e := by
  have hl : s.data.toList.length = s.size := len_eq s
  by_cases h : 8000 < s.size
  · have hr : readF s.data.toList = .error (2, none) := by unfold readF; rw [hl, if_pos h]
    exact (fread_long s A m w S h).mono fun e w' ⟨h1, h2⟩ => ⟨_, _, _, _, h1, h2, by rw [hr]; exact ⟨rfl, by decide, rfl, rfl, rfl⟩⟩
  · cases h1 : readL s.data.toList with
    | error i =>
      have hr : readF s.data.toList = .error (1, some i) := by unfold readF; rw [hl, if_neg h, h1]
      exact (fread_line s i A m w S h h1).mono fun e w' ⟨x, h1, h2, h3⟩ => ⟨_, _, _, _, h1, h3, by rw [hr]; exact ⟨h2, Nat.one_ne_zero, rfl, rfl, rfl⟩⟩
    | ok f =>
      by_cases hf : (fileF f.1 f.2.1 f.2.2).1 = 0
      · have hr : readF s.data.toList = .ok f := by unfold readF; rw [hl, if_neg h, h1]; simp only; rw [if_pos hf]
        exact (fread_ok s f A m w S h h1 hf).mono fun e w' ⟨v, u, h1, h2, h3, h4⟩ => ⟨_, _, _, _, h1, h4, by rw [hr]; exact ⟨rfl, rfl, h2, h3⟩⟩
      · have hr : readF s.data.toList = .error ((fileF f.1 f.2.1 f.2.2).1, none) := by unfold readF; rw [hl, if_neg h, h1]; simp only; rw [if_neg hf]
        exact (fread_file s f A m w S h h1 hf).mono fun e w' ⟨h1, h2⟩ => ⟨_, _, _, _, h1, h2, by rw [hr]; exact ⟨rfl, hf, rfl, rfl, rfl⟩⟩
end Ve
end Go.Proofs.YtjphlclhkaoipaaGreatDoor
