/-
  Plain facts of files: a file that is right is read as it was written; what is set is there once, and dropped it is not.
-/
import Derived.Test.YtmgpbejekglipabGreatDoorJn21
namespace Go.Proofs.YtmgpbejekglipabGreatDoor
open Go.RowKit
namespace Ve

theorem codes_ok {p : ByteArray} {R X : List Bm} (h : (fileF p R X).1 = 0) : pathErr p.data.toList = 0 ∧ (∀ m, m ∈ R → mErr m = 0) ∧ (∀ m, m ∈ X → mErr m = 0) := by
  by_cases h1 : pathErr p.data.toList = 0
  · by_cases h2 : 20 < R.length ∨ 20 < X.length
    · rw [fileF_full h1 h2] at h; cases h
    · cases h3 : fstE (reqE p R) R.length with
      | some i =>
        rw [fileF_req h1 h2 h3] at h
        exact absurd h (fstE_of_some h3).2.1
      | none =>
        cases h4 : fstE (exE X) X.length with
        | some i =>
          rw [fileF_ex h1 h2 h3 h4] at h
          exact absurd h (fstE_of_some h4).2.1
        | none =>
          refine ⟨h1, fun m hm => ?_, fun m hm => ?_⟩
          · obtain ⟨j, hj, rfl⟩ := List.getElem_of_mem hm
            have h5 := fstE_of_none h3 j hj
            unfold reqE at h5
            rw [List.getElem?_eq_getElem hj] at h5
            unfold reqW at h5
            simp only at h5
            by_cases h6 : mErr R[j] = 0
            · exact h6
            · rw [if_neg h6] at h5; exact absurd h5 h6
          · obtain ⟨j, hj, rfl⟩ := List.getElem_of_mem hm
            have h5 := fstE_of_none h4 j hj
            unfold exE at h5
            rw [List.getElem?_eq_getElem hj] at h5
            unfold exW at h5
            simp only at h5
            by_cases h6 : mErr X[j] = 0
            · exact h6
            · rw [if_neg h6] at h5; exact absurd h5 h6
  · rw [fileF_path h1] at h; exact absurd h h1
theorem clean_of {m : Bm} (h : mErr m = 0) : clean m := by
  obtain ⟨h1, h2⟩ := mod_right h
  exact ⟨⟨path_no h1 (by decide) (by decide), ver_no h2 (by decide) (by decide) (by decide) (by decide) (by decide)⟩, path_no h1 (by decide) (by decide), ver_no h2 (by decide) (by decide) (by decide) (by decide) (by decide)⟩
theorem back_read {p : ByteArray} {R X : List Bm} (h : (fileF p R X).1 = 0) : readL (fText (p, R, X)) = .ok (p, R, X) := by
  obtain ⟨h1, h2, h3⟩ := codes_ok h
  exact read_back (f := (p, R, X)) ⟨path_no h1 (by decide) (by decide), path_no h1 (by decide) (by decide)⟩ (fun m hm => clean_of (h2 m hm)) (fun m hm => clean_of (h3 m hm))
theorem back_len {p : ByteArray} {R X : List Bm} (h : (fileF p R X).1 = 0) (hp : p.size ≤ 90) (hR : okL R = true) (hX : okL X = true) : (fText (p, R, X)).length ≤ 8000 := by
  obtain ⟨_, h1, h2⟩ := rising_ok h
  refine fText_len (f := (p, R, X)) hp h1 h2 (fun m hm => ?_)
  rcases List.mem_append.1 hm with hm | hm
  · exact (okL_iff hR).2 m hm
  · exact (okL_iff hX).2 m hm
/-- In rising modules a path tells a module. -/
theorem rising_one {R : List Bm} (h : rising R) {a b : Bm} (ha : a ∈ R) (hb : b ∈ R) (he : a.1 = b.1) : a = b := by
  obtain ⟨i, hi, rfl⟩ := List.getElem_of_mem ha
  obtain ⟨j, hj, rfl⟩ := List.getElem_of_mem hb
  rcases Nat.lt_trichotomy i j with hh | hh | hh
  · have := (List.pairwise_iff_getElem.1 h) i j hi hj hh
    rw [he, lt_irrefl] at this; cases this
  · subst hh; rfl
  · have := (List.pairwise_iff_getElem.1 h) j i hj hi hh
    rw [he, lt_irrefl] at this; cases this
theorem set_mem (R : List Bm) (m : Bm) : m ∈ setR R m := by unfold setR; simp
theorem fp_set {R : List Bm} {m : Bm} {r : Int} (hr : rising (setR R m)) (h : FpP (setR R m) m.1 r) : ∃ k : Nat, r = k ∧ ∃ hk : k < (setR R m).length, (setR R m)[k] = m := by
  rcases h with ⟨_, h⟩ | ⟨k, e, hk, h⟩
  · obtain ⟨j, hj, e⟩ := List.getElem_of_mem (set_mem R m)
    exact absurd (by rw [e]) (h j hj)
  · exact ⟨k, e, hk, rising_one hr (List.getElem_mem hk) (set_mem R m) h⟩
theorem len_set {R : List Bm} {m : Bm} {r : Int} (hr : rising R) (h : FpP R m.1 r) : (r = -1 ∧ (setR R m).length = R.length + 1) ∨ (0 ≤ r ∧ (setR R m).length = R.length) := by
  obtain ⟨e, he⟩ := three_R hr m.1
  have hl : R.length = (loR R m.1).length + ((eqR R m.1).length + (hiR R m.1).length) := by
    have := congrArg List.length e
    simpa using this
  have hs : (setR R m).length = (loR R m.1).length + ((hiR R m.1).length + 1) := by unfold setR; simp
  rcases h with ⟨e1, h⟩ | ⟨k, e1, hk, h⟩
  · left
    rcases he with ⟨he, _⟩ | ⟨q, he, hq⟩
    · rw [he] at hl
      exact ⟨e1, by rw [hs, hl]; simp; omega⟩
    · have hm : q ∈ R := (List.mem_filter.1 (show q ∈ eqR R m.1 by rw [he]; simp)).1
      obtain ⟨j, hj, ej⟩ := List.getElem_of_mem hm
      exact absurd (by rw [ej]; exact hq) (h j hj)
  · right
    rcases he with ⟨_, he⟩ | ⟨q, he, _⟩
    · exact absurd h (he _ (List.getElem_mem hk))
    · rw [he] at hl
      exact ⟨by omega, by rw [hs, hl]; simp; omega⟩
theorem eq_set (R : List Bm) (m : Bm) : (eqR (setR R m) m.1).isEmpty = false := by
  have : m ∈ eqR (setR R m) m.1 := List.mem_filter.2 ⟨set_mem R m, decide_eq_true rfl⟩
  cases h : eqR (setR R m) m.1 with
  | nil => rw [h] at this; cases this
  | cons a r => rfl
theorem len_drop (R : List Bm) (m : Bm) : (dropR R m.1).length + 1 = (setR R m).length := by unfold dropR setR; simp; omega
theorem fp_drop {R : List Bm} {p : ByteArray} {r : Int} (h : FpP (dropR R p) p r) : r = -1 := by
  rcases h with ⟨e, _⟩ | ⟨k, _, hk, h⟩
  · exact e
  · exact absurd h (drop_mem.1 (List.getElem_mem hk)).2
theorem fp_each {R : List Bm} {p : ByteArray} {r : Int} {i : Nat} (hr : rising R) (hi : i < R.length) (h : FpP (dropR R p) R[i].1 r) :
    (r = -1 ∧ R[i].1 = p) ∨ (R[i].1 ≠ p ∧ ∃ k : Nat, r = k ∧ ∃ hk : k < (dropR R p).length, (dropR R p)[k] = R[i]) := by
  rcases h with ⟨e, h⟩ | ⟨k, e, hk, h⟩
  · left
    refine ⟨e, ?_⟩
    by_cases he : R[i].1 = p
    · exact he
    · obtain ⟨j, hj, ej⟩ := List.getElem_of_mem (drop_mem.2 ⟨List.getElem_mem hi, he⟩)
      exact absurd (by rw [ej]) (h j hj)
  · right
    have hm := drop_mem.1 (List.getElem_mem hk)
    have e2 := rising_one hr hm.1 (List.getElem_mem hi) h
    exact ⟨by rw [← h]; exact hm.2, k, e, hk, e2⟩
end Ve
end Go.Proofs.YtmgpbejekglipabGreatDoor

/-
  FileBack answers true at a file or a module that is too long for it.
-/
namespace Go.Proofs.YtmgpbejekglipabGreatDoor
open Go.RowKit
namespace Ve

/-- The two boxes that FileBack lays first. -/
theorem boxes {w w3 : World} {a b c d e : Value} {T T' : TypeId} (hb : Below (w.heap.size + 1 + 1) ((w.alloc (.cells #[a, b, c] T)).alloc (.cells #[d, e] T')) w3) :
    (w3.cell? ⟨w.heap.size, 0, none⟩ = some a ∧ w3.cell? ⟨w.heap.size, 1, none⟩ = some b ∧ w3.cell? ⟨w.heap.size, 2, none⟩ = some c) ∧ (w3.cell? ⟨w.heap.size + 1, 0, none⟩ = some d ∧ w3.cell? ⟨w.heap.size + 1, 1, none⟩ = some e) ∧ w.heap.size + 1 < w3.heap.size := by
  have h1 := two3a hb
  have hz : (w.alloc (.cells #[a, b, c] T)).heap.size = w.heap.size + 1 := by simp
  have h2 : w3.heap[w.heap.size + 1]? = some (.cells #[d, e] T' (0, 0)) := by
    have := heap_new (w.alloc (.cells #[a, b, c] T)) (.cells #[d, e] T')
    rw [hz] at this
    rw [hb.block _ (by omega)]; exact this
  refine ⟨⟨?_, ?_, ?_⟩, ⟨?_, ?_⟩, lt_of_blk h2⟩
  · rw [Lib.cell_of_heap h1]; rfl
  · rw [Lib.cell_of_heap h1]; rfl
  · rw [Lib.cell_of_heap h1]; rfl
  · rw [Lib.cell_of_heap h2]; rfl
  · rw [Lib.cell_of_heap h2]; rfl
/-- Is nothing too long? -/
def fits (p : ByteArray) (R X : List Bm) (m : Bm) : Bool := decide (p.size ≤ 90) && (okL R && okL X) && decide (m.1.size ≤ 90) && decide (m.2.size ≤ 60)
set_option maxHeartbeats 4000000 in
set_option maxRecDepth 100000 in
theorem back_long (p : ByteArray) (R X : List Bm) (v u : Value) (m : Bm) (A : Nat → Addr) (k0 : Int) (w : World) (S : Te w A k0) (hr : MsAt w v R) (hx : MsAt w u X) (h : fits p R X m = false) :
    Calls Tryz.prog 4 #[.agg #[.string p, v, u], .agg #[.string m.1, .string m.2]] w fun e w' => e = .returned (.bool true) ∧ Below w.heap.size w w' := by
  obtain ⟨vp, vc, ev, _⟩ := id hr
  obtain ⟨up, uc, eu, _⟩ := id hx
  subst ev; subst eu
  have HB1 := hid (((Below.refl w.heap.size w).alloc (Nat.le_refl _) (.cells #[.string p, .slice vp R.length vc, .slice up X.length uc] 24)).alloc (by simp) (.cells #[.string m.1, .string m.2] 26))
  have HFD := hid (filed_any A k0 _ (S.below HB1.out))
  have HRR := hid hr
  have HXX := hid hx
  have HFT := hid h
  clear S hr hx h
  have hw0 : IntKind.i64.wrap 0 = 0 := by decide
  have hw1 : IntKind.i64.wrap 1 = 1 := by decide
  have hw2 : IntKind.i64.wrap 2 = 2 := by decide
  by_cases h1 : p.size ≤ 90
  · have q1 : decide ((90 : Int) < (p.size : Int)) = false := decide_eq_false (by omega)
    cases hR : okL R
    · cases hX : okL X
      all_goals
        go_enter Tryz.func4, Tryz.ntmps4
        go_wp2_with fail
        refine HFD.out.mono ?_
        rintro e w1 ⟨rfl, hb⟩
        have HBa := hid (show Below (w.heap.size + 1 + 1) _ w1 from hb.mono (by simp))
        obtain ⟨⟨f0, f1, f2⟩, ⟨m0, m1⟩, wz⟩ := boxes HBa.out
        have HBw := hid (HB1.out.trans (hb.mono HB1.out.size))
        have HL1 := hid (fun n => long_any R _ (w1.drewN n) (HRR.out.below (below_drawn_of HBw.out n)))
        have HL2 := hid (fun n => long_any X _ (w1.drewN n) (HXX.out.below (below_drawn_of HBw.out n)))
        rw [hR] at HL1
        rw [hX] at HL2
        clear hb
        go_wp2_with fail
        go_quiet (first
          | (go_at_call_of 8 (Value.slice vp R.length vc); refine (HL1.out _).mono fun e w' h => ⟨h.1, _, h.2⟩)
          | (go_at_call_of 8 (Value.slice up X.length uc); refine (HL2.out _).mono fun e w' h => ⟨h.1, _, h.2⟩))
        go_wp2_with fail
        go_ret
        exact ⟨rfl, below_drawn_of HBw.out _⟩
    · cases hX : okL X
      · go_enter Tryz.func4, Tryz.ntmps4
        go_wp2_with fail
        refine HFD.out.mono ?_
        rintro e w1 ⟨rfl, hb⟩
        have HBa := hid (show Below (w.heap.size + 1 + 1) _ w1 from hb.mono (by simp))
        obtain ⟨⟨f0, f1, f2⟩, ⟨m0, m1⟩, wz⟩ := boxes HBa.out
        have HBw := hid (HB1.out.trans (hb.mono HB1.out.size))
        have HL1 := hid (fun n => long_any R _ (w1.drewN n) (HRR.out.below (below_drawn_of HBw.out n)))
        have HL2 := hid (fun n => long_any X _ (w1.drewN n) (HXX.out.below (below_drawn_of HBw.out n)))
        rw [hR] at HL1
        rw [hX] at HL2
        clear hb
        go_wp2_with fail
        go_quiet (first
          | (go_at_call_of 8 (Value.slice vp R.length vc); refine (HL1.out _).mono fun e w' h => ⟨h.1, _, h.2⟩)
          | (go_at_call_of 8 (Value.slice up X.length uc); refine (HL2.out _).mono fun e w' h => ⟨h.1, _, h.2⟩))
        go_wp2_with fail
        go_ret
        exact ⟨rfl, below_drawn_of HBw.out _⟩
      · by_cases h3 : m.1.size ≤ 90
        · have q3 : decide ((90 : Int) < (m.1.size : Int)) = false := decide_eq_false (by omega)
          have q4 : decide ((60 : Int) < (m.2.size : Int)) = true := decide_eq_true (by
            by_cases h4 : m.2.size ≤ 60
            · have := HFT.out
              unfold fits at this
              rw [decide_eq_true h1, hR, hX, decide_eq_true h3, decide_eq_true h4] at this
              cases this
            · omega)
          go_enter Tryz.func4, Tryz.ntmps4
          go_wp2_with fail
          refine HFD.out.mono ?_
          rintro e w1 ⟨rfl, hb⟩
          have HBa := hid (show Below (w.heap.size + 1 + 1) _ w1 from hb.mono (by simp))
          obtain ⟨⟨f0, f1, f2⟩, ⟨m0, m1⟩, wz⟩ := boxes HBa.out
          have HBw := hid (HB1.out.trans (hb.mono HB1.out.size))
          have HL1 := hid (fun n => long_any R _ (w1.drewN n) (HRR.out.below (below_drawn_of HBw.out n)))
          have HL2 := hid (fun n => long_any X _ (w1.drewN n) (HXX.out.below (below_drawn_of HBw.out n)))
          rw [hR] at HL1
          rw [hX] at HL2
          clear hb
          go_wp2_with fail
          go_quiet (first
            | (go_at_call_of 8 (Value.slice vp R.length vc); refine (HL1.out _).mono fun e w' h => ⟨h.1, _, h.2⟩)
            | (go_at_call_of 8 (Value.slice up X.length uc); refine (HL2.out _).mono fun e w' h => ⟨h.1, _, h.2⟩))
          go_wp2_with fail
          go_ret
          exact ⟨rfl, below_drawn_of HBw.out _⟩
        · have q3 : decide ((90 : Int) < (m.1.size : Int)) = true := decide_eq_true (by omega)
          go_enter Tryz.func4, Tryz.ntmps4
          go_wp2_with fail
          refine HFD.out.mono ?_
          rintro e w1 ⟨rfl, hb⟩
          have HBa := hid (show Below (w.heap.size + 1 + 1) _ w1 from hb.mono (by simp))
          obtain ⟨⟨f0, f1, f2⟩, ⟨m0, m1⟩, wz⟩ := boxes HBa.out
          have HBw := hid (HB1.out.trans (hb.mono HB1.out.size))
          have HL1 := hid (fun n => long_any R _ (w1.drewN n) (HRR.out.below (below_drawn_of HBw.out n)))
          have HL2 := hid (fun n => long_any X _ (w1.drewN n) (HXX.out.below (below_drawn_of HBw.out n)))
          rw [hR] at HL1
          rw [hX] at HL2
          clear hb
          go_wp2_with fail
          go_quiet (first
            | (go_at_call_of 8 (Value.slice vp R.length vc); refine (HL1.out _).mono fun e w' h => ⟨h.1, _, h.2⟩)
            | (go_at_call_of 8 (Value.slice up X.length uc); refine (HL2.out _).mono fun e w' h => ⟨h.1, _, h.2⟩))
          go_wp2_with fail
          go_ret
          exact ⟨rfl, below_drawn_of HBw.out _⟩
  · have q1 : decide ((90 : Int) < (p.size : Int)) = true := decide_eq_true (by omega)
    go_enter Tryz.func4, Tryz.ntmps4
    go_wp2_with fail
    refine HFD.out.mono ?_
    rintro e w1 ⟨rfl, hb⟩
    have HBa := hid (show Below (w.heap.size + 1 + 1) _ w1 from hb.mono (by simp))
    obtain ⟨⟨f0, f1, f2⟩, ⟨m0, m1⟩, wz⟩ := boxes HBa.out
    have HBw := hid (HB1.out.trans (hb.mono HB1.out.size))
    have HL1 := hid (fun n => long_any R _ (w1.drewN n) (HRR.out.below (below_drawn_of HBw.out n)))
    have HL2 := hid (fun n => long_any X _ (w1.drewN n) (HXX.out.below (below_drawn_of HBw.out n)))
    clear hb
    go_wp2_with fail
    go_quiet (first
      | (go_at_call_of 8 (Value.slice vp R.length vc); refine (HL1.out _).mono fun e w' h => ⟨h.1, _, h.2⟩)
      | (go_at_call_of 8 (Value.slice up X.length uc); refine (HL2.out _).mono fun e w' h => ⟨h.1, _, h.2⟩))
    go_wp2_with fail
    go_ret
    exact ⟨rfl, below_drawn_of HBw.out _⟩
end Ve
end Go.Proofs.YtmgpbejekglipabGreatDoor
