/-
  FilZF
-/
import Derived.Test.YtiebgeamfblbdaaGreatDoorFb45
namespace Go.Proofs.YtiebgeamfblbdaaGreatDoor
open Go.RowKit
namespace Ve
theorem boxes {w w3 : World} {a b c d e : Value} {T T' : TypeId} (hb : Below (w.heap.size + 1 + 1) ((w.alloc (.cells #[a, b, c] T)).alloc (.cells #[d, e] T')) w3) :
    (w3.cell? ⟨w.heap.size, 0, none⟩ = some a ∧ w3.cell? ⟨w.heap.size, 1, none⟩ = some b ∧ w3.cell? ⟨w.heap.size, 2, none⟩ = some c) ∧ (w3.cell? ⟨w.heap.size + 1, 0, none⟩ = some d ∧ w3.cell? ⟨w.heap.size + 1, 1, none⟩ = some e) ∧ w.heap.size + 1 < w3.heap.size := by
  have h1 := two3a hb
  have hz : (w.alloc (.cells #[a, b, c] T)).heap.size = w.heap.size + 1 := by simp
  have h2 : w3.heap[w.heap.size + 1]? = some (.cells #[d, e] T' (0, 0)) := by
    have := heap_new (w.alloc (.cells #[a, b, c] T)) (.cells #[d, e] T')
    rw [hz] at this
    rw [hb.block _ (by omega)]; exact this
  refine ⟨⟨?_, ?_, ?_⟩, ⟨?_, ?_⟩, lt_of_blk h2⟩
  · rw [Lib.cell_of_heap h1]; rfl
  · rw [Lib.cell_of_heap h1]; rfl
  · rw [Lib.cell_of_heap h1]; rfl
  · rw [Lib.cell_of_heap h2]; rfl
  · rw [Lib.cell_of_heap h2]; rfl
def fits (p : ByteArray) (R X : List Bm) (m : Bm) : Bool := decide (p.size ≤ 90) && (okL R && okL X) && decide (m.1.size ≤ 90) && decide (m.2.size ≤ 60)
set_option maxHeartbeats 4000000 in
set_option maxRecDepth 100000 in
theorem back_long (p : ByteArray) (R X : List Bm) (v u : Value) (m : Bm) (A : Nat → Addr) (k0 : Int) (w : World) (S : Te w A k0) (hr : MsAt w v R) (hx : MsAt w u X) (h : fits p R X m = false) :
    Calls Tryz.prog 3 #[.agg #[.string p, v, u], .agg #[.string m.1, .string m.2]] w fun e w' => e = .returned (.bool true) ∧ Below w.heap.size w w' := by
  obtain ⟨vp, vc, ev, _⟩ := id hr
  obtain ⟨up, uc, eu, _⟩ := id hx
  subst ev; subst eu
  have HB1 := hid (((Below.refl w.heap.size w).alloc (Nat.le_refl _) (.cells #[.string p, .slice vp R.length vc, .slice up X.length uc] 24)).alloc (by simp) (.cells #[.string m.1, .string m.2] 26))
  have HFD := hid (filed_any A k0 _ (S.below HB1.out))
  have HRR := hid hr
  have HXX := hid hx
  have HFT := hid h
  clear S hr hx h
  have hw0 : IntKind.i64.wrap 0 = 0 := by decide
  have hw1 : IntKind.i64.wrap 1 = 1 := by decide
  have hw2 : IntKind.i64.wrap 2 = 2 := by decide
  by_cases h1 : p.size ≤ 90
  · have q1 : decide ((90 : Int) < (p.size : Int)) = false := decide_eq_false (by omega)
    cases hR : okL R
    · cases hX : okL X
      all_goals
        go_enter Tryz.func3, Tryz.ntmps3
        go_wp2_with fail
        refine HFD.out.mono ?_
        rintro e w1 ⟨rfl, hb⟩
        have HBa := hid (show Below (w.heap.size + 1 + 1) _ w1 from hb.mono (by simp))
        obtain ⟨⟨f0, f1, f2⟩, ⟨m0, m1⟩, wz⟩ := boxes HBa.out
        have HBw := hid (HB1.out.trans (hb.mono HB1.out.size))
        have HL1 := hid (fun n => long_any R _ (w1.drewN n) (HRR.out.below (below_drawn_of HBw.out n)))
        have HL2 := hid (fun n => long_any X _ (w1.drewN n) (HXX.out.below (below_drawn_of HBw.out n)))
        rw [hR] at HL1
        rw [hX] at HL2
        clear hb
        go_wp2_with fail
        go_quiet (first
          | (go_at_call_of 5 (Value.slice vp R.length vc); refine (HL1.out _).mono fun e w' h => ⟨h.1, _, h.2⟩)
          | (go_at_call_of 5 (Value.slice up X.length uc); refine (HL2.out _).mono fun e w' h => ⟨h.1, _, h.2⟩))
        go_wp2_with fail
        go_ret
        exact ⟨rfl, below_drawn_of HBw.out _⟩
    · cases hX : okL X
      · go_enter Tryz.func3, Tryz.ntmps3
        go_wp2_with fail
        refine HFD.out.mono ?_
        rintro e w1 ⟨rfl, hb⟩
        have HBa := hid (show Below (w.heap.size + 1 + 1) _ w1 from hb.mono (by simp))
        obtain ⟨⟨f0, f1, f2⟩, ⟨m0, m1⟩, wz⟩ := boxes HBa.out
        have HBw := hid (HB1.out.trans (hb.mono HB1.out.size))
        have HL1 := hid (fun n => long_any R _ (w1.drewN n) (HRR.out.below (below_drawn_of HBw.out n)))
        have HL2 := hid (fun n => long_any X _ (w1.drewN n) (HXX.out.below (below_drawn_of HBw.out n)))
        rw [hR] at HL1
        rw [hX] at HL2
        clear hb
        go_wp2_with fail
        go_quiet (first
          | (go_at_call_of 5 (Value.slice vp R.length vc); refine (HL1.out _).mono fun e w' h => ⟨h.1, _, h.2⟩)
          | (go_at_call_of 5 (Value.slice up X.length uc); refine (HL2.out _).mono fun e w' h => ⟨h.1, _, h.2⟩))
        go_wp2_with fail
        go_ret
        exact ⟨rfl, below_drawn_of HBw.out _⟩
      · by_cases h3 : m.1.size ≤ 90
        · have q3 : decide ((90 : Int) < (m.1.size : Int)) = false := decide_eq_false (by omega)
          have q4 : decide ((60 : Int) < (m.2.size : Int)) = true := decide_eq_true (by
            by_cases h4 : m.2.size ≤ 60
            · have := HFT.out
              unfold fits at this
              rw [decide_eq_true h1, hR, hX, decide_eq_true h3, decide_eq_true h4] at this
              cases this
            · omega)
          go_enter Tryz.func3, Tryz.ntmps3
          go_wp2_with fail
          refine HFD.out.mono ?_
          rintro e w1 ⟨rfl, hb⟩
          have HBa := hid (show Below (w.heap.size + 1 + 1) _ w1 from hb.mono (by simp))
          obtain ⟨⟨f0, f1, f2⟩, ⟨m0, m1⟩, wz⟩ := boxes HBa.out
          have HBw := hid (HB1.out.trans (hb.mono HB1.out.size))
          have HL1 := hid (fun n => long_any R _ (w1.drewN n) (HRR.out.below (below_drawn_of HBw.out n)))
          have HL2 := hid (fun n => long_any X _ (w1.drewN n) (HXX.out.below (below_drawn_of HBw.out n)))
          rw [hR] at HL1
          rw [hX] at HL2
          clear hb
          go_wp2_with fail
          go_quiet (first
            | (go_at_call_of 5 (Value.slice vp R.length vc); refine (HL1.out _).mono fun e w' h => ⟨h.1, _, h.2⟩)
            | (go_at_call_of 5 (Value.slice up X.length uc); refine (HL2.out _).mono fun e w' h => ⟨h.1, _, h.2⟩))
          go_wp2_with fail
          go_ret
          exact ⟨rfl, below_drawn_of HBw.out _⟩
        · have q3 : decide ((90 : Int) < (m.1.size : Int)) = true := decide_eq_true (by omega)
          go_enter Tryz.func3, Tryz.ntmps3
          go_wp2_with fail
          refine HFD.out.mono ?_
          rintro e w1 ⟨rfl, hb⟩
          have HBa := hid (show Below (w.heap.size + 1 + 1) _ w1 from hb.mono (by simp))
          obtain ⟨⟨f0, f1, f2⟩, ⟨m0, m1⟩, wz⟩ := boxes HBa.out
          have HBw := hid (HB1.out.trans (hb.mono HB1.out.size))
          have HL1 := hid (fun n => long_any R _ (w1.drewN n) (HRR.out.below (below_drawn_of HBw.out n)))
          have HL2 := hid (fun n => long_any X _ (w1.drewN n) (HXX.out.below (below_drawn_of HBw.out n)))
          rw [hR] at HL1
          rw [hX] at HL2
          clear hb
          go_wp2_with fail
          go_quiet (first
            | (go_at_call_of 5 (Value.slice vp R.length vc); refine (HL1.out _).mono fun e w' h => ⟨h.1, _, h.2⟩)
            | (go_at_call_of 5 (Value.slice up X.length uc); refine (HL2.out _).mono fun e w' h => ⟨h.1, _, h.2⟩))
          go_wp2_with fail
          go_ret
          exact ⟨rfl, below_drawn_of HBw.out _⟩
  · have q1 : decide ((90 : Int) < (p.size : Int)) = true := decide_eq_true (by omega)
    go_enter Tryz.func3, Tryz.ntmps3
    go_wp2_with fail
    refine HFD.out.mono ?_
    rintro e w1 ⟨rfl, hb⟩
    have HBa := hid (show Below (w.heap.size + 1 + 1) _ w1 from hb.mono (by simp))
    obtain ⟨⟨f0, f1, f2⟩, ⟨m0, m1⟩, wz⟩ := boxes HBa.out
    have HBw := hid (HB1.out.trans (hb.mono HB1.out.size))
    have HL1 := hid (fun n => long_any R _ (w1.drewN n) (HRR.out.below (below_drawn_of HBw.out n)))
    have HL2 := hid (fun n => long_any X _ (w1.drewN n) (HXX.out.below (below_drawn_of HBw.out n)))
    clear hb
    go_wp2_with fail
    go_quiet (first
      | (go_at_call_of 5 (Value.slice vp R.length vc); refine (HL1.out _).mono fun e w' h => ⟨h.1, _, h.2⟩)
      | (go_at_call_of 5 (Value.slice up X.length uc); refine (HL2.out _).mono fun e w' h => ⟨h.1, _, h.2⟩))
    go_wp2_with fail
    go_ret
    exact ⟨rfl, below_drawn_of HBw.out _⟩
end Ve
end Go.Proofs.YtiebgeamfblbdaaGreatDoor
