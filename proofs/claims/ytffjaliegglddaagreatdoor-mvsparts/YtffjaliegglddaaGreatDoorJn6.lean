/-
  What the document's OrderVer answers for two versions: their order; nothing old in memory turns.
-/
import Derived.Test.YtffjaliegglddaaGreatDoorOrdB
import Derived.Test.YtffjaliegglddaaGreatDoorJn5
import Derived.Test.YtffjaliegglddaaGreatDoorSplitAny
import Derived.Test.YtffjaliegglddaaGreatDoorLessAny
import Derived.Laws.OwnMore
import Derived.Test.YtffjaliegglddaaGreatDoorJn3
import Derived.Lib.AppendZeros
import Derived.Deep.DeepCutAuto
import Derived.Test.YtffjaliegglddaaGreatDoorJn1
import Derived.Deep.SlicePairs
import Derived.Lib.SmallJoins
import Derived.SliceStrings
namespace Go.Proofs.YtffjaliegglddaaGreatDoor
open Go.RowKit
namespace Ve

/-- What VerOf answers for a version. -/
def GoodV (w w' : World) (e : Ending) (x y z : Int) (X : List ByteArray) : Prop :=
  (∃ sa cap, e = .returned (.tuple #[.agg #[.int .i64 x, .int .i64 y, .int .i64 z, .slice sa X.length cap], .int .i64 0]) ∧ (X = [] ∨ ∃ g, sa = some ⟨g, 0, none⟩ ∧ ∀ j (hj : j < X.length), w'.cell? ⟨g, j, none⟩ = some (.string X[j]))) ∧ Below w.heap.size w w'

theorem verOf_good (s : ByteArray) (w : World) (hs : s.size < 4294967281) (h : verErr s.data.toList = 0) (X : List ByteArray) (hX : bl X = preOf s.data.toList) :
    Calls Tryz.prog 45 #[.string s] w fun e w' => GoodV w w' e (nAt s.data.toList 0) (nAt s.data.toList 1) (nAt s.data.toList 2) X :=
  (verOf_any s w hs).mono fun e w' ⟨h1, hb⟩ => by
    rcases h1 with ⟨h1, _⟩ | ⟨_, sa, cap, X2, e1, e2, e3⟩
    · exact absurd h h1
    · obtain rfl : X2 = X := bl_inj (e2.trans hX.symm)
      exact ⟨⟨sa, cap, e1, e3⟩, hb⟩

/-- What the loop over two pres reads. -/
structure Os (w W : World) (P Q ga gb ca cb : Nat) (X Y : List ByteArray) : Prop where
  bl : Below w.heap.size w W
  p3 : W.cell? ⟨P, 3, none⟩ = some (.slice (some ⟨ga, 0, none⟩) X.length ca)
  q3 : W.cell? ⟨Q, 3, none⟩ = some (.slice (some ⟨gb, 0, none⟩) Y.length cb)
  xs : ∀ j (hj : j < X.length), W.cell? ⟨ga, j, none⟩ = some (.string X[j])
  ys : ∀ j (hj : j < Y.length), W.cell? ⟨gb, j, none⟩ = some (.string Y[j])

theorem lt_sign {x y : Int} (h : x ≠ y) : Lib.compareInt x y = (if decide (x < y) then (-1 : Int) else if (true : Bool) = true then 1 else 0) := by
  unfold Lib.compareInt
  by_cases h1 : x < y
  · simp [h1]
  · simp [h1]; omega

set_option maxHeartbeats 2000000 in
theorem over_0 (x x' y y' z z' : Int) (X Y : List ByteArray) (s t : ByteArray) (w : World) (hn : x ≠ x')
    (hA : Calls Tryz.prog 45 #[.string s] w fun e w' => GoodV w w' e x y z X) (hT : ∀ W, Calls Tryz.prog 45 #[.string t] W fun e w' => GoodV W w' e x' y' z' Y) :
    Calls Tryz.prog 122 #[.string s, .string t] w fun e w' => e = .returned (.int .i64 (Lib.compareInt x x')) ∧ Below w.heap.size w w' := by
  have hq : (x == x') = false := beq_eq_false_iff_ne.2 hn
  have HK := hid (lt_sign hn).symm
  clear hn
  have HA := hid hA
  have HT := hid hT
  clear hA hT
  go_enter Tryz.func122, Tryz.ntmps122
  go_wp2_with fail
  refine HA.out.mono ?_
  rintro e w1 ⟨⟨sa, ca, rfl, hc1⟩, hb1⟩
  have HC1 := hid hc1
  have HB1 := hid hb1
  clear hc1 hb1
  go_wp2_with fail
  refine (HT.out _).mono ?_
  rintro e w2 ⟨⟨sb, cb, rfl, hc2⟩, hb2⟩
  have HC2 := hid hc2
  obtain ⟨⟨r0, r1, r2, r3⟩, rf, rz⟩ := res4 (hb2.mono (by simp))
  have HB2 := hid (((Below.refl w1.heap.size w1).alloc (Nat.le_refl _) _).trans (hb2.mono (by simp)))
  have HB := hid ((HB1.out.trans (HB2.out.mono HB1.out.size)).alloc (HB1.out.trans (HB2.out.mono HB1.out.size)).size (.cells #[.int .i64 x', .int .i64 y', .int .i64 z', .slice sb Y.length cb] 81))
  clear hc2 hb2
  go_wp2_with fail
  refine wp_loop_rounds 1 ?_
  rw [rounds_succ]
  go_wp2_with fail
  go_quiet (fail)
  go_wp2_with fail
  go_quiet (first | (go_at_call 154; refine (sign_is _ _ (Lib.compareInt x x') _ HK.out).mono fun e w' h => ⟨h.1, _, h.2⟩))
  go_wp2_with fail
  go_ret
  exact ⟨rfl, by first | exact below_drew (below_drew HB.out _) _ | exact below_drew (below_drew (below_drew HB.out _) _) _ | exact below_drew (below_drew (below_drew (below_drew HB.out _) _) _) _⟩

set_option maxHeartbeats 2000000 in
theorem over_1 (x y y' z z' : Int) (X Y : List ByteArray) (s t : ByteArray) (w : World) (hn : y ≠ y')
    (hA : Calls Tryz.prog 45 #[.string s] w fun e w' => GoodV w w' e x y z X) (hT : ∀ W, Calls Tryz.prog 45 #[.string t] W fun e w' => GoodV W w' e x y' z' Y) :
    Calls Tryz.prog 122 #[.string s, .string t] w fun e w' => e = .returned (.int .i64 (Lib.compareInt y y')) ∧ Below w.heap.size w w' := by
  have hq : (y == y') = false := beq_eq_false_iff_ne.2 hn
  have HK := hid (lt_sign hn).symm
  clear hn
  have HA := hid hA
  have HT := hid hT
  clear hA hT
  go_enter Tryz.func122, Tryz.ntmps122
  go_wp2_with fail
  refine HA.out.mono ?_
  rintro e w1 ⟨⟨sa, ca, rfl, hc1⟩, hb1⟩
  have HC1 := hid hc1
  have HB1 := hid hb1
  clear hc1 hb1
  go_wp2_with fail
  refine (HT.out _).mono ?_
  rintro e w2 ⟨⟨sb, cb, rfl, hc2⟩, hb2⟩
  have HC2 := hid hc2
  obtain ⟨⟨r0, r1, r2, r3⟩, rf, rz⟩ := res4 (hb2.mono (by simp))
  have HB2 := hid (((Below.refl w1.heap.size w1).alloc (Nat.le_refl _) _).trans (hb2.mono (by simp)))
  have HB := hid ((HB1.out.trans (HB2.out.mono HB1.out.size)).alloc (HB1.out.trans (HB2.out.mono HB1.out.size)).size (.cells #[.int .i64 x, .int .i64 y', .int .i64 z', .slice sb Y.length cb] 81))
  clear hc2 hb2
  go_wp2_with fail
  refine wp_loop_rounds 2 ?_
  rw [rounds_succ]
  go_wp2_with fail
  go_quiet (fail)
  go_wp2_with fail
  rw [rounds_succ]
  go_wp2_with fail
  go_quiet (fail)
  go_wp2_with fail
  go_quiet (first | (go_at_call 154; refine (sign_is _ _ (Lib.compareInt y y') _ HK.out).mono fun e w' h => ⟨h.1, _, h.2⟩))
  go_wp2_with fail
  go_ret
  exact ⟨rfl, by first | exact below_drew (below_drew HB.out _) _ | exact below_drew (below_drew (below_drew HB.out _) _) _ | exact below_drew (below_drew (below_drew (below_drew HB.out _) _) _) _⟩

set_option maxHeartbeats 2000000 in
theorem over_2 (x y z z' : Int) (X Y : List ByteArray) (s t : ByteArray) (w : World) (hn : z ≠ z')
    (hA : Calls Tryz.prog 45 #[.string s] w fun e w' => GoodV w w' e x y z X) (hT : ∀ W, Calls Tryz.prog 45 #[.string t] W fun e w' => GoodV W w' e x y z' Y) :
    Calls Tryz.prog 122 #[.string s, .string t] w fun e w' => e = .returned (.int .i64 (Lib.compareInt z z')) ∧ Below w.heap.size w w' := by
  have hq : (z == z') = false := beq_eq_false_iff_ne.2 hn
  have HK := hid (lt_sign hn).symm
  clear hn
  have HA := hid hA
  have HT := hid hT
  clear hA hT
  go_enter Tryz.func122, Tryz.ntmps122
  go_wp2_with fail
  refine HA.out.mono ?_
  rintro e w1 ⟨⟨sa, ca, rfl, hc1⟩, hb1⟩
  have HC1 := hid hc1
  have HB1 := hid hb1
  clear hc1 hb1
  go_wp2_with fail
  refine (HT.out _).mono ?_
  rintro e w2 ⟨⟨sb, cb, rfl, hc2⟩, hb2⟩
  have HC2 := hid hc2
  obtain ⟨⟨r0, r1, r2, r3⟩, rf, rz⟩ := res4 (hb2.mono (by simp))
  have HB2 := hid (((Below.refl w1.heap.size w1).alloc (Nat.le_refl _) _).trans (hb2.mono (by simp)))
  have HB := hid ((HB1.out.trans (HB2.out.mono HB1.out.size)).alloc (HB1.out.trans (HB2.out.mono HB1.out.size)).size (.cells #[.int .i64 x, .int .i64 y, .int .i64 z', .slice sb Y.length cb] 81))
  clear hc2 hb2
  go_wp2_with fail
  refine wp_loop_rounds 3 ?_
  rw [rounds_succ]
  go_wp2_with fail
  go_quiet (fail)
  go_wp2_with fail
  rw [rounds_succ]
  go_wp2_with fail
  go_quiet (fail)
  go_wp2_with fail
  rw [rounds_succ]
  go_wp2_with fail
  go_quiet (fail)
  go_wp2_with fail
  go_quiet (first | (go_at_call 154; refine (sign_is _ _ (Lib.compareInt z z') _ HK.out).mono fun e w' h => ⟨h.1, _, h.2⟩))
  go_wp2_with fail
  go_ret
  exact ⟨rfl, by first | exact below_drew (below_drew HB.out _) _ | exact below_drew (below_drew (below_drew HB.out _) _) _ | exact below_drew (below_drew (below_drew (below_drew HB.out _) _) _) _⟩

set_option maxHeartbeats 2000000 in
theorem over_none0 (x y z : Int) (s t : ByteArray) (w : World)
    (hA : Calls Tryz.prog 45 #[.string s] w fun e w' => GoodV w w' e x y z []) (hT : ∀ W, Calls Tryz.prog 45 #[.string t] W fun e w' => GoodV W w' e x y z []) :
    Calls Tryz.prog 122 #[.string s, .string t] w fun e w' => e = .returned (.int .i64 (0)) ∧ Below w.heap.size w w' := by
  have HA := hid hA
  have HT := hid hT
  clear hA hT
  go_enter Tryz.func122, Tryz.ntmps122
  go_wp2_with fail
  refine HA.out.mono ?_
  rintro e w1 ⟨⟨sa, ca, rfl, hc1⟩, hb1⟩
  have HC1 := hid hc1
  have HB1 := hid hb1
  clear hc1 hb1
  go_wp2_with fail
  refine (HT.out _).mono ?_
  rintro e w2 ⟨⟨sb, cb, rfl, hc2⟩, hb2⟩
  have HC2 := hid hc2
  obtain ⟨⟨r0, r1, r2, r3⟩, rf, rz⟩ := res4 (hb2.mono (by simp))
  have HB2 := hid (((Below.refl w1.heap.size w1).alloc (Nat.le_refl _) _).trans (hb2.mono (by simp)))
  have HB := hid ((HB1.out.trans (HB2.out.mono HB1.out.size)).alloc (HB1.out.trans (HB2.out.mono HB1.out.size)).size (.cells #[.int .i64 x, .int .i64 y, .int .i64 z, .slice sb 0 cb] 81))
  clear hc2 hb2
  go_wp2_with fail
  refine wp_loop_rounds 4 ?_
  rw [rounds_succ]
  go_wp2_with fail
  go_quiet (fail)
  go_wp2_with fail
  rw [rounds_succ]
  go_wp2_with fail
  go_quiet (fail)
  go_wp2_with fail
  rw [rounds_succ]
  go_wp2_with fail
  go_quiet (fail)
  go_wp2_with fail
  rw [rounds_succ]
  go_wp2_with fail
  refine (sign_is _ _ (0) _ rfl).mono ?_
  rintro e w' ⟨rfl, rfl⟩
  go_wp2_with fail
  go_ret
  exact ⟨rfl, below_drew HB.out _⟩

set_option maxHeartbeats 2000000 in
theorem over_none1 (x y z : Int) (Y : List ByteArray) (s t : ByteArray) (w : World) (hp : 0 < Y.length) (hl : Y.length ≤ 1000000)
    (hA : Calls Tryz.prog 45 #[.string s] w fun e w' => GoodV w w' e x y z []) (hT : ∀ W, Calls Tryz.prog 45 #[.string t] W fun e w' => GoodV W w' e x y z Y) :
    Calls Tryz.prog 122 #[.string s, .string t] w fun e w' => e = .returned (.int .i64 (1)) ∧ Below w.heap.size w w' := by
  have h0 : ((Y.length : Int) == 0) = false := beq_eq_false_iff_ne.2 (by omega)
  have HA := hid hA
  have HT := hid hT
  clear hA hT
  go_enter Tryz.func122, Tryz.ntmps122
  go_wp2_with fail
  refine HA.out.mono ?_
  rintro e w1 ⟨⟨sa, ca, rfl, hc1⟩, hb1⟩
  have HC1 := hid hc1
  have HB1 := hid hb1
  clear hc1 hb1
  go_wp2_with fail
  refine (HT.out _).mono ?_
  rintro e w2 ⟨⟨sb, cb, rfl, hc2⟩, hb2⟩
  have HC2 := hid hc2
  obtain ⟨⟨r0, r1, r2, r3⟩, rf, rz⟩ := res4 (hb2.mono (by simp))
  have HB2 := hid (((Below.refl w1.heap.size w1).alloc (Nat.le_refl _) _).trans (hb2.mono (by simp)))
  have HB := hid ((HB1.out.trans (HB2.out.mono HB1.out.size)).alloc (HB1.out.trans (HB2.out.mono HB1.out.size)).size (.cells #[.int .i64 x, .int .i64 y, .int .i64 z, .slice sb Y.length cb] 81))
  clear hc2 hb2
  go_wp2_with fail
  refine wp_loop_rounds 4 ?_
  rw [rounds_succ]
  go_wp2_with fail
  go_quiet (fail)
  go_wp2_with fail
  rw [rounds_succ]
  go_wp2_with fail
  go_quiet (fail)
  go_wp2_with fail
  rw [rounds_succ]
  go_wp2_with fail
  go_quiet (fail)
  go_wp2_with fail
  rw [rounds_succ]
  go_wp2_with fail
  refine (sign_is _ _ (1) _ rfl).mono ?_
  rintro e w' ⟨rfl, rfl⟩
  go_wp2_with fail
  go_ret
  exact ⟨rfl, below_drew HB.out _⟩

set_option maxHeartbeats 2000000 in
theorem over_none2 (x y z : Int) (X : List ByteArray) (s t : ByteArray) (w : World) (hp : 0 < X.length) (hl : X.length ≤ 1000000)
    (hA : Calls Tryz.prog 45 #[.string s] w fun e w' => GoodV w w' e x y z X) (hT : ∀ W, Calls Tryz.prog 45 #[.string t] W fun e w' => GoodV W w' e x y z []) :
    Calls Tryz.prog 122 #[.string s, .string t] w fun e w' => e = .returned (.int .i64 (-1)) ∧ Below w.heap.size w w' := by
  have h0 : ((X.length : Int) == 0) = false := beq_eq_false_iff_ne.2 (by omega)
  have HA := hid hA
  have HT := hid hT
  clear hA hT
  go_enter Tryz.func122, Tryz.ntmps122
  go_wp2_with fail
  refine HA.out.mono ?_
  rintro e w1 ⟨⟨sa, ca, rfl, hc1⟩, hb1⟩
  have HC1 := hid hc1
  have HB1 := hid hb1
  clear hc1 hb1
  go_wp2_with fail
  refine (HT.out _).mono ?_
  rintro e w2 ⟨⟨sb, cb, rfl, hc2⟩, hb2⟩
  have HC2 := hid hc2
  obtain ⟨⟨r0, r1, r2, r3⟩, rf, rz⟩ := res4 (hb2.mono (by simp))
  have HB2 := hid (((Below.refl w1.heap.size w1).alloc (Nat.le_refl _) _).trans (hb2.mono (by simp)))
  have HB := hid ((HB1.out.trans (HB2.out.mono HB1.out.size)).alloc (HB1.out.trans (HB2.out.mono HB1.out.size)).size (.cells #[.int .i64 x, .int .i64 y, .int .i64 z, .slice sb 0 cb] 81))
  clear hc2 hb2
  go_wp2_with fail
  refine wp_loop_rounds 4 ?_
  rw [rounds_succ]
  go_wp2_with fail
  go_quiet (fail)
  go_wp2_with fail
  rw [rounds_succ]
  go_wp2_with fail
  go_quiet (fail)
  go_wp2_with fail
  rw [rounds_succ]
  go_wp2_with fail
  go_quiet (fail)
  go_wp2_with fail
  rw [rounds_succ]
  go_wp2_with fail
  refine (sign_is _ _ (-1) _ rfl).mono ?_
  rintro e w' ⟨rfl, rfl⟩
  go_wp2_with fail
  go_ret
  exact ⟨rfl, below_drew HB.out _⟩

set_option maxHeartbeats 4000000 in
theorem over_some (x y z : Int) (X Y : List ByteArray) (s t : ByteArray) (w : World) (hp : 0 < X.length) (hp2 : 0 < Y.length) (hl : X.length ≤ 1000000) (hl2 : Y.length ≤ 1000000) (hXs : ∀ x, x ∈ X → x.size ≤ maxLen ∧ part x.data.toList = 0) (hYs : ∀ x, x ∈ Y → x.size ≤ maxLen ∧ part x.data.toList = 0)
    (hA : Calls Tryz.prog 45 #[.string s] w fun e w' => GoodV w w' e x y z X) (hT : ∀ W, Calls Tryz.prog 45 #[.string t] W fun e w' => GoodV W w' e x y z Y) :
    Calls Tryz.prog 122 #[.string s, .string t] w fun e w' => e = .returned (.int .i64 (ordPs (bl X) (bl Y))) ∧ Below w.heap.size w w' := by
  have h0 : ((X.length : Int) == 0) = false := beq_eq_false_iff_ne.2 (by omega)
  have h02 : ((Y.length : Int) == 0) = false := beq_eq_false_iff_ne.2 (by omega)
  have HXS := hid hXs
  have HYS := hid hYs
  clear hXs hYs
  have HA := hid hA
  have HT := hid hT
  clear hA hT
  go_enter Tryz.func122, Tryz.ntmps122
  go_wp2_with fail
  refine HA.out.mono ?_
  rintro e w1 ⟨⟨sa, ca, rfl, hc1⟩, hb1⟩
  have HC1 := hid hc1
  have HB1 := hid hb1
  clear hc1 hb1
  go_wp2_with fail
  refine (HT.out _).mono ?_
  rintro e w2 ⟨⟨sb, cb, rfl, hc2⟩, hb2⟩
  have HC2 := hid hc2
  obtain ⟨⟨r0, r1, r2, r3⟩, rf, rz⟩ := res4 (hb2.mono (by simp))
  have HB2 := hid (((Below.refl w1.heap.size w1).alloc (Nat.le_refl _) _).trans (hb2.mono (by simp)))
  have HB := hid ((HB1.out.trans (HB2.out.mono HB1.out.size)).alloc (HB1.out.trans (HB2.out.mono HB1.out.size)).size (.cells #[.int .i64 x, .int .i64 y, .int .i64 z, .slice sb Y.length cb] 81))
  clear hc2 hb2
  go_wp2_with fail
  obtain ⟨ga, rfl, hca⟩ : ∃ g, sa = some ⟨g, 0, none⟩ ∧ ∀ j (hj : j < X.length), w1.cell? ⟨g, j, none⟩ = some (.string X[j]) := by
    rcases HC1.out with h | h
    · subst h; simp at hp
    · exact h
  obtain ⟨gb, rfl, hcb⟩ : ∃ g, sb = some ⟨g, 0, none⟩ ∧ ∀ j (hj : j < Y.length), w2.cell? ⟨g, j, none⟩ = some (.string Y[j]) := by
    rcases HC2.out with h | h
    · subst h; simp at hp2
    · exact h
  have HCA := hid (fun j (hj : j < X.length) => cell_below HB2.out (hca j hj))
  have HCB := hid hcb
  have HOS := hid (show Os w (w2.alloc (.cells #[.int .i64 x, .int .i64 y, .int .i64 z, .slice (some ⟨gb, 0, none⟩) Y.length cb] 81)) w1.heap.size w2.heap.size ga gb ca cb X Y from
    ⟨HB.out, by rw [World.cell?_alloc_lt _ _ _ (by show w1.heap.size < _; exact rz)]; exact r3, by rw [World.cell?_alloc_at _ _ _ _ rfl]; rfl,
      fun j hj => by rw [World.cell?_alloc_lt _ _ _ (lt_of_cell (HCA.out j hj))]; exact HCA.out j hj, fun j hj => by rw [World.cell?_alloc_lt _ _ _ (lt_of_cell (HCB.out j hj))]; exact HCB.out j hj⟩)
  clear hca hcb HC1 HC2
  refine wp_loop_rounds 4 ?_
  rw [rounds_succ]
  go_wp2_with fail
  go_quiet (fail)
  go_wp2_with fail
  rw [rounds_succ]
  go_wp2_with fail
  go_quiet (fail)
  go_wp2_with fail
  rw [rounds_succ]
  go_wp2_with fail
  go_quiet (fail)
  go_wp2_with fail
  rw [rounds_succ]
  go_wp2_with fail
  go_loopw [10] (fun i wr => ∃ (k d : Nat) (W : World), k ≤ X.length ∧ k ≤ Y.length ∧ i = .int .i64 k ∧ Hid (ordPs (bl X) (bl Y) = ordPs (bl (X.drop k)) (bl (Y.drop k))) ∧ Hid (Os w W w1.heap.size w2.heap.size ga gb ca cb X Y) ∧ wr = W.drewN d) (fun i _ => X.length - (intOf i).toNat)
  case atStart => exact ⟨0, _, _, Nat.zero_le _, Nat.zero_le _, rfl, hid rfl, HOS, rfl⟩
  case round =>
    clear HB HB1 HB2 r0 r1 r2 r3 rf rz
    obtain ⟨k, d, W, hk, hk2, rfl, HO, HW, rfl⟩ := hrel
    have p3 := HW.out.p3
    have q3 := HW.out.q3
    by_cases hlt : k < X.length
    · have t1 : decide ((k : Int) < (X.length : Int)) = true := decide_eq_true (by omega)
      by_cases hlt2 : k < Y.length
      · have t2 : decide ((k : Int) < (Y.length : Int)) = true := decide_eq_true (by omega)
        have hx := HW.out.xs k hlt
        have hy := HW.out.ys k hlt2
        have HP := hid (fun W => opart_any X[k] Y[k] W (HXS.out _ (List.getElem_mem hlt)).1 (HYS.out _ (List.getElem_mem hlt2)).1)
        rw [ordPart_num (HXS.out _ (List.getElem_mem hlt)).2 (HYS.out _ (List.getElem_mem hlt2)).2] at HP
        have HN := hid (HO.out.trans (ordPs_step X Y k hlt hlt2))
        generalize hq : ordPart X[k].data.toList Y[k].data.toList = q at *
        clear hq HO
        by_cases hz : q = 0
        · subst hz
          go_wp2_with fail
          go_quiet (first | (go_at_call 155; refine (HP.out _).mono fun e w' h => ⟨h.1, _, h.2⟩))
          go_wp2_with fail
          go_roundw
          case rel => exact ⟨k + 1, _, W, by omega, by omega, by go_num, hid (HN.out.trans (fst0 _)), HW, rfl⟩
          case measure => simp [intOf]; omega
        · have hqb : (q == 0) = false := beq_eq_false_iff_ne.2 hz
          have HF := hid (HN.out.trans (fst_ne _ hz))
          clear hz
          go_wp2_with fail
          go_quiet (first | (go_at_call 155; refine (HP.out _).mono fun e w' h => ⟨h.1, _, h.2⟩))
          go_wp2_with fail
          go_ret
          exact ⟨ret_int HF.out.symm, by first | exact below_drew HW.out.bl _ | exact below_drew (below_drew HW.out.bl _) _ | exact below_drew (below_drew (below_drew HW.out.bl _) _) _⟩
      · have HF := hid (HO.out.trans (ordPs_long X Y k hlt (by omega)))
        have t2 : decide ((k : Int) < (Y.length : Int)) = false := decide_eq_false (by omega)
        clear HO
        go_wp2_with fail
        refine (sign_is _ _ 1 _ ?hk).mono ?_
        case hk => simp [show ¬ X.length < Y.length by omega, show Y.length < X.length by omega]
        rintro e w' ⟨rfl, rfl⟩
        go_wp2_with fail
        go_ret
        exact ⟨ret_int HF.out.symm, by first | exact below_drew HW.out.bl _ | exact below_drew (below_drew HW.out.bl _) _ | exact below_drew (below_drew (below_drew HW.out.bl _) _) _⟩
    · have t1 : decide ((k : Int) < (X.length : Int)) = false := decide_eq_false (by omega)
      by_cases hlt2 : X.length < Y.length
      · have HF := hid (HO.out.trans (ordPs_short X Y k (by omega) (by omega)))
        clear HO
        go_wp2_with fail
        refine (sign_is _ _ (-1) _ ?hk).mono ?_
        case hk => simp
        rintro e w' ⟨rfl, rfl⟩
        go_wp2_with fail
        go_ret
        exact ⟨ret_int HF.out.symm, by first | exact below_drew HW.out.bl _ | exact below_drew (below_drew HW.out.bl _) _ | exact below_drew (below_drew (below_drew HW.out.bl _) _) _⟩
      · have HF := hid (HO.out.trans (ordPs_end X Y k (by omega) (by omega)))
        clear HO
        go_wp2_with fail
        refine (sign_is _ _ 0 _ ?hk).mono ?_
        case hk => simp [show ¬ Y.length < X.length by omega]
        rintro e w' ⟨rfl, rfl⟩
        go_wp2_with fail
        go_ret
        exact ⟨ret_int HF.out.symm, by first | exact below_drew HW.out.bl _ | exact below_drew (below_drew HW.out.bl _) _ | exact below_drew (below_drew (below_drew HW.out.bl _) _) _⟩

theorem orderVer_any (s t : ByteArray) (w : World) (hs : s.size < 999999) (ht : t.size < 999999) (h1 : verErr s.data.toList = 0) (h2 : verErr t.data.toList = 0) :
    Calls Tryz.prog 122 #[.string s, .string t] w fun e w' => e = .returned (.int .i64 (ordV s.data.toList t.data.toList)) ∧ Below w.heap.size w w' := by
  obtain ⟨X, hX⟩ : ∃ X, bl X = preOf s.data.toList := ⟨_, bl_strs _⟩
  obtain ⟨Y, hY⟩ : ∃ X, bl X = preOf t.data.toList := ⟨_, bl_strs _⟩
  have hA := verOf_good s w (by omega) h1 X hX
  have hT := fun W => verOf_good t W (by omega) h2 Y hY
  have lX : X.length ≤ 1000000 := by have := pre_len (l := s.data.toList); rw [← hX, bl_len, len_eq] at this; omega
  have lY : Y.length ≤ 1000000 := by have := pre_len (l := t.data.toList); rw [← hY, bl_len, len_eq] at this; omega
  have pX : ∀ x, x ∈ X → x.size ≤ maxLen ∧ part x.data.toList = 0 := fun x hx => by
    have hm : x.data.toList ∈ preOf s.data.toList := hX ▸ bl_mem hx
    refine ⟨?_, ver_parts h1 _ hm⟩
    have := pre_size hm
    rw [len_eq, len_eq] at this
    unfold maxLen; omega
  have pY : ∀ x, x ∈ Y → x.size ≤ maxLen ∧ part x.data.toList = 0 := fun x hx => by
    have hm : x.data.toList ∈ preOf t.data.toList := hY ▸ bl_mem hx
    refine ⟨?_, ver_parts h2 _ hm⟩
    have := pre_size hm
    rw [len_eq, len_eq] at this
    unfold maxLen; omega
  unfold ordV
  rw [← hX, ← hY]
  generalize nAt s.data.toList 0 = x at *
  generalize nAt s.data.toList 1 = y at *
  generalize nAt s.data.toList 2 = z at *
  generalize nAt t.data.toList 0 = x' at *
  generalize nAt t.data.toList 1 = y' at *
  generalize nAt t.data.toList 2 = z' at *
  unfold ordN
  by_cases e0 : x = x'
  · subst e0
    rw [ci_self, fst0]
    by_cases e1 : y = y'
    · subst e1
      rw [ci_self, fst0]
      by_cases e2 : z = z'
      · subst e2
        rw [ci_self, fst0]
        unfold ordPre
        by_cases f0 : X = []
        · subst f0
          rw [if_pos (show bl [] = [] ∨ bl Y = [] from Or.inl rfl), bl_len]
          by_cases f1 : Y = []
          · subst f1
            exact over_none0 x y z s t w hA hT
          · have hp := List.length_pos_iff.2 f1
            rw [show Lib.compareInt (Y.length : Int) ((bl []).length : Int) = 1 from ci_gt (by show (0 : Int) < _; omega)]
            exact over_none1 x y z Y s t w hp lY hA hT
        · by_cases f1 : Y = []
          · subst f1
            have hp := List.length_pos_iff.2 f0
            rw [if_pos (show bl X = [] ∨ bl [] = [] from Or.inr rfl), bl_len X, show Lib.compareInt ((bl []).length : Int) (X.length : Int) = -1 from ci_lt (by show (0 : Int) < _; omega)]
            exact over_none2 x y z X s t w hp lX hA hT
          · rw [if_neg (by rintro (h | h); exact f0 (bl_nil.1 h); exact f1 (bl_nil.1 h))]
            exact over_some x y z X Y s t w (List.length_pos_iff.2 f0) (List.length_pos_iff.2 f1) lX lY pX pY hA hT
      · rw [fst_ne _ (fun h => e2 ((ci_zero _ _).1 h))]
        exact over_2 x y z z' X Y s t w e2 hA hT
    · rw [fst_ne _ (fun h => e1 ((ci_zero _ _).1 h))]
      exact over_1 x y y' z z' X Y s t w e1 hA hT
  · rw [fst_ne _ (fun h => e0 ((ci_zero _ _).1 h))]
    exact over_0 x x' y y' z z' X Y s t w e0 hA hT
end Ve
end Go.Proofs.YtffjaliegglddaaGreatDoor

/-
  What Check, Less and Max of package ver answer, and the document's IsLess and MaxOf: the same; nothing old in memory turns.
-/
namespace Go.Proofs.YtffjaliegglddaaGreatDoor
open Go.RowKit
namespace Ve

def maxB (s t : ByteArray) : ByteArray :=
  if verErr s.data.toList = 0 then (if verErr t.data.toList = 0 then (if ordV s.data.toList t.data.toList < 0 then t else s) else s) else if verErr t.data.toList = 0 then t else ⟨#[]⟩

set_option maxHeartbeats 1000000 in
theorem isLess_any (s t : ByteArray) (w : World) (hs : s.size < 999999) (ht : t.size < 999999) :
    Calls Tryz.prog 84 #[.string s, .string t] w fun e w' => e = .returned (.bool (lessB s.data.toList t.data.toList)) ∧ Below w.heap.size w w' := by
  have HL := hid (show lessB s.data.toList t.data.toList = (decide (verErr s.data.toList = 0) && (decide (verErr t.data.toList = 0) && decide (ordV s.data.toList t.data.toList < 0))) from rfl)
  have HA := hid (isVer_any s w (by omega))
  have HT := hid (fun W => isVer_any t W (by omega))
  by_cases h1 : verErr s.data.toList = 0
  all_goals by_cases h2 : verErr t.data.toList = 0
  · have HO := hid (fun W => orderVer_any s t W hs ht h1 h2)
    rw [decide_eq_true h1] at HA
    rw [decide_eq_true h2] at HT
    rw [decide_eq_true h1, decide_eq_true h2] at HL
    clear h1 h2
    generalize ordV s.data.toList t.data.toList = k at *
    go_enter Tryz.func84, Tryz.ntmps84
    go_wp2_with fail
    refine HA.out.mono ?_
    rintro e w1 ⟨rfl, hb1⟩
    have HB1 := hid hb1
    clear hb1
    go_wp2_with fail
    refine (HT.out _).mono ?_
    rintro e w2 ⟨rfl, hb2⟩
    have HB2 := hid (HB1.out.trans (hb2.mono HB1.out.size))
    clear hb2
    go_wp2_with fail
    refine (HO.out _).mono ?_
    rintro e w3 ⟨rfl, hb3⟩
    have HB3 := hid (HB2.out.trans (hb3.mono HB2.out.size))
    clear hb3
    go_wp2_with fail
    go_ret
    exact ⟨ret_bool (by rw [HL.out]; rfl), HB3.out⟩
  · rw [decide_eq_true h1] at HA
    rw [decide_eq_false h2] at HT
    rw [decide_eq_true h1, decide_eq_false h2] at HL
    clear h1 h2
    go_enter Tryz.func84, Tryz.ntmps84
    go_wp2_with fail
    refine HA.out.mono ?_
    rintro e w1 ⟨rfl, hb1⟩
    have HB1 := hid hb1
    clear hb1
    go_wp2_with fail
    refine (HT.out _).mono ?_
    rintro e w2 ⟨rfl, hb2⟩
    have HB2 := hid (HB1.out.trans (hb2.mono HB1.out.size))
    clear hb2
    go_wp2_with fail
    go_ret
    exact ⟨ret_bool (by rw [HL.out]; rfl), HB2.out⟩
  · rw [decide_eq_false h1] at HA
    rw [decide_eq_true h2] at HT
    rw [decide_eq_false h1] at HL
    clear h1 h2
    go_enter Tryz.func84, Tryz.ntmps84
    go_wp2_with fail
    refine HA.out.mono ?_
    rintro e w1 ⟨rfl, hb1⟩
    have HB1 := hid hb1
    clear hb1
    go_wp2_with fail
    refine (HT.out _).mono ?_
    rintro e w2 ⟨rfl, hb2⟩
    have HB2 := hid (HB1.out.trans (hb2.mono HB1.out.size))
    clear hb2
    go_wp2_with fail
    go_ret
    exact ⟨ret_bool (by rw [HL.out]; rfl), HB2.out⟩
  · rw [decide_eq_false h1] at HA
    rw [decide_eq_false h2] at HT
    rw [decide_eq_false h1] at HL
    clear h1 h2
    go_enter Tryz.func84, Tryz.ntmps84
    go_wp2_with fail
    refine HA.out.mono ?_
    rintro e w1 ⟨rfl, hb1⟩
    have HB1 := hid hb1
    clear hb1
    go_wp2_with fail
    refine (HT.out _).mono ?_
    rintro e w2 ⟨rfl, hb2⟩
    have HB2 := hid (HB1.out.trans (hb2.mono HB1.out.size))
    clear hb2
    go_wp2_with fail
    go_ret
    exact ⟨ret_bool (by rw [HL.out]; rfl), HB2.out⟩

theorem ret_str {a b : ByteArray} (h : a = b) : Ending.returned (.string a) = .returned (.string b) := by rw [h]
set_option maxHeartbeats 1000000 in
theorem maxOf_any (s t : ByteArray) (w : World) (hs : s.size < 999999) (ht : t.size < 999999) :
    Calls Tryz.prog 85 #[.string s, .string t] w fun e w' => e = .returned (.string (maxB s t)) ∧ Below w.heap.size w w' := by
  have HL := hid (show maxB s t = if verErr s.data.toList = 0 then (if verErr t.data.toList = 0 then (if ordV s.data.toList t.data.toList < 0 then t else s) else s) else if verErr t.data.toList = 0 then t else ⟨#[]⟩ from rfl)
  have HA := hid (isVer_any s w (by omega))
  have HT := hid (fun W => isVer_any t W (by omega))
  by_cases h1 : verErr s.data.toList = 0
  all_goals by_cases h2 : verErr t.data.toList = 0
  · have HO := hid (fun W => orderVer_any s t W hs ht h1 h2)
    rw [decide_eq_true h1] at HA
    rw [decide_eq_true h2] at HT
    rw [if_pos h1, if_pos h2] at HL
    clear h1 h2
    generalize ordV s.data.toList t.data.toList = k at *
    by_cases hk : k < 0
    · rw [if_pos hk] at HL
      go_enter Tryz.func85, Tryz.ntmps85
      go_wp2_with fail
      refine HA.out.mono ?_
      rintro e w1 ⟨rfl, hb1⟩
      have HB1 := hid hb1
      clear hb1
      go_wp2_with fail
      refine (HT.out _).mono ?_
      rintro e w2 ⟨rfl, hb2⟩
      have HB2 := hid (HB1.out.trans (hb2.mono HB1.out.size))
      clear hb2
      go_wp2_with fail
      refine (HO.out _).mono ?_
      rintro e w3 ⟨rfl, hb3⟩
      have HB3 := hid (HB2.out.trans (hb3.mono HB2.out.size))
      clear hb3
      go_wp2_with fail
      go_ret
      exact ⟨ret_str HL.out.symm, HB3.out⟩
    · rw [if_neg hk] at HL
      go_enter Tryz.func85, Tryz.ntmps85
      go_wp2_with fail
      refine HA.out.mono ?_
      rintro e w1 ⟨rfl, hb1⟩
      have HB1 := hid hb1
      clear hb1
      go_wp2_with fail
      refine (HT.out _).mono ?_
      rintro e w2 ⟨rfl, hb2⟩
      have HB2 := hid (HB1.out.trans (hb2.mono HB1.out.size))
      clear hb2
      go_wp2_with fail
      refine (HO.out _).mono ?_
      rintro e w3 ⟨rfl, hb3⟩
      have HB3 := hid (HB2.out.trans (hb3.mono HB2.out.size))
      clear hb3
      go_wp2_with fail
      go_ret
      exact ⟨ret_str HL.out.symm, HB3.out⟩
  · rw [decide_eq_true h1] at HA
    rw [decide_eq_false h2] at HT
    rw [if_pos h1, if_neg h2] at HL
    clear h1 h2
    go_enter Tryz.func85, Tryz.ntmps85
    go_wp2_with fail
    refine HA.out.mono ?_
    rintro e w1 ⟨rfl, hb1⟩
    have HB1 := hid hb1
    clear hb1
    go_wp2_with fail
    refine (HT.out _).mono ?_
    rintro e w2 ⟨rfl, hb2⟩
    have HB2 := hid (HB1.out.trans (hb2.mono HB1.out.size))
    clear hb2
    go_wp2_with fail
    go_ret
    exact ⟨ret_str HL.out.symm, HB2.out⟩
  · rw [decide_eq_false h1] at HA
    rw [decide_eq_true h2] at HT
    rw [if_neg h1, if_pos h2] at HL
    clear h1 h2
    go_enter Tryz.func85, Tryz.ntmps85
    go_wp2_with fail
    refine HA.out.mono ?_
    rintro e w1 ⟨rfl, hb1⟩
    have HB1 := hid hb1
    clear hb1
    go_wp2_with fail
    refine (HT.out _).mono ?_
    rintro e w2 ⟨rfl, hb2⟩
    have HB2 := hid (HB1.out.trans (hb2.mono HB1.out.size))
    clear hb2
    go_wp2_with fail
    go_ret
    exact ⟨ret_str HL.out.symm, HB2.out⟩
  · rw [decide_eq_false h1] at HA
    rw [decide_eq_false h2] at HT
    rw [if_neg h1, if_neg h2] at HL
    clear h1 h2
    go_enter Tryz.func85, Tryz.ntmps85
    go_wp2_with fail
    refine HA.out.mono ?_
    rintro e w1 ⟨rfl, hb1⟩
    have HB1 := hid hb1
    clear hb1
    go_wp2_with fail
    refine (HT.out _).mono ?_
    rintro e w2 ⟨rfl, hb2⟩
    have HB2 := hid (HB1.out.trans (hb2.mono HB1.out.size))
    clear hb2
    go_wp2_with fail
    go_ret
    exact ⟨ret_str HL.out.symm, HB2.out⟩

end Ve
end Go.Proofs.YtffjaliegglddaaGreatDoor

/-
  Modules appended to an own row; the document's IsAhead; what is reached rises.
-/
namespace Go.Proofs.YtffjaliegglddaaGreatDoor
open Go.RowKit Go.Maps
namespace Ve

/-- A row of modules, appended to an own one. -/
theorem both_run (X Y : List Bm) (dv sv : Value) (W : World) (B : Nat) (hB : B ≤ W.heap.size) (hX : X.length ≤ 1000) (hY : Y.length ≤ 1000) (ho : W.ownsRow B 25 2 dv X.length (flatM X)) (h : MsAt W sv Y) (he : Em sv Y) :
    ∃ v' W', (Builtin.append_ #[23, 23] 23 #[dv, sv]).run Tryz.prog W = .ok v' W' ∧ W'.ownsRow B 25 2 v' (X ++ Y).length (flatM (X ++ Y)) ∧ W.grownBy W' dv.ownBlock := by
  obtain ⟨i0, hi, hz0, hz1, hz2⟩ := info_parts infoMod
  obtain ⟨a, c, rfl, hc, h2⟩ := h
  have some_case : ∀ a', (∀ j u, (flatM Y)[j]? = some u → W.cell? (a'.add j) = some u) → ∃ v' W', (Builtin.append_ #[23, 23] 23 #[dv, .slice (some a') Y.length c]).run Tryz.prog W = .ok v' W' ∧ W'.ownsRow B 25 2 v' (X ++ Y).length (flatM (X ++ Y)) ∧ W.grownBy W' dv.ownBlock := fun a' hcell => by
    obtain ⟨v', W', h3, h4, h5, _⟩ := run_append_own (P := Tryz.prog) W B 23 23 25 i0 _ 2 32 Tryz.underlying23 hi hz0 hz1 hz2 rfl (by decide) dv X.length (flatM X) ho a' Y.length c (flatM Y) (flatM_len Y) hcell (flat_one Y) (by unfold maxLen; omega) (by omega) hB
    exact ⟨v', W', h3, by rw [List.length_append, flatM_app]; exact h4, h5⟩
  cases Y with
  | nil =>
    rcases he a c rfl rfl with hz | ⟨a', hz⟩
    · refine ⟨dv, W, ?_, by simpa using ho, ⟨rfl, rfl, rfl, Nat.le_refl _, fun _ _ _ => rfl⟩⟩
      show (Builtin.append_ #[23, 23] 23 #[dv, .slice a 0 c]).run Tryz.prog W = _
      rw [hz]
      exact run_append_owned_none (P := Tryz.prog) (w := W) B 23 23 25 i0 2 Tryz.underlying23 hi dv X.length (flatM X) ho
    · have hz' : (Value.slice a ([] : List Bm).length c) = .slice (some a') ([] : List Bm).length c := hz
      rw [hz']
      exact some_case a' (fun j u hj => by simp [flatM] at hj)
  | cons x r =>
    obtain ⟨b, o, rfl, hcell⟩ := h2 (by simp)
    exact some_case ⟨b, o, none⟩ (fun j u hj => by rw [Addr.add_lit]; exact ms_flat hcell j u hj)
set_option maxHeartbeats 1000000 in
/-- pewholderref1.IsAhead. -/
theorem isA_any (a b : Bm) (w : World) (hv : a.2.size < 999999) (hu : b.2.size < 999999) :
    Calls Tryz.prog 86 #[.agg #[.string a.1, .string a.2], .agg #[.string b.1, .string b.2]] w fun e w' => e = .returned (.bool (mAhead a b)) ∧ Below w.heap.size w w' := by
  obtain ⟨p, v⟩ := a
  obtain ⟨q, u⟩ := b
  have HO := hid (show mAhead (p, v) (q, u) = if p.data.toList = q.data.toList then lessB v.data.toList u.data.toList else decide (Lib.compareBytes p.data.toList q.data.toList < 0) from rfl)
  have HB0 := hid (((Below.refl w.heap.size w).alloc (Nat.le_refl _) (.cells #[.string p, .string v] 25)).alloc (by simp) (.cells #[.string q, .string u] 25))
  simp only at hv hu
  by_cases h : p = q
  · subst h
    rw [if_pos rfl] at HO
    have he := str_refl p
    have HL := hid (fun W => isLess_any v u W hv hu)
    go_enter Tryz.func86, Tryz.ntmps86
    go_wp2_with fail
    refine (HL.out _).mono ?_
    rintro e w1 ⟨rfl, hb⟩
    have HB := hid (HB0.out.trans (hb.mono HB0.out.size))
    clear hb
    go_wp2_with fail
    go_ret
    exact ⟨ret_bool HO.out.symm, HB.out⟩
  · rw [if_neg (fun e => h (str_ext e))] at HO
    have he := str_ne h
    have HC := hid (show Op.bytesLess p.toList q.toList = decide (Lib.compareBytes p.data.toList q.data.toList < 0) by rw [cb_less, ByteArray.toList_eq, ByteArray.toList_eq])
    clear h
    go_enter Tryz.func86, Tryz.ntmps86
    go_wp2_with fail
    go_ret
    exact ⟨ret_bool (by rw [HO.out, ← HC.out]), HB0.out⟩
theorem univ_eq {w : World} {v : Value} {Q : List Raw} {L : List Ent} (I : Ixs w v Q L) : Q.map (fun r => r.1) = univ L := by
  apply List.ext_getElem
  · simp [univ, I.ln]
  · intro j h1 h2
    have hq : j < Q.length := by simpa using h1
    have hl : j < L.length := by rw [← I.ln]; exact hq
    simp only [univ, List.getElem_map]
    exact (I.ok j hq hl).m
theorem univ_rises {Q : List Raw} {L : List Ent} (h : (chk Q L).1 = 0) : (univ L).Pairwise fun a b => mAhead a b = true := by
  rw [List.pairwise_iff_getElem]
  intro i j hi hj hij
  have hi2 : i < L.length := by simpa [univ] using hi
  have hj2 : j < L.length := by simpa [univ] using hj
  obtain ⟨d, rfl⟩ : ∃ d, j = i + d + 1 := ⟨j - i - 1, by omega⟩
  have := ahead_all (chk_each0 h).2 d i hj2
  simpa [univ] using this
theorem goM_rises {w : World} {v : Value} {Q : List Raw} {L : List Ent} {T : By} (I : Ixs w v Q L) (h : (chk Q L).1 = 0) : (goM T Q).Pairwise fun a b => mAhead a b = true := by
  have h1 := univ_rises h
  rw [← univ_eq I] at h1
  have h2 : (goM T Q).Sublist (Q.map fun r => r.1) := by
    unfold goM goQ
    exact List.Sublist.map _ List.filter_sublist
  exact h1.sublist h2
/-- What two lists of roots reach together is what each of them reaches. -/
theorem came_app {req : Bm → List Bm} {U a b : List Bm} {Ta Tb Tc : By} (ha : Came req U a Ta) (hb : Came req U b Tb) (hc : Came req U (a ++ b) Tc) (m : Bm) : cameB Tc m = (cameB Ta m || cameB Tb m) := by
  rw [Bool.eq_iff_iff, Bool.or_eq_true, hc.cameB, ha.cameB, hb.cameB]
  exact Rch.app
theorem goM_has {w : World} {v : Value} {Q : List Raw} {L : List Ent} {T : By} (I : Ixs w v Q L) {m : Bm} (hm : m ∈ univ L) : hasM (goM T Q) m = cameB T m := by
  rw [Bool.eq_iff_iff, hasM_iff]
  constructor
  · intro h
    obtain ⟨r, hr, rfl⟩ := List.mem_map.1 h
    exact (List.mem_filter.1 hr).2
  · intro h
    obtain ⟨e, he, rfl⟩ := List.mem_map.1 hm
    obtain ⟨j, hj, rfl⟩ := List.getElem_of_mem he
    have hjq : j < Q.length := by rw [I.ln]; exact hj
    have hm1 := (I.ok j hjq hj).m
    refine List.mem_map.2 ⟨Q[j], List.mem_filter.2 ⟨List.getElem_mem hjq, ?_⟩, hm1⟩
    show cameB T Q[j].1 = true
    rw [hm1]
    exact h
end Ve
end Go.Proofs.YtffjaliegglddaaGreatDoor

/-
  slices.Grow of nothing, and slices.Concat of two rows of modules.
-/
namespace Go.Proofs.YtffjaliegglddaaGreatDoor
open Go.RowKit
namespace Ve

theorem zero_len (n : Nat) : (Builtin.zeroCells (Value.agg #[.string ⟨#[]⟩, .string ⟨#[]⟩]).cells n).size = n * 2 := by
  simp [Builtin.zeroCells, Value.cells]
set_option maxHeartbeats 2000000 in
theorem grow_zero (w : World) : Calls Tryz.prog 104 #[.slice none 0 0, .int .i64 0] w fun e w' => e = .returned (.slice none 0 0) ∧ Below w.heap.size w w' := by
  go_enter Tryz.func104, Tryz.ntmps104
  go_wp2_with fail
  go_ret
  exact ⟨rfl, Below.refl _ _⟩
set_option maxRecDepth 100000 in
set_option maxHeartbeats 4000000 in
theorem grow_some (n : Nat) (w : World) (h0 : 0 < n) (hn : n ≤ 1000000) : Calls Tryz.prog 104 #[.slice none 0 0, .int .i64 (n : Int)] w fun e w' => ∃ v, e = .returned v ∧ w'.ownsRow w.heap.size 25 2 v 0 [] ∧ Below w.heap.size w w' := by
  obtain ⟨i0, hi, hz0, hz1, hz2⟩ := info_parts infoMod
  have HA := hid (fun (W : World) ty => Lib.run_append_nil_zeros (P := Tryz.prog) W 23 3 ty 25 i0 (.agg #[.string ⟨#[]⟩, .string ⟨#[]⟩]) .i64 .i64 Tryz.underlying23 Tryz.underlying3 hi hz0 n h0 (by rw [hz1]; omega) (by omega) (by rw [hz2]; omega))
  have hn0 : ¬ (n : Int) < 0 := by omega
  have hn1 : (0 : Int) < (n : Int) := by omega
  go_enter Tryz.func104, Tryz.ntmps104
  go_wp2_with (at_builtin; refine Lib.wpList_append_run _ rfl _ _ _ _ rfl _ _ rfl rfl _ _ (HA.out _ _) ?_)
  go_ret
  refine ⟨_, rfl, ⟨by simp, Or.inr ⟨w.heap.size, grownCap w n 0 25, _, rfl, Nat.le_refl _, heap_new w _, Nat.zero_le _, grownCap_le_maxLen w n 0 25 (by unfold maxLen; omega), ?_, by simp⟩⟩, below_drawn_of ((Below.refl w.heap.size w).alloc (Nat.le_refl _) _) 1⟩
  have h1 := zero_len n
  have h2 := zero_len (grownCap w n 0 25 - n)
  have h3 := grownCap_ge w n 0 25
  simp only [Value.cells] at h1 h2
  rw [Array.size_append, h1, h2]
  omega
set_option maxRecDepth 100000 in
set_option maxHeartbeats 8000000 in
/-- slices.Concat of two. -/
theorem cat_any (A B : List Bm) (va vb : Value) (lb : Nat) (w : World) (c0 : w.cell? ⟨lb, 0, none⟩ = some va) (c1 : w.cell? ⟨lb, 1, none⟩ = some vb) (hA : MsAt w va A) (hB : MsAt w vb B) (eA : Em va A) (eB : Em vb B) (lA : A.length ≤ 500) (lB : B.length ≤ 500) :
    Calls Tryz.prog 75 #[.slice (some ⟨lb, 0, none⟩) 2 2] w fun e w' => ∃ v, e = .returned v ∧ w'.ownsRow w.heap.size 25 2 v (A ++ B).length (flatM (A ++ B)) ∧ Below w.heap.size w w' := by
  obtain ⟨aa, ac, ea⟩ : ∃ a c, va = .slice a A.length c := by obtain ⟨a, c, e, _⟩ := hA; exact ⟨a, c, e⟩
  obtain ⟨ba, bc, eb⟩ : ∃ a c, vb = .slice a B.length c := by obtain ⟨a, c, e, _⟩ := hB; exact ⟨a, c, e⟩
  subst ea eb
  have HA := hid hA
  have HB := hid hB
  have HEA := hid eA
  have HEB := hid eB
  clear hA hB eA eB
  go_enter Tryz.func75, Tryz.ntmps75
  go_wp2_with fail
  go_loopw [3, 11] (fun s i wr => Hid (wr = w) ∧ ((s = .int .i64 0 ∧ i = .int .i64 0) ∨ (s = .int .i64 (A.length : Int) ∧ i = .int .i64 1) ∨ (s = .int .i64 ((A.length + B.length : Nat) : Int) ∧ i = .int .i64 2))) (fun _ i _ => 2 - (intOf i).toNat)
  case atStart => exact ⟨hid rfl, Or.inl ⟨rfl, rfl⟩⟩
  case round =>
    obtain ⟨HWR, ⟨rfl, rfl⟩ | ⟨rfl, rfl⟩ | ⟨rfl, rfl⟩⟩ := hrel
    all_goals obtain rfl := HWR.out
    all_goals clear HWR
    · have q1 : ¬ (A.length : Int) < 0 := by omega
      go_wp2_with fail
      go_roundw
      case rel => exact ⟨hid trivial, Or.inr (Or.inl ⟨rfl, rfl⟩)⟩
      case measure => decide
    · have q1 : ¬ (A.length : Int) + (B.length : Int) < 0 := by omega
      go_wp2_with fail
      go_roundw
      case rel => exact ⟨hid trivial, Or.inr (Or.inr ⟨by go_num, rfl⟩)⟩
      case measure => decide
    · have HG := hid (show Calls Tryz.prog 104 #[.slice none 0 0, .int .i64 ((A.length + B.length : Nat) : Int)] wr fun e w' => ∃ v, e = .returned v ∧ w'.ownsRow wr.heap.size 25 2 v 0 [] ∧ Below wr.heap.size wr w' by
        by_cases h0 : A.length + B.length = 0
        · rw [h0]
          exact (grow_zero wr).mono fun _ _ h => ⟨_, h.1, World.ownsRow_nil _ _ _ _, h.2⟩
        · exact grow_some (A.length + B.length) wr (by omega) (by omega))
      go_wp2_with fail
      refine HG.out.mono ?_
      rintro e w1 ⟨v0, rfl, hown, hb⟩
      have HO := hid hown
      have HBL := hid hb
      obtain ⟨oa, on, oc, hv0⟩ := own_sl hown
      subst hv0
      clear hown hb HG
      go_wp2_with fail
      go_loopw [6, 27] (fun v i W => ∃ (k : Nat) (X : List Bm), i = .int .i64 (k : Int) ∧ ((k = 0 ∧ X = []) ∨ (k = 1 ∧ X = A) ∨ (k = 2 ∧ X = A ++ B)) ∧ Hid (W.ownsRow wr.heap.size 25 2 v X.length (flatM X)) ∧ Hid (Below wr.heap.size wr W)) (fun _ i _ => 2 - (intOf i).toNat)
      case atStart => exact ⟨0, [], rfl, Or.inl ⟨rfl, rfl⟩, HO, HBL⟩
      case round =>
        obtain ⟨k, X, rfl, hk, HOW, HBW⟩ := hrel
        have HSZ := hid HBW.out.size
        rcases hk with ⟨rfl, rfl⟩ | ⟨rfl, rfl⟩ | ⟨rfl, rfl⟩
        · have d0 := cell_below HBW.out c0
          obtain ⟨v2, W2, hrun, ho2, hg2⟩ := both_run [] A _ _ wr _ HSZ.out (by simp) (by omega) HOW.out (HA.out.below HBW.out) HEA.out
          have HRUN := hid hrun
          have HO2 := hid (show W2.ownsRow _ 25 2 v2 A.length (flatM A) from ho2)
          have HB2 := hid (HBW.out.grown hg2 HBW.out.size (fun k hk => (HOW.out.lt k hk).1))
          clear hrun ho2 hg2
          go_wp2_with (at_builtin; refine Lib.wpList_append_run _ rfl _ _ _ _ rfl _ _ rfl rfl _ _ HRUN.out ?_)
          go_roundw
          case rel => exact ⟨1, A, rfl, Or.inr (Or.inl ⟨rfl, rfl⟩), HO2, HB2⟩
          case measure => decide
        · have d1 := cell_below HBW.out c1
          obtain ⟨v2, W2, hrun, ho2, hg2⟩ := both_run X B _ _ wr _ HSZ.out (by omega) (by omega) HOW.out (HB.out.below HBW.out) HEB.out
          have HRUN := hid hrun
          have HO2 := hid ho2
          have HB2 := hid (HBW.out.grown hg2 HBW.out.size (fun k hk => (HOW.out.lt k hk).1))
          clear hrun ho2 hg2
          go_wp2_with (at_builtin; refine Lib.wpList_append_run _ rfl _ _ _ _ rfl _ _ rfl rfl _ _ HRUN.out ?_)
          go_roundw
          case rel => exact ⟨2, X ++ B, rfl, Or.inr (Or.inr ⟨rfl, rfl⟩), HO2, HB2⟩
          case measure => decide
        · go_wp2_with fail
          go_ret
          exact ⟨_, rfl, HOW.out, HBW.out⟩
end Ve
end Go.Proofs.YtffjaliegglddaaGreatDoor

/-
  mvs.Join: of each path of both the greater version.
-/
namespace Go.Proofs.YtffjaliegglddaaGreatDoor
open Go.RowKit
namespace Ve

theorem insM_nil (a : Option Addr) (c : Nat) (W : World) : Calls Tryz.prog 128 #[.slice a 0 c, .int .i64 0, .int .i64 0, .func (.func 71) #[] #[]] W fun e w' => e = .returned (.tuple #[]) ∧ w' = W := by
  go_enter Tryz.func128, Tryz.ntmps128
  go_wp2_with fail
  go_loop [8] (fun i => i = .int .i64 1) (fun _ => 0)
  case atStart => rfl
  case round =>
    obtain rfl := hrel
    go_wp2_with fail
    go_end0
    exact ⟨rfl, rfl⟩
set_option maxRecDepth 100000 in
set_option maxHeartbeats 2000000 in
theorem pdqM_nil (a : Option Addr) (c : Nat) (n : Int) (W : World) : Calls Tryz.prog 100 #[.slice a 0 c, .int .i64 0, .int .i64 0, .int .i64 n, .func (.func 71) #[] #[]] W fun e w' => e = .returned (.tuple #[]) ∧ w' = W := by
  have HI := hid (insM_nil a c W)
  go_enter Tryz.func100, Tryz.ntmps100
  go_wp2_with fail
  go_loop [1, 2, 3, 10, 11] (fun a b _ _ _ => a = .int .i64 0 ∧ b = .int .i64 0) (fun _ _ _ _ _ => 0)
  case atStart => exact ⟨rfl, rfl⟩
  case round =>
    obtain ⟨rfl, rfl⟩ := hrel
    go_wp2_with fail
    refine HI.out.mono ?_
    rintro e w' ⟨rfl, rfl⟩
    go_wp2_with fail
    first | (go_end0; exact ⟨rfl, rfl⟩) | (go_ret; exact ⟨rfl, rfl⟩) | (refine bodyPost_ret (v := .tuple #[]) (by simp [results, Tryz.results100]) rfl ⟨rfl, rfl⟩)
set_option maxHeartbeats 1000000 in
theorem sortM_nil (a : Option Addr) (c : Nat) (W : World) : Calls Tryz.prog 70 #[.slice a 0 c, .func (.func 71) #[] #[]] W fun e w' => e = .returned (.tuple #[]) ∧ Below W.heap.size W w' := by
  have HLN := hid (show Calls Tryz.prog 101 #[.int .u64 0] W fun e w' => e = .returned (.int .i64 (Lib.bitLen 0 : Nat)) ∧ w' = W from by
    have h := Any.bits_Len (SlLaysF0.n15.bits (P := Tryz.prog) (ρ := Tryz.sortMods_ren) { Tryz.sortMods with }) 0 W (by omega) (by omega)
    exact h)
  have HP := hid (fun n => pdqM_nil a c n W)
  go_enter Tryz.func70, Tryz.ntmps70
  go_wp2_with fail
  refine HLN.out.mono ?_
  rintro e w' ⟨rfl, rfl⟩
  go_wp2_with fail
  refine (HP.out _).mono ?_
  rintro e w' ⟨rfl, rfl⟩
  go_wp2_with fail
  go_end0
  exact ⟨rfl, Below.refl _ _⟩
set_option maxHeartbeats 1000000 in
theorem delM_nil (a : Option Addr) (c : Nat) (W : World) : Calls Tryz.prog 74 #[.slice a 0 c, .func (.func 76) #[] #[]] W fun e w' => e = .returned (.slice a 0 c) ∧ Below W.heap.size W w' := by
  have HI := hid (idxM_none 76 #[] a c W)
  go_enter Tryz.func74, Tryz.ntmps74
  go_wp2_with fail
  refine HI.out.mono ?_
  rintro e w1 ⟨rfl, hb⟩
  have HB := hid hb
  clear hb
  go_wp2_with fail
  go_ret
  exact ⟨rfl, HB.out⟩
/-- A row of modules that a call owns: nothing, or in a block of its own. -/
def Mr (w0 W : World) (v : Value) (D : List Bm) : Prop := Below w0.heap.size w0 W ∧ ∃ a cap, v = .slice a D.length cap ∧ D.length ≤ cap ∧ ((D = [] ∧ (a = none → cap = 0)) ∨ ∃ g, a = some ⟨g, 0, none⟩ ∧ Mw w0 W g D)
theorem Mr.ms {w0 W : World} {v : Value} {D : List Bm} (h : Mr w0 W v D) : MsAt W v D := by
  obtain ⟨_, a, cap, rfl, hc, ⟨rfl, _⟩ | ⟨g, rfl, h⟩⟩ := h
  · exact ⟨a, cap, rfl, hc, fun h => absurd rfl h⟩
  · exact h.ms hc
theorem Mr.em {w0 W : World} {v : Value} {D : List Bm} (h : Mr w0 W v D) : Em v D := by
  obtain ⟨_, a, cap, rfl, hc, h⟩ := h
  intro a' c' e hD
  injection e with e1 e2 e3
  subst e1 e3
  cases a with
  | some a' => exact Or.inr ⟨a', rfl⟩
  | none =>
    rcases h with ⟨_, h0⟩ | ⟨g, h, _⟩
    · rw [h0 rfl]; exact Or.inl rfl
    · cases h
theorem mr_own {w0 W : World} {v : Value} {L : List Bm} (h : W.ownsRow w0.heap.size 25 2 v L.length (flatM L)) (hb : Below w0.heap.size w0 W) : Mr w0 W v L := by
  by_cases hL : L = []
  · subst hL
    obtain ⟨_, ⟨rfl, _⟩ | ⟨g, cap, cur, rfl, _, _, _, _⟩⟩ := h
    · exact ⟨hb, none, 0, rfl, Nat.le_refl _, Or.inl ⟨rfl, fun _ => rfl⟩⟩
    · exact ⟨hb, _, cap, rfl, Nat.zero_le _, Or.inl ⟨rfl, fun h => by cases h⟩⟩
  · obtain ⟨g, cap, rfl, h1, _, h3⟩ := own_mw h hb hL
    exact ⟨hb, _, cap, rfl, h1, Or.inr ⟨g, rfl, h3⟩⟩
theorem Mr.base {w w0 W : World} {v : Value} {D : List Bm} (h : Mr w0 W v D) (hb : Below w.heap.size w w0) : Mr w W v D := by
  obtain ⟨h1, a, cap, rfl, hc, hk⟩ := h
  refine ⟨hb.trans (h1.mono hb.size), a, cap, rfl, hc, ?_⟩
  rcases hk with hk | ⟨g, rfl, hM⟩
  · exact Or.inl hk
  · exact Or.inr ⟨g, rfl, hb.trans (h1.mono hb.size), Nat.le_trans hb.size hM.lo, hM.hi, hM.fz, hM.c0, hM.c1⟩
theorem Mr.sl {w0 W : World} {v : Value} {D : List Bm} (h : Mr w0 W v D) : ∃ a c, v = .slice a D.length c := by
  obtain ⟨_, a, cap, rfl, _⟩ := h
  exact ⟨a, cap, rfl⟩
set_option maxHeartbeats 2000000 in
/-- mvs.right of two. -/
theorem right_any (X Y : List Bm) (va vb : Value) (lb : Nat) (A : Nat → Addr) (ml : Int) (w : World) (c0 : w.cell? ⟨lb, 0, none⟩ = some va) (c1 : w.cell? ⟨lb, 1, none⟩ = some vb) (hA : MsAt w va X) (hB : MsAt w vb Y) (eA : Em va X) (eB : Em vb Y) (lA : X.length ≤ 500) (lB : Y.length ≤ 500)
    (hz : ∀ r, r ∈ X ++ Y → r.1.size < 999999 ∧ r.2.size < 999999) (S : Te w A ml) :
    Calls Tryz.prog 48 #[.slice (some ⟨lb, 0, none⟩) 2 2] w fun e w' => ∃ v, e = .returned v ∧ Mr w w' v (rightL (X ++ Y)) := by
  have HC := hid (cat_any X Y va vb lb w c0 c1 hA hB eA eB lA lB)
  have HS := hid S
  have HZ := hid hz
  have hl : (X ++ Y).length ≤ 1000 := by simp; omega
  generalize X ++ Y = D at *
  clear hA hB eA eB S hz c0 c1
  go_enter Tryz.func48, Tryz.ntmps48
  go_wp2_with fail
  refine HC.out.mono ?_
  rintro e w1 ⟨v, rfl, hown, hb⟩
  obtain ⟨_, a, cap, rfl, hcap, hk⟩ := mr_own hown hb
  have HBL := hid hb
  clear hown hb
  rcases hk with ⟨rfl, h0⟩ | ⟨g, rfl, hM⟩
  · have HD := hid (delM_nil a cap w1)
    go_wp2_with fail
    refine HD.out.mono ?_
    rintro e w2 ⟨rfl, hb⟩
    have HB2 := hid (HBL.out.trans (hb.mono HBL.out.size))
    clear hb
    go_wp2_with fail
    go_ret
    exact ⟨_, rfl, HB2.out, a, cap, rfl, Nat.zero_le _, Or.inl ⟨rfl, h0⟩⟩
  · have HD := hid (del_mw w w1 g cap D A ml HS.out (by omega) hcap HZ.out hM)
    have HRL := hid (show (rightL D).length ≤ cap from Nat.le_trans (List.length_filter_le _ _) hcap)
    clear hM
    go_wp2_with fail
    refine HD.out.mono ?_
    rintro e w2 ⟨rfl, hm⟩
    have HM2 := hid hm
    clear hm
    go_wp2_with fail
    go_ret
    exact ⟨_, rfl, HM2.out.bl, _, cap, rfl, HRL.out, Or.inr ⟨g, rfl, HM2.out⟩⟩
theorem Jn.nil : Jn [] [] := ⟨List.Pairwise.nil, fun _ h => absurd h (by simp), fun _ h => absurd h (by simp)⟩
theorem Jn.perm {D D' E : List Bm} (h : Jn D' E) (hp : D'.Perm D) : Jn D E :=
  ⟨h.ri, fun e he => ⟨hp.mem_iff.1 (h.sub e he).1, (h.sub e he).2⟩, fun x hx => h.top x (hp.mem_iff.2 hx)⟩
theorem Jn.right {D E : List Bm} (h : Jn (rightL D) E) : Jn D E :=
  ⟨h.ri, fun e he => ⟨(rightL_mem.1 (h.sub e he).1).1, (h.sub e he).2⟩, fun x hx hr => h.top x (rightL_mem.2 ⟨hx, hr⟩) hr⟩
set_option maxHeartbeats 2000000 in
/-- mvs.greatest of a row of its own. -/
theorem great_any (D : List Bm) (v : Value) (A : Nat → Addr) (ml : Int) (w0 w : World) (hM : Mr w0 w v D) (h12 : D.length ≤ 1000000) (hr : ∀ r, r ∈ D → Rt r) (S : Te w0 A ml) :
    Calls Tryz.prog 47 #[v] w fun e w' => ∃ u E, e = .returned u ∧ E.length ≤ D.length ∧ Jn D E ∧ Mr w0 w' u E := by
  obtain ⟨hb, a, cap, rfl, hcap, hk⟩ := hM
  by_cases hD : D = []
  · subst hD
    have HS := hid (sortM_nil a cap w)
    have HC := hid (fun W => compactM_nil a cap W)
    have h0 : a = none → cap = 0 := by
      rcases hk with ⟨_, h0⟩ | ⟨g, rfl, _⟩
      · exact h0
      · intro h; cases h
    have HBL := hid hb
    clear hk hb S
    go_enter Tryz.func47, Tryz.ntmps47
    go_wp2_with fail
    refine HS.out.mono ?_
    rintro e w1 ⟨rfl, hb⟩
    have HB1 := hid (HBL.out.trans (hb.mono HBL.out.size))
    clear hb
    go_wp2_with fail
    refine (HC.out _).mono ?_
    rintro e w2 ⟨rfl, hb⟩
    have HB2 := hid (HB1.out.trans (hb.mono HB1.out.size))
    clear hb
    go_wp2_with fail
    go_ret
    exact ⟨_, [], rfl, Nat.le_refl _, Jn.nil, HB2.out, a, cap, rfl, Nat.zero_le _, Or.inl ⟨rfl, h0⟩⟩
  · obtain ⟨g, rfl, hM⟩ : ∃ g, a = some ⟨g, 0, none⟩ ∧ Mw w0 w g D := by
      rcases hk with ⟨h, _⟩ | h
      · exact absurd h hD
      · exact h
    have HS := hid (sort_mw w0 w g cap D hD h12 A ml S hr hM)
    have HRT := hid hr
    have HD := hid hD
    clear hk hb S hM hr hD
    go_enter Tryz.func47, Tryz.ntmps47
    go_wp2_with fail
    refine HS.out.mono ?_
    rintro e w1 ⟨rfl, D1, hp, hs, hM1⟩
    have hl : D1.length = D.length := hp.length_eq
    have HC := hid (compact_mw w0 w1 g cap D1 (fun e => HD.out (by rw [e] at hl; exact List.length_eq_zero_iff.1 hl.symm)) (by omega) (by omega) (fun r h => HRT.out r (hp.mem_iff.1 h)) hs hM1)
    have HP := hid hp
    rw [hl] at HC
    clear hp hs hM1 HS
    go_wp2_with fail
    refine HC.out.mono ?_
    rintro e w2 ⟨E, rfl, hEl, hj, hM2⟩
    have HJ := hid (hj.perm HP.out)
    have HM2 := hid hM2
    clear hj hM2
    go_wp2_with fail
    go_ret
    exact ⟨_, E, rfl, hEl, HJ.out, HM2.out.bl, _, cap, rfl, by omega, Or.inr ⟨g, rfl, HM2.out⟩⟩
set_option maxHeartbeats 2000000 in
/-- mvs.Join. -/
theorem join_mods (X Y : List Bm) (va vb : Value) (A : Nat → Addr) (ml : Int) (w : World) (hA : MsAt w va X) (hB : MsAt w vb Y) (eA : Em va X) (eB : Em vb Y) (lA : X.length ≤ 500) (lB : Y.length ≤ 500)
    (hz : ∀ r, r ∈ X ++ Y → r.1.size < 999999 ∧ r.2.size < 999999) (S : Te w A ml) :
    Calls Tryz.prog 23 #[va, vb] w fun e w' => ∃ v E, e = .returned v ∧ E.length ≤ (X ++ Y).length ∧ Jn (X ++ Y) E ∧ Mr w w' v E := by
  obtain ⟨aa, an, ac, ea⟩ := hA.slice
  obtain ⟨ba, bn, bc, eb⟩ := hB.slice
  subst ea eb
  have HB0 := hid ((Below.refl w.heap.size w).alloc (Nat.le_refl _) (.cells #[.slice aa an ac, .slice ba bn bc] 23))
  have HR := hid (right_any X Y _ _ w.heap.size A ml (w.alloc (.cells #[.slice aa an ac, .slice ba bn bc] 23)) (by simp) (by simp) (hA.below HB0.out) (hB.below HB0.out) eA eB lA lB hz (S.below HB0.out))
  have HS := hid S
  have HRT := hid (show ∀ r, r ∈ rightL (X ++ Y) → Rt r from fun r h => ⟨(rightL_mem.1 h).2, (hz r (rightL_mem.1 h).1).1, (hz r (rightL_mem.1 h).1).2⟩)
  have hl : (X ++ Y).length ≤ 1000 := by simp; omega
  have HRL := hid (show (rightL (X ++ Y)).length ≤ (X ++ Y).length from List.length_filter_le _ _)
  generalize X ++ Y = D at *
  clear hA hB eA eB S hz
  go_enter Tryz.func23, Tryz.ntmps23
  go_wp2_with fail
  refine HR.out.mono ?_
  rintro e w1 ⟨v, rfl, hm⟩
  have HG := hid (great_any (rightL D) v A ml _ w1 hm (by have := HRL.out; omega) HRT.out (HS.out.below HB0.out))
  obtain ⟨va, vc, hv⟩ := hm.sl
  subst hv
  clear hm HR
  go_wp2_with fail
  refine HG.out.mono ?_
  rintro e w2 ⟨u, E, rfl, hl2, hj, hM⟩
  have HJ := hid hj.right
  have HM := hid (hM.base HB0.out)
  have HEL := hid (Nat.le_trans hl2 HRL.out)
  obtain ⟨ua, uc, hu⟩ := hM.sl
  subst hu
  clear hj hM hl2
  go_wp2_with fail
  go_ret
  exact ⟨_, E, rfl, HEL.out, HJ.out, HM.out⟩
end Ve
end Go.Proofs.YtffjaliegglddaaGreatDoor

/-
  What mvs.Build answers; the closed fact of the statements (built).
-/
namespace Go.Proofs.YtffjaliegglddaaGreatDoor
open Go.RowKit Go.Maps
namespace Ve

theorem goM_sub {w : World} {v : Value} {Q : List Raw} {L : List Ent} (I : Ixs w v Q L) {T : By} {m : Bm} (h : m ∈ goM T Q) : m ∈ univ L := by
  rw [← univ_eq I]
  unfold goM goQ at h
  obtain ⟨r, hr, e⟩ := List.mem_map.1 h
  exact List.mem_map.2 ⟨r, (List.mem_filter.1 hr).1, e⟩
theorem univ_szJ {L : List Ent} (sh : ∀ e, e ∈ L → ShE e) {m : Bm} (h : m ∈ univ L) : m.1.size < 999999 ∧ m.2.size < 999999 := by
  obtain ⟨e, he, rfl⟩ := List.mem_map.1 h
  exact ⟨(sh e he).p, (sh e he).v⟩
theorem goM_lenJ {w : World} {v : Value} {Q : List Raw} {L : List Ent} (I : Ixs w v Q L) (T : By) : (goM T Q).length ≤ L.length := by
  unfold goM goQ
  rw [List.length_map, ← I.ln]
  exact List.length_filter_le _ _
theorem em_none : Em (.slice none 0 0) [] := fun a c e _ => by
  injection e with e1 e2 e3
  subst e1 e3
  exact Or.inl rfl
theorem ms_none (w : World) : MsAt w (.slice none 0 0) [] := ⟨none, 0, rfl, Nat.le_refl _, fun h => absurd rfl h⟩
set_option maxRecDepth 100000 in
set_option maxHeartbeats 2000000 in
theorem build_bad (Q : List Raw) (L : List Ent) (roots : List Bm) (v rv : Value) (A : Nat → Addr) (m : Int) (w : World) (hn : L.length ≤ 1000) (hrn : roots.length ≤ 1000000) (sh : ∀ e, e ∈ L → ShE e) (S : Te w A m) (I : Ixs w v Q L) (hr : MsAt w rv roots) (h0 : (chkG Q L roots).1 ≠ 0) :
    Calls Tryz.prog 25 #[v, rv] w fun e w' => ∃ T a, e = .returned (.tuple #[.slice none 0 0, .iface T (.pointer (some a))]) ∧ ErrAt w' A (.iface T (.pointer (some a))) (chkG Q L roots).1 (chkG Q L roots).2 ∧ Below w.heap.size w w' := by
  have HCK := hid (reach_bad Q L roots v rv A m w hn hrn sh S I hr h0)
  obtain ⟨a, c, hv, -⟩ := id I.es
  subst hv
  obtain ⟨ra, rc, hrv, -⟩ := id hr
  subst hrv
  clear S I hr sh h0
  go_enter Tryz.func25, Tryz.ntmps25
  go_wp2_with fail
  refine HCK.out.mono ?_
  rintro e w1 ⟨T, xa, rfl, he, hb⟩
  have HB := hid hb
  have HE := hid he
  clear hb he HCK
  go_wp2_with fail
  go_ret2
  exact ⟨_, _, rfl, HE.out, HB.out⟩
/-- What is built: of what is reached, of each path the greatest. -/
structure Bt (Q : List Raw) (L : List Ent) (roots E : List Bm) : Prop where
  c : ∃ T, Came (reqQ Q L) (univ L) roots T ∧ Jn (goM T Q) E ∧ E.length ≤ (goM T Q).length
set_option maxRecDepth 100000 in
set_option maxHeartbeats 2000000 in
theorem build_good (Q : List Raw) (L : List Ent) (roots : List Bm) (v rv : Value) (A : Nat → Addr) (m : Int) (w : World) (hn : L.length ≤ 1000) (hrn : roots.length ≤ 1000000) (sh : ∀ e, e ∈ L → ShE e) (S : Te w A m) (I : Ixs w v Q L) (hr : MsAt w rv roots) (h0 : (chkG Q L roots).1 = 0) :
    Calls Tryz.prog 25 #[v, rv] w fun e w' => ∃ u E, e = .returned (.tuple #[u, .nilIface]) ∧ Bt Q L roots E ∧ Mr w w' u E := by
  have HRE := hid (reach_good Q L roots v rv A m w hn hrn sh S I hr h0)
  have hl : L.length ≤ 100 := by
    by_cases hc : (chk Q L).1 = 0
    · exact (chk_each0 hc).1
    · rw [chkG_bad hc] at h0; exact absurd h0 hc
  have HS := hid S
  have HI := hid I
  have HSH := hid sh
  obtain ⟨a, c, hv, -⟩ := id I.es
  subst hv
  obtain ⟨ra, rc, hrv, -⟩ := id hr
  subst hrv
  clear S I hr sh h0
  go_enter Tryz.func25, Tryz.ntmps25
  go_wp2_with fail
  refine HRE.out.mono ?_
  rintro e w1 ⟨u, rfl, T, hcm, hown, hb⟩
  have HCM := hid hcm
  have HB := hid hb
  have hgl := goM_lenJ HI.out T
  have HM := hid (mr_own hown hb)
  have HJ := hid (join_mods (goM T Q) [] u (.slice none 0 0) A m w1 HM.out.ms (ms_none w1) HM.out.em em_none (by omega) (by simp) (fun r hr => univ_szJ HSH.out (goM_sub HI.out (by simpa using hr))) (HS.out.below hb))
  rw [List.append_nil] at HJ
  obtain ⟨ua, uc, hu⟩ := HM.out.sl
  subst hu
  clear hcm hown hb HRE HM
  go_wp2_with fail
  refine HJ.out.mono ?_
  rintro e w2 ⟨x, E, rfl, hel, hj, hm⟩
  have HMX := hid (hm.base HB.out)
  have HBT := hid (show Bt Q L roots E from ⟨T, HCM.out, hj, hel⟩)
  obtain ⟨xa, xc, hx⟩ := hm.sl
  subst hx
  clear hel hj hm HJ
  go_wp2_with fail
  go_ret2
  exact ⟨_, E, rfl, HBT.out, HMX.out⟩
theorem sm_chkG2 (g : Nat) : (chkG (smQ g) smL [ma0, ma1]).1 = 0 := by
  rw [chkG_ok (by rw [sm_chk])]
  show codeE (nonE (smQ g) [ma0, ma1]) 2 = 0
  kernel_rfl
theorem sm_go2 {g : Nat} {T : By} (h : Came (reqQ (smQ g) smL) (univ smL) [ma0, ma1] T) : goM T (smQ g) = [ma0, ma1, mb0] := by
  have c0 : cameB T ma0 = true := (h.cameB _).2 (.root (by simp))
  have c1 : cameB T ma1 = true := (h.cameB _).2 (.root (by simp))
  have cb : cameB T mb0 = true := (h.cameB _).2 (.step (.root (show ma1 ∈ [ma0, ma1] by simp)) (by rw [sm_r1]; simp))
  unfold goM goQ smQ
  simp [c0, c1, cb]
theorem sm_jn : Jn [ma0, ma1, mb0] [ma1, mb0] := by
  have e0 : decide (ordV (vb ma0) (vb ma1) ≤ 0) = true := by kernel_rfl
  have e1 : decide (ordV (vb ma1) (vb ma1) ≤ 0) = true := by kernel_rfl
  have e2 : decide (ordV (vb mb0) (vb mb0) ≤ 0) = true := by kernel_rfl
  have m1 : mErr ma1 = 0 := by kernel_rfl
  have m2 : mErr mb0 = 0 := by kernel_rfl
  have l1 : lt ma1.1 mb0.1 = true := by kernel_rfl
  refine ⟨?_, fun e he => ?_, fun x hx _ => ?_⟩
  · refine List.pairwise_cons.2 ⟨fun b hb => ?_, List.pairwise_singleton _ _⟩
    rw [List.mem_singleton.1 hb]; exact l1
  · rcases List.mem_cons.1 he with rfl | he
    · exact ⟨by simp, m1⟩
    · rw [List.mem_singleton.1 he]; exact ⟨by simp, m2⟩
  · rcases List.mem_cons.1 hx with rfl | hx
    · exact ⟨ma1, by simp, rfl, of_decide_eq_true e0⟩
    · rcases List.mem_cons.1 hx with rfl | hx
      · exact ⟨ma1, by simp, rfl, of_decide_eq_true e1⟩
      · rw [List.mem_singleton.1 hx]
        exact ⟨mb0, by simp, rfl, of_decide_eq_true e2⟩
theorem sm_bt {g : Nat} {E : List Bm} (h : Bt (smQ g) smL [ma0, ma1] E) : E = [ma1, mb0] := by
  obtain ⟨T, h1, h2, _⟩ := h.c
  rw [sm_go2 h1] at h2
  exact h2.one sm_jn (fun _ _ => Iff.rfl)
set_option maxRecDepth 100000 in
set_option maxHeartbeats 4000000 in
/-- pewholderlaw2.built. -/
theorem built_any (A : Nat → Addr) (m : Int) (w : World) (S : Te w A m) : Calls Tryz.prog 21 #[] w fun e w' => e = .returned (.bool true) ∧ Below w.heap.size w w' := by
  have HSM := hid smallI_any
  have HS := hid S
  clear S
  go_enter Tryz.func21, Tryz.ntmps21
  go_wp2_with fail
  refine (HSM.out w).mono ?_
  rintro e w1 ⟨g, q, rfl, hix, hb⟩
  have hBa := (Below.refl w1.heap.size w1).alloc (Nat.le_refl _) (.cells #[.string ⟨#[97]⟩, .string ⟨#[118, 49, 46, 48, 46, 48]⟩, .string ⟨#[97]⟩, .string ⟨#[118, 49, 46, 49, 46, 48]⟩] 25)
  have hB1 := hb.trans (hBa.mono hb.size)
  have hms : MsAt (w1.alloc (.cells #[.string ⟨#[97]⟩, .string ⟨#[118, 49, 46, 48, 46, 48]⟩, .string ⟨#[97]⟩, .string ⟨#[118, 49, 46, 49, 46, 48]⟩] 25)) (.slice (some ⟨w1.heap.size, 0, none⟩) 2 2) [ma0, ma1] := ⟨some ⟨w1.heap.size, 0, none⟩, 2, rfl, Nat.le_refl _, fun _ => ⟨w1.heap.size, 0, rfl, fun j hj => by
    have hj2 : j < 2 := hj
    rcases (by omega : j = 0 ∨ j = 1) with rfl | rfl
    · refine ⟨?_, ?_⟩ <;> (rw [Lib.cell_of_heap (heap_alloc_new w1 _)]; rfl)
    · refine ⟨?_, ?_⟩ <;> (rw [Lib.cell_of_heap (heap_alloc_new w1 _)]; rfl)⟩⟩
  have HBU := hid (build_good (smQ g) smL [ma0, ma1] _ _ A m _ (by decide) (by decide) sm_sh (HS.out.below hB1) (hix.below hBa) hms (sm_chkG2 g))
  have HB1 := hid hB1
  clear hix hb hBa hms hB1
  go_wp2_with fail
  refine HBU.out.mono ?_
  rintro e w2 ⟨u, E, rfl, hbt, hM⟩
  obtain rfl := sm_bt hbt
  have HB2 := hid (HB1.out.trans (hM.1.mono HB1.out.size))
  have hms := hM.ms
  obtain ⟨_, ua, uc, rfl, huc, hk⟩ := hM
  obtain ⟨ug, rfl, hmw⟩ : ∃ g, ua = some ⟨g, 0, none⟩ ∧ Mw _ w2 g [ma1, mb0] := by
    rcases hk with ⟨h, _⟩ | h
    · cases h
    · exact h
  have k0 : w2.cell? ⟨ug, 0, none⟩ = some (.string ⟨#[97]⟩) := hmw.c0 0 (by decide)
  have k1 : w2.cell? ⟨ug, 1, none⟩ = some (.string ⟨#[118, 49, 46, 49, 46, 48]⟩) := hmw.c1 0 (by decide)
  have hm1 : MsAt w2 (.slice (some ⟨ug, 0, none⟩) 1 uc) [ma1] := ⟨_, uc, rfl, by have h2 : 2 ≤ uc := huc; show 1 ≤ uc; omega, fun _ => ⟨ug, 0, rfl, fun j hj => by
    have hj2 : j < 1 := hj
    obtain rfl : j = 0 := by omega
    exact ⟨k0, k1⟩⟩⟩
  have HUN := hid (und_any [ma1] [ma1, mb0] _ _ A m w2 (by decide) (by decide) (fun x hx => by rw [List.mem_singleton.1 hx]; decide) (fun x hx => by
    rcases List.mem_cons.1 hx with rfl | hx
    · decide
    · rw [List.mem_singleton.1 hx]; decide) (HS.out.below HB2.out) hm1 hms)
  have hub : undB [ma1] [ma1, mb0] = true := by kernel_rfl
  rw [hub, show ([ma1, mb0] : List Bm).length = 2 from rfl] at HUN
  have s1 : ((⟨#[118, 49, 46, 49, 46, 48]⟩ : ByteArray).toList == (⟨#[118, 49, 46, 49, 46, 48]⟩ : ByteArray).toList) = true := by simp
  have huc2 : (2 : Int) ≤ (uc : Int) := by have h2 : 2 ≤ uc := huc; omega
  have huc1 : (1 : Int) ≤ (uc : Int) := by omega
  clear hbt hk hmw hms hm1 hub HBU
  go_wp2_with fail
  refine HUN.out.mono ?_
  rintro e w3 ⟨rfl, hb⟩
  have HB3 := hid (HB2.out.trans (hb.mono HB2.out.size))
  clear hb
  go_wp2_with fail
  go_ret
  exact ⟨rfl, HB3.out⟩
end Ve
end Go.Proofs.YtffjaliegglddaaGreatDoor

/-
  pewholderlaw2.MvsParts walked: what two lists of roots build together is what each of them builds, joined.
-/
namespace Go.Proofs.YtffjaliegglddaaGreatDoor
open Go.RowKit Go.Maps
namespace Ve

theorem chkG_bothJ {w : World} {v : Value} {Q : List Raw} {L : List Ent} {a b : List Bm} (I : Ixs w v Q L) (h : (chkG Q L (a ++ b)).1 = 0) : (chkG Q L a).1 = 0 ∧ (chkG Q L b).1 = 0 := by
  have r := rgt_of I h
  exact ⟨chkG_in I r.c (fun m hm => r.r m (List.mem_append_left _ hm)), chkG_in I r.c (fun m hm => r.r m (List.mem_append_right _ hm))⟩
theorem goM_memJ {T : By} {Q : List Raw} {m : Bm} : m ∈ goM T Q ↔ cameB T m = true ∧ ∃ r, r ∈ Q ∧ r.1 = m := by
  unfold goM goQ
  rw [List.mem_map]
  constructor
  · rintro ⟨r, hr, rfl⟩
    obtain ⟨h1, h2⟩ := List.mem_filter.1 hr
    exact ⟨h2, r, h1, rfl⟩
  · rintro ⟨h1, r, hr, rfl⟩
    exact ⟨r, List.mem_filter.2 ⟨hr, h1⟩, rfl⟩
/-- Built together: what each builds, joined. -/
theorem bt_parts {Q : List Raw} {L : List Ent} {a b Ea Eb Ec F : List Bm} (ha : Bt Q L a Ea) (hb : Bt Q L b Eb) (hc : Bt Q L (a ++ b) Ec) (hj : Jn (Ea ++ Eb) F) : Ec = F := by
  obtain ⟨Ta, ca, ja, _⟩ := ha.c
  obtain ⟨Tb, cb, jb, _⟩ := hb.c
  obtain ⟨Tc, cc, jc, _⟩ := hc.c
  have hT := came_app ca cb cc
  have mem : ∀ m, m ∈ goM Tc Q ↔ m ∈ goM Ta Q ∨ m ∈ goM Tb Q := fun m => by
    rw [goM_memJ, goM_memJ, goM_memJ, hT m, Bool.or_eq_true]
    constructor
    · rintro ⟨h | h, h2⟩
      · exact Or.inl ⟨h, h2⟩
      · exact Or.inr ⟨h, h2⟩
    · rintro (⟨h, h2⟩ | ⟨h, h2⟩)
      · exact ⟨Or.inl h, h2⟩
      · exact ⟨Or.inr h, h2⟩
  have jF : Jn (goM Tc Q) F := by
    refine ⟨hj.ri, fun e he => ?_, fun x hx hr => ?_⟩
    · obtain ⟨h1, h2⟩ := hj.sub e he
      refine ⟨(mem e).2 ?_, h2⟩
      rcases List.mem_append.1 h1 with h | h
      · exact Or.inl (ja.sub e h).1
      · exact Or.inr (jb.sub e h).1
    · have up : ∀ e, e ∈ Ea ++ Eb → e.1 = x.1 → mErr e = 0 → ordV (vb x) (vb e) ≤ 0 → ∃ f, f ∈ F ∧ f.1 = x.1 ∧ ordV (vb x) (vb f) ≤ 0 := fun e he e1 er e2 => by
        obtain ⟨f, hf, f1, f2⟩ := hj.top e he er
        exact ⟨f, hf, f1.trans e1, ordV_le_trans (mErr_zero hr).2 (mErr_zero er).2 (mErr_zero (hj.sub f hf).2).2 e2 f2⟩
      rcases (mem x).1 hx with h | h
      · obtain ⟨e, he, e1, e2⟩ := ja.top x h hr
        exact up e (List.mem_append_left _ he) e1 (ja.sub e he).2 e2
      · obtain ⟨e, he, e1, e2⟩ := jb.top x h hr
        exact up e (List.mem_append_right _ he) e1 (jb.sub e he).2 e2
  exact jc.one jF (fun _ _ => Iff.rfl)
theorem Bt.sz {w : World} {v : Value} {Q : List Raw} {L : List Ent} {a E : List Bm} (h : Bt Q L a E) (I : Ixs w v Q L) (sh : ∀ e, e ∈ L → ShE e) : ∀ r, r ∈ E → r.1.size < 999999 ∧ r.2.size < 999999 := fun r hr => by
  obtain ⟨T, _, j, _⟩ := h.c
  exact univ_szJ sh (goM_sub I (j.sub r hr).1)
theorem Bt.len {w : World} {v : Value} {Q : List Raw} {L : List Ent} {a E : List Bm} (h : Bt Q L a E) (I : Ixs w v Q L) : E.length ≤ L.length := by
  obtain ⟨T, _, _, hl⟩ := h.c
  exact Nat.le_trans hl (goM_lenJ I T)
set_option maxRecDepth 100000 in
set_option maxHeartbeats 4000000 in
theorem mp_head (Q0 : List Raw) (L : List Ent) (ra rb : List Bm) (v u s : Value) (A : Nat → Addr) (m : Int) (w : World) (S : Te w A m) (I : Ixs w v Q0 L) (em : EmI Q0 L) (hr : MsAt w u ra) (her : Em u ra) (hr2 : MsAt w s rb) (her2 : Em s rb) (hok : okI L = true) (hrk : okLN 10 ra = true) (hrk2 : okLN 10 rb = true) :
    Calls Tryz.prog 7 #[v, u, s] w fun e w' => e = .returned (.bool true) ∧ Below w.heap.size w w' := by
  obtain ⟨a0, c0, hv0, -⟩ := id I.es
  subst hv0
  obtain ⟨aa, ac, hu0, -⟩ := id hr
  subst hu0
  obtain ⟨ba, bc, hs0, -⟩ := id hr2
  subst hs0
  have hn101 : L.length ≤ 101 := by rcases (okI_iff hok).1 with h | h <;> omega
  have ha10 : ra.length ≤ 10 := (okLN_iff hrk).1
  have hb10 : rb.length ≤ 10 := (okLN_iff hrk2).1
  have HIN := hid (built_any A m w S)
  have HLO := hid (fun W (h : Below w.heap.size w W) => longI_any Q0 L _ W (I.below h))
  rw [if_pos hok] at HLO
  have HLM := hid (fun W (h : Below w.heap.size w W) => longN_any 10 (by decide) ra _ W (hr.below h))
  rw [if_pos hrk] at HLM
  have HLM2 := hid (fun W (h : Below w.heap.size w W) => longN_any 10 (by decide) rb _ W (hr2.below h))
  rw [if_pos hrk2] at HLM2
  have HOW := hid (fun W (h : Below w.heap.size w W) => ownI_any Q0 L _ W (by omega) (I.below h) em (okI_fits hok))
  have HOM := hid (fun W (h : Below w.heap.size w W) => ownM_any _ ra W (by omega) (hr.below h) her)
  have HOM2 := hid (fun W (h : Below w.heap.size w W) => ownM_any _ rb W (by omega) (hr2.below h) her2)
  have HS := hid S
  have HR2 := hid hr2
  have HER2 := hid her2
  have HSH := hid (okI_sh hok)
  clear S I em hok hr her hr2 her2 hrk hrk2
  go_enter Tryz.func7, Tryz.ntmps7
  go_wp2_with fail
  refine HIN.out.mono ?_
  rintro e w1 ⟨rfl, hb⟩
  have HB1 := hid hb
  clear hb
  go_wp2_with fail
  refine (HLO.out w1 HB1.out).mono ?_
  rintro e w2 ⟨rfl, hb⟩
  have HB2 := hid (HB1.out.trans (hb.mono HB1.out.size))
  clear hb
  go_wp2_with fail
  refine (HLM.out w2 HB2.out).mono ?_
  rintro e w2a ⟨rfl, rfl⟩
  go_wp2_with fail
  refine (HLM2.out w2a HB2.out).mono ?_
  rintro e w2b ⟨rfl, rfl⟩
  go_wp2_with fail
  refine (HOW.out w2b HB2.out).mono ?_
  rintro e w3 ⟨ou, Q, rfl, hO, hb⟩
  have HB3 := hid (HB2.out.trans (hb.mono HB2.out.size))
  have HIX := hid hO.ixs
  obtain ⟨oa, oc, hou, -⟩ := id hO.ixs.es
  subst hou
  clear hb hO HLO HLM HLM2 HOW HIN HB1
  go_wp2_with fail
  refine (HOM.out w3 HB3.out).mono ?_
  rintro e w4 ⟨bu, rfl, hbo, -, hb⟩
  have hs34 := hb.size
  obtain ⟨dv, w5, hrun, hown5, hgr5⟩ := both_run ra rb bu _ w4 w3.heap.size hb.size (by omega) (by omega) hbo (HR2.out.below (HB3.out.trans (hb.mono HB3.out.size))) HER2.out
  obtain ⟨rab, hrab⟩ : ∃ rab, ra ++ rb = rab := ⟨_, rfl⟩
  rw [hrab] at hown5
  have HRAB := hid hrab
  have hrl : rab.length ≤ 1000000 := by rw [← hrab]; simp; omega
  clear hrab
  have HW35 := hid (show Below w3.heap.size w3 w5 from hb.grown hgr5 hb.size (fun k hk => (hbo.lt k hk).1))
  have HB5 := hid (HB3.out.trans (HW35.out.mono HB3.out.size))
  have HIX5 := hid (HIX.out.below HW35.out)
  have HDV := hid (own_ms hown5)
  have HRUN := hid hrun
  obtain ⟨bua, buc, hbu⟩ := own_slN hbo
  subst hbu
  obtain ⟨da, dc, hdv⟩ := own_slN hown5
  subst hdv
  clear hb hbo hown5 hgr5 hrun hs34 HIX
  go_wp2_with (at_builtin; refine Lib.wpList_append_run _ rfl _ _ _ _ rfl _ _ rfl rfl _ _ HRUN.out ?_)
  go_wp2_with fail
  refine (HOM.out w5 HB5.out).mono ?_
  rintro e w6 ⟨au, rfl, hao, -, hb⟩
  have HB6 := hid (HB5.out.trans (hb.mono HB5.out.size))
  have HIX6 := hid (HIX5.out.below hb)
  have HDV6 := hid (HDV.out.below hb)
  have HAO := hid (own_ms hao)
  obtain ⟨aua, auc, hau⟩ := own_slN hao
  subst hau
  clear hb hao HDV HIX5 HRUN HOM
  by_cases hca : (chkG Q L ra).1 = 0
  · have HRE := hid (build_good Q L ra _ _ A m w6 (by omega) (by omega) HSH.out (HS.out.below HB6.out) HIX6.out HAO.out hca)
    go_wp2_with fail
    refine HRE.out.mono ?_
    rintro e w7 ⟨xu, Ea, rfl, hba, hxo⟩
    have HBA := hid hba
    have hb := hxo.1
    have HB7 := hid (HB6.out.trans (hb.mono HB6.out.size))
    have HIX7 := hid (HIX6.out.below hb)
    have HDV7 := hid (HDV6.out.below hb)
    have HXO := hid hxo.ms
    have HXE := hid hxo.em
    obtain ⟨xa, xc, hxu⟩ := hxo.sl
    subst hxu
    clear hb hba hxo HRE HIX6 HDV6 HAO
    go_wp2_with fail
    refine (HOM2.out w7 HB7.out).mono ?_
    rintro e w8 ⟨bv, rfl, hbo, -, hb⟩
    have HB8 := hid (HB7.out.trans (hb.mono HB7.out.size))
    have HIX8 := hid (HIX7.out.below hb)
    have HDV8 := hid (HDV7.out.below hb)
    have HXO8 := hid (HXO.out.below hb)
    have HBO := hid (own_ms hbo)
    obtain ⟨bva, bvc, hbv⟩ := own_slN hbo
    subst hbv
    clear hb hbo HIX7 HDV7 HOM2 HXO
    by_cases hcb : (chkG Q L rb).1 = 0
    · have HRE := hid (build_good Q L rb _ _ A m w8 (by omega) (by omega) HSH.out (HS.out.below HB8.out) HIX8.out HBO.out hcb)
      go_wp2_with fail
      refine HRE.out.mono ?_
      rintro e w9 ⟨yu, Eb, rfl, hbb, hyo⟩
      have HBB := hid hbb
      have hb := hyo.1
      have HB9 := hid (HB8.out.trans (hb.mono HB8.out.size))
      have HIX9 := hid (HIX8.out.below hb)
      have HDV9 := hid (HDV8.out.below hb)
      have HYO := hid hyo
      obtain ⟨ya, yc, hyu⟩ := hyo.sl
      subst hyu
      have HXO9 := hid (HXO8.out.below hb)
      clear hb hbb hyo HRE HIX8 HDV8 HBO
      have HRG := hid (rgt_of HIX9.out hca)
      have HRG2 := hid (rgt_of HIX9.out hcb)
      have HRE2 := hid (build_good Q L rab _ _ A m w9 (by omega) hrl HSH.out (HS.out.below HB9.out) HIX9.out HDV9.out (chkG_in HIX9.out HRG.out.c (fun x hx => by
        rw [← HRAB.out] at hx
        rcases List.mem_append.1 hx with h | h
        · exact HRG.out.r x h
        · exact HRG2.out.r x h)))
      go_wp2_with fail
      refine HRE2.out.mono ?_
      rintro e w10 ⟨zu, Ec, rfl, hbz, hzo⟩
      have hb := hzo.1
      have HB10 := hid (HB9.out.trans (hb.mono HB9.out.size))
      have HBZ := hid hbz
      have HZO := hid hzo.ms
      have HJ := hid (join_mods Ea Eb _ _ A m w10 (HXO9.out.below hb) (HYO.out.ms.below hb) HXE.out HYO.out.em (by have := HBA.out.len HIX9.out; omega) (by have := HBB.out.len HIX9.out; omega) (fun r hr => by
        rcases List.mem_append.1 hr with h | h
        · exact HBA.out.sz HIX9.out HSH.out r h
        · exact HBB.out.sz HIX9.out HSH.out r h) (HS.out.below HB10.out))
      have hEc : Ec.length ≤ 1000000 := by have := HBZ.out.len HIX9.out; omega
      obtain ⟨za, zc, hzu⟩ := hzo.sl
      subst hzu
      clear hb hbz hzo HRE2
      go_wp2_with fail
      refine HJ.out.mono ?_
      rintro e w11 ⟨ju, F, rfl, -, hj, hjm⟩
      have hEF : Ec = F := bt_parts HBA.out HBB.out (by rw [HRAB.out]; exact HBZ.out) hj
      subst hEF
      have hb := hjm.1
      have HB11 := hid (HB10.out.trans (hb.mono HB10.out.size))
      have HSM := hid (sameM_any Ec _ _ w11 hEc (HZO.out.below hb) hjm.ms)
      obtain ⟨ja, jc, hju⟩ := hjm.sl
      subst hju
      clear hb hj hjm HJ
      go_wp2_with fail
      refine HSM.out.mono ?_
      rintro e w12 ⟨rfl, hb⟩
      have HB12 := hid (HB11.out.trans (hb.mono HB11.out.size))
      clear hb
      go_wp2_with fail
      go_ret
      exact ⟨rfl, HB12.out⟩
    · have HRE := hid (build_bad Q L rb _ _ A m w8 (by omega) (by omega) HSH.out (HS.out.below HB8.out) HIX8.out HBO.out hcb)
      go_wp2_with fail
      refine HRE.out.mono ?_
      rintro e w9 ⟨Tb, yp, rfl, -, hb⟩
      have HB9 := hid (HB8.out.trans (hb.mono HB8.out.size))
      have HIX9 := hid (HIX8.out.below hb)
      have HDV9 := hid (HDV8.out.below hb)
      clear hb HRE HIX8 HDV8 HBO
      have HRE2 := hid (build_bad Q L rab _ _ A m w9 (by omega) hrl HSH.out (HS.out.below HB9.out) HIX9.out HDV9.out (fun h => hcb (by rw [← HRAB.out] at h; exact (chkG_bothJ HIX9.out h).2)))
      go_wp2_with fail
      refine HRE2.out.mono ?_
      rintro e w10 ⟨Tz, zp, rfl, -, hb⟩
      have HB10 := hid (HB9.out.trans (hb.mono HB9.out.size))
      clear hb HRE2
      go_wp2_with fail
      go_ret
      exact ⟨rfl, HB10.out⟩
  · have HRE := hid (build_bad Q L ra _ _ A m w6 (by omega) (by omega) HSH.out (HS.out.below HB6.out) HIX6.out HAO.out hca)
    go_wp2_with fail
    refine HRE.out.mono ?_
    rintro e w7 ⟨Ta, xp, rfl, -, hb⟩
    have HB7 := hid (HB6.out.trans (hb.mono HB6.out.size))
    have HIX7 := hid (HIX6.out.below hb)
    have HDV7 := hid (HDV6.out.below hb)
    clear hb HRE HIX6 HDV6 HAO
    go_wp2_with fail
    refine (HOM2.out w7 HB7.out).mono ?_
    rintro e w8 ⟨bv, rfl, hbo, -, hb⟩
    have HB8 := hid (HB7.out.trans (hb.mono HB7.out.size))
    have HIX8 := hid (HIX7.out.below hb)
    have HDV8 := hid (HDV7.out.below hb)
    have HBO := hid (own_ms hbo)
    obtain ⟨bva, bvc, hbv⟩ := own_slN hbo
    subst hbv
    clear hb hbo HIX7 HDV7 HOM2
    by_cases hcb : (chkG Q L rb).1 = 0
    · have HRE := hid (build_good Q L rb _ _ A m w8 (by omega) (by omega) HSH.out (HS.out.below HB8.out) HIX8.out HBO.out hcb)
      go_wp2_with fail
      refine HRE.out.mono ?_
      rintro e w9 ⟨yu, Eb, rfl, hbb, hyo⟩
      have HBB := hid hbb
      have hb := hyo.1
      have HB9 := hid (HB8.out.trans (hb.mono HB8.out.size))
      have HIX9 := hid (HIX8.out.below hb)
      have HDV9 := hid (HDV8.out.below hb)
      have HYO := hid hyo
      obtain ⟨ya, yc, hyu⟩ := hyo.sl
      subst hyu
      clear hb hbb hyo HRE HIX8 HDV8 HBO
      have HRE2 := hid (build_bad Q L rab _ _ A m w9 (by omega) hrl HSH.out (HS.out.below HB9.out) HIX9.out HDV9.out (fun h => hca (by rw [← HRAB.out] at h; exact (chkG_bothJ HIX9.out h).1)))
      go_wp2_with fail
      refine HRE2.out.mono ?_
      rintro e w10 ⟨Tz, zp, rfl, -, hb⟩
      have HB10 := hid (HB9.out.trans (hb.mono HB9.out.size))
      clear hb HRE2
      go_wp2_with fail
      go_ret
      exact ⟨rfl, HB10.out⟩
    · have HRE := hid (build_bad Q L rb _ _ A m w8 (by omega) (by omega) HSH.out (HS.out.below HB8.out) HIX8.out HBO.out hcb)
      go_wp2_with fail
      refine HRE.out.mono ?_
      rintro e w9 ⟨Tb, yp, rfl, -, hb⟩
      have HB9 := hid (HB8.out.trans (hb.mono HB8.out.size))
      have HIX9 := hid (HIX8.out.below hb)
      have HDV9 := hid (HDV8.out.below hb)
      clear hb HRE HIX8 HDV8 HBO
      have HRE2 := hid (build_bad Q L rab _ _ A m w9 (by omega) hrl HSH.out (HS.out.below HB9.out) HIX9.out HDV9.out (fun h => hcb (by rw [← HRAB.out] at h; exact (chkG_bothJ HIX9.out h).2)))
      go_wp2_with fail
      refine HRE2.out.mono ?_
      rintro e w10 ⟨Tz, zp, rfl, -, hb⟩
      have HB10 := hid (HB9.out.trans (hb.mono HB9.out.size))
      clear hb HRE2
      go_wp2_with fail
      go_ret
      exact ⟨rfl, HB10.out⟩
set_option maxRecDepth 100000 in
set_option maxHeartbeats 2000000 in
theorem mp_long (Q0 : List Raw) (L : List Ent) (ra rb : List Bm) (v u s : Value) (A : Nat → Addr) (m : Int) (w : World) (S : Te w A m) (I : Ixs w v Q0 L) (hr : MsAt w u ra) (hr2 : MsAt w s rb) (hok : okI L = false) :
    Calls Tryz.prog 7 #[v, u, s] w fun e w' => e = .returned (.bool true) ∧ Below w.heap.size w w' := by
  obtain ⟨a0, c0, hv0, -⟩ := id I.es
  subst hv0
  obtain ⟨aa, ac, hu0, -⟩ := id hr
  subst hu0
  obtain ⟨ba, bc, hs0, -⟩ := id hr2
  subst hs0
  have HIN := hid (built_any A m w S)
  have HLO := hid (fun W (h : Below w.heap.size w W) => longI_any Q0 L _ W (I.below h))
  rw [hok] at HLO
  clear S I hok hr hr2
  go_enter Tryz.func7, Tryz.ntmps7
  go_wp2_with fail
  refine HIN.out.mono ?_
  rintro e w1 ⟨rfl, hb⟩
  have HB1 := hid hb
  clear hb
  go_wp2_with fail
  refine (HLO.out w1 HB1.out).mono ?_
  rintro e w2 ⟨rfl, hb⟩
  have HB2 := hid (HB1.out.trans (hb.mono HB1.out.size))
  clear hb
  go_wp2_with fail
  go_ret
  exact ⟨rfl, HB2.out⟩
set_option maxRecDepth 100000 in
set_option maxHeartbeats 2000000 in
theorem mp_long2 (Q0 : List Raw) (L : List Ent) (ra rb : List Bm) (v u s : Value) (A : Nat → Addr) (m : Int) (w : World) (x y : Int) (S : Te w A m) (I : Ixs w v Q0 L) (hr : MsAt w u ra) (hr2 : MsAt w s rb) (hok : okI L = true) (hx : (if okLN 10 ra then (0 : Int) else 1) = x) (hy : (if okLN 10 rb then (0 : Int) else 1) = y) (hxy : (x = 1 ∧ y = 0) ∨ (x = 0 ∧ y = 1) ∨ (x = 1 ∧ y = 1)) :
    Calls Tryz.prog 7 #[v, u, s] w fun e w' => e = .returned (.bool true) ∧ Below w.heap.size w w' := by
  obtain ⟨a0, c0, hv0, -⟩ := id I.es
  subst hv0
  obtain ⟨aa, ac, hu0, -⟩ := id hr
  subst hu0
  obtain ⟨ba, bc, hs0, -⟩ := id hr2
  subst hs0
  have HIN := hid (built_any A m w S)
  have HLO := hid (fun W (h : Below w.heap.size w W) => longI_any Q0 L _ W (I.below h))
  rw [if_pos hok] at HLO
  have HLM := hid (fun W (h : Below w.heap.size w W) => longN_any 10 (by decide) ra _ W (hr.below h))
  rw [hx] at HLM
  have HLM2 := hid (fun W (h : Below w.heap.size w W) => longN_any 10 (by decide) rb _ W (hr2.below h))
  rw [hy] at HLM2
  clear S I hok hr hr2 hx hy
  rcases hxy with ⟨rfl, rfl⟩ | ⟨rfl, rfl⟩ | ⟨rfl, rfl⟩
  all_goals
    go_enter Tryz.func7, Tryz.ntmps7
    go_wp2_with fail
    refine HIN.out.mono ?_
    rintro e w1 ⟨rfl, hb⟩
    have HB1 := hid hb
    clear hb
    go_wp2_with fail
    refine (HLO.out w1 HB1.out).mono ?_
    rintro e w2 ⟨rfl, hb⟩
    have HB2 := hid (HB1.out.trans (hb.mono HB1.out.size))
    clear hb
    go_wp2_with fail
    refine (HLM.out w2 HB2.out).mono ?_
    rintro e w3 ⟨rfl, rfl⟩
    go_wp2_with fail
    refine (HLM2.out w3 HB2.out).mono ?_
    rintro e w4 ⟨rfl, rfl⟩
    go_wp2_with fail
    go_ret
    exact ⟨rfl, HB2.out⟩
theorem mvsParts_any (Q0 : List Raw) (L : List Ent) (ra rb : List Bm) (v u s : Value) (A : Nat → Addr) (m : Int) (w : World) (S : Te w A m) (I : Ixs w v Q0 L) (em : EmI Q0 L) (hr : MsAt w u ra) (her : Em u ra) (hr2 : MsAt w s rb) (her2 : Em s rb) :
    Calls Tryz.prog 7 #[v, u, s] w fun e w' => e = .returned (.bool true) ∧ Below w.heap.size w w' := by
  cases hok : okI L with
  | false => exact mp_long Q0 L ra rb v u s A m w S I hr hr2 hok
  | true =>
    cases hrk : okLN 10 ra with
    | false =>
      cases hrk2 : okLN 10 rb with
      | false => exact mp_long2 Q0 L ra rb v u s A m w 1 1 S I hr hr2 hok (by rw [hrk]; rfl) (by rw [hrk2]; rfl) (Or.inr (Or.inr ⟨rfl, rfl⟩))
      | true => exact mp_long2 Q0 L ra rb v u s A m w 1 0 S I hr hr2 hok (by rw [hrk]; rfl) (by rw [hrk2]; rfl) (Or.inl ⟨rfl, rfl⟩)
    | true =>
      cases hrk2 : okLN 10 rb with
      | false => exact mp_long2 Q0 L ra rb v u s A m w 0 1 S I hr hr2 hok (by rw [hrk]; rfl) (by rw [hrk2]; rfl) (Or.inr (Or.inl ⟨rfl, rfl⟩))
      | true => exact mp_head Q0 L ra rb v u s A m w S I em hr her hr2 her2 hok hrk hrk2
end Ve
end Go.Proofs.YtffjaliegglddaaGreatDoor

/-
  An index and a row of modules that a caller hands in, opened.
-/
namespace Go.Proofs.YtffjaliegglddaaGreatDoor
open Go.ChangeShapes Go.WideShapes Go.ChangeAt Go.RowKit Go.ChangeMaps Go.Joins
namespace Ve

theorem oCellsMod : Tryz.prog.cellsOf 25 = 2 := by kernel_rfl
theorem oCellsStr : Tryz.prog.cellsOf 9 = 1 := by kernel_rfl
theorem oCellsEnt : Tryz.prog.cellsOf 45 = 5 := by kernel_rfl
theorem oCellsMods : Tryz.prog.cellsOf 23 = 1 := by kernel_rfl
theorem oCellsSstr : Tryz.prog.cellsOf 43 = 1 := by kernel_rfl
theorem oCellsBool : Tryz.prog.cellsOf 4 = 1 := by kernel_rfl
/-- The bytes of a string; none of what is no string. -/
def strOf : Value → ByteArray
  | .string s => s
  | _ => ⟨#[]⟩
set_option maxRecDepth 100000 in
/-- A row of modules, opened. -/
theorem open_ms {H : Type} {enc : TypeId × Value → H} {w : World} {base fuel : Nat} {held : Bool} {v : Value} {x : DataW H × List MemPlace}
    (h : DataW.trod enc Tryz.prog w base (fun _ => true) held fuel 23 [v] = some x) : ∃ L, MsAt w v L ∧ Em v L := by
  rcases Go.Deep.open_slice_pairs Tryz.underlying23 Tryz.underlying25 oCellsMod rfl rfl oCellsStr oCellsStr h with ⟨hcs, _⟩ | ⟨a, len, cap, m, n, V0, V1, D0, D1, P0, P1, hcs, _, hl, _, hm, _, hx⟩
  · simp only [List.cons.injEq, and_true] at hcs
    subst hcs
    exact ⟨[], ⟨none, 0, rfl, Nat.le_refl _, fun h => absurd rfl h⟩, fun a c e _ => Or.inl e.symm⟩
  · simp only [List.cons.injEq, and_true] at hcs
    subst hcs
    simp only [if_true] at hm
    subst hm
    have hlen : ((List.range len).map fun i => (strOf (V0 i), strOf (V1 i))).length = len := by simp
    refine ⟨(List.range len).map fun i => (strOf (V0 i), strOf (V1 i)), ⟨some a, m, by rw [hlen], by rw [hlen]; exact hl, fun hne => ?_⟩, fun a' c e h0 => ?_⟩
    · have h0l : 0 < len := by rw [← hlen]; exact List.length_pos_iff.2 hne
      obtain ⟨b, off, spot⟩ := a
      have hspot : spot = none := by simpa [Addr.add] using World.cell?_spot (hx 0 (by omega)).1
      subst hspot
      refine ⟨b, off, rfl, fun j hj => ?_⟩
      have hj2 : j < len := by rw [← hlen]; exact hj
      obtain ⟨g0, g1, t0, t1⟩ := hx j (by omega)
      obtain ⟨s0, e0, _, _⟩ := DataW.trod_string Tryz.underlying9 t0
      obtain ⟨s1, e1, _, _⟩ := DataW.trod_string Tryz.underlying9 t1
      simp only [List.cons.injEq, and_true] at e0 e1
      rw [e0] at g0
      rw [e1] at g1
      simp only [List.getElem_map, List.getElem_range, e0, e1]
      rw [Addr.add_lit] at g0 g1
      exact ⟨g0, g1⟩
    · have hz : len = 0 := by rw [← hlen, h0]; rfl
      rw [hlen] at e
      subst hz
      right
      injection e with e1 e2 e3
      exact ⟨a, by rw [← e1]⟩
set_option maxRecDepth 100000 in
/-- A row of texts, opened. -/
theorem open_tx {H : Type} {enc : TypeId × Value → H} {w : World} {base fuel : Nat} {held : Bool} {v : Value} {x : DataW H × List MemPlace}
    (h : DataW.trod enc Tryz.prog w base (fun _ => true) held fuel 43 [v] = some x) : ∃ X, TxAt w v X ∧ EmT v X := by
  rcases open_strings Tryz.underlying43 Tryz.underlying9 oCellsStr h with ⟨hcs, _⟩ | ⟨a, len, cap, ss, hcs, _, hl, _, hm, _, hx, _⟩
  · simp only [List.cons.injEq, and_true] at hcs
    subst hcs
    exact ⟨[], ⟨none, 0, rfl, Nat.le_refl _, fun h => absurd rfl h⟩, fun a c e _ => Or.inl e.symm⟩
  · simp only [List.cons.injEq, and_true] at hcs
    subst hcs
    simp only [if_true] at hm
    have hlen : (ss.take len).length = len := by rw [List.length_take]; omega
    refine ⟨ss.take len, ⟨some a, cap, by rw [hlen], by rw [hlen]; exact hl, fun hne => ?_⟩, fun a' c e h0 => ?_⟩
    · have h0l : 0 < len := by rw [← hlen]; exact List.length_pos_iff.2 hne
      obtain ⟨b, off, spot⟩ := a
      have hspot : spot = none := by simpa [Addr.add] using World.cell?_spot (hx 0 (by omega))
      subst hspot
      refine ⟨b, off, rfl, fun j hj => ?_⟩
      have hj2 : j < len := by rw [← hlen]; exact hj
      have g := hx j (by omega)
      rw [Addr.add_lit, List.getD_eq_getElem?_getD, List.getElem?_eq_getElem (by omega)] at g
      rw [List.getElem_take]
      exact g
    · have hz : len = 0 := by rw [← hlen, h0]; rfl
      rw [hlen] at e
      subst hz
      right
      injection e with e1 e2 e3
      exact ⟨a, by rw [← e1]⟩
set_option maxRecDepth 100000 in
/-- An entry, opened. -/
theorem open_ent {H : Type} {enc : TypeId × Value → H} {w : World} {base fuel : Nat} {held : Bool} {cs : List Value} {x : DataW H × List MemPlace}
    (h : DataW.trod enc Tryz.prog w base (fun _ => true) held fuel 45 cs = some x) : ∃ (r : Raw) (e : Ent), cs = rowR r ∧ slR r ∧ RawOk w r e ∧ Em r.2.1 e.2.1 ∧ EmT r.2.2.1 e.2.2.1 := by
  obtain ⟨y0, y1, y2, y3, n, _, hl, h0, h1, h2, h3⟩ := trod_struct4 Tryz.underlying45 h
  rw [oCellsEnt] at hl
  match cs, hl with
  | [c0, c1, c2, c3, c4], _ =>
    simp only [oCellsMod, oCellsMods, oCellsSstr, oCellsBool, List.drop, List.take] at h0 h1 h2 h3
    obtain ⟨z0, z1, n2, _, _, k0, k1⟩ := trod_struct2 Tryz.underlying25 h0
    simp only [oCellsStr, List.drop, List.take] at k0 k1
    obtain ⟨s0, e0, _, _⟩ := DataW.trod_string Tryz.underlying9 k0
    obtain ⟨s1, e1, _, _⟩ := DataW.trod_string Tryz.underlying9 k1
    obtain ⟨R, hR, hER⟩ := open_ms h1
    obtain ⟨X, hX, hEX⟩ := open_tx h2
    obtain ⟨b, e4, _⟩ := DataW.trod_bool Tryz.underlying4 h3
    simp only [List.cons.injEq, and_true] at e0 e1 e4
    subst e0 e1 e4
    refine ⟨((s0, s1), c2, c3, b), ((s0, s1), R, X, b), rfl, ⟨?_, ?_⟩, ⟨rfl, hR, hX, rfl⟩, hER, hEX⟩
    · obtain ⟨a, c, e, _⟩ := hR; exact ⟨_, _, _, e⟩
    · obtain ⟨a, c, e, _⟩ := hX; exact ⟨_, _, _, e⟩
set_option maxRecDepth 100000 in
/-- An index, opened. -/
theorem open_ix {H : Type} {enc : TypeId × Value → H} {w : World} {base fuel : Nat} {held : Bool} {v : Value} {x : DataW H × List MemPlace}
    (h : DataW.trod enc Tryz.prog w base (fun _ => true) held fuel 22 [v] = some x) : ∃ Q L, Ixs w v Q L ∧ EmI Q L := by
  rcases Go.Deep.open_slice Tryz.underlying22 h with ⟨hcs, _⟩ | ⟨a, len, cap, m, n, D, Pl, hcs, _, hl, _, hm, _, hx⟩
  · simp only [List.cons.injEq, and_true] at hcs
    subst hcs
    exact ⟨[], [], ⟨⟨none, 0, rfl, Nat.le_refl _, fun r hr => (by cases hr), fun h => absurd rfl h⟩, rfl, fun j h1 => absurd h1 (Nat.not_lt_zero _)⟩, fun j h1 => absurd h1 (Nat.not_lt_zero _)⟩
  · simp only [List.cons.injEq, and_true] at hcs
    subst hcs
    simp only [if_true] at hm
    subst hm
    have each : ∀ i, i < len → ∃ q : Raw × Ent, (∀ c (hc : c < 5), w.cell? (a.add (i * 5 + c)) = (rowR q.1)[c]?) ∧ slR q.1 ∧ RawOk w q.1 q.2 ∧ Em q.1.2.1 q.2.2.1 ∧ EmT q.1.2.2.1 q.2.2.2.1 := fun i hi => by
      obtain ⟨cs', h1, h2⟩ := hx i (by omega)
      obtain ⟨r, e, hcs, k1, k2, k3, k4⟩ := open_ent h2
      rw [oCellsEnt] at h1
      obtain ⟨_, hlen, hcell⟩ := World.cells?_some h1
      refine ⟨(r, e), fun c hc => ?_, k1, k2, k3, k4⟩
      have := hcell c (by omega)
      rw [Go.Deep.add_add] at this
      rw [this, hcs]
    obtain ⟨q, hq⟩ := Go.Deep.choose_lt each
    have hlq : ((List.range len).map fun i => (q i).1).length = len := by simp
    have hll : ((List.range len).map fun i => (q i).2).length = len := by simp
    refine ⟨(List.range len).map fun i => (q i).1, (List.range len).map fun i => (q i).2, ⟨⟨some a, m, by rw [hlq], by rw [hlq]; exact hl, fun r hr => ?_, fun hne => ?_⟩, by rw [hlq, hll], fun j h1 h2 => ?_⟩, fun j h1 h2 => ?_⟩
    · obtain ⟨i, hi, rfl⟩ := List.mem_map.1 hr
      exact (hq i (List.mem_range.1 hi)).2.1
    · have h0l : 0 < len := by rw [← hlq]; exact List.length_pos_iff.2 hne
      obtain ⟨b, off, spot⟩ := a
      have g0 := (hq 0 h0l).1 0 (by omega)
      have hspot : spot = none := by
        have : ∃ u, World.cell? w ((⟨b, off, spot⟩ : Addr).add (0 * 5 + 0)) = some u := ⟨_, g0⟩
        obtain ⟨u, hu⟩ := this
        simpa [Addr.add] using World.cell?_spot hu
      subst hspot
      refine ⟨b, off, rfl, fun j hj => ?_⟩
      have hj2 : j < len := by rw [← hlq]; exact hj
      have g := (hq j hj2).1
      simp only [List.getElem_map, List.getElem_range]
      refine ⟨?_, ?_, ?_, ?_, ?_⟩
      · have := g 0 (by omega); rw [Addr.add_lit] at this; exact this
      · have := g 1 (by omega); rw [Addr.add_lit] at this; exact this
      · have := g 2 (by omega); rw [Addr.add_lit] at this; exact this
      · have := g 3 (by omega); rw [Addr.add_lit] at this; exact this
      · have := g 4 (by omega); rw [Addr.add_lit] at this; exact this
    · have hj2 : j < len := by rw [← hlq]; exact h1
      simp only [List.getElem_map, List.getElem_range]
      exact (hq j hj2).2.2.1
    · have hj2 : j < len := by rw [← hlq]; exact h1
      simp only [List.getElem_map, List.getElem_range]
      exact (hq j hj2).2.2.2
end Ve
end Go.Proofs.YtffjaliegglddaaGreatDoor
