
import Derived.Test.YtjndahjfodnllaaGreatDoorOrdB
import Derived.Test.YtjndahjfodnllaaGreatDoorPt3
import Derived.Test.YtjndahjfodnllaaGreatDoorSplitAny
import Derived.Test.YtjndahjfodnllaaGreatDoorLessAny
import Derived.Deep.RegionHeld
import Derived.Test.YtjndahjfodnllaaGreatDoorPt2
import Derived.Test.YtjndahjfodnllaaGreatDoorPt1
import Derived.Test.YtjndahjfodnllaaGreatDoorFileQ
import Derived.Laws.OwnMore
namespace Go.Proofs.YtjndahjfodnllaaGreatDoor
open Go.RowKit
namespace Ve
def GoodV (w w' : World) (e : Ending) (x y z : Int) (X : List ByteArray) : Prop :=
  (∃ sa cap, e = .returned (.tuple #[.agg #[.int .i64 x, .int .i64 y, .int .i64 z, .slice sa X.length cap], .int .i64 0]) ∧ (X = [] ∨ ∃ g, sa = some ⟨g, 0, none⟩ ∧ ∀ j (hj : j < X.length), w'.cell? ⟨g, j, none⟩ = some (.string X[j]))) ∧ Below w.heap.size w w'
theorem verOf_good (s : ByteArray) (w : World) (hs : s.size < 4294967281) (h : verErr s.data.toList = 0) (X : List ByteArray) (hX : bl X = preOf s.data.toList) :
    Calls Tryz.prog 187 #[.string s] w fun e w' => GoodV w w' e (nAt s.data.toList 0) (nAt s.data.toList 1) (nAt s.data.toList 2) X :=
  (verOf_any s w hs).mono fun e w' ⟨h1, hb⟩ => by
    rcases h1 with ⟨h1, _⟩ | ⟨_, sa, cap, X2, e1, e2, e3⟩
    · exact absurd h h1
    · obtain rfl : X2 = X := bl_inj (e2.trans hX.symm)
      exact ⟨⟨sa, cap, e1, e3⟩, hb⟩
structure Os (w W : World) (P Q ga gb ca cb : Nat) (X Y : List ByteArray) : Prop where
  bl : Below w.heap.size w W
  p3 : W.cell? ⟨P, 3, none⟩ = some (.slice (some ⟨ga, 0, none⟩) X.length ca)
  q3 : W.cell? ⟨Q, 3, none⟩ = some (.slice (some ⟨gb, 0, none⟩) Y.length cb)
  xs : ∀ j (hj : j < X.length), W.cell? ⟨ga, j, none⟩ = some (.string X[j])
  ys : ∀ j (hj : j < Y.length), W.cell? ⟨gb, j, none⟩ = some (.string Y[j])
theorem lt_sign {x y : Int} (h : x ≠ y) : Lib.compareInt x y = (if decide (x < y) then (-1 : Int) else if (true : Bool) = true then 1 else 0) := by
  unfold Lib.compareInt
  by_cases h1 : x < y
  · simp [h1]
  · simp [h1]; omega
set_option maxHeartbeats 2000000 in
theorem over_0 (x x' y y' z z' : Int) (X Y : List ByteArray) (s t : ByteArray) (w : World) (hn : x ≠ x')
    (hA : Calls Tryz.prog 187 #[.string s] w fun e w' => GoodV w w' e x y z X) (hT : ∀ W, Calls Tryz.prog 187 #[.string t] W fun e w' => GoodV W w' e x' y' z' Y) :
    Calls Tryz.prog 193 #[.string s, .string t] w fun e w' => e = .returned (.int .i64 (Lib.compareInt x x')) ∧ Below w.heap.size w w' := by
  have hq : (x == x') = false := beq_eq_false_iff_ne.2 hn
  have HK := hid (lt_sign hn).symm
  clear hn
  have HA := hid hA
  have HT := hid hT
  clear hA hT
  go_enter Tryz.func193, Tryz.ntmps193
  go_wp2_with fail
  refine HA.out.mono ?_
  rintro e w1 ⟨⟨sa, ca, rfl, hc1⟩, hb1⟩
  have HC1 := hid hc1
  have HB1 := hid hb1
  clear hc1 hb1
  go_wp2_with fail
  refine (HT.out _).mono ?_
  rintro e w2 ⟨⟨sb, cb, rfl, hc2⟩, hb2⟩
  have HC2 := hid hc2
  obtain ⟨⟨r0, r1, r2, r3⟩, rf, rz⟩ := res4 (hb2.mono (by simp))
  have HB2 := hid (((Below.refl w1.heap.size w1).alloc (Nat.le_refl _) _).trans (hb2.mono (by simp)))
  have HB := hid ((HB1.out.trans (HB2.out.mono HB1.out.size)).alloc (HB1.out.trans (HB2.out.mono HB1.out.size)).size (.cells #[.int .i64 x', .int .i64 y', .int .i64 z', .slice sb Y.length cb] 209))
  clear hc2 hb2
  go_wp2_with fail
  refine wp_loop_rounds 1 ?_
  rw [rounds_succ]
  go_wp2_with fail
  go_quiet (fail)
  go_wp2_with fail
  go_quiet (first | (go_at_call 224; refine (sign_is _ _ (Lib.compareInt x x') _ HK.out).mono fun e w' h => ⟨h.1, _, h.2⟩))
  go_wp2_with fail
  go_ret
  exact ⟨rfl, by first | exact below_drew (below_drew HB.out _) _ | exact below_drew (below_drew (below_drew HB.out _) _) _ | exact below_drew (below_drew (below_drew (below_drew HB.out _) _) _) _⟩
set_option maxHeartbeats 2000000 in
theorem over_1 (x y y' z z' : Int) (X Y : List ByteArray) (s t : ByteArray) (w : World) (hn : y ≠ y')
    (hA : Calls Tryz.prog 187 #[.string s] w fun e w' => GoodV w w' e x y z X) (hT : ∀ W, Calls Tryz.prog 187 #[.string t] W fun e w' => GoodV W w' e x y' z' Y) :
    Calls Tryz.prog 193 #[.string s, .string t] w fun e w' => e = .returned (.int .i64 (Lib.compareInt y y')) ∧ Below w.heap.size w w' := by
  have hq : (y == y') = false := beq_eq_false_iff_ne.2 hn
  have HK := hid (lt_sign hn).symm
  clear hn
  have HA := hid hA
  have HT := hid hT
  clear hA hT
  go_enter Tryz.func193, Tryz.ntmps193
  go_wp2_with fail
  refine HA.out.mono ?_
  rintro e w1 ⟨⟨sa, ca, rfl, hc1⟩, hb1⟩
  have HC1 := hid hc1
  have HB1 := hid hb1
  clear hc1 hb1
  go_wp2_with fail
  refine (HT.out _).mono ?_
  rintro e w2 ⟨⟨sb, cb, rfl, hc2⟩, hb2⟩
  have HC2 := hid hc2
  obtain ⟨⟨r0, r1, r2, r3⟩, rf, rz⟩ := res4 (hb2.mono (by simp))
  have HB2 := hid (((Below.refl w1.heap.size w1).alloc (Nat.le_refl _) _).trans (hb2.mono (by simp)))
  have HB := hid ((HB1.out.trans (HB2.out.mono HB1.out.size)).alloc (HB1.out.trans (HB2.out.mono HB1.out.size)).size (.cells #[.int .i64 x, .int .i64 y', .int .i64 z', .slice sb Y.length cb] 209))
  clear hc2 hb2
  go_wp2_with fail
  refine wp_loop_rounds 2 ?_
  rw [rounds_succ]
  go_wp2_with fail
  go_quiet (fail)
  go_wp2_with fail
  rw [rounds_succ]
  go_wp2_with fail
  go_quiet (fail)
  go_wp2_with fail
  go_quiet (first | (go_at_call 224; refine (sign_is _ _ (Lib.compareInt y y') _ HK.out).mono fun e w' h => ⟨h.1, _, h.2⟩))
  go_wp2_with fail
  go_ret
  exact ⟨rfl, by first | exact below_drew (below_drew HB.out _) _ | exact below_drew (below_drew (below_drew HB.out _) _) _ | exact below_drew (below_drew (below_drew (below_drew HB.out _) _) _) _⟩
set_option maxHeartbeats 2000000 in
theorem over_2 (x y z z' : Int) (X Y : List ByteArray) (s t : ByteArray) (w : World) (hn : z ≠ z')
    (hA : Calls Tryz.prog 187 #[.string s] w fun e w' => GoodV w w' e x y z X) (hT : ∀ W, Calls Tryz.prog 187 #[.string t] W fun e w' => GoodV W w' e x y z' Y) :
    Calls Tryz.prog 193 #[.string s, .string t] w fun e w' => e = .returned (.int .i64 (Lib.compareInt z z')) ∧ Below w.heap.size w w' := by
  have hq : (z == z') = false := beq_eq_false_iff_ne.2 hn
  have HK := hid (lt_sign hn).symm
  clear hn
  have HA := hid hA
  have HT := hid hT
  clear hA hT
  go_enter Tryz.func193, Tryz.ntmps193
  go_wp2_with fail
  refine HA.out.mono ?_
  rintro e w1 ⟨⟨sa, ca, rfl, hc1⟩, hb1⟩
  have HC1 := hid hc1
  have HB1 := hid hb1
  clear hc1 hb1
  go_wp2_with fail
  refine (HT.out _).mono ?_
  rintro e w2 ⟨⟨sb, cb, rfl, hc2⟩, hb2⟩
  have HC2 := hid hc2
  obtain ⟨⟨r0, r1, r2, r3⟩, rf, rz⟩ := res4 (hb2.mono (by simp))
  have HB2 := hid (((Below.refl w1.heap.size w1).alloc (Nat.le_refl _) _).trans (hb2.mono (by simp)))
  have HB := hid ((HB1.out.trans (HB2.out.mono HB1.out.size)).alloc (HB1.out.trans (HB2.out.mono HB1.out.size)).size (.cells #[.int .i64 x, .int .i64 y, .int .i64 z', .slice sb Y.length cb] 209))
  clear hc2 hb2
  go_wp2_with fail
  refine wp_loop_rounds 3 ?_
  rw [rounds_succ]
  go_wp2_with fail
  go_quiet (fail)
  go_wp2_with fail
  rw [rounds_succ]
  go_wp2_with fail
  go_quiet (fail)
  go_wp2_with fail
  rw [rounds_succ]
  go_wp2_with fail
  go_quiet (fail)
  go_wp2_with fail
  go_quiet (first | (go_at_call 224; refine (sign_is _ _ (Lib.compareInt z z') _ HK.out).mono fun e w' h => ⟨h.1, _, h.2⟩))
  go_wp2_with fail
  go_ret
  exact ⟨rfl, by first | exact below_drew (below_drew HB.out _) _ | exact below_drew (below_drew (below_drew HB.out _) _) _ | exact below_drew (below_drew (below_drew (below_drew HB.out _) _) _) _⟩
set_option maxHeartbeats 2000000 in
theorem over_none0 (x y z : Int) (s t : ByteArray) (w : World)
    (hA : Calls Tryz.prog 187 #[.string s] w fun e w' => GoodV w w' e x y z []) (hT : ∀ W, Calls Tryz.prog 187 #[.string t] W fun e w' => GoodV W w' e x y z []) :
    Calls Tryz.prog 193 #[.string s, .string t] w fun e w' => e = .returned (.int .i64 (0)) ∧ Below w.heap.size w w' := by
  have HA := hid hA
  have HT := hid hT
  clear hA hT
  go_enter Tryz.func193, Tryz.ntmps193
  go_wp2_with fail
  refine HA.out.mono ?_
  rintro e w1 ⟨⟨sa, ca, rfl, hc1⟩, hb1⟩
  have HC1 := hid hc1
  have HB1 := hid hb1
  clear hc1 hb1
  go_wp2_with fail
  refine (HT.out _).mono ?_
  rintro e w2 ⟨⟨sb, cb, rfl, hc2⟩, hb2⟩
  have HC2 := hid hc2
  obtain ⟨⟨r0, r1, r2, r3⟩, rf, rz⟩ := res4 (hb2.mono (by simp))
  have HB2 := hid (((Below.refl w1.heap.size w1).alloc (Nat.le_refl _) _).trans (hb2.mono (by simp)))
  have HB := hid ((HB1.out.trans (HB2.out.mono HB1.out.size)).alloc (HB1.out.trans (HB2.out.mono HB1.out.size)).size (.cells #[.int .i64 x, .int .i64 y, .int .i64 z, .slice sb 0 cb] 209))
  clear hc2 hb2
  go_wp2_with fail
  refine wp_loop_rounds 4 ?_
  rw [rounds_succ]
  go_wp2_with fail
  go_quiet (fail)
  go_wp2_with fail
  rw [rounds_succ]
  go_wp2_with fail
  go_quiet (fail)
  go_wp2_with fail
  rw [rounds_succ]
  go_wp2_with fail
  go_quiet (fail)
  go_wp2_with fail
  rw [rounds_succ]
  go_wp2_with fail
  refine (sign_is _ _ (0) _ rfl).mono ?_
  rintro e w' ⟨rfl, rfl⟩
  go_wp2_with fail
  go_ret
  exact ⟨rfl, below_drew HB.out _⟩
set_option maxHeartbeats 2000000 in
theorem over_none1 (x y z : Int) (Y : List ByteArray) (s t : ByteArray) (w : World) (hp : 0 < Y.length) (hl : Y.length ≤ 1000000)
    (hA : Calls Tryz.prog 187 #[.string s] w fun e w' => GoodV w w' e x y z []) (hT : ∀ W, Calls Tryz.prog 187 #[.string t] W fun e w' => GoodV W w' e x y z Y) :
    Calls Tryz.prog 193 #[.string s, .string t] w fun e w' => e = .returned (.int .i64 (1)) ∧ Below w.heap.size w w' := by
  have h0 : ((Y.length : Int) == 0) = false := beq_eq_false_iff_ne.2 (by omega)
  have HA := hid hA
  have HT := hid hT
  clear hA hT
  go_enter Tryz.func193, Tryz.ntmps193
  go_wp2_with fail
  refine HA.out.mono ?_
  rintro e w1 ⟨⟨sa, ca, rfl, hc1⟩, hb1⟩
  have HC1 := hid hc1
  have HB1 := hid hb1
  clear hc1 hb1
  go_wp2_with fail
  refine (HT.out _).mono ?_
  rintro e w2 ⟨⟨sb, cb, rfl, hc2⟩, hb2⟩
  have HC2 := hid hc2
  obtain ⟨⟨r0, r1, r2, r3⟩, rf, rz⟩ := res4 (hb2.mono (by simp))
  have HB2 := hid (((Below.refl w1.heap.size w1).alloc (Nat.le_refl _) _).trans (hb2.mono (by simp)))
  have HB := hid ((HB1.out.trans (HB2.out.mono HB1.out.size)).alloc (HB1.out.trans (HB2.out.mono HB1.out.size)).size (.cells #[.int .i64 x, .int .i64 y, .int .i64 z, .slice sb Y.length cb] 209))
  clear hc2 hb2
  go_wp2_with fail
  refine wp_loop_rounds 4 ?_
  rw [rounds_succ]
  go_wp2_with fail
  go_quiet (fail)
  go_wp2_with fail
  rw [rounds_succ]
  go_wp2_with fail
  go_quiet (fail)
  go_wp2_with fail
  rw [rounds_succ]
  go_wp2_with fail
  go_quiet (fail)
  go_wp2_with fail
  rw [rounds_succ]
  go_wp2_with fail
  refine (sign_is _ _ (1) _ rfl).mono ?_
  rintro e w' ⟨rfl, rfl⟩
  go_wp2_with fail
  go_ret
  exact ⟨rfl, below_drew HB.out _⟩
set_option maxHeartbeats 2000000 in
theorem over_none2 (x y z : Int) (X : List ByteArray) (s t : ByteArray) (w : World) (hp : 0 < X.length) (hl : X.length ≤ 1000000)
    (hA : Calls Tryz.prog 187 #[.string s] w fun e w' => GoodV w w' e x y z X) (hT : ∀ W, Calls Tryz.prog 187 #[.string t] W fun e w' => GoodV W w' e x y z []) :
    Calls Tryz.prog 193 #[.string s, .string t] w fun e w' => e = .returned (.int .i64 (-1)) ∧ Below w.heap.size w w' := by
  have h0 : ((X.length : Int) == 0) = false := beq_eq_false_iff_ne.2 (by omega)
  have HA := hid hA
  have HT := hid hT
  clear hA hT
  go_enter Tryz.func193, Tryz.ntmps193
  go_wp2_with fail
  refine HA.out.mono ?_
  rintro e w1 ⟨⟨sa, ca, rfl, hc1⟩, hb1⟩
  have HC1 := hid hc1
  have HB1 := hid hb1
  clear hc1 hb1
  go_wp2_with fail
  refine (HT.out _).mono ?_
  rintro e w2 ⟨⟨sb, cb, rfl, hc2⟩, hb2⟩
  have HC2 := hid hc2
  obtain ⟨⟨r0, r1, r2, r3⟩, rf, rz⟩ := res4 (hb2.mono (by simp))
  have HB2 := hid (((Below.refl w1.heap.size w1).alloc (Nat.le_refl _) _).trans (hb2.mono (by simp)))
  have HB := hid ((HB1.out.trans (HB2.out.mono HB1.out.size)).alloc (HB1.out.trans (HB2.out.mono HB1.out.size)).size (.cells #[.int .i64 x, .int .i64 y, .int .i64 z, .slice sb 0 cb] 209))
  clear hc2 hb2
  go_wp2_with fail
  refine wp_loop_rounds 4 ?_
  rw [rounds_succ]
  go_wp2_with fail
  go_quiet (fail)
  go_wp2_with fail
  rw [rounds_succ]
  go_wp2_with fail
  go_quiet (fail)
  go_wp2_with fail
  rw [rounds_succ]
  go_wp2_with fail
  go_quiet (fail)
  go_wp2_with fail
  rw [rounds_succ]
  go_wp2_with fail
  refine (sign_is _ _ (-1) _ rfl).mono ?_
  rintro e w' ⟨rfl, rfl⟩
  go_wp2_with fail
  go_ret
  exact ⟨rfl, below_drew HB.out _⟩
set_option maxHeartbeats 4000000 in
theorem over_some (x y z : Int) (X Y : List ByteArray) (s t : ByteArray) (w : World) (hp : 0 < X.length) (hp2 : 0 < Y.length) (hl : X.length ≤ 1000000) (hl2 : Y.length ≤ 1000000) (hXs : ∀ x, x ∈ X → x.size ≤ maxLen ∧ part x.data.toList = 0) (hYs : ∀ x, x ∈ Y → x.size ≤ maxLen ∧ part x.data.toList = 0)
    (hA : Calls Tryz.prog 187 #[.string s] w fun e w' => GoodV w w' e x y z X) (hT : ∀ W, Calls Tryz.prog 187 #[.string t] W fun e w' => GoodV W w' e x y z Y) :
    Calls Tryz.prog 193 #[.string s, .string t] w fun e w' => e = .returned (.int .i64 (ordPs (bl X) (bl Y))) ∧ Below w.heap.size w w' := by
  have h0 : ((X.length : Int) == 0) = false := beq_eq_false_iff_ne.2 (by omega)
  have h02 : ((Y.length : Int) == 0) = false := beq_eq_false_iff_ne.2 (by omega)
  have HXS := hid hXs
  have HYS := hid hYs
  clear hXs hYs
  have HA := hid hA
  have HT := hid hT
  clear hA hT
  go_enter Tryz.func193, Tryz.ntmps193
  go_wp2_with fail
  refine HA.out.mono ?_
  rintro e w1 ⟨⟨sa, ca, rfl, hc1⟩, hb1⟩
  have HC1 := hid hc1
  have HB1 := hid hb1
  clear hc1 hb1
  go_wp2_with fail
  refine (HT.out _).mono ?_
  rintro e w2 ⟨⟨sb, cb, rfl, hc2⟩, hb2⟩
  have HC2 := hid hc2
  obtain ⟨⟨r0, r1, r2, r3⟩, rf, rz⟩ := res4 (hb2.mono (by simp))
  have HB2 := hid (((Below.refl w1.heap.size w1).alloc (Nat.le_refl _) _).trans (hb2.mono (by simp)))
  have HB := hid ((HB1.out.trans (HB2.out.mono HB1.out.size)).alloc (HB1.out.trans (HB2.out.mono HB1.out.size)).size (.cells #[.int .i64 x, .int .i64 y, .int .i64 z, .slice sb Y.length cb] 209))
  clear hc2 hb2
  go_wp2_with fail
  obtain ⟨ga, rfl, hca⟩ : ∃ g, sa = some ⟨g, 0, none⟩ ∧ ∀ j (hj : j < X.length), w1.cell? ⟨g, j, none⟩ = some (.string X[j]) := by
    rcases HC1.out with h | h
    · subst h; simp at hp
    · exact h
  obtain ⟨gb, rfl, hcb⟩ : ∃ g, sb = some ⟨g, 0, none⟩ ∧ ∀ j (hj : j < Y.length), w2.cell? ⟨g, j, none⟩ = some (.string Y[j]) := by
    rcases HC2.out with h | h
    · subst h; simp at hp2
    · exact h
  have HCA := hid (fun j (hj : j < X.length) => cell_below HB2.out (hca j hj))
  have HCB := hid hcb
  have HOS := hid (show Os w (w2.alloc (.cells #[.int .i64 x, .int .i64 y, .int .i64 z, .slice (some ⟨gb, 0, none⟩) Y.length cb] 209)) w1.heap.size w2.heap.size ga gb ca cb X Y from
    ⟨HB.out, by rw [World.cell?_alloc_lt _ _ _ (by show w1.heap.size < _; exact rz)]; exact r3, by rw [World.cell?_alloc_at _ _ _ _ rfl]; rfl,
      fun j hj => by rw [World.cell?_alloc_lt _ _ _ (lt_of_cell (HCA.out j hj))]; exact HCA.out j hj, fun j hj => by rw [World.cell?_alloc_lt _ _ _ (lt_of_cell (HCB.out j hj))]; exact HCB.out j hj⟩)
  clear hca hcb HC1 HC2
  refine wp_loop_rounds 4 ?_
  rw [rounds_succ]
  go_wp2_with fail
  go_quiet (fail)
  go_wp2_with fail
  rw [rounds_succ]
  go_wp2_with fail
  go_quiet (fail)
  go_wp2_with fail
  rw [rounds_succ]
  go_wp2_with fail
  go_quiet (fail)
  go_wp2_with fail
  rw [rounds_succ]
  go_wp2_with fail
  go_loopw [10] (fun i wr => ∃ (k d : Nat) (W : World), k ≤ X.length ∧ k ≤ Y.length ∧ i = .int .i64 k ∧ Hid (ordPs (bl X) (bl Y) = ordPs (bl (X.drop k)) (bl (Y.drop k))) ∧ Hid (Os w W w1.heap.size w2.heap.size ga gb ca cb X Y) ∧ wr = W.drewN d) (fun i _ => X.length - (intOf i).toNat)
  case atStart => exact ⟨0, _, _, Nat.zero_le _, Nat.zero_le _, rfl, hid rfl, HOS, rfl⟩
  case round =>
    clear HB HB1 HB2 r0 r1 r2 r3 rf rz
    obtain ⟨k, d, W, hk, hk2, rfl, HO, HW, rfl⟩ := hrel
    have p3 := HW.out.p3
    have q3 := HW.out.q3
    by_cases hlt : k < X.length
    · have t1 : decide ((k : Int) < (X.length : Int)) = true := decide_eq_true (by omega)
      by_cases hlt2 : k < Y.length
      · have t2 : decide ((k : Int) < (Y.length : Int)) = true := decide_eq_true (by omega)
        have hx := HW.out.xs k hlt
        have hy := HW.out.ys k hlt2
        have HP := hid (fun W => opart_any X[k] Y[k] W (HXS.out _ (List.getElem_mem hlt)).1 (HYS.out _ (List.getElem_mem hlt2)).1)
        rw [ordPart_num (HXS.out _ (List.getElem_mem hlt)).2 (HYS.out _ (List.getElem_mem hlt2)).2] at HP
        have HN := hid (HO.out.trans (ordPs_step X Y k hlt hlt2))
        generalize hq : ordPart X[k].data.toList Y[k].data.toList = q at *
        clear hq HO
        by_cases hz : q = 0
        · subst hz
          go_wp2_with fail
          go_quiet (first | (go_at_call 225; refine (HP.out _).mono fun e w' h => ⟨h.1, _, h.2⟩))
          go_wp2_with fail
          go_roundw
          case rel => exact ⟨k + 1, _, W, by omega, by omega, by go_num, hid (HN.out.trans (fst0 _)), HW, rfl⟩
          case measure => simp [intOf]; omega
        · have hqb : (q == 0) = false := beq_eq_false_iff_ne.2 hz
          have HF := hid (HN.out.trans (fst_ne _ hz))
          clear hz
          go_wp2_with fail
          go_quiet (first | (go_at_call 225; refine (HP.out _).mono fun e w' h => ⟨h.1, _, h.2⟩))
          go_wp2_with fail
          go_ret
          exact ⟨ret_int HF.out.symm, by first | exact below_drew HW.out.bl _ | exact below_drew (below_drew HW.out.bl _) _ | exact below_drew (below_drew (below_drew HW.out.bl _) _) _⟩
      · have HF := hid (HO.out.trans (ordPs_long X Y k hlt (by omega)))
        have t2 : decide ((k : Int) < (Y.length : Int)) = false := decide_eq_false (by omega)
        clear HO
        go_wp2_with fail
        refine (sign_is _ _ 1 _ ?hk).mono ?_
        case hk => simp [show ¬ X.length < Y.length by omega, show Y.length < X.length by omega]
        rintro e w' ⟨rfl, rfl⟩
        go_wp2_with fail
        go_ret
        exact ⟨ret_int HF.out.symm, by first | exact below_drew HW.out.bl _ | exact below_drew (below_drew HW.out.bl _) _ | exact below_drew (below_drew (below_drew HW.out.bl _) _) _⟩
    · have t1 : decide ((k : Int) < (X.length : Int)) = false := decide_eq_false (by omega)
      by_cases hlt2 : X.length < Y.length
      · have HF := hid (HO.out.trans (ordPs_short X Y k (by omega) (by omega)))
        clear HO
        go_wp2_with fail
        refine (sign_is _ _ (-1) _ ?hk).mono ?_
        case hk => simp
        rintro e w' ⟨rfl, rfl⟩
        go_wp2_with fail
        go_ret
        exact ⟨ret_int HF.out.symm, by first | exact below_drew HW.out.bl _ | exact below_drew (below_drew HW.out.bl _) _ | exact below_drew (below_drew (below_drew HW.out.bl _) _) _⟩
      · have HF := hid (HO.out.trans (ordPs_end X Y k (by omega) (by omega)))
        clear HO
        go_wp2_with fail
        refine (sign_is _ _ 0 _ ?hk).mono ?_
        case hk => simp [show ¬ Y.length < X.length by omega]
        rintro e w' ⟨rfl, rfl⟩
        go_wp2_with fail
        go_ret
        exact ⟨ret_int HF.out.symm, by first | exact below_drew HW.out.bl _ | exact below_drew (below_drew HW.out.bl _) _ | exact below_drew (below_drew (below_drew HW.out.bl _) _) _⟩
theorem orderVer_any (s t : ByteArray) (w : World) (hs : s.size < 999999) (ht : t.size < 999999) (h1 : verErr s.data.toList = 0) (h2 : verErr t.data.toList = 0) :
    Calls Tryz.prog 193 #[.string s, .string t] w fun e w' => e = .returned (.int .i64 (ordV s.data.toList t.data.toList)) ∧ Below w.heap.size w w' := by
  obtain ⟨X, hX⟩ : ∃ X, bl X = preOf s.data.toList := ⟨_, bl_strs _⟩
  obtain ⟨Y, hY⟩ : ∃ X, bl X = preOf t.data.toList := ⟨_, bl_strs _⟩
  have hA := verOf_good s w (by omega) h1 X hX
  have hT := fun W => verOf_good t W (by omega) h2 Y hY
  have lX : X.length ≤ 1000000 := by have := pre_len (l := s.data.toList); rw [← hX, bl_len, len_eq] at this; omega
  have lY : Y.length ≤ 1000000 := by have := pre_len (l := t.data.toList); rw [← hY, bl_len, len_eq] at this; omega
  have pX : ∀ x, x ∈ X → x.size ≤ maxLen ∧ part x.data.toList = 0 := fun x hx => by
    have hm : x.data.toList ∈ preOf s.data.toList := hX ▸ bl_mem hx
    refine ⟨?_, ver_parts h1 _ hm⟩
    have := pre_size hm
    rw [len_eq, len_eq] at this
    unfold maxLen; omega
  have pY : ∀ x, x ∈ Y → x.size ≤ maxLen ∧ part x.data.toList = 0 := fun x hx => by
    have hm : x.data.toList ∈ preOf t.data.toList := hY ▸ bl_mem hx
    refine ⟨?_, ver_parts h2 _ hm⟩
    have := pre_size hm
    rw [len_eq, len_eq] at this
    unfold maxLen; omega
  unfold ordV
  rw [← hX, ← hY]
  generalize nAt s.data.toList 0 = x at *
  generalize nAt s.data.toList 1 = y at *
  generalize nAt s.data.toList 2 = z at *
  generalize nAt t.data.toList 0 = x' at *
  generalize nAt t.data.toList 1 = y' at *
  generalize nAt t.data.toList 2 = z' at *
  unfold ordN
  by_cases e0 : x = x'
  · subst e0
    rw [ci_self, fst0]
    by_cases e1 : y = y'
    · subst e1
      rw [ci_self, fst0]
      by_cases e2 : z = z'
      · subst e2
        rw [ci_self, fst0]
        unfold ordPre
        by_cases f0 : X = []
        · subst f0
          rw [if_pos (show bl [] = [] ∨ bl Y = [] from Or.inl rfl), bl_len]
          by_cases f1 : Y = []
          · subst f1
            exact over_none0 x y z s t w hA hT
          · have hp := List.length_pos_iff.2 f1
            rw [show Lib.compareInt (Y.length : Int) ((bl []).length : Int) = 1 from ci_gt (by show (0 : Int) < _; omega)]
            exact over_none1 x y z Y s t w hp lY hA hT
        · by_cases f1 : Y = []
          · subst f1
            have hp := List.length_pos_iff.2 f0
            rw [if_pos (show bl X = [] ∨ bl [] = [] from Or.inr rfl), bl_len X, show Lib.compareInt ((bl []).length : Int) (X.length : Int) = -1 from ci_lt (by show (0 : Int) < _; omega)]
            exact over_none2 x y z X s t w hp lX hA hT
          · rw [if_neg (by rintro (h | h); exact f0 (bl_nil.1 h); exact f1 (bl_nil.1 h))]
            exact over_some x y z X Y s t w (List.length_pos_iff.2 f0) (List.length_pos_iff.2 f1) lX lY pX pY hA hT
      · rw [fst_ne _ (fun h => e2 ((ci_zero _ _).1 h))]
        exact over_2 x y z z' X Y s t w e2 hA hT
    · rw [fst_ne _ (fun h => e1 ((ci_zero _ _).1 h))]
      exact over_1 x y y' z z' X Y s t w e1 hA hT
  · rw [fst_ne _ (fun h => e0 ((ci_zero _ _).1 h))]
    exact over_0 x x' y y' z z' X Y s t w e0 hA hT
end Ve
end Go.Proofs.YtjndahjfodnllaaGreatDoor


namespace Go.Proofs.YtjndahjfodnllaaGreatDoor
open Go.RowKit
namespace Ve
set_option maxHeartbeats 1000000 in
theorem isLess_any (s t : ByteArray) (w : World) (hs : s.size < 999999) (ht : t.size < 999999) :
    Calls Tryz.prog 189 #[.string s, .string t] w fun e w' => e = .returned (.bool (lessB s.data.toList t.data.toList)) ∧ Below w.heap.size w w' := by
  have HL := hid (show lessB s.data.toList t.data.toList = (decide (verErr s.data.toList = 0) && (decide (verErr t.data.toList = 0) && decide (ordV s.data.toList t.data.toList < 0))) from rfl)
  have HA := hid (isVer_any s w (by omega))
  have HT := hid (fun W => isVer_any t W (by omega))
  by_cases h1 : verErr s.data.toList = 0
  all_goals by_cases h2 : verErr t.data.toList = 0
  · have HO := hid (fun W => orderVer_any s t W hs ht h1 h2)
    rw [decide_eq_true h1] at HA
    rw [decide_eq_true h2] at HT
    rw [decide_eq_true h1, decide_eq_true h2] at HL
    clear h1 h2
    generalize ordV s.data.toList t.data.toList = k at *
    go_enter Tryz.func189, Tryz.ntmps189
    go_wp2_with fail
    refine HA.out.mono ?_
    rintro e w1 ⟨rfl, hb1⟩
    have HB1 := hid hb1
    clear hb1
    go_wp2_with fail
    refine (HT.out _).mono ?_
    rintro e w2 ⟨rfl, hb2⟩
    have HB2 := hid (HB1.out.trans (hb2.mono HB1.out.size))
    clear hb2
    go_wp2_with fail
    refine (HO.out _).mono ?_
    rintro e w3 ⟨rfl, hb3⟩
    have HB3 := hid (HB2.out.trans (hb3.mono HB2.out.size))
    clear hb3
    go_wp2_with fail
    go_ret
    exact ⟨ret_bool (by rw [HL.out]; rfl), HB3.out⟩
  · rw [decide_eq_true h1] at HA
    rw [decide_eq_false h2] at HT
    rw [decide_eq_true h1, decide_eq_false h2] at HL
    clear h1 h2
    go_enter Tryz.func189, Tryz.ntmps189
    go_wp2_with fail
    refine HA.out.mono ?_
    rintro e w1 ⟨rfl, hb1⟩
    have HB1 := hid hb1
    clear hb1
    go_wp2_with fail
    refine (HT.out _).mono ?_
    rintro e w2 ⟨rfl, hb2⟩
    have HB2 := hid (HB1.out.trans (hb2.mono HB1.out.size))
    clear hb2
    go_wp2_with fail
    go_ret
    exact ⟨ret_bool (by rw [HL.out]; rfl), HB2.out⟩
  · rw [decide_eq_false h1] at HA
    rw [decide_eq_true h2] at HT
    rw [decide_eq_false h1] at HL
    clear h1 h2
    go_enter Tryz.func189, Tryz.ntmps189
    go_wp2_with fail
    refine HA.out.mono ?_
    rintro e w1 ⟨rfl, hb1⟩
    have HB1 := hid hb1
    clear hb1
    go_wp2_with fail
    refine (HT.out _).mono ?_
    rintro e w2 ⟨rfl, hb2⟩
    have HB2 := hid (HB1.out.trans (hb2.mono HB1.out.size))
    clear hb2
    go_wp2_with fail
    go_ret
    exact ⟨ret_bool (by rw [HL.out]; rfl), HB2.out⟩
  · rw [decide_eq_false h1] at HA
    rw [decide_eq_false h2] at HT
    rw [decide_eq_false h1] at HL
    clear h1 h2
    go_enter Tryz.func189, Tryz.ntmps189
    go_wp2_with fail
    refine HA.out.mono ?_
    rintro e w1 ⟨rfl, hb1⟩
    have HB1 := hid hb1
    clear hb1
    go_wp2_with fail
    refine (HT.out _).mono ?_
    rintro e w2 ⟨rfl, hb2⟩
    have HB2 := hid (HB1.out.trans (hb2.mono HB1.out.size))
    clear hb2
    go_wp2_with fail
    go_ret
    exact ⟨ret_bool (by rw [HL.out]; rfl), HB2.out⟩
end Ve
end Go.Proofs.YtjndahjfodnllaaGreatDoor


namespace Go.Proofs.YtjndahjfodnllaaGreatDoor
open Go.RowKit
namespace Ve
theorem n0_pos {l : List UInt8} (h : verErr l = 0) : 0 ≤ nAt l 0 ∧ nAt l 0 ≤ 999999 := by
  unfold verErr at h
  by_cases hc : marked l = false ∨ (coreOf l).length ≠ 3
  · rw [if_pos hc] at h; omega
  rw [if_neg hc] at h
  have h3 : (coreOf l).length = 3 := by
    rcases Nat.decEq (coreOf l).length 3 with h | h
    · exact absurd (Or.inr h) hc
    · exact h
  have hn : numsErr (coreOf l) = 0 := by
    cases e : hasPre l
    · rw [e] at h; exact h
    · rw [e] at h
      have h' : worse (numsErr (coreOf l)) (pre (preOf l)) = 0 := h
      unfold worse at h'
      by_cases q : numsErr (coreOf l) = 1 ∨ pre (preOf l) = 0
      · rw [if_pos q] at h'; exact h'
      · rw [if_neg q] at h'; exact absurd (Or.inr h') q
  obtain ⟨p0, p1, p2, hco⟩ : ∃ p0 p1 p2, coreOf l = [p0, p1, p2] := by
    match e : coreOf l, h3 with
    | [a, b, c], _ => exact ⟨a, b, c, rfl⟩
  have hz := ncode0 hn
  rw [hco] at hz
  have n0 : nAt l 0 = (num p0).1 := by simp [nAt, numsOf, hco]
  obtain ⟨_, l0, u0⟩ := itoa_num p0 (hz p0 (by simp))
  rw [n0]; exact ⟨l0, u0⟩
theorem pathN_is {l : List UInt8} (h : pathErr l = 0) : pathN l = 0 ∨ 2 ≤ pathN l := by
  unfold pathN
  cases hu : sufE l
  · left; rfl
  · right; exact suf_pos (suf_fits h hu)
set_option maxRecDepth 100000 in
set_option maxHeartbeats 4000000 in
theorem modError_any (p v : ByteArray) (w : World) (hp : p.size < 4294967281) (hv : v.size < 4294967281) :
    Calls Tryz.prog 130 #[.agg #[.string p, .string v]] w fun e w' => e = .returned (.int .i64 (modErr p.data.toList v.data.toList : Nat)) ∧ Below w.heap.size w w' := by
  have HB0 := hid ((Below.refl w.heap.size w).alloc (Nat.le_refl _) (.cells #[.string p, .string v] 38))
  have HP := hid (pathError_any p (w.alloc (.cells #[.string p, .string v] 38)) hp)
  have HM := hid (show modErr p.data.toList v.data.toList = if pathErr p.data.toList = 0 then (if verErr v.data.toList = 0 then (if fitsB (nAt v.data.toList 0) (pathN p.data.toList) then 0 else 4) else verErr v.data.toList) else pathErr p.data.toList from rfl)
  by_cases h0 : pathErr p.data.toList = 0
  · rw [if_pos h0] at HM
    have HV := hid (fun W => verOf_any v W hv)
    by_cases h1 : verErr v.data.toList = 0
    · rw [if_pos h1] at HM
      have HSP := hid (fun W => splitPath_any p W hp)
      have e2 : splitN p.data.toList = pathN p.data.toList := by unfold splitN; rw [if_pos h0]
      rw [e2] at HSP
      have HPN := hid (pathN_is h0)
      have HN0 := hid (n0_pos h1)
      have HF := hid (show fitsB (nAt v.data.toList 0) (pathN p.data.toList) = (if pathN p.data.toList == 0 then (nAt v.data.toList 0 == 0 || nAt v.data.toList 0 == 1) else nAt v.data.toList 0 == pathN p.data.toList) from rfl)
      have H1 := hid h1
      rw [h0] at HP
      clear h0 h1 e2
      go_enter Tryz.func130, Tryz.ntmps130
      go_wp2_with fail
      refine HP.out.mono ?_
      rintro e w1 ⟨rfl, hb1⟩
      have HB1 := hid (HB0.out.trans (hb1.mono HB0.out.size))
      obtain ⟨⟨r0, r1⟩, rz⟩ := res2 (hb1.mono (by simp))
      clear hb1
      go_wp2_with fail
      refine (HV.out _).mono ?_
      rintro e w2 ⟨hv2, hb2⟩
      obtain ⟨sa, cap, X2, rfl⟩ : ∃ sa cap X2, e = .returned (.tuple #[.agg #[.int .i64 (nAt v.data.toList 0), .int .i64 (nAt v.data.toList 1), .int .i64 (nAt v.data.toList 2), .slice sa X2 cap], .int .i64 0]) := by
        rcases hv2 with ⟨h, _⟩ | ⟨_, sa, cap, X2, e1, _⟩
        · exact absurd H1.out h
        · exact ⟨sa, cap, _, e1⟩
      have HB2 := hid (HB1.out.trans (hb2.mono HB1.out.size))
      have HC0 := hid (cell_below hb2 r0)
      have HBV := hid ((Below.refl w2.heap.size w2).alloc (Nat.le_refl _) (.cells #[.int .i64 (nAt v.data.toList 0), .int .i64 (nAt v.data.toList 1), .int .i64 (nAt v.data.toList 2), .slice sa X2 cap] 209))
      have c0 := cell_below HBV.out HC0.out
      have HB3 := hid (HB2.out.trans (HBV.out.mono HB2.out.size))
      generalize nAt v.data.toList 1 = b1 at *
      generalize nAt v.data.toList 2 = b2 at *
      generalize hn0 : nAt v.data.toList 0 = b0 at *
      clear hv2 hb2 hn0 r0 r1 rz
      go_wp2_with fail
      refine (HSP.out _).mono ?_
      rintro e w4 ⟨H, rfl, _, hb4⟩
      have HB4 := hid (HB3.out.trans (hb4.mono HB3.out.size))
      obtain ⟨⟨q0, q1, q2, q3⟩, _, qz⟩ := res4 (hb4.mono (by simp))
      generalize pathN p.data.toList = n at *
      clear hb4 c0
      have hb0 := HN0.out.1
      have hb9 := HN0.out.2
      by_cases hz : n = 0
      · subst hz
        by_cases hg : 1 < b0
        · have HR := hid (show (if fitsB b0 0 then 0 else 4) = 4 by
            have : fitsB b0 0 = false := by
              rw [HF.out]
              simp; omega
            rw [this]; rfl)
          rw [HR.out] at HM
          go_wp2_with fail
          go_ret
          exact ⟨by rw [HM.out]; rfl, HB4.out⟩
        · have HR := hid (show (if fitsB b0 0 then 0 else 4) = 0 by
            have : fitsB b0 0 = true := by
              rw [HF.out]
              simp; omega
            rw [this]; rfl)
          rw [HR.out] at HM
          go_wp2_with fail
          go_ret
          exact ⟨by rw [HM.out]; rfl, HB4.out⟩
      · have hpos : 0 < n := by have := HPN.out; omega
        have hnz : (n == 0) = false := beq_eq_false_iff_ne.2 hz
        by_cases hg : b0 = n
        · subst hg
          have HR := hid (show (if fitsB b0 b0 then 0 else 4) = 0 by
            have : fitsB b0 b0 = true := by
              rw [HF.out, hnz]; simp
            rw [this]; rfl)
          rw [HR.out] at HM
          have hbb : (b0 == b0) = true := by simp
          have hbn : (b0 != b0) = false := by simp
          go_wp2_with fail
          go_ret
          exact ⟨by rw [HM.out]; rfl, HB4.out⟩
        · have hbb : (b0 == n) = false := beq_eq_false_iff_ne.2 hg
          have hbn : (b0 != n) = true := by rw [bne, hbb]; rfl
          have HR := hid (show (if fitsB b0 n then 0 else 4) = 4 by
            have : fitsB b0 n = false := by
              rw [HF.out, hnz]; simpa using hg
            rw [this]; rfl)
          rw [HR.out] at HM
          go_wp2_with fail
          go_ret
          exact ⟨by rw [HM.out]; rfl, HB4.out⟩
    · rw [if_neg h1] at HM
      have H1 := hid h1
      have hpos : (0 : Int) < (verErr v.data.toList : Int) := by omega
      rw [h0] at HP
      rw [HM.out]
      clear h0 h1
      go_enter Tryz.func130, Tryz.ntmps130
      go_wp2_with fail
      refine HP.out.mono ?_
      rintro e w1 ⟨rfl, hb1⟩
      have HB1 := hid (HB0.out.trans (hb1.mono HB0.out.size))
      obtain ⟨⟨r0, r1⟩, rz⟩ := res2 (hb1.mono (by simp))
      clear hb1
      go_wp2_with fail
      refine (HV.out _).mono ?_
      rintro e w2 ⟨hv2, hb2⟩
      obtain rfl : e = .returned (.tuple #[.agg #[.int .i64 0, .int .i64 0, .int .i64 0, .slice none 0 0], .int .i64 (verErr v.data.toList : Nat)]) := by
        rcases hv2 with ⟨_, h⟩ | ⟨h, _⟩
        · exact h
        · exact absurd h H1.out
      have HB2 := hid (HB1.out.trans (hb2.mono HB1.out.size))
      have HBV := hid ((Below.refl w2.heap.size w2).alloc (Nat.le_refl _) (.cells #[.int .i64 0, .int .i64 0, .int .i64 0, .slice none 0 0] 209))
      have HB3 := hid (HB2.out.trans (HBV.out.mono HB2.out.size))
      clear hv2 hb2 r0 r1 rz
      generalize hce : (verErr v.data.toList : Int) = c at *
      have HCE := hid hce
      clear hce
      go_wp2_with fail
      go_ret
      exact ⟨by rw [HCE.out]; rfl, HB3.out⟩
  · rw [if_neg h0] at HM
    have hpos : (0 : Int) < (pathErr p.data.toList : Int) := by omega
    rw [HM.out]
    generalize (pathErr p.data.toList : Int) = c at *
    clear h0 HM
    go_enter Tryz.func130, Tryz.ntmps130
    go_wp2_with fail
    refine HP.out.mono ?_
    rintro e w1 ⟨rfl, hb1⟩
    have HB1 := hid (HB0.out.trans (hb1.mono HB0.out.size))
    clear hb1
    go_wp2_with fail
    go_ret
    exact ⟨rfl, HB1.out⟩
end Ve
end Go.Proofs.YtjndahjfodnllaaGreatDoor


namespace Go.Proofs.YtjndahjfodnllaaGreatDoor
open Go.RowKit
namespace Ve
def reqsR (own : ByteArray) (L : List Bm) : Nat × Nat := match fstE (reqE own L) L.length with
  | some i => (reqE own L i, i)
  | none => (0, 0)
theorem reqsR_some {own : ByteArray} {L : List Bm} {k : Nat} (h0 : ∀ j, j < k → reqE own L j = 0) (hk : k < L.length) (h : reqE own L k ≠ 0) : reqsR own L = (reqE own L k, k) := by
  unfold reqsR; rw [fstE_some h0 h hk]
theorem reqsR_none {own : ByteArray} {L : List Bm} (h : ∀ j, j < L.length → reqE own L j = 0) : reqsR own L = (0, 0) := by
  unfold reqsR; rw [fstE_none h]
theorem zero_next {E : Nat → Nat} {k : Nat} (h : ∀ j, j < k → E j = 0) (hk : E k = 0) : ∀ j, j < k + 1 → E j = 0 := fun j hj => by
  rcases Nat.lt_or_ge j k with h1 | h1
  · exact h j h1
  · have : j = k := by omega
    subst this; exact hk
theorem leq_no (a b : ByteArray) : (Op.bytesLess a.toList b.toList || a.toList == b.toList) = noLess b a := by
  have h := cb_more a.toList b.toList
  rw [ByteArray.toList_eq, ByteArray.toList_eq] at h ⊢
  unfold noLess
  rw [cb_swap a.data.toList b.data.toList]
  cases hx : (Op.bytesLess a.data.toList b.data.toList || a.data.toList == b.data.toList) <;> rw [hx] at h <;> simp at h ⊢ <;> omega
theorem leq_is (a b : ByteArray) (X : World) : (binOp BinOp.leq 9 (.string a) (.string b)).run Tryz.prog X = .ok (.bool (noLess b a)) X := by rw [← leq_no]; rfl
set_option maxHeartbeats 4000000 in
set_option maxRecDepth 100000 in
theorem reqsE_some (own : ByteArray) (L : List Bm) (b o c : Nat) (w : World) (hn : L.length ≤ 1000000) (hs : shortL L)
    (hc : ∀ j (h : j < L.length), w.cell? ⟨b, o + j * 2, none⟩ = some (.string L[j].1) ∧ w.cell? ⟨b, o + j * 2 + 1, none⟩ = some (.string L[j].2)) :
    Calls Tryz.prog 132 #[.slice (some ⟨b, o, none⟩) L.length c, .string own] w fun e w' => e = .returned (.tuple #[.int .i64 ((reqsR own L).1 : Nat), .int .i64 ((reqsR own L).2 : Nat)]) ∧ Below w.heap.size w w' := by
  have HC := hid hc
  have HS := hid hs
  generalize hr : reqsR own L = r
  have HR := hid hr
  clear hc hs hr
  go_enter Tryz.func132, Tryz.ntmps132
  go_wp2_with fail
  go_loopw [6] (fun i wr => ∃ k : Nat, k ≤ L.length ∧ i = .int .i64 k ∧ Hid (∀ j, j < k → reqE own L j = 0) ∧ Hid (Below w.heap.size w wr)) (fun i _ => L.length - (intOf i).toNat)
  case atStart => exact ⟨0, Nat.zero_le _, rfl, hid (fun j hj => absurd hj (by omega)), hid (Below.refl _ _)⟩
  case round =>
    obtain ⟨k, hk, rfl, HZ, HB⟩ := hrel
    by_cases hlt : k < L.length
    · have hx := cell_below HB.out (HC.out k hlt).1
      have hy := cell_below HB.out (HC.out k hlt).2
      have hkI : (k : Int) < (L.length : Int) := by omega
      have HM := hid (modError_any L[k].1 L[k].2 wr (by have := (HS.out L[k] (List.getElem_mem hlt)).1; omega) (by have := (HS.out L[k] (List.getElem_mem hlt)).2; omega))
      rw [show modErr L[k].1.data.toList L[k].2.data.toList = mErr L[k] from rfl] at HM
      have HN := hid (fun h => reqsR_some HZ.out hlt h)
      have HY := hid (fun h => zero_next HZ.out h)
      have HLT := hid hlt
      rcases Nat.eq_zero_or_pos k with h00 | h00
      · have HE := hid (show reqE own L k = reqW own none L[k] by subst h00; exact reqE_0 hlt)
        have g3 : decide (0 < k) = false := decide_eq_false (by omega)
        generalize L[k] = x at *
        obtain ⟨p, v⟩ := x
        clear hlt h00
        by_cases h0 : mErr (p, v) = 0
        · rw [h0] at HM
          by_cases h1 : p = own
          · have HV := hid (HN.out (by rw [HE.out, reqW_own h0 h1]; decide))
            rw [HE.out, reqW_own h0 h1] at HV
            rw [h1] at hx HM
            have hq := str_refl own
            clear h0 h1
            go_wp2_with fail
            refine HM.out.mono ?_
            rintro e w1 ⟨rfl, hb⟩
            have HB1 := hid (HB.out.trans (hb.mono HB.out.size))
            replace hx := cell_below hb hx
            replace hy := cell_below hb hy
            clear hb
            go_wp2_with fail
            go_ret2
            exact ⟨by rw [← HR.out, HV.out]; rfl, HB1.out⟩
          · have HV := hid (HY.out (by rw [HE.out, reqW_none h0 h1]))
            have hq := str_ne h1
            clear h0 h1
            go_wp2_with fail
            refine HM.out.mono ?_
            rintro e w1 ⟨rfl, hb⟩
            have HB1 := hid (HB.out.trans (hb.mono HB.out.size))
            replace hx := cell_below hb hx
            replace hy := cell_below hb hy
            clear hb
            go_wp2_with fail
            go_quiet (fail)
            go_wp2_with fail
            go_roundw
            case rel => exact ⟨k + 1, by have := HLT.out; omega, by go_num, HV, hid (below_drawn_of HB1.out _)⟩
            case measure => have := HLT.out; simp [intOf]; omega
        · have HV := hid (HN.out (by rw [HE.out, reqW_bad h0]; exact h0))
          rw [HE.out, reqW_bad h0] at HV
          have hpos : (0 : Int) < (mErr (p, v) : Int) := by omega
          generalize mErr (p, v) = z at *
          clear h0
          go_wp2_with fail
          refine HM.out.mono ?_
          rintro e w1 ⟨rfl, hb⟩
          have HB1 := hid (HB.out.trans (hb.mono HB.out.size))
          clear hb
          go_wp2_with fail
          go_ret2
          exact ⟨by rw [← HR.out, HV.out]; rfl, HB1.out⟩
      · obtain ⟨q, hq⟩ : ∃ q, k = q + 1 := ⟨k - 1, by omega⟩
        have hql : q < L.length := by omega
        have HE := hid (show reqE own L k = reqW own (some L[q]) L[k] by subst hq; exact reqE_1 hlt)
        have hxq := cell_below HB.out (HC.out q hql).1
        have gw : IntKind.i64.wrap ((k : Int) - 1) = (q : Int) := by rw [IntKind.wrap_i64]; omega
        have gw2 : (k : Int) - 1 = (q : Int) := by omega
        have g1 : (0 : Int) ≤ (q : Int) := by omega
        have g2 : (q : Int) < (L.length : Int) := by omega
        have g3 : (0 : Int) < (k : Int) := by omega
        have g4 : decide (0 < k) = true := decide_eq_true (by omega)
        generalize L[k] = x at *
        generalize L[q] = y at *
        obtain ⟨p, v⟩ := x
        obtain ⟨p', v'⟩ := y
        clear hlt hql hq h00
        by_cases h0 : mErr (p, v) = 0
        · rw [h0] at HM
          by_cases h1 : p = own
          · have HV := hid (HN.out (by rw [HE.out, reqW_own h0 h1]; decide))
            rw [HE.out, reqW_own h0 h1] at HV
            rw [h1] at hx HM
            have hq := str_refl own
            clear h0 h1
            go_wp2_with fail
            refine HM.out.mono ?_
            rintro e w1 ⟨rfl, hb⟩
            have HB1 := hid (HB.out.trans (hb.mono HB.out.size))
            replace hx := cell_below hb hx
            replace hy := cell_below hb hy
            clear hb
            go_wp2_with fail
            go_ret2
            exact ⟨by rw [← HR.out, HV.out]; rfl, HB1.out⟩
          · have hle := leq_is p p'
            have hq := str_ne h1
            cases hz : noLess p' p
            · have HV := hid (HY.out (by rw [HE.out, reqW_some h0 h1, if_neg (by rw [hz]; decide)]))
              rw [hz] at hle
              clear h0 h1 hz
              go_wp2_with fail
              refine HM.out.mono ?_
              rintro e w1 ⟨rfl, hb⟩
              have HB1 := hid (HB.out.trans (hb.mono HB.out.size))
              replace hx := cell_below hb hx
              replace hy := cell_below hb hy
              replace hxq := cell_below hb hxq
              clear hb
              go_wp2_with fail
              go_quiet (fail)
              go_wp2_with fail
              go_roundw
              case rel => exact ⟨k + 1, by have := HLT.out; omega, by go_num, HV, hid (below_drawn_of HB1.out _)⟩
              case measure => have := HLT.out; simp [intOf]; omega
            · have HV := hid (HN.out (by rw [HE.out, reqW_some h0 h1, if_pos hz]; decide))
              rw [HE.out, reqW_some h0 h1, if_pos hz] at HV
              rw [hz] at hle
              clear h0 h1 hz
              go_wp2_with fail
              refine HM.out.mono ?_
              rintro e w1 ⟨rfl, hb⟩
              have HB1 := hid (HB.out.trans (hb.mono HB.out.size))
              replace hx := cell_below hb hx
              replace hy := cell_below hb hy
              replace hxq := cell_below hb hxq
              clear hb
              go_wp2_with fail
              go_quiet (fail)
              go_wp2_with fail
              go_ret2
              exact ⟨by rw [← HR.out, HV.out]; rfl, below_drawn_of HB1.out _⟩
        · have HV := hid (HN.out (by rw [HE.out, reqW_bad h0]; exact h0))
          rw [HE.out, reqW_bad h0] at HV
          have hpos : (0 : Int) < (mErr (p, v) : Int) := by omega
          generalize mErr (p, v) = z at *
          clear h0
          go_wp2_with fail
          refine HM.out.mono ?_
          rintro e w1 ⟨rfl, hb⟩
          have HB1 := hid (HB.out.trans (hb.mono HB.out.size))
          clear hb
          go_wp2_with fail
          go_ret2
          exact ⟨by rw [← HR.out, HV.out]; rfl, HB1.out⟩
    · have HV := hid (reqsR_none (own := own) (L := L) (fun j hj => HZ.out j (by omega)))
      go_wp2_with fail
      go_ret2
      exact ⟨by rw [← HR.out, HV.out]; rfl, HB.out⟩
theorem reqsE_none (own : ByteArray) (a : Option Addr) (c : Nat) (w : World) : Calls Tryz.prog 132 #[.slice a 0 c, .string own] w fun e w' => e = .returned (.tuple #[.int .i64 0, .int .i64 0]) ∧ Below w.heap.size w w' := by
  go_enter Tryz.func132, Tryz.ntmps132
  go_wp2_with fail
  go_loopw [6] (fun i wr => i = .int .i64 0 ∧ wr = w) (fun i _ => 0)
  case atStart => exact ⟨rfl, rfl⟩
  case round =>
    obtain ⟨rfl, rfl⟩ := hrel
    go_wp2_with fail
    go_ret2
    exact ⟨rfl, Below.refl _ _⟩
theorem reqsE_any (own : ByteArray) (L : List Bm) (v : Value) (w : World) (hn : L.length ≤ 1000000) (hs : shortL L) (hv : MsAt w v L) :
    Calls Tryz.prog 132 #[v, .string own] w fun e w' => e = .returned (.tuple #[.int .i64 ((reqsR own L).1 : Nat), .int .i64 ((reqsR own L).2 : Nat)]) ∧ Below w.heap.size w w' := by
  obtain ⟨a, c, rfl, _, h⟩ := hv
  cases L with
  | nil => exact reqsE_none own a c w
  | cons x r =>
    obtain ⟨b, o, rfl, h2⟩ := h (by simp)
    exact reqsE_some own (x :: r) b o c w hn hs h2
end Ve
end Go.Proofs.YtjndahjfodnllaaGreatDoor


namespace Go.Proofs.YtjndahjfodnllaaGreatDoor
open Go.RowKit
namespace Ve
def atOf : Option Nat → Int
  | none => -1
  | some i => (i : Int)
def faultV (r : Nat × Option Nat) : Value := .agg #[.int .i64 (r.1 : Nat), .int .i64 (atOf r.2)]
theorem rbare_any (n : Int) (w : World) : Calls Tryz.prog 38 #[.int .i64 n] w fun e w' => e = .returned (.agg #[.int .i64 n, .int .i64 (-1)]) ∧ Below w.heap.size w w' := by
  go_enter Tryz.func38, Tryz.ntmps38
  go_wp2_with fail
  refine bodyPost_ret (v := .agg #[.int .i64 n, .int .i64 (-1)]) (by simp [results, Tryz.results38, go_sem]) rfl ⟨rfl, ?_⟩
  exact (Below.refl w.heap.size w).alloc (Nat.le_refl _) _
theorem fine_any (w : World) : Calls Tryz.prog 42 #[] w fun e w' => e = .returned (.agg #[.int .i64 0, .int .i64 (-1)]) ∧ Below w.heap.size w w' := by
  go_enter Tryz.func42, Tryz.ntmps42
  go_wp2_with fail
  refine bodyPost_ret (v := .agg #[.int .i64 0, .int .i64 (-1)]) (by simp [results, Tryz.results42, go_sem]) rfl ⟨rfl, ?_⟩
  exact (Below.refl w.heap.size w).alloc (Nat.le_refl _) _
end Ve
end Go.Proofs.YtjndahjfodnllaaGreatDoor


namespace Go.Proofs.YtjndahjfodnllaaGreatDoor
open Go.RowKit
namespace Ve
theorem cb_lt_iff : ∀ (a b : List UInt8), Lib.compareBytes a b < 0 ↔ a < b
  | [], [] => by simp [Lib.compareBytes]
  | [], b :: bs => by simp [Lib.compareBytes]
  | a :: r, [] => by simp [Lib.compareBytes]
  | a :: r, b :: bs => by
    simp only [Lib.compareBytes]
    rw [List.cons_lt_cons_iff]
    by_cases h1 : a < b
    · rw [if_pos h1]; simp [h1]
    · rw [if_neg h1]
      by_cases h2 : b < a
      · rw [if_pos h2]
        have : ¬ a = b := fun e => by subst e; exact absurd h2 (UInt8.lt_irrefl _)
        simp [h1, this]
      · rw [if_neg h2]
        have : a = b := u8_eq h1 h2
        subst this
        rw [cb_lt_iff r bs]
        simp [h1]
theorem range_get (S : List (List UInt8)) : (List.range S.length).map (fun j => S.toArray[j]!) = S := by
  apply List.ext_getElem
  · simp
  · intro j h1 h2
    simp [h2]
def rsT (Z : List (List UInt8)) : Prop := ∀ j (h : j + 1 < Z.length), Lib.compareBytes Z[j] Z[j + 1] < 0
theorem rsT_pair {Z : List (List UInt8)} (h : rsT Z) : Z.Pairwise fun x y => x < y := by
  have go : ∀ (d i : Nat) (hi : i + d + 1 < Z.length), Z[i] < Z[i + d + 1] := fun d => by
    induction d with
    | zero => intro i hi; exact (cb_lt_iff _ _).1 (h i hi)
    | succ d ih =>
      intro i hi
      exact List.lt_trans (ih i (by omega)) ((cb_lt_iff _ _).1 (h (i + d + 1) hi))
  rw [List.pairwise_iff_getElem]
  intro i j hi hj hij
  obtain ⟨d, rfl⟩ : ∃ d, j = i + d + 1 := ⟨j - i - 1, by omega⟩
  exact go d i hj
theorem ris_iff (Z : List (List UInt8)) : Z = risB Z ↔ rsT Z := by
  have hsrt : (srtB Z).Pairwise fun x y => x ≤ y := by
    have h := List.pairwise_mergeSort (le := fun x y : List UInt8 => decide (x ≤ y)) (fun a b c h1 h2 => by simp only [decide_eq_true_eq] at *; exact List.le_trans h1 h2) (fun a b => by simp only [Bool.or_eq_true, decide_eq_true_eq]; exact List.le_total a b) Z
    unfold srtB
    exact h.imp fun h => of_decide_eq_true h
  have hlen : (srtB Z).length = Z.length := by unfold srtB; exact List.length_mergeSort Z
  constructor
  · intro h
    have hl : (risB Z).length = (srtB Z).length := by rw [← h, hlen]
    unfold risB Lib.compact Lib.compactUpTo at hl
    rw [List.length_map] at hl
    have hk := List.length_filter_eq_length_iff.1 (hl.trans (by simp))
    have hk' : ∀ j, j < (srtB Z).length → Lib.keeps (srtB Z).toArray j = true := fun j hj => hk j (List.mem_range.2 hj)
    have hS : Z = srtB Z := by
      have h5 : risB Z = srtB Z := by
        unfold risB Lib.compact
        rw [Lib.compactUpTo_all _ _ hk', range_get]
      exact h.trans h5
    intro j hj
    have h1 := hk' (j + 1) (by rw [hlen]; exact hj)
    have h2 : (srtB Z)[j + 1]'(by rw [hlen]; exact hj) ≠ (srtB Z)[j]'(by rw [hlen]; omega) := by
      have h3 : decide (j + 1 = 0 ∨ (srtB Z).toArray[j + 1]! ≠ (srtB Z).toArray[j + 1 - 1]!) = true := h1
      rcases of_decide_eq_true h3 with h4 | h4
      · omega
      · intro e
        apply h4
        rw [getElem!_pos _ _ (by simp [hlen]; exact hj), getElem!_pos _ _ (by simp [hlen]; omega)]
        simpa using e
    have h3 := List.pairwise_iff_getElem.1 hsrt j (j + 1) (by rw [hlen]; omega) (by rw [hlen]; exact hj) (by omega)
    have e1 : Z[j] = (srtB Z)[j]'(by rw [hlen]; omega) := by congr 1
    have e2 : Z[j + 1] = (srtB Z)[j + 1]'(by rw [hlen]; exact hj) := by congr 1
    rw [cb_lt_iff, e1, e2]
    rcases List.le_iff_lt_or_eq.1 h3 with h6 | h6
    · exact h6
    · exact absurd h6.symm h2
  · intro h
    have hp := rsT_pair h
    have hS : srtB Z = Z := by
      unfold srtB
      exact List.mergeSort_of_pairwise (hp.imp fun h => decide_eq_true (List.le_of_lt h))
    unfold risB Lib.compact
    rw [hS, Lib.compactUpTo_all, range_get]
    intro j hj
    cases j with
    | zero => exact Lib.keeps_lt_one _ 0 (by omega)
    | succ j =>
      refine Lib.keeps_pos ?_
      rw [getElem!_pos _ _ (by simpa using hj), getElem!_pos _ _ (by simp; omega)]
      intro e
      have h1 := List.pairwise_iff_getElem.1 hp j (j + 1) (by omega) hj (by omega)
      have e' : Z[j + 1] = Z[j] := by simpa using e
      rw [e'] at h1
      exact absurd h1 (List.lt_irrefl _)
end Ve
end Go.Proofs.YtjndahjfodnllaaGreatDoor


namespace Go.Proofs.YtjndahjfodnllaaGreatDoor
open Go.RowKit Go.Maps
namespace Ve
set_option maxHeartbeats 1000000 in
theorem isA_any (a b : Bm) (w : World) (hv : a.2.size < 999999) (hu : b.2.size < 999999) :
    Calls Tryz.prog 131 #[.agg #[.string a.1, .string a.2], .agg #[.string b.1, .string b.2]] w fun e w' => e = .returned (.bool (mAhead a b)) ∧ Below w.heap.size w w' := by
  obtain ⟨p, v⟩ := a
  obtain ⟨q, u⟩ := b
  have HO := hid (show mAhead (p, v) (q, u) = if p.data.toList = q.data.toList then lessB v.data.toList u.data.toList else decide (Lib.compareBytes p.data.toList q.data.toList < 0) from rfl)
  have HB0 := hid (((Below.refl w.heap.size w).alloc (Nat.le_refl _) (.cells #[.string p, .string v] 38)).alloc (by simp) (.cells #[.string q, .string u] 38))
  simp only at hv hu
  by_cases h : p = q
  · subst h
    rw [if_pos rfl] at HO
    have he := str_refl p
    have HL := hid (fun W => isLess_any v u W hv hu)
    go_enter Tryz.func131, Tryz.ntmps131
    go_wp2_with fail
    refine (HL.out _).mono ?_
    rintro e w1 ⟨rfl, hb⟩
    have HB := hid (HB0.out.trans (hb.mono HB0.out.size))
    clear hb
    go_wp2_with fail
    go_ret
    exact ⟨ret_bool HO.out.symm, HB.out⟩
  · rw [if_neg (fun e => h (str_ext e))] at HO
    have he := str_ne h
    have HC := hid (show Op.bytesLess p.toList q.toList = decide (Lib.compareBytes p.data.toList q.data.toList < 0) by rw [cb_less, ByteArray.toList_eq, ByteArray.toList_eq])
    clear h
    go_enter Tryz.func131, Tryz.ntmps131
    go_wp2_with fail
    go_ret
    exact ⟨ret_bool (by rw [HO.out, ← HC.out]), HB0.out⟩
end Ve
end Go.Proofs.YtjndahjfodnllaaGreatDoor


namespace Go.Proofs.YtjndahjfodnllaaGreatDoor
open Go.RowKit
namespace Ve
theorem mAhead_trans {a b c : Bm} (h1 : mAhead a b = true) (h2 : mAhead b c = true) : mAhead a c = true := by
  unfold mAhead aheadB at *
  by_cases e1 : a.1.data.toList = b.1.data.toList
  · rw [if_pos e1] at h1
    rw [e1]
    by_cases e2 : b.1.data.toList = c.1.data.toList
    · rw [if_pos e2] at h2 ⊢
      unfold lessB at *
      simp only [Bool.and_eq_true, decide_eq_true_eq] at *
      exact ⟨h1.1, h2.2.1, ordV_trans h1.2.2 h2.2.2⟩
    · rw [if_neg e2] at h2 ⊢; exact h2
  · rw [if_neg e1] at h1
    by_cases e2 : b.1.data.toList = c.1.data.toList
    · rw [← e2, if_neg e1]; exact h1
    · rw [if_neg e2] at h2
      have h3 := cbt _ _ _ (of_decide_eq_true h1) (of_decide_eq_true h2)
      by_cases e3 : a.1.data.toList = c.1.data.toList
      · rw [e3] at h3
        have := lt_irrefl c.1
        unfold lt at this
        exact absurd h3 (of_decide_eq_false this)
      · rw [if_neg e3]; exact decide_eq_true h3
theorem mAhead_irr (a : Bm) : mAhead a a = false := by
  unfold mAhead aheadB
  rw [if_pos rfl]
  unfold lessB
  have : ¬ ordV a.2.data.toList a.2.data.toList < 0 := fun h => ordV_irr h h
  rw [decide_eq_false this, Bool.and_false, Bool.and_false]
theorem chk_each0 {Q : List Raw} {L : List Ent} (h : (chk Q L).1 = 0) : L.length ≤ 100 ∧ ∀ i, i < L.length → entE L i = 0 := by
  by_cases h1 : 100 < L.length
  · rw [chk_full h1] at h; exact absurd h (by decide)
  · refine ⟨by omega, ?_⟩
    cases hf : fstE (entE L) L.length with
    | some i =>
      rw [chk_each h1 hf] at h
      exact absurd h (fstE_of_some hf).2.1
    | none => exact fstE_of_none hf
theorem entE_mod {L : List Ent} {i : Nat} (hi : i < L.length) (h : entE L i = 0) : mErr L[i].1 = 0 := by
  by_cases hm : mErr L[i].1 = 0
  · exact hm
  · unfold entE at h
    rw [List.getElem?_eq_getElem hi] at h
    simp only at h
    rw [entW_bad hm] at h
    exact absurd h hm
theorem entE_ahead {L : List Ent} {k : Nat} (hk : k + 1 < L.length) (h : entE L (k + 1) = 0) : mAhead (L[k]'(by omega)).1 L[k + 1].1 = true := by
  have hm := entE_mod hk h
  rw [entE_1 hk] at h
  cases ha : mAhead (L[k]'(by omega)).1 L[k + 1].1
  · rw [entW_order hm ha] at h; exact absurd h (by decide)
  · rfl
theorem ahead_all {L : List Ent} (h : ∀ i, i < L.length → entE L i = 0) : ∀ (d i : Nat) (hi : i + d + 1 < L.length), mAhead (L[i]'(by omega)).1 (L[i + d + 1]'hi).1 = true
  | 0, i, hi => entE_ahead hi (h _ hi)
  | d + 1, i, hi => mAhead_trans (ahead_all h d i (by omega)) (entE_ahead (k := i + d + 1) hi (h _ hi))
structure Good (Q : List Raw) : Prop where
  ver : ∀ r, r ∈ Q → verErr r.1.2.data.toList = 0
  path : ∀ r, r ∈ Q → pathErr r.1.1.data.toList = 0
  one : ∀ i j (hi : i < Q.length) (hj : j < Q.length), Q[i].1 = Q[j].1 → i = j
theorem mErr_zero {m : Bm} (h : mErr m = 0) : pathErr m.1.data.toList = 0 ∧ verErr m.2.data.toList = 0 := by
  unfold mErr modErr at h
  by_cases h0 : pathErr m.1.data.toList = 0
  · rw [if_pos h0] at h
    by_cases h1 : verErr m.2.data.toList = 0
    · exact ⟨h0, h1⟩
    · rw [if_neg h1] at h; exact absurd h h1
  · rw [if_neg h0] at h; exact absurd h h0
theorem good_of {w : World} {v : Value} {Q : List Raw} {L : List Ent} (I : Ixs w v Q L) (h : (chk Q L).1 = 0) : Good Q := by
  obtain ⟨_, he⟩ := chk_each0 h
  have hm : ∀ i (hi : i < Q.length), Q[i].1 = (L[i]'(by rw [← I.ln]; exact hi)).1 := fun i hi => (I.ok i hi (by rw [← I.ln]; exact hi)).m
  have hz : ∀ i (hi : i < Q.length), pathErr Q[i].1.1.data.toList = 0 ∧ verErr Q[i].1.2.data.toList = 0 := fun i hi => by
    rw [hm i hi]; exact mErr_zero (entE_mod _ (he i (by rw [← I.ln]; exact hi)))
  refine ⟨fun r hr => ?_, fun r hr => ?_, ?_⟩
  · obtain ⟨i, hi, rfl⟩ := List.getElem_of_mem hr
    exact (hz i hi).2
  · obtain ⟨i, hi, rfl⟩ := List.getElem_of_mem hr
    exact (hz i hi).1
  · have key : ∀ i j (hi : i < Q.length) (hj : j < Q.length), i < j → Q[i].1 ≠ Q[j].1 := fun i j hi hj hij e => by
      have ha := ahead_all he (j - i - 1) i (by rw [← I.ln]; omega)
      have hjj : i + (j - i - 1) + 1 = j := by omega
      simp only [hjj] at ha
      rw [← hm i hi, ← hm j hj, e, mAhead_irr] at ha
      cases ha
    intro i j hi hj e
    rcases Nat.lt_trichotomy i j with h1 | h1 | h1
    · exact absurd e (key i j hi hj h1)
    · exact h1
    · exact absurd e.symm (key j i hj hi h1)
theorem Good.same {Q : List Raw} (g : Good Q) {r s : Raw} (hr : r ∈ Q) (hs : s ∈ Q) (h : r.1 = s.1) : r = s := by
  obtain ⟨i, hi, rfl⟩ := List.getElem_of_mem hr
  obtain ⟨j, hj, rfl⟩ := List.getElem_of_mem hs
  have := g.one i j hi hj h
  subst this; rfl
theorem Good.find {Q : List Raw} (g : Good Q) {r : Raw} (hr : r ∈ Q) : ∃ n, ∃ hn : n < Q.length, idxOf (isM r.1) Q = (n : Int) ∧ Q[n] = r := by
  obtain ⟨i, hi, e⟩ := List.getElem_of_mem hr
  refine ⟨i, hi, idx_hit hi (fun j hj hji => ?_) (by rw [e]; unfold isM; simp), e⟩
  unfold isM
  rw [decide_eq_false]
  rintro ⟨h1, h2⟩
  have := g.one j i hj hi (by rw [e]; exact Prod.ext h1 h2)
  omega
end Ve
end Go.Proofs.YtjndahjfodnllaaGreatDoor


namespace Go.Proofs.YtjndahjfodnllaaGreatDoor
open Go.RowKit
namespace Ve
theorem idx_is {P : Raw → Bool} {L : List Raw} {k : Nat} (h : idxOf P L = (k : Int)) : ∃ hk : k < L.length, P L[k] = true := by
  unfold idxOf at h
  cases h1 : fstE (idxE P L) L.length with
  | none => rw [h1] at h; simp only at h; omega
  | some j =>
    rw [h1] at h
    simp only at h
    have e : j = k := by omega
    subst e
    obtain ⟨a, b, _⟩ := fstE_of_some h1
    refine ⟨a, ?_⟩
    rw [idxE_at a] at b
    cases hp : P L[j] with
    | true => rfl
    | false => rw [hp] at b; exact absurd rfl b
theorem ErrAt.kind {W : World} {A : Nat → Addr} {x : Value} {c : Nat} {o : Option Nat} (h : ErrAt W A x c o) : (c = 0 ∧ x = .nilIface) ∨ (c ≠ 0 ∧ ∃ T a, x = .iface T (.pointer (some a))) := by
  cases o with
  | none =>
    have h : x = errA A c := h
    by_cases hc : c = 0
    · subst hc; exact Or.inl ⟨rfl, h⟩
    · obtain ⟨a, ha⟩ := errA_ne A hc
      exact Or.inr ⟨hc, _, a, h.trans ha⟩
  | some i =>
    obtain ⟨h1, b, h2, _⟩ := h
    exact Or.inr ⟨h1, _, _, h2⟩
theorem okI_iff {L : List Ent} (h : okI L = true) : (L.length ≤ 30 ∨ L.length = 101) ∧ ∀ e, e ∈ L → e.1.1.size ≤ 70 ∧ e.1.2.size ≤ 60 ∧ e.2.1.length ≤ 25 ∧ (∀ m, m ∈ e.2.1 → m.1.size ≤ 70 ∧ m.2.size ≤ 60) ∧ e.2.2.1.length ≤ 15 ∧ ∀ x, x ∈ e.2.2.1 → x.size ≤ 70 := by
  unfold okI at h
  rw [Bool.and_eq_true] at h
  obtain ⟨h1, h2⟩ := h
  refine ⟨by simpa [okN] using h1, fun e he => ?_⟩
  have h3 := List.all_eq_true.1 h2 e he
  unfold okE at h3
  simp only [Bool.and_eq_true, decide_eq_true_eq] at h3
  obtain ⟨⟨⟨⟨a, b⟩, c⟩, d⟩, f⟩ := h3
  obtain ⟨c1, c2⟩ := okL_iff c
  refine ⟨a, b, c1, c2, d, fun x hx => ?_⟩
  have := List.all_eq_true.1 f x hx
  simpa using this
theorem okI_sh {L : List Ent} (h : okI L = true) : ∀ e, e ∈ L → ShE e := fun e he => by
  obtain ⟨a, b, c, d, f, g⟩ := (okI_iff h).2 e he
  exact ⟨by omega, by omega, by omega, fun m hm => ⟨by have := (d m hm).1; omega, by have := (d m hm).2; omega⟩, by omega, fun x hx => by have := g x hx; omega⟩
theorem okI_fits {L : List Ent} (h : okI L = true) : ∀ e, e ∈ L → Fits e := fun e he => by
  obtain ⟨a, b, c, d, f, g⟩ := (okI_iff h).2 e he
  exact ⟨by omega, by omega⟩
theorem ixs_sz {w : World} {v : Value} {Q : List Raw} {L : List Ent} (I : Ixs w v Q L) (h : okI L = true) : ∀ r, r ∈ Q → r.1.1.size ≤ 80 ∧ r.1.2.size ≤ 80 := fun r hr => by
  obtain ⟨j, hj, rfl⟩ := List.getElem_of_mem hr
  have hj2 : j < L.length := by rw [← I.ln]; exact hj
  have hm := (I.ok j hj hj2).m
  obtain ⟨a, b, _⟩ := (okI_iff h).2 L[j] (List.getElem_mem hj2)
  rw [hm]
  exact ⟨by omega, by omega⟩
end Ve
end Go.Proofs.YtjndahjfodnllaaGreatDoor


namespace Go.Proofs.YtjndahjfodnllaaGreatDoor
open Go.RowKit Go.Maps
namespace Ve
theorem es_all {W : World} {b o n c : Nat} {Q : List Raw} (h : EsAt W (.slice (some ⟨b, o, none⟩) n c) Q) {k : Nat} (hk : k < Q.length) : slR Q[k] ∧ W.cell? ⟨b, o + k * 5, none⟩ = some (.string Q[k].1.1) ∧ W.cell? ⟨b, o + k * 5 + 1, none⟩ = some (.string Q[k].1.2) ∧ W.cell? ⟨b, o + k * 5 + 2, none⟩ = some Q[k].2.1 ∧ W.cell? ⟨b, o + k * 5 + 3, none⟩ = some Q[k].2.2.1 ∧ W.cell? ⟨b, o + k * 5 + 4, none⟩ = some (.bool Q[k].2.2.2) := by
  obtain ⟨a', c', e, _, hs, h⟩ := h
  injection e with e1 e2 e3
  subst e1
  obtain ⟨b', o', e4, h4⟩ := h (by intro h0; rw [h0] at hk; simp at hk)
  injection e4 with e4
  injection e4 with e5 e6
  subst e5 e6
  exact ⟨hs _ (List.getElem_mem hk), h4 k hk⟩
theorem reqsR_code (own : ByteArray) (L : List Bm) : (reqsR own L).1 = codeE (reqE own L) L.length := by
  unfold reqsR codeE
  cases fstE (reqE own L) L.length <;> rfl
theorem pk_rise {Z : List (List UInt8)} (h : ¬ 10 < Z.length) (h1 : Z.any noPk = false) (h2 : rsT Z) : packErr Z = 0 := pk_ok h h1 ((ris_iff Z).2 h2)
theorem pk_fall {Z : List (List UInt8)} (h : ¬ 10 < Z.length) (h1 : Z.any noPk = false) (h2 : ¬ rsT Z) : packErr Z = 8 := pk_order h h1 (fun e => h2 ((ris_iff Z).1 e))
theorem any_noPk {X : List ByteArray} (h : ∀ j (h : j < X.length), noPk X[j].data.toList = false) : (bl X).any noPk = false := by
  cases e : (bl X).any noPk
  · rfl
  · obtain ⟨z, hz, h1⟩ := List.any_eq_true.1 e
    obtain ⟨j, hj, rfl⟩ := List.getElem_of_mem hz
    have hj2 : j < X.length := by rw [bl_len] at hj; exact hj
    have := h j hj2
    have e2 : (bl X)[j] = X[j].data.toList := by simp [bl]
    rw [e2, this] at h1; cases h1
theorem any_noPk' {X : List ByteArray} {j : Nat} (hj : j < X.length) (h : noPk X[j].data.toList = true) : (bl X).any noPk = true :=
  List.any_eq_true.2 ⟨X[j].data.toList, bl_mem (List.getElem_mem hj), h⟩
theorem rsT_of {X : List ByteArray} (h : ∀ j (h : j + 1 < X.length), noLess X[j] X[j + 1] = false) : rsT (bl X) := fun j hj => by
  have hj2 : j + 1 < X.length := by rw [bl_len] at hj; exact hj
  have h1 := h j hj2
  have e1 : (bl X)[j] = (X[j]'(by omega)).data.toList := by simp [bl]
  have e2 : (bl X)[j + 1] = X[j + 1].data.toList := by simp [bl]
  rw [e1, e2]
  unfold noLess at h1
  simpa using h1
theorem rsT_not {X : List ByteArray} {j : Nat} (hj : j + 1 < X.length) (h : noLess X[j] X[j + 1] = true) : ¬ rsT (bl X) := fun hr => by
  have h1 := hr j (by rw [bl_len]; exact hj)
  have e1 : (bl X)[j]'(by rw [bl_len]; omega) = (X[j]'(by omega)).data.toList := by simp [bl]
  have e2 : (bl X)[j + 1]'(by rw [bl_len]; exact hj) = X[j + 1].data.toList := by simp [bl]
  rw [e1, e2] at h1
  unfold noLess at h
  simp only [Bool.not_eq_true', decide_eq_false_iff_not] at h
  exact h h1
theorem TxAt.cells {W : World} {a : Option Addr} {n c : Nat} {X : List ByteArray} (h : TxAt W (.slice a n c) X) {k : Nat} (hk : k < X.length) : ∃ b o, a = some ⟨b, o, none⟩ ∧ ∀ j (h : j < X.length), W.cell? ⟨b, o + j, none⟩ = some (.string X[j]) := by
  obtain ⟨a', c', e, _, h⟩ := h
  injection e with e1 e2 e3
  subst e1
  exact h (by intro h0; rw [h0] at hk; simp at hk)
set_option maxRecDepth 100000 in
set_option maxHeartbeats 16000000 in
theorem entE0_any (Q : List Raw) (L : List Ent) (b o c : Nat) (w : World) (sh : ∀ e, e ∈ L → ShE e) (I : Ixs w (.slice (some ⟨b, o, none⟩) Q.length c) Q L) (h0 : 0 < L.length) :
    Calls Tryz.prog 74 #[.slice (some ⟨b, o, none⟩) Q.length c, .int .i64 0] w fun e w' => e = .returned (.int .i64 (entE L 0 : Nat)) ∧ Below w.heap.size w w' := by
  have hq : 0 < Q.length := by rw [I.ln]; exact h0
  obtain ⟨hsl, x0, x1, x2, x3, x4⟩ := es_all I.es hq
  simp only [Nat.zero_mul, Nat.add_zero] at x0 x1 x2 x3 x4
  have hok := fun W (h : Below w.heap.size w W) => (I.below h).ok 0 hq h0
  have HSH := hid (sh L[0] (List.getElem_mem h0))
  rw [entE_0 h0]
  generalize Q[0] = r at *
  generalize L[0] = en at *
  obtain ⟨⟨p, q⟩, rv, pv, bk⟩ := r
  obtain ⟨⟨p', q'⟩, eR, eP, bk'⟩ := en
  obtain ⟨hm, hrq, hpk, hbk⟩ := hok w (Below.refl _ _)
  simp only at hm hrq hpk hbk
  injection hm with hm1 hm2
  subst hm1 hm2 hbk
  obtain ⟨ra, rc, hrv, -⟩ := id hrq
  obtain ⟨pa, pc, hpv, -⟩ := id hpk
  subst hrv hpv
  have HRM := hid (fun W (h : Below w.heap.size w W) => hrq.below h)
  have HTX := hid (fun W (h : Below w.heap.size w W) => hpk.below h)
  have hqI : (0 : Int) < (Q.length : Int) := by omega
  clear I sh h0 hok hrq hpk hsl
  have HB0 := hid ((Below.refl w.heap.size w).alloc (Nat.le_refl _) (.cells #[.string p, .string q, .slice ra eR.length rc, .slice pa eP.length pc, .bool bk] 61))
  have HE0 := hid (heap_new w (.cells #[.string p, .string q, .slice ra eR.length rc, .slice pa eP.length pc, .bool bk] 61))
  have HM := hid (modError_any p q (w.alloc (.cells #[.string p, .string q, .slice ra eR.length rc, .slice pa eP.length pc, .bool bk] 61)) (by have := HSH.out.p; simp only at this; omega) (by have := HSH.out.v; simp only at this; omega))
  have hme : mErr (p, q) = modErr p.data.toList q.data.toList := rfl
  rw [← hme] at HM
  by_cases h : mErr (p, q) = 0
  · have HXR := hid (entW_none (e := ((p, q), eR, eP, bk)) h)
    rw [h] at HM
    clear h hme
    go_enter Tryz.func74, Tryz.ntmps74
    go_wp2_with fail
    refine HM.out.mono ?_
    rintro e wz ⟨rfl, hb⟩
    have HBz := hid (HB0.out.trans (hb.mono HB0.out.size))
    have HEz := hid (show wz.heap[w.heap.size]? = some (.cells #[.string p, .string q, .slice ra eR.length rc, .slice pa eP.length pc, .bool bk] 61 (0, 0)) by rw [hb.block _ (lt_of_blk HE0.out)]; exact HE0.out)
    clear hb HM
    have z0 : wz.cell? ⟨w.heap.size, 0, none⟩ = some (.string p) := by rw [Lib.cell_of_heap HEz.out]; rfl
    have z1 : wz.cell? ⟨w.heap.size, 1, none⟩ = some (.string q) := by rw [Lib.cell_of_heap HEz.out]; rfl
    have z2 : wz.cell? ⟨w.heap.size, 2, none⟩ = some (.slice ra eR.length rc) := by rw [Lib.cell_of_heap HEz.out]; rfl
    have z3 : wz.cell? ⟨w.heap.size, 3, none⟩ = some (.slice pa eP.length pc) := by rw [Lib.cell_of_heap HEz.out]; rfl
    have z4 : wz.cell? ⟨w.heap.size, 4, none⟩ = some (.bool bk) := by rw [Lib.cell_of_heap HEz.out]; rfl
    by_cases hf : 20 < eR.length
    · have q2 : (20 : Int) < (eR.length : Int) := by omega
      have HX := hid (HXR.out.trans (entR_full hf))
      clear hf
      go_wp2_with fail
      go_ret
      exact ⟨by rw [HX.out]; rfl, HBz.out⟩
    · have q2 : ¬ (20 : Int) < (eR.length : Int) := by omega
      have HF := hid hf
      have HRQ := hid (reqsE_any p eR _ wz HSH.out.rn HSH.out.rs (HRM.out _ HBz.out))
      rw [reqsR_code] at HRQ
      clear hf
      by_cases hc : codeE (reqE p eR) eR.length = 0
      · have HX := hid (HXR.out.trans (entR_pack HF.out hc))
        rw [hc] at HRQ
        clear hc
        go_wp2_with fail
        refine HRQ.out.mono ?_
        rintro e wy ⟨rfl, hb⟩
        have HBy := hid (HBz.out.trans (hb.mono HBz.out.size))
        have HEy := hid (show wy.heap[w.heap.size]? = some (.cells #[.string p, .string q, .slice ra eR.length rc, .slice pa eP.length pc, .bool bk] 61 (0, 0)) by rw [hb.block _ (lt_of_blk HEz.out)]; exact HEz.out)
        clear hb z0 z1 z2 z3 z4 HRQ
        have y0 : wy.cell? ⟨w.heap.size, 0, none⟩ = some (.string p) := by rw [Lib.cell_of_heap HEy.out]; rfl
        have y1 : wy.cell? ⟨w.heap.size, 1, none⟩ = some (.string q) := by rw [Lib.cell_of_heap HEy.out]; rfl
        have y2 : wy.cell? ⟨w.heap.size, 2, none⟩ = some (.slice ra eR.length rc) := by rw [Lib.cell_of_heap HEy.out]; rfl
        have y3 : wy.cell? ⟨w.heap.size, 3, none⟩ = some (.slice pa eP.length pc) := by rw [Lib.cell_of_heap HEy.out]; rfl
        have y4 : wy.cell? ⟨w.heap.size, 4, none⟩ = some (.bool bk) := by rw [Lib.cell_of_heap HEy.out]; rfl
        by_cases hp10 : 10 < eP.length
        · have q3 : (10 : Int) < (eP.length : Int) := by omega
          have HX2 := hid (HX.out.trans (pk_full (by rw [bl_len]; exact hp10)))
          clear hp10
          go_wp2_with fail
          go_ret
          exact ⟨by rw [HX2.out]; rfl, HBy.out⟩
        · have q3 : ¬ (10 : Int) < (eP.length : Int) := by omega
          have HP10 := hid (show ¬ 10 < (bl eP).length by rw [bl_len]; exact hp10)
          have hpl : eP.length ≤ 10 := by omega
          clear hp10
          go_wp2_with fail
          go_loopw [8] (fun kv wr => ∃ k : Nat, k ≤ eP.length ∧ kv = .int .i64 k ∧ Hid (∀ j (h : j < eP.length), j < k → noPk eP[j].data.toList = false) ∧ Hid (Below w.heap.size w wr) ∧ Hid (wr.heap[w.heap.size]? = some (.cells #[.string p, .string q, .slice ra eR.length rc, .slice pa eP.length pc, .bool bk] 61 (0, 0)))) (fun kv _ => eP.length - (intOf kv).toNat)
          case atStart => exact ⟨0, Nat.zero_le _, rfl, hid (fun j _ h => absurd h (Nat.not_lt_zero _)), HBy, HEy⟩
          case round =>
            clear y0 y1 y2 y3 y4
            obtain ⟨k, hk, rfl, HA, HBr, HEr⟩ := hrel
            have r0 : wr.cell? ⟨w.heap.size, 0, none⟩ = some (.string p) := by rw [Lib.cell_of_heap HEr.out]; rfl
            have r1 : wr.cell? ⟨w.heap.size, 1, none⟩ = some (.string q) := by rw [Lib.cell_of_heap HEr.out]; rfl
            have r2 : wr.cell? ⟨w.heap.size, 2, none⟩ = some (.slice ra eR.length rc) := by rw [Lib.cell_of_heap HEr.out]; rfl
            have r3 : wr.cell? ⟨w.heap.size, 3, none⟩ = some (.slice pa eP.length pc) := by rw [Lib.cell_of_heap HEr.out]; rfl
            have r4 : wr.cell? ⟨w.heap.size, 4, none⟩ = some (.bool bk) := by rw [Lib.cell_of_heap HEr.out]; rfl
            by_cases hlt : k < eP.length
            · have hkI : (k : Int) < (eP.length : Int) := by omega
              have hk0 : (0 : Int) ≤ (k : Int) := by omega
              obtain ⟨pb, po, hpa, hcl⟩ := (HTX.out _ HBr.out).cells hlt
              have t0 := hcl k hlt
              subst hpa
              have HLT := hid hlt
              have hsz := HSH.out.ps eP[k] (List.getElem_mem hlt)
              have HNX := hid (show noPk eP[k].data.toList = false → ∀ j (h : j < eP.length), j < k + 1 → noPk eP[j].data.toList = false from fun h0 j h1 h3 => by
                rcases Nat.lt_or_ge j k with h | h
                · exact HA.out j h1 h
                · have : j = k := by omega
                  subst this; exact h0)
              have HBD := hid (show noPk eP[k].data.toList = true → packErr (bl eP) = 1 from fun h => pk_text HP10.out (any_noPk' hlt h))
              generalize eP[k] = z at *
              clear hcl hlt
              by_cases hdot : z = ⟨#[46]⟩
              · subst hdot
                have s0 : ((⟨#[46]⟩ : ByteArray).toList == (⟨#[46]⟩ : ByteArray).toList) = true := by simp
                have HN2 := hid (HNX.out (by decide))
                go_wp2_with fail
                go_roundw
                case rel => first | exact ⟨k + 1, HLT.out, nr_idx k, HN2, HBr, HEr⟩ | exact ⟨k + 1, HLT.out, nx_idx HLT.out (by omega), HN2, HBr, HEr⟩
                case measure => first | exact nr_meas HLT.out | exact nx_meas HLT.out (by omega)
              · have hqd : (z.toList == [46]) = false := by rw [ByteArray.toList_eq]; exact beq_eq_false_iff_ne.2 (fun e => hdot (str_ext (by rw [e])))
                have hd2 : z.data.toList ≠ [46] := fun e => hdot (str_ext (by rw [e]))
                have HPE := hid (fun W => pathError_any z W (by omega))
                by_cases hpe : pathErr z.data.toList = 0
                · rw [hpe] at HPE
                  have HN2 := hid (HNX.out (by unfold noPk; simp [hpe]))
                  clear hpe hd2 hdot
                  go_wp2_with fail
                  refine (HPE.out _).mono ?_
                  rintro e wv ⟨rfl, hb⟩
                  have HBv := hid (HBr.out.trans (hb.mono HBr.out.size))
                  have HEv := hid ((hb.block _ (lt_of_blk HEr.out)).trans HEr.out)
                  clear hb
                  go_wp2_with fail
                  go_roundw
                  case rel => first | exact ⟨k + 1, HLT.out, nr_idx k, HN2, HBv, HEv⟩ | exact ⟨k + 1, HLT.out, nx_idx HLT.out (by omega), HN2, HBv, HEv⟩
                  case measure => first | exact nr_meas HLT.out | exact nx_meas HLT.out (by omega)
                · have HX2 := hid (HX.out.trans (HBD.out (by unfold noPk; simp [hpe, hd2])))
                  have hpos : (0 : Int) < ((pathErr z.data.toList : Nat) : Int) := by omega
                  generalize pathErr z.data.toList = pe at *
                  clear hpe hd2 hdot
                  go_wp2_with fail
                  refine (HPE.out _).mono ?_
                  rintro e wv ⟨rfl, hb⟩
                  have HBv := hid (HBr.out.trans (hb.mono HBr.out.size))
                  clear hb
                  go_wp2_with fail
                  go_ret
                  exact ⟨by rw [HX2.out]; rfl, HBv.out⟩
            · have hkI : ¬ (k : Int) < (eP.length : Int) := by omega
              have HNO := hid (show (bl eP).any noPk = false from any_noPk fun j h => HA.out j h (by omega))
              clear hlt
              go_wp2_with fail
              go_loopw [9] (fun kv wr => ∃ k : Nat, 1 ≤ k ∧ (k ≤ eP.length ∨ k = 1) ∧ kv = .int .i64 k ∧ Hid (∀ j (h : j + 1 < eP.length), j + 1 < k → noLess eP[j] eP[j + 1] = false) ∧ Hid (Below w.heap.size w wr) ∧ Hid (wr.heap[w.heap.size]? = some (.cells #[.string p, .string q, .slice ra eR.length rc, .slice pa eP.length pc, .bool bk] 61 (0, 0)))) (fun kv _ => eP.length - (intOf kv).toNat)
              case atStart => exact ⟨1, Nat.le_refl _, Or.inr rfl, rfl, hid (fun j _ h => by omega), HBr, HEr⟩
              case round =>
                clear r0 r1 r2 r3 r4
                obtain ⟨k2, hk1, hk2, rfl, HA2, HBs, HEs⟩ := hrel
                have s0 : wr.cell? ⟨w.heap.size, 0, none⟩ = some (.string p) := by rw [Lib.cell_of_heap HEs.out]; rfl
                have s1 : wr.cell? ⟨w.heap.size, 1, none⟩ = some (.string q) := by rw [Lib.cell_of_heap HEs.out]; rfl
                have s2 : wr.cell? ⟨w.heap.size, 2, none⟩ = some (.slice ra eR.length rc) := by rw [Lib.cell_of_heap HEs.out]; rfl
                have s3 : wr.cell? ⟨w.heap.size, 3, none⟩ = some (.slice pa eP.length pc) := by rw [Lib.cell_of_heap HEs.out]; rfl
                have s4 : wr.cell? ⟨w.heap.size, 4, none⟩ = some (.bool bk) := by rw [Lib.cell_of_heap HEs.out]; rfl
                by_cases hlt : k2 < eP.length
                · obtain ⟨j, rfl⟩ : ∃ j, k2 = j + 1 := ⟨k2 - 1, by omega⟩
                  have hkI2 : ((j + 1 : Nat) : Int) < (eP.length : Int) := by omega
                  have hkI3 : (j : Int) < (eP.length : Int) := by omega
                  have hk00 : (0 : Int) ≤ ((j + 1 : Nat) : Int) := by omega
                  have hk01 : (0 : Int) ≤ (j : Int) := by omega
                  have hk02 : ((j + 1 : Nat) : Int) - 1 = (j : Int) := by omega
                  have hwp : IntKind.i64.wrap (j : Int) = (j : Int) := by rw [IntKind.wrap_i64]; omega
                  have hk03 : (j : Int) + 1 - 1 = (j : Int) := by omega
                  obtain ⟨pb, po, hpa, hcl⟩ := (HTX.out _ HBs.out).cells hlt
                  have t0 := hcl (j + 1) hlt
                  have t1 := hcl j (by omega)
                  subst hpa
                  have HLT := hid hlt
                  have HNX := hid (show noLess eP[j] eP[j + 1] = false → ∀ i (h : i + 1 < eP.length), i + 1 < j + 1 + 1 → noLess eP[i] eP[i + 1] = false from fun h0 i h1 h3 => by
                    rcases Nat.lt_or_ge i j with h | h
                    · exact HA2.out i h1 (by omega)
                    · have : i = j := by omega
                      subst this; exact h0)
                  have HBD := hid (show noLess eP[j] eP[j + 1] = true → packErr (bl eP) = 8 from fun h => pk_fall HP10.out HNO.out (rsT_not hlt h))
                  generalize eP[j + 1] = za at *
                  generalize eP[j] = zb at *
                  have hle := fun X => leq_is za zb X
                  clear hcl hlt
                  cases hnl : noLess zb za
                  · rw [hnl] at hle
                    have HN2 := hid (HNX.out hnl)
                    clear hnl
                    go_wp2_with fail
                    go_quiet (fail)
                    have HBd := hid (below_drawn_of HBs.out nq)
                    have HEd := hid (show (wr.drewN nq).heap[w.heap.size]? = _ from HEs.out)
                    go_wp2_with fail
                    go_roundw
                    case rel => first | exact ⟨j + 1 + 1, by omega, Or.inl HLT.out, nr_idx (j + 1), HN2, HBd, HEd⟩ | exact ⟨j + 1 + 1, by omega, Or.inl HLT.out, nx_idx HLT.out (by omega), HN2, HBd, HEd⟩
                    case measure => first | exact nr_meas HLT.out | exact nx_meas HLT.out (by omega)
                  · rw [hnl] at hle
                    have HX2 := hid (HX.out.trans (HBD.out hnl))
                    clear hnl
                    go_wp2_with fail
                    go_quiet (fail)
                    have HBd := hid (below_drawn_of HBs.out nq)
                    go_wp2_with fail
                    go_ret
                    exact ⟨by rw [HX2.out]; rfl, HBd.out⟩
                · have hkI2 : ¬ (k2 : Int) < (eP.length : Int) := by omega
                  have HX2 := hid (HX.out.trans (pk_rise HP10.out HNO.out (rsT_of fun j h => HA2.out j h (by omega))))
                  clear hlt
                  go_wp2_with fail
                  go_ret
                  exact ⟨by rw [HX2.out]; rfl, HBs.out⟩
      · have HX := hid (HXR.out.trans (entR_req HF.out hc))
        have hpos : (0 : Int) < ((codeE (reqE p eR) eR.length : Nat) : Int) := by omega
        generalize codeE (reqE p eR) eR.length = cd at *
        clear hc
        go_wp2_with fail
        refine HRQ.out.mono ?_
        rintro e wy ⟨rfl, hb⟩
        have HBy := hid (HBz.out.trans (hb.mono HBz.out.size))
        clear hb
        go_wp2_with fail
        go_ret
        exact ⟨by rw [HX.out]; rfl, HBy.out⟩
  · have HX := hid (entW_bad (o := none) (e := ((p, q), eR, eP, bk)) h)
    have hpos : (0 : Int) < ((mErr (p, q) : Nat) : Int) := by omega
    generalize mErr (p, q) = z at *
    clear h hme
    go_enter Tryz.func74, Tryz.ntmps74
    go_wp2_with fail
    refine HM.out.mono ?_
    rintro e wz ⟨rfl, hb⟩
    have HBz := hid (HB0.out.trans (hb.mono HB0.out.size))
    clear hb HM
    go_wp2_with fail
    go_ret
    exact ⟨by rw [HX.out]; rfl, HBz.out⟩
set_option maxRecDepth 100000 in
set_option maxHeartbeats 16000000 in
theorem entE1_any (Q : List Raw) (L : List Ent) (b o c : Nat) (w : World) (sh : ∀ e, e ∈ L → ShE e) (I : Ixs w (.slice (some ⟨b, o, none⟩) Q.length c) Q L) (k : Nat) (h0 : k + 1 < L.length) (hn : L.length ≤ 1000) :
    Calls Tryz.prog 74 #[.slice (some ⟨b, o, none⟩) Q.length c, .int .i64 ((k + 1 : Nat) : Int)] w fun e w' => e = .returned (.int .i64 (entE L (k + 1) : Nat)) ∧ Below w.heap.size w w' := by
  have hq : k + 1 < Q.length := by rw [I.ln]; exact h0
  obtain ⟨hsl, x0, x1, x2, x3, x4⟩ := es_all I.es hq
  have hqk : k < Q.length := by omega
  have hlk : k < L.length := by omega
  obtain ⟨_, u0, u1, _, _, _⟩ := es_all I.es hqk
  have HPM := hid (show Q[k].1 = L[k].1 from (I.ok k hqk hlk).m)
  have HSK := hid (sh L[k] (List.getElem_mem hlk))
  have hok := fun W (h : Below w.heap.size w W) => (I.below h).ok (k + 1) hq h0
  have HSH := hid (sh L[k + 1] (List.getElem_mem h0))
  rw [entE_1 h0]
  generalize Q[k + 1] = r at *
  generalize L[k + 1] = en at *
  have hpv : (L[k]'hlk).1.2.size < 999999 := HSK.out.v
  rw [← HPM.out] at hpv ⊢
  generalize (Q[k]'hqk).1 = pm at *
  obtain ⟨pp, pq⟩ := pm
  simp only at u0 u1 hpv
  obtain ⟨⟨p, q⟩, rv, pv, bk⟩ := r
  obtain ⟨⟨p', q'⟩, eR, eP, bk'⟩ := en
  obtain ⟨hm, hrq, hpk, hbk⟩ := hok w (Below.refl _ _)
  simp only at hm hrq hpk hbk
  injection hm with hm1 hm2
  subst hm1 hm2 hbk
  obtain ⟨ra, rc, hrv, -⟩ := id hrq
  obtain ⟨pa, pc, hpv9, -⟩ := id hpk
  subst hrv hpv9
  have HRM := hid (fun W (h : Below w.heap.size w W) => hrq.below h)
  have HTX := hid (fun W (h : Below w.heap.size w W) => hpk.below h)
  have hqI : ((k + 1 : Nat) : Int) < (Q.length : Int) := by omega
  have hqJ : (0 : Int) ≤ ((k + 1 : Nat) : Int) := by omega
  have hqK : (0 : Int) < ((k + 1 : Nat) : Int) := by omega
  have hqL : ((k + 1 : Nat) : Int) - 1 = (k : Int) := by omega
  have hqM : (k : Int) < (Q.length : Int) := by omega
  have hqN : (0 : Int) ≤ (k : Int) := by omega
  have hwp : IntKind.i64.wrap (k : Int) = (k : Int) := by rw [IntKind.wrap_i64]; omega
  have hqO : (k : Int) + 1 - 1 = (k : Int) := by omega
  have hqP : (k : Int) + 1 < (Q.length : Int) := by omega
  have hqR : (0 : Int) ≤ (k : Int) + 1 := by omega
  have hqS : (0 : Int) < (k : Int) + 1 := by omega
  have hqT : ((k : Int) + 1).toNat = k + 1 := by omega
  clear I sh h0 hok hrq hpk hsl
  have HB0 := hid ((Below.refl w.heap.size w).alloc (Nat.le_refl _) (.cells #[.string p, .string q, .slice ra eR.length rc, .slice pa eP.length pc, .bool bk] 61))
  have HE0 := hid (heap_new w (.cells #[.string p, .string q, .slice ra eR.length rc, .slice pa eP.length pc, .bool bk] 61))
  have HM := hid (modError_any p q (w.alloc (.cells #[.string p, .string q, .slice ra eR.length rc, .slice pa eP.length pc, .bool bk] 61)) (by have := HSH.out.p; simp only at this; omega) (by have := HSH.out.v; simp only at this; omega))
  have hme : mErr (p, q) = modErr p.data.toList q.data.toList := rfl
  rw [← hme] at HM
  by_cases h : mErr (p, q) = 0
  · have H0 := hid h
    rw [h] at HM
    clear h hme
    go_enter Tryz.func74, Tryz.ntmps74
    go_wp2_with fail
    refine HM.out.mono ?_
    rintro e wx ⟨rfl, hb⟩
    have HBx := hid (HB0.out.trans (hb.mono HB0.out.size))
    have HEx := hid (show wx.heap[w.heap.size]? = some (.cells #[.string p, .string q, .slice ra eR.length rc, .slice pa eP.length pc, .bool bk] 61 (0, 0)) by rw [hb.block _ (lt_of_blk HE0.out)]; exact HE0.out)
    clear hb HM
    have HIA := hid (fun W => isA_any (pp, pq) (p, q) W hpv (by have := HSH.out.v; simp only at this ⊢; omega))
    have g0 := cell_below HBx.out u0
    have g1 := cell_below HBx.out u1
    have f0 : wx.cell? ⟨w.heap.size, 0, none⟩ = some (.string p) := by rw [Lib.cell_of_heap HEx.out]; rfl
    have f1 : wx.cell? ⟨w.heap.size, 1, none⟩ = some (.string q) := by rw [Lib.cell_of_heap HEx.out]; rfl
    have HT := hid (fun W' (hW : Below wx.heap.size wx W') => (show (fun W' => W'.cell? ⟨b, o + k * 5, none⟩ = some (.string pp) ∧ W'.cell? ⟨b, o + k * 5 + 1, none⟩ = some (.string pq) ∧ W'.cell? ⟨w.heap.size, 0, none⟩ = some (.string p) ∧ W'.cell? ⟨w.heap.size, 1, none⟩ = some (.string q) ∧ Hid (Below wx.heap.size wx W')) W' from ⟨cell_below hW g0, cell_below hW g1, cell_below hW f0, cell_below hW f1, hid hW⟩))
    cases hah : mAhead (pp, pq) (p, q)
    · have HX := hid (entW_order (p := (pp, pq)) (e := ((p, q), eR, eP, bk)) H0.out hah)
      rw [hah] at HIA
      clear hah
      go_wp2_with fail
      go_region_held (fun W' => W'.cell? ⟨b, o + k * 5, none⟩ = some (.string pp) ∧ W'.cell? ⟨b, o + k * 5 + 1, none⟩ = some (.string pq) ∧ W'.cell? ⟨w.heap.size, 0, none⟩ = some (.string p) ∧ W'.cell? ⟨w.heap.size, 1, none⟩ = some (.string q) ∧ Hid (Below wx.heap.size wx W')) (first | exact HT.out _ HRa.out | exact HT.out _ (below_drawn _ 1)) (first
        | (go_at_call 131; refine (HIA.out _).mono ?_; rintro e w' ⟨rfl, hb⟩; have HRa := hid ((below_drawn wx 1).trans (hb.mono (Nat.le_refl _))); clear hb))
      all_goals
        have HBz := hid (HBx.out.trans (HRa.out.mono HBx.out.size))
        go_wp2_with fail
        go_ret
        exact ⟨by rw [HX.out]; rfl, HBz.out⟩
    · have HXR := hid (entW_some (p := (pp, pq)) (e := ((p, q), eR, eP, bk)) H0.out hah)
      rw [hah] at HIA
      clear hah
      go_wp2_with fail
      go_region_held (fun W' => W'.cell? ⟨b, o + k * 5, none⟩ = some (.string pp) ∧ W'.cell? ⟨b, o + k * 5 + 1, none⟩ = some (.string pq) ∧ W'.cell? ⟨w.heap.size, 0, none⟩ = some (.string p) ∧ W'.cell? ⟨w.heap.size, 1, none⟩ = some (.string q) ∧ Hid (Below wx.heap.size wx W')) (first | exact HT.out _ HRa.out | exact HT.out _ (below_drawn _ 1)) (first
        | (go_at_call 131; refine (HIA.out _).mono ?_; rintro e w' ⟨rfl, hb⟩; have HRa := hid ((below_drawn wx 1).trans (hb.mono (Nat.le_refl _))); clear hb))
      all_goals
        have HBz := hid (HBx.out.trans (HRa.out.mono HBx.out.size))
        obtain ⟨wz, hwz⟩ : ∃ wz, w' = wz := ⟨_, rfl⟩
        rw [hwz] at HBz ⊢
        have HEz := hid (show wz.heap[w.heap.size]? = some (.cells #[.string p, .string q, .slice ra eR.length rc, .slice pa eP.length pc, .bool bk] 61 (0, 0)) by rw [← hwz, HRa.out.block _ (lt_of_blk HEx.out)]; exact HEx.out)
        clear hwz g0 g1 f0 f1
        have z0 : wz.cell? ⟨w.heap.size, 0, none⟩ = some (.string p) := by rw [Lib.cell_of_heap HEz.out]; rfl
        have z1 : wz.cell? ⟨w.heap.size, 1, none⟩ = some (.string q) := by rw [Lib.cell_of_heap HEz.out]; rfl
        have z2 : wz.cell? ⟨w.heap.size, 2, none⟩ = some (.slice ra eR.length rc) := by rw [Lib.cell_of_heap HEz.out]; rfl
        have z3 : wz.cell? ⟨w.heap.size, 3, none⟩ = some (.slice pa eP.length pc) := by rw [Lib.cell_of_heap HEz.out]; rfl
        have z4 : wz.cell? ⟨w.heap.size, 4, none⟩ = some (.bool bk) := by rw [Lib.cell_of_heap HEz.out]; rfl
        by_cases hf : 20 < eR.length
        · have q2 : (20 : Int) < (eR.length : Int) := by omega
          have HX := hid (HXR.out.trans (entR_full hf))
          clear hf
          go_wp2_with fail
          go_ret
          exact ⟨by rw [HX.out]; rfl, HBz.out⟩
        · have q2 : ¬ (20 : Int) < (eR.length : Int) := by omega
          have HF := hid hf
          have HRQ := hid (reqsE_any p eR _ wz HSH.out.rn HSH.out.rs (HRM.out _ HBz.out))
          rw [reqsR_code] at HRQ
          clear hf
          by_cases hc : codeE (reqE p eR) eR.length = 0
          · have HX := hid (HXR.out.trans (entR_pack HF.out hc))
            rw [hc] at HRQ
            clear hc
            go_wp2_with fail
            refine HRQ.out.mono ?_
            rintro e wy ⟨rfl, hb⟩
            have HBy := hid (HBz.out.trans (hb.mono HBz.out.size))
            have HEy := hid (show wy.heap[w.heap.size]? = some (.cells #[.string p, .string q, .slice ra eR.length rc, .slice pa eP.length pc, .bool bk] 61 (0, 0)) by rw [hb.block _ (lt_of_blk HEz.out)]; exact HEz.out)
            clear hb z0 z1 z2 z3 z4 HRQ
            have y0 : wy.cell? ⟨w.heap.size, 0, none⟩ = some (.string p) := by rw [Lib.cell_of_heap HEy.out]; rfl
            have y1 : wy.cell? ⟨w.heap.size, 1, none⟩ = some (.string q) := by rw [Lib.cell_of_heap HEy.out]; rfl
            have y2 : wy.cell? ⟨w.heap.size, 2, none⟩ = some (.slice ra eR.length rc) := by rw [Lib.cell_of_heap HEy.out]; rfl
            have y3 : wy.cell? ⟨w.heap.size, 3, none⟩ = some (.slice pa eP.length pc) := by rw [Lib.cell_of_heap HEy.out]; rfl
            have y4 : wy.cell? ⟨w.heap.size, 4, none⟩ = some (.bool bk) := by rw [Lib.cell_of_heap HEy.out]; rfl
            by_cases hp10 : 10 < eP.length
            · have q3 : (10 : Int) < (eP.length : Int) := by omega
              have HX2 := hid (HX.out.trans (pk_full (by rw [bl_len]; exact hp10)))
              clear hp10
              go_wp2_with fail
              go_ret
              exact ⟨by rw [HX2.out]; rfl, HBy.out⟩
            · have q3 : ¬ (10 : Int) < (eP.length : Int) := by omega
              have HP10 := hid (show ¬ 10 < (bl eP).length by rw [bl_len]; exact hp10)
              have hpl : eP.length ≤ 10 := by omega
              clear hp10
              go_wp2_with fail
              go_loopw [8] (fun kv wr => ∃ k : Nat, k ≤ eP.length ∧ kv = .int .i64 k ∧ Hid (∀ j (h : j < eP.length), j < k → noPk eP[j].data.toList = false) ∧ Hid (Below w.heap.size w wr) ∧ Hid (wr.heap[w.heap.size]? = some (.cells #[.string p, .string q, .slice ra eR.length rc, .slice pa eP.length pc, .bool bk] 61 (0, 0)))) (fun kv _ => eP.length - (intOf kv).toNat)
              case atStart => exact ⟨0, Nat.zero_le _, rfl, hid (fun j _ h => absurd h (Nat.not_lt_zero _)), HBy, HEy⟩
              case round =>
                clear y0 y1 y2 y3 y4
                obtain ⟨k, hk, rfl, HA, HBr, HEr⟩ := hrel
                have r0 : wr.cell? ⟨w.heap.size, 0, none⟩ = some (.string p) := by rw [Lib.cell_of_heap HEr.out]; rfl
                have r1 : wr.cell? ⟨w.heap.size, 1, none⟩ = some (.string q) := by rw [Lib.cell_of_heap HEr.out]; rfl
                have r2 : wr.cell? ⟨w.heap.size, 2, none⟩ = some (.slice ra eR.length rc) := by rw [Lib.cell_of_heap HEr.out]; rfl
                have r3 : wr.cell? ⟨w.heap.size, 3, none⟩ = some (.slice pa eP.length pc) := by rw [Lib.cell_of_heap HEr.out]; rfl
                have r4 : wr.cell? ⟨w.heap.size, 4, none⟩ = some (.bool bk) := by rw [Lib.cell_of_heap HEr.out]; rfl
                by_cases hlt : k < eP.length
                · have hkI : (k : Int) < (eP.length : Int) := by omega
                  have hk0 : (0 : Int) ≤ (k : Int) := by omega
                  obtain ⟨pb, po, hpa, hcl⟩ := (HTX.out _ HBr.out).cells hlt
                  have t0 := hcl k hlt
                  subst hpa
                  have HLT := hid hlt
                  have hsz := HSH.out.ps eP[k] (List.getElem_mem hlt)
                  have HNX := hid (show noPk eP[k].data.toList = false → ∀ j (h : j < eP.length), j < k + 1 → noPk eP[j].data.toList = false from fun h0 j h1 h3 => by
                    rcases Nat.lt_or_ge j k with h | h
                    · exact HA.out j h1 h
                    · have : j = k := by omega
                      subst this; exact h0)
                  have HBD := hid (show noPk eP[k].data.toList = true → packErr (bl eP) = 1 from fun h => pk_text HP10.out (any_noPk' hlt h))
                  generalize eP[k] = z at *
                  clear hcl hlt
                  by_cases hdot : z = ⟨#[46]⟩
                  · subst hdot
                    have s0 : ((⟨#[46]⟩ : ByteArray).toList == (⟨#[46]⟩ : ByteArray).toList) = true := by simp
                    have HN2 := hid (HNX.out (by decide))
                    go_wp2_with fail
                    go_roundw
                    case rel => first | exact ⟨k + 1, HLT.out, nr_idx k, HN2, HBr, HEr⟩ | exact ⟨k + 1, HLT.out, nx_idx HLT.out (by omega), HN2, HBr, HEr⟩
                    case measure => first | exact nr_meas HLT.out | exact nx_meas HLT.out (by omega)
                  · have hqd : (z.toList == [46]) = false := by rw [ByteArray.toList_eq]; exact beq_eq_false_iff_ne.2 (fun e => hdot (str_ext (by rw [e])))
                    have hd2 : z.data.toList ≠ [46] := fun e => hdot (str_ext (by rw [e]))
                    have HPE := hid (fun W => pathError_any z W (by omega))
                    by_cases hpe : pathErr z.data.toList = 0
                    · rw [hpe] at HPE
                      have HN2 := hid (HNX.out (by unfold noPk; simp [hpe]))
                      clear hpe hd2 hdot
                      go_wp2_with fail
                      refine (HPE.out _).mono ?_
                      rintro e wv ⟨rfl, hb⟩
                      have HBv := hid (HBr.out.trans (hb.mono HBr.out.size))
                      have HEv := hid ((hb.block _ (lt_of_blk HEr.out)).trans HEr.out)
                      clear hb
                      go_wp2_with fail
                      go_roundw
                      case rel => first | exact ⟨k + 1, HLT.out, nr_idx k, HN2, HBv, HEv⟩ | exact ⟨k + 1, HLT.out, nx_idx HLT.out (by omega), HN2, HBv, HEv⟩
                      case measure => first | exact nr_meas HLT.out | exact nx_meas HLT.out (by omega)
                    · have HX2 := hid (HX.out.trans (HBD.out (by unfold noPk; simp [hpe, hd2])))
                      have hpos : (0 : Int) < ((pathErr z.data.toList : Nat) : Int) := by omega
                      generalize pathErr z.data.toList = pe at *
                      clear hpe hd2 hdot
                      go_wp2_with fail
                      refine (HPE.out _).mono ?_
                      rintro e wv ⟨rfl, hb⟩
                      have HBv := hid (HBr.out.trans (hb.mono HBr.out.size))
                      clear hb
                      go_wp2_with fail
                      go_ret
                      exact ⟨by rw [HX2.out]; rfl, HBv.out⟩
                · have hkI : ¬ (k : Int) < (eP.length : Int) := by omega
                  have HNO := hid (show (bl eP).any noPk = false from any_noPk fun j h => HA.out j h (by omega))
                  clear hlt
                  go_wp2_with fail
                  go_loopw [9] (fun kv wr => ∃ k : Nat, 1 ≤ k ∧ (k ≤ eP.length ∨ k = 1) ∧ kv = .int .i64 k ∧ Hid (∀ j (h : j + 1 < eP.length), j + 1 < k → noLess eP[j] eP[j + 1] = false) ∧ Hid (Below w.heap.size w wr) ∧ Hid (wr.heap[w.heap.size]? = some (.cells #[.string p, .string q, .slice ra eR.length rc, .slice pa eP.length pc, .bool bk] 61 (0, 0)))) (fun kv _ => eP.length - (intOf kv).toNat)
                  case atStart => exact ⟨1, Nat.le_refl _, Or.inr rfl, rfl, hid (fun j _ h => by omega), HBr, HEr⟩
                  case round =>
                    clear r0 r1 r2 r3 r4
                    obtain ⟨k2, hk1, hk2, rfl, HA2, HBs, HEs⟩ := hrel
                    have s0 : wr.cell? ⟨w.heap.size, 0, none⟩ = some (.string p) := by rw [Lib.cell_of_heap HEs.out]; rfl
                    have s1 : wr.cell? ⟨w.heap.size, 1, none⟩ = some (.string q) := by rw [Lib.cell_of_heap HEs.out]; rfl
                    have s2 : wr.cell? ⟨w.heap.size, 2, none⟩ = some (.slice ra eR.length rc) := by rw [Lib.cell_of_heap HEs.out]; rfl
                    have s3 : wr.cell? ⟨w.heap.size, 3, none⟩ = some (.slice pa eP.length pc) := by rw [Lib.cell_of_heap HEs.out]; rfl
                    have s4 : wr.cell? ⟨w.heap.size, 4, none⟩ = some (.bool bk) := by rw [Lib.cell_of_heap HEs.out]; rfl
                    by_cases hlt : k2 < eP.length
                    · obtain ⟨j, rfl⟩ : ∃ j, k2 = j + 1 := ⟨k2 - 1, by omega⟩
                      have hkI2 : ((j + 1 : Nat) : Int) < (eP.length : Int) := by omega
                      have hkI3 : (j : Int) < (eP.length : Int) := by omega
                      have hk00 : (0 : Int) ≤ ((j + 1 : Nat) : Int) := by omega
                      have hk01 : (0 : Int) ≤ (j : Int) := by omega
                      have hk02 : ((j + 1 : Nat) : Int) - 1 = (j : Int) := by omega
                      have hwp : IntKind.i64.wrap (j : Int) = (j : Int) := by rw [IntKind.wrap_i64]; omega
                      have hk03 : (j : Int) + 1 - 1 = (j : Int) := by omega
                      obtain ⟨pb, po, hpa, hcl⟩ := (HTX.out _ HBs.out).cells hlt
                      have t0 := hcl (j + 1) hlt
                      have t1 := hcl j (by omega)
                      subst hpa
                      have HLT := hid hlt
                      have HNX := hid (show noLess eP[j] eP[j + 1] = false → ∀ i (h : i + 1 < eP.length), i + 1 < j + 1 + 1 → noLess eP[i] eP[i + 1] = false from fun h0 i h1 h3 => by
                        rcases Nat.lt_or_ge i j with h | h
                        · exact HA2.out i h1 (by omega)
                        · have : i = j := by omega
                          subst this; exact h0)
                      have HBD := hid (show noLess eP[j] eP[j + 1] = true → packErr (bl eP) = 8 from fun h => pk_fall HP10.out HNO.out (rsT_not hlt h))
                      generalize eP[j + 1] = za at *
                      generalize eP[j] = zb at *
                      have hle := fun X => leq_is za zb X
                      clear hcl hlt
                      cases hnl : noLess zb za
                      · rw [hnl] at hle
                        have HN2 := hid (HNX.out hnl)
                        clear hnl
                        go_wp2_with fail
                        go_quiet (fail)
                        have HBd := hid (below_drawn_of HBs.out nq)
                        have HEd := hid (show (wr.drewN nq).heap[w.heap.size]? = _ from HEs.out)
                        go_wp2_with fail
                        go_roundw
                        case rel => first | exact ⟨j + 1 + 1, by omega, Or.inl HLT.out, nr_idx (j + 1), HN2, HBd, HEd⟩ | exact ⟨j + 1 + 1, by omega, Or.inl HLT.out, nx_idx HLT.out (by omega), HN2, HBd, HEd⟩
                        case measure => first | exact nr_meas HLT.out | exact nx_meas HLT.out (by omega)
                      · rw [hnl] at hle
                        have HX2 := hid (HX.out.trans (HBD.out hnl))
                        clear hnl
                        go_wp2_with fail
                        go_quiet (fail)
                        have HBd := hid (below_drawn_of HBs.out nq)
                        go_wp2_with fail
                        go_ret
                        exact ⟨by rw [HX2.out]; rfl, HBd.out⟩
                    · have hkI2 : ¬ (k2 : Int) < (eP.length : Int) := by omega
                      have HX2 := hid (HX.out.trans (pk_rise HP10.out HNO.out (rsT_of fun j h => HA2.out j h (by omega))))
                      clear hlt
                      go_wp2_with fail
                      go_ret
                      exact ⟨by rw [HX2.out]; rfl, HBs.out⟩
          · have HX := hid (HXR.out.trans (entR_req HF.out hc))
            have hpos : (0 : Int) < ((codeE (reqE p eR) eR.length : Nat) : Int) := by omega
            generalize codeE (reqE p eR) eR.length = cd at *
            clear hc
            go_wp2_with fail
            refine HRQ.out.mono ?_
            rintro e wy ⟨rfl, hb⟩
            have HBy := hid (HBz.out.trans (hb.mono HBz.out.size))
            clear hb
            go_wp2_with fail
            go_ret
            exact ⟨by rw [HX.out]; rfl, HBy.out⟩
  · have HX := hid (entW_bad (o := some (pp, pq)) (e := ((p, q), eR, eP, bk)) h)
    have hpos : (0 : Int) < ((mErr (p, q) : Nat) : Int) := by omega
    generalize mErr (p, q) = z at *
    clear h hme
    go_enter Tryz.func74, Tryz.ntmps74
    go_wp2_with fail
    refine HM.out.mono ?_
    rintro e wz ⟨rfl, hb⟩
    have HBz := hid (HB0.out.trans (hb.mono HB0.out.size))
    clear hb HM
    go_wp2_with fail
    go_ret
    exact ⟨by rw [HX.out]; rfl, HBz.out⟩
theorem entE_any (Q : List Raw) (L : List Ent) (v : Value) (i : Nat) (w : World) (hn : L.length ≤ 1000) (sh : ∀ e, e ∈ L → ShE e) (I : Ixs w v Q L) (h0 : i < L.length) :
    Calls Tryz.prog 74 #[v, .int .i64 (i : Int)] w fun e w' => e = .returned (.int .i64 (entE L i : Nat)) ∧ Below w.heap.size w w' := by
  obtain ⟨a, c, rfl, _, _, h⟩ := id I.es
  obtain ⟨b, o, rfl, _⟩ := h (by intro e; have := I.ln; rw [e] at this; simp at this; omega)
  cases i with
  | zero => exact entE0_any Q L b o c w sh I h0
  | succ k => exact entE1_any Q L b o c w sh I k h0 hn
end Ve
end Go.Proofs.YtjndahjfodnllaaGreatDoor


namespace Go.Proofs.YtjndahjfodnllaaGreatDoor
open Go.RowKit Go.Maps
namespace Ve
def eqM (x m : Bm) : Bool := decide (x.1 = m.1 ∧ x.2 = m.2)
theorem eqM_run (x m : Bm) (W : World) : (binOp .eql 38 (.agg #[.string x.1, .string x.2]) (.agg #[.string m.1, .string m.2])).run Tryz.prog W = .ok (.bool (eqM x m)) W := modEql x.1 x.2 m.1 m.2 W
set_option maxRecDepth 100000 in
set_option maxHeartbeats 1000000 in
theorem findOf_some (L : List Raw) (m : Bm) (b o c : Nat) (w : World) (hL : L.length ≤ 1000000)
    (hc : ∀ j (h : j < L.length), w.cell? ⟨b, o + j * 5, none⟩ = some (.string L[j].1.1) ∧ w.cell? ⟨b, o + j * 5 + 1, none⟩ = some (.string L[j].1.2)) :
    Calls Tryz.prog 41 #[.slice (some ⟨b, o, none⟩) L.length c, .agg #[.string m.1, .string m.2]] w fun e w' => e = .returned (.int .i64 (idxOf (isM m) L)) ∧ Below w.heap.size w w' := by
  have HC := hid hc
  have hgd := modGuard
  generalize hr : idxOf (isM m) L = r
  have HR := hid hr
  have HB0 := hid ((Below.refl w.heap.size w).alloc (Nat.le_refl _) (.cells #[.string m.1, .string m.2] 38))
  have HE0 := hid (heap_new w (.cells #[.string m.1, .string m.2] 38))
  clear hc hr
  go_enter Tryz.func41, Tryz.ntmps41
  go_wp2_with fail
  generalize hw1 : w.alloc (.cells #[.string m.1, .string m.2] 38) = w1 at *
  clear hw1
  go_loopw [5] (fun i wr => ∃ k : Nat, k ≤ L.length ∧ i = .int .i64 k ∧ Hid (∀ j (h : j < L.length), j < k → isM m L[j] = false) ∧ Hid (Below w1.heap.size w1 wr)) (fun i _ => L.length - (intOf i).toNat)
  case atStart => exact ⟨0, Nat.zero_le _, rfl, hid (fun j _ hj => absurd hj (by omega)), hid (Below.refl _ _)⟩
  case round =>
    obtain ⟨k, hk, rfl, HA, HB⟩ := hrel
    have HBw := hid (HB0.out.trans (HB.out.mono HB0.out.size))
    by_cases hlt : k < L.length
    · have x0 := cell_below HBw.out (HC.out k hlt).1
      have x1 := cell_below HBw.out (HC.out k hlt).2
      have hE : wr.heap[w.heap.size]? = some (.cells #[.string m.1, .string m.2] 38 (0, 0)) := (HB.out.block _ (lt_of_blk HE0.out)).trans HE0.out
      have y0 : wr.cell? ⟨w.heap.size, 0, none⟩ = some (.string m.1) := by rw [Lib.cell_of_heap hE]; rfl
      have y1 : wr.cell? ⟨w.heap.size, 1, none⟩ = some (.string m.2) := by rw [Lib.cell_of_heap hE]; rfl
      have HF := hid (fun h => idx_hit hlt HA.out h)
      have HN := hid (fun h => idx_next hlt HA.out h)
      have HEQ := hid (show isM m L[k] = eqM L[k].1 m from rfl)
      have hkI : (k : Int) < (L.length : Int) := by omega
      have HLT := hid hlt
      clear hE
      generalize L[k] = x at *
      clear hlt
      have heq := fun W => eqM_run x.1 m W
      cases he : eqM x.1 m with
      | false =>
        rw [he] at heq HEQ
        have HN2 := hid (HN.out HEQ.out)
        clear HF HN HEQ he
        go_wp2_with fail
        go_quiet (fail)
        go_wp2_with fail
        go_roundw
        case rel => first | exact ⟨k + 1, HLT.out, nr_idx k, HN2, hid (below_drawn_of HB.out _)⟩ | exact ⟨k + 1, HLT.out, nx_idx HLT.out hL, HN2, hid (below_drawn_of HB.out _)⟩
        case measure => first | exact nr_meas HLT.out | exact nx_meas HLT.out hL
      | true =>
        rw [he] at heq HEQ
        have HF2 := hid (HF.out HEQ.out)
        clear HF HN HEQ he
        go_wp2_with fail
        go_quiet (fail)
        go_wp2_with fail
        go_ret
        exact ⟨by rw [← HR.out, HF2.out]; rfl, below_drawn_of HBw.out _⟩
    · have HF := hid (show idxOf (isM m) L = -1 by unfold idxOf; rw [fstE_none (idxE_zero (Nat.le_refl _) (fun j hj _ => HA.out j hj (by omega)))])
      have hkI : ¬ (k : Int) < (L.length : Int) := by omega
      clear hlt
      go_wp2_with fail
      go_ret
      exact ⟨by rw [← HR.out, HF.out]; rfl, HBw.out⟩
theorem findOf_any (L : List Raw) (m : Bm) (v : Value) (w : World) (hL : L.length ≤ 1000000) (h0 : 0 < L.length) (hv : EsAt w v L) :
    Calls Tryz.prog 41 #[v, .agg #[.string m.1, .string m.2]] w fun e w' => e = .returned (.int .i64 (idxOf (isM m) L)) ∧ Below w.heap.size w w' := by
  obtain ⟨a, c, rfl, _, _, h⟩ := hv
  obtain ⟨b, o, rfl, h2⟩ := h (fun e => by rw [e] at h0; exact absurd h0 (Nat.lt_irrefl _))
  exact findOf_some L m b o c w hL (fun j hj => ⟨(h2 j hj).1, (h2 j hj).2.1⟩)
theorem MsAt.cells {w : World} {a : Option Addr} {n c : Nat} {L : List Bm} (h : MsAt w (.slice a n c) L) {k : Nat} (hk : k < L.length) : ∃ b o, a = some ⟨b, o, none⟩ ∧ w.cell? ⟨b, o + k * 2, none⟩ = some (.string L[k].1) ∧ w.cell? ⟨b, o + k * 2 + 1, none⟩ = some (.string L[k].2) := by
  obtain ⟨a', c', e, _, h⟩ := h
  injection e with e1 e2 e3
  subst e1
  obtain ⟨b, o, e4, h4⟩ := h (by intro h0; rw [h0] at hk; simp at hk)
  exact ⟨b, o, e4, h4 k hk⟩
theorem es_cells {W : World} {a : Option Addr} {n c : Nat} {Q : List Raw} (h : EsAt W (.slice a n c) Q) {k : Nat} (hk : k < Q.length) : ∃ b o, a = some ⟨b, o, none⟩ ∧ W.cell? ⟨b, o + k * 5 + 2, none⟩ = some Q[k].2.1 := by
  obtain ⟨a', c', e, _, _, h⟩ := h
  injection e with e1 e2 e3
  subst e1
  obtain ⟨b', o', e4, h4⟩ := h (by intro h0; rw [h0] at hk; simp at hk)
  exact ⟨b', o', e4, (h4 k hk).2.2.1⟩
theorem findOf_noneJ (a : Option Addr) (c : Nat) (m : Bm) (w : World) : Calls Tryz.prog 41 #[.slice a 0 c, .agg #[.string m.1, .string m.2]] w fun e w' => e = .returned (.int .i64 (-1)) ∧ Below w.heap.size w w' := by
  have HB0 := hid ((Below.refl w.heap.size w).alloc (Nat.le_refl _) (.cells #[.string m.1, .string m.2] 38))
  go_enter Tryz.func41, Tryz.ntmps41
  go_wp2_with fail
  go_loopw [5] (fun i wr => i = .int .i64 0 ∧ Hid (Below w.heap.size w wr)) (fun i _ => 0)
  case atStart => exact ⟨rfl, HB0⟩
  case round =>
    obtain ⟨rfl, HB⟩ := hrel
    go_wp2_with fail
    go_ret
    exact ⟨rfl, HB.out⟩
theorem findOf_allJ (Q : List Raw) (m : Bm) (v : Value) (w : World) (hL : Q.length ≤ 1000000) (hv : EsAt w v Q) :
    Calls Tryz.prog 41 #[v, .agg #[.string m.1, .string m.2]] w fun e w' => e = .returned (.int .i64 (idxOf (isM m) Q)) ∧ Below w.heap.size w w' := by
  by_cases hQ : Q = []
  · subst hQ
    obtain ⟨a, c, rfl, _⟩ := hv
    exact findOf_noneJ a c m w
  · exact findOf_any Q m v w hL (List.length_pos_iff.2 hQ) hv
end Ve
end Go.Proofs.YtjndahjfodnllaaGreatDoor


namespace Go.Proofs.YtjndahjfodnllaaGreatDoor
open Go.RowKit Go.Maps
namespace Ve
end Ve
end Go.Proofs.YtjndahjfodnllaaGreatDoor


namespace Go.Proofs.YtjndahjfodnllaaGreatDoor
open Go.RowKit Go.Maps
namespace Ve
theorem put2_below {W w : World} {B b : Nat} {x y : Value} (h : Below B w W) (hb : B ≤ b) : Below B w ((W.setCell ⟨b, 0, none⟩ x).setCell ⟨b, 1, none⟩ y) :=
  (h.setCell (p := ⟨b, 0, none⟩) hb _).setCell (p := ⟨b, 1, none⟩) hb _
theorem nonE_five {Q : List Raw} {R : List Bm} : codeE (nonE Q R) R.length = 0 ∨ codeE (nonE Q R) R.length = 5 := by
  unfold codeE
  cases h : fstE (nonE Q R) R.length with
  | none => exact Or.inl rfl
  | some j =>
    obtain ⟨h1, h2, _⟩ := fstE_of_some h
    show nonE Q R j = 0 ∨ nonE Q R j = 5
    rw [nonE_at h1] at h2 ⊢
    unfold nonW at h2 ⊢
    by_cases h3 : idxOf (isM R[j]) Q < 0
    · rw [if_pos h3]; exact Or.inr rfl
    · rw [if_neg h3]; exact Or.inl rfl
theorem reqE2_bad {Q : List Raw} {L : List Ent} {i k : Nat} (hi : i < L.length) (hk : k < L[i].2.1.length) (h : idxOf (isM L[i].2.1[k]) Q < 0) : reqE2 Q L i = 5 := by
  rw [reqE2_at hi]
  rcases nonE_five (Q := Q) (R := L[i].2.1) with h1 | h1
  · exfalso
    unfold codeE at h1
    cases h2 : fstE (nonE Q L[i].2.1) L[i].2.1.length with
    | none =>
      have := fstE_of_none h2 k hk
      rw [nonE_at hk] at this
      unfold nonW at this
      rw [if_pos h] at this; cases this
    | some j =>
      rw [h2] at h1
      exact (fstE_of_some h2).2.1 h1
  · exact h1
theorem reqE2_good {Q : List Raw} {L : List Ent} {i : Nat} (hi : i < L.length) (h : ∀ k (hk : k < L[i].2.1.length), 0 ≤ idxOf (isM L[i].2.1[k]) Q) : reqE2 Q L i = 0 := by
  rw [reqE2_at hi]
  exact codeE_none (fstE_none fun j hj => by
    rw [nonE_at hj]
    unfold nonW
    rw [if_neg (Int.not_lt.2 (h j hj))])
set_option maxRecDepth 100000 in
set_option maxHeartbeats 8000000 in
theorem iFault_some (Q : List Raw) (L : List Ent) (b o c : Nat) (w : World) (hn : L.length ≤ 1000) (sh : ∀ e, e ∈ L → ShE e) (I : Ixs w (.slice (some ⟨b, o, none⟩) Q.length c) Q L) (h0 : 0 < L.length) :
    Calls Tryz.prog 36 #[.slice (some ⟨b, o, none⟩) Q.length c] w fun e w' => e = .returned (faultV (chk Q L)) ∧ Below w.heap.size w w' := by
  have HLN := hid I.ln
  have hqn : Q.length ≤ 1000 := by rw [I.ln]; exact hn
  have HB0 := hid ((Below.refl w.heap.size w).alloc (Nat.le_refl _) (.cells #[.int .i64 0, .int .i64 0] 44))
  have HE0 := hid (heap_new w (.cells #[.int .i64 0, .int .i64 0] 44))
  by_cases h1 : 100 < L.length
  · have q1 : (100 : Int) < (Q.length : Int) := by have := HLN.out; omega
    have HBR := hid (fun W => rbare_any 7 W)
    have HX := hid (chk_full (Q := Q) h1)
    clear I sh h1
    go_enter Tryz.func36, Tryz.ntmps36
    go_wp2_with fail
    refine (HBR.out _).mono ?_
    rintro e w1 ⟨rfl, hb⟩
    have HB1 := hid (HB0.out.trans (hb.mono HB0.out.size))
    have HE1 := hid ((hb.block _ (lt_of_blk HE0.out)).trans HE0.out)
    clear hb
    have s0 : w1.cell? ⟨w.heap.size, 0, none⟩ = some (.int .i64 0) := by rw [Lib.cell_of_heap HE1.out]; rfl
    have s1 : w1.cell? ⟨w.heap.size, 1, none⟩ = some (.int .i64 0) := by rw [Lib.cell_of_heap HE1.out]; rfl
    have tf := fun o => Lib.frozen_of_heap HE1.out o
    go_wp2_with fail
    refine bodyPost_ret (v := .agg #[.int .i64 7, .int .i64 (-1)]) (by simp [results, Tryz.results36, go_sem, s0, s1]) rfl ⟨by rw [HX.out]; rfl, ?_⟩
    exact put2_below HB1.out (Nat.le_refl _)
  · have q1 : ¬ (100 : Int) < (Q.length : Int) := by have := HLN.out; omega
    have HEN := hid (fun i (hi : i < L.length) W (h : Below w.heap.size w W) => entE_any Q L _ i W hn sh (I.below h) hi)
    have HFO := hid (fun m W (h : Below w.heap.size w W) => findOf_any Q m _ W (by omega) (by have := HLN.out; omega) (I.below h).es)
    have HFN := hid (fun W => fine_any W)
    have HI := hid I
    have HSZ := hid sh
    have H1 := hid h1
    clear I sh h1 hn h0
    go_enter Tryz.func36, Tryz.ntmps36
    go_wp2_with fail
    go_loopw [3] (fun iv wr => ∃ i : Nat, i ≤ Q.length ∧ iv = .int .i64 i ∧ Hid (∀ j, j < i → entE L j = 0) ∧ Hid (Below w.heap.size w wr) ∧ Hid (wr.heap[w.heap.size]? = some (.cells #[.int .i64 0, .int .i64 0] 44 (0, 0)))) (fun iv _ => Q.length - (intOf iv).toNat)
    case atStart => exact ⟨0, Nat.zero_le _, rfl, hid (fun j h => absurd h (Nat.not_lt_zero _)), HB0, HE0⟩
    case round =>
      obtain ⟨i, hi, rfl, HZ, HBr, HEr⟩ := hrel
      by_cases hlt : i < Q.length
      · have hiI : (i : Int) < (Q.length : Int) := by omega
        have HLT := hid hlt
        have hil : i < L.length := by rw [← HLN.out]; exact hlt
        have HE := hid (HEN.out i hil _ HBr.out)
        have HNX := hid (show entE L i = 0 → ∀ j, j < i + 1 → entE L j = 0 from fun h => zero_next HZ.out h)
        have HBD := hid (show entE L i ≠ 0 → chk Q L = (entE L i, some i) from fun h => chk_each H1.out (fstE_some HZ.out h hil))
        generalize entE L i = z at *
        clear hlt hil
        by_cases hz : z = 0
        · subst hz
          have HN2 := hid (HNX.out rfl)
          go_wp2_with fail
          refine HE.out.mono ?_
          rintro e w1 ⟨rfl, hb⟩
          have HB1 := hid (HBr.out.trans (hb.mono HBr.out.size))
          have HE1 := hid ((hb.block _ (lt_of_blk HEr.out)).trans HEr.out)
          clear hb
          go_wp2_with fail
          go_roundw
          case rel => first | exact ⟨i + 1, HLT.out, nr_idx i, HN2, HB1, HE1⟩ | exact ⟨i + 1, HLT.out, nx_idx HLT.out (by omega), HN2, HB1, HE1⟩
          case measure => first | exact nr_meas HLT.out | exact nx_meas HLT.out (by omega)
        · have HX := hid (HBD.out hz)
          have hpos : (0 : Int) < (z : Int) := by omega
          clear hz
          go_wp2_with fail
          refine HE.out.mono ?_
          rintro e w1 ⟨rfl, hb⟩
          have HB1 := hid (HBr.out.trans (hb.mono HBr.out.size))
          have HE1 := hid ((hb.block _ (lt_of_blk HEr.out)).trans HEr.out)
          clear hb
          have s0 : w1.cell? ⟨w.heap.size, 0, none⟩ = some (.int .i64 0) := by rw [Lib.cell_of_heap HE1.out]; rfl
          have s1 : w1.cell? ⟨w.heap.size, 1, none⟩ = some (.int .i64 0) := by rw [Lib.cell_of_heap HE1.out]; rfl
          have tf := fun o => Lib.frozen_of_heap HE1.out o
          go_wp2_with fail
          refine bodyPost_ret (v := .agg #[.int .i64 (z : Int), .int .i64 (i : Int)]) (by simp [results, Tryz.results36, go_sem, s0, s1]) rfl ⟨by rw [HX.out]; rfl, ?_⟩
          exact put2_below HB1.out (Nat.le_refl _)
      · have hiI : ¬ (i : Int) < (Q.length : Int) := by omega
        have HNE := hid (show fstE (entE L) L.length = none from fstE_none fun j hj => HZ.out j (by have := HLN.out; omega))
        have HX0 := hid (chk_reqs (Q := Q) H1.out HNE.out)
        clear hlt HZ HEN
        go_wp2_with fail
        go_loopw [5] (fun iv wr => ∃ i : Nat, i ≤ Q.length ∧ iv = .int .i64 i ∧ Hid (∀ j, j < i → reqE2 Q L j = 0) ∧ Hid (Below w.heap.size w wr) ∧ Hid (wr.heap[w.heap.size]? = some (.cells #[.int .i64 0, .int .i64 0] 44 (0, 0)))) (fun iv _ => Q.length - (intOf iv).toNat)
        case atStart => exact ⟨0, Nat.zero_le _, rfl, hid (fun j h => absurd h (Nat.not_lt_zero _)), HBr, HEr⟩
        case round =>
          obtain ⟨i2, hi2, rfl, HZ2, HB2, HE2⟩ := hrel
          by_cases hqi : i2 < Q.length
          · have hlt : i2 < L.length := by rw [← HLN.out]; exact hqi
            have hiI2 : (i2 : Int) < (Q.length : Int) := by omega
            have hi00 : (0 : Int) ≤ (i2 : Int) := by omega
            have HLI := hid hqi
            have HCE := hid (fun W (h : Below w.heap.size w W) => (es_all (HI.out.below h).es hqi).2.2.2.1)
            have HMR := hid (fun W (h : Below w.heap.size w W) => ((HI.out.below h).ok i2 hqi hlt).rq)
            have HNX := hid (show reqE2 Q L i2 = 0 → ∀ j, j < i2 + 1 → reqE2 Q L j = 0 from fun h => zero_next HZ2.out h)
            have HGD := hid (reqE2_good (Q := Q) hlt)
            have HBD := hid (fun k (hk : k < L[i2].2.1.length) h => show chk Q L = (5, some i2) by
              have h5 := reqE2_bad (Q := Q) hlt hk h
              have hs := fstE_some HZ2.out (by rw [h5]; decide) hlt
              rw [HX0.out, hs, codeE_some hs, h5])
            have hRl := (HSZ.out L[i2] (List.getElem_mem hlt)).rn
            generalize (L[i2]'hlt).2.1 = R at *
            generalize (Q[i2]'hqi).2.1 = rv at *
            obtain ⟨ra, rc, hrv, -⟩ := HMR.out w (Below.refl _ _)
            subst hrv
            clear hlt hqi
            go_wp2_with fail
            go_loopw [6] (fun kv wr => ∃ k : Nat, k ≤ R.length ∧ kv = .int .i64 k ∧ Hid (∀ j (h : j < R.length), j < k → 0 ≤ idxOf (isM R[j]) Q) ∧ Hid (Below w.heap.size w wr) ∧ Hid (wr.heap[w.heap.size]? = some (.cells #[.int .i64 0, .int .i64 0] 44 (0, 0)))) (fun kv _ => R.length - (intOf kv).toNat)
            case atStart => exact ⟨0, Nat.zero_le _, rfl, hid (fun j _ h => absurd h (Nat.not_lt_zero _)), HB2, HE2⟩
            case round =>
              obtain ⟨k, hk, rfl, HZ3, HB3, HE3⟩ := hrel
              have x2 := HCE.out _ HB3.out
              by_cases hlk : k < R.length
              · have hkI : (k : Int) < (R.length : Int) := by omega
                have hk0 : (0 : Int) ≤ (k : Int) := by omega
                obtain ⟨xb, xo, hxa, y0, y1⟩ := (HMR.out _ HB3.out).cells hlk
                subst hxa
                have HLK := hid hlk
                have HF := hid (HFO.out R[k] _ HB3.out)
                have HNK := hid (show 0 ≤ idxOf (isM R[k]) Q → ∀ j (h : j < R.length), j < k + 1 → 0 ≤ idxOf (isM R[j]) Q from fun h0 j h1 h3 => by
                  rcases Nat.lt_or_ge j k with h | h
                  · exact HZ3.out j h1 h
                  · have : j = k := by omega
                    subst this; exact h0)
                have HBK := hid (HBD.out k hlk)
                generalize R[k] = x at *
                obtain ⟨x1, x2'⟩ := x
                generalize idxOf (isM (x1, x2')) Q = ix at *
                clear hlk
                by_cases hix : ix < 0
                · have HX := hid (HBK.out hix)
                  go_wp2_with fail
                  refine HF.out.mono ?_
                  rintro e w1 ⟨rfl, hb⟩
                  have HB4 := hid (HB3.out.trans (hb.mono HB3.out.size))
                  have HE4 := hid ((hb.block _ (lt_of_blk HE3.out)).trans HE3.out)
                  clear hb
                  have s0 : w1.cell? ⟨w.heap.size, 0, none⟩ = some (.int .i64 0) := by rw [Lib.cell_of_heap HE4.out]; rfl
                  have s1 : w1.cell? ⟨w.heap.size, 1, none⟩ = some (.int .i64 0) := by rw [Lib.cell_of_heap HE4.out]; rfl
                  have tf := fun o => Lib.frozen_of_heap HE4.out o
                  go_wp2_with fail
                  refine bodyPost_ret (v := .agg #[.int .i64 5, .int .i64 (i2 : Int)]) (by simp [results, Tryz.results36, go_sem, s0, s1]) rfl ⟨by rw [HX.out]; rfl, ?_⟩
                  exact put2_below HB4.out (Nat.le_refl _)
                · have HN2 := hid (HNK.out (Int.not_lt.1 hix))
                  go_wp2_with fail
                  refine HF.out.mono ?_
                  rintro e w1 ⟨rfl, hb⟩
                  have HB4 := hid (HB3.out.trans (hb.mono HB3.out.size))
                  have HE4 := hid ((hb.block _ (lt_of_blk HE3.out)).trans HE3.out)
                  clear hb
                  go_wp2_with fail
                  go_roundw
                  case rel => first | exact ⟨k + 1, HLK.out, nr_idx k, HN2, HB4, HE4⟩ | exact ⟨k + 1, HLK.out, nx_idx HLK.out hRl, HN2, HB4, HE4⟩
                  case measure => first | exact nr_meas HLK.out | exact nx_meas HLK.out hRl
              · have hkI : ¬ (k : Int) < (R.length : Int) := by omega
                have HN2 := hid (HNX.out (HGD.out (fun j h => HZ3.out j h (by omega))))
                clear hlk
                go_wp2_with fail
                go_roundw
                case rel => first | exact ⟨i2 + 1, HLI.out, nr_idx i2, HN2, HB3, HE3⟩ | exact ⟨i2 + 1, HLI.out, nx_idx HLI.out (by omega), HN2, HB3, HE3⟩
                case measure => first | exact nr_meas HLI.out | exact nx_meas HLI.out (by omega)
          · have hiI2 : ¬ (i2 : Int) < (Q.length : Int) := by omega
            have HX := hid (show chk Q L = (0, none) by
              have hs := fstE_none (E := reqE2 Q L) (n := L.length) (fun j hj => HZ2.out j (by have := HLN.out; omega))
              rw [HX0.out, hs, codeE_none hs])
            clear hqi
            go_wp2_with fail
            refine (HFN.out _).mono ?_
            rintro e w1 ⟨rfl, hb⟩
            have HB4 := hid (HB2.out.trans (hb.mono HB2.out.size))
            have HE4 := hid ((hb.block _ (lt_of_blk HE2.out)).trans HE2.out)
            clear hb
            have s0 : w1.cell? ⟨w.heap.size, 0, none⟩ = some (.int .i64 0) := by rw [Lib.cell_of_heap HE4.out]; rfl
            have s1 : w1.cell? ⟨w.heap.size, 1, none⟩ = some (.int .i64 0) := by rw [Lib.cell_of_heap HE4.out]; rfl
            have tf := fun o => Lib.frozen_of_heap HE4.out o
            go_wp2_with fail
            refine bodyPost_ret (v := .agg #[.int .i64 0, .int .i64 (-1)]) (by simp [results, Tryz.results36, go_sem, s0, s1]) rfl ⟨by rw [HX.out]; rfl, ?_⟩
            exact put2_below HB4.out (Nat.le_refl _)
theorem iFault_none (a : Option Addr) (c : Nat) (w : World) : Calls Tryz.prog 36 #[.slice a 0 c] w fun e w' => e = .returned (faultV (0, none)) ∧ Below w.heap.size w w' := by
  have HB0 := hid ((Below.refl w.heap.size w).alloc (Nat.le_refl _) (.cells #[.int .i64 0, .int .i64 0] 44))
  have HE0 := hid (heap_new w (.cells #[.int .i64 0, .int .i64 0] 44))
  have HFN := hid (fun W => fine_any W)
  go_enter Tryz.func36, Tryz.ntmps36
  go_wp2_with fail
  go_loopw [3] (fun i wr => i = .int .i64 0 ∧ Hid (wr = w.alloc (.cells #[.int .i64 0, .int .i64 0] 44))) (fun i _ => 0)
  case atStart => exact ⟨rfl, hid rfl⟩
  case round =>
    obtain ⟨rfl, HW⟩ := hrel
    obtain rfl := HW.out
    clear HW
    go_wp2_with fail
    go_loopw [5] (fun i wr => i = .int .i64 0 ∧ Hid (wr = w.alloc (.cells #[.int .i64 0, .int .i64 0] 44))) (fun i _ => 0)
    case atStart => exact ⟨rfl, hid rfl⟩
    case round =>
      obtain ⟨rfl, HW⟩ := hrel
      obtain rfl := HW.out
      clear HW
      go_wp2_with fail
      refine (HFN.out _).mono ?_
      rintro e w1 ⟨rfl, hb⟩
      have HB4 := hid (HB0.out.trans (hb.mono HB0.out.size))
      have HE4 := hid ((hb.block _ (lt_of_blk HE0.out)).trans HE0.out)
      clear hb
      have s0 : w1.cell? ⟨w.heap.size, 0, none⟩ = some (.int .i64 0) := by rw [Lib.cell_of_heap HE4.out]; rfl
      have s1 : w1.cell? ⟨w.heap.size, 1, none⟩ = some (.int .i64 0) := by rw [Lib.cell_of_heap HE4.out]; rfl
      have tf := fun o => Lib.frozen_of_heap HE4.out o
      go_wp2_with fail
      refine bodyPost_ret (v := .agg #[.int .i64 0, .int .i64 (-1)]) (by simp [results, Tryz.results36, go_sem, s0, s1]) rfl ⟨rfl, ?_⟩
      exact put2_below HB4.out (Nat.le_refl _)
theorem iFault_any (Q : List Raw) (L : List Ent) (v : Value) (w : World) (hn : L.length ≤ 1000) (sh : ∀ e, e ∈ L → ShE e) (I : Ixs w v Q L) :
    Calls Tryz.prog 36 #[v] w fun e w' => e = .returned (faultV (chk Q L)) ∧ Below w.heap.size w w' := by
  obtain ⟨a, c, rfl, _, _, h⟩ := id I.es
  by_cases hQ : Q = []
  · subst hQ
    have hl : L = [] := List.length_eq_zero_iff.1 I.ln.symm
    subst hl
    exact iFault_none a c w
  · obtain ⟨b, o, rfl, _⟩ := h hQ
    exact iFault_some Q L b o c w hn sh I (by rw [← I.ln]; exact List.length_pos_iff.2 hQ)
end Ve
end Go.Proofs.YtjndahjfodnllaaGreatDoor


namespace Go.Proofs.YtjndahjfodnllaaGreatDoor
open Go.RowKit Go.Maps
namespace Ve
theorem findOf_none (a : Option Addr) (c : Nat) (m : Bm) (w : World) : Calls Tryz.prog 41 #[.slice a 0 c, .agg #[.string m.1, .string m.2]] w fun e w' => e = .returned (.int .i64 (-1)) ∧ Below w.heap.size w w' := by
  have HB0 := hid ((Below.refl w.heap.size w).alloc (Nat.le_refl _) (.cells #[.string m.1, .string m.2] 38))
  go_enter Tryz.func41, Tryz.ntmps41
  go_wp2_with fail
  go_loopw [5] (fun i wr => i = .int .i64 0 ∧ Hid (Below w.heap.size w wr)) (fun i _ => 0)
  case atStart => exact ⟨rfl, HB0⟩
  case round =>
    obtain ⟨rfl, HB⟩ := hrel
    go_wp2_with fail
    go_ret
    exact ⟨rfl, HB.out⟩
theorem findOf_all (Q : List Raw) (m : Bm) (v : Value) (w : World) (hL : Q.length ≤ 1000000) (hv : EsAt w v Q) :
    Calls Tryz.prog 41 #[v, .agg #[.string m.1, .string m.2]] w fun e w' => e = .returned (.int .i64 (idxOf (isM m) Q)) ∧ Below w.heap.size w w' := by
  by_cases hQ : Q = []
  · subst hQ
    obtain ⟨a, c, rfl, _⟩ := hv
    exact findOf_none a c m w
  · exact findOf_any Q m v w hL (List.length_pos_iff.2 hQ) hv
theorem nonE_bad {Q : List Raw} {R : List Bm} {k : Nat} (hk : k < R.length) (h0 : ∀ j (h : j < R.length), j < k → 0 ≤ idxOf (isM R[j]) Q) (h : idxOf (isM R[k]) Q < 0) : (codeE (nonE Q R) R.length, fstE (nonE Q R) R.length) = (5, some k) := by
  have hz : ∀ j, j < k → nonE Q R j = 0 := fun j hj => by
    rw [nonE_at (by omega)]
    unfold nonW
    rw [if_neg (Int.not_lt.2 (h0 j (by omega) hj))]
  have h5 : nonE Q R k = 5 := by
    rw [nonE_at hk]
    unfold nonW
    rw [if_pos h]
  have hs := fstE_some hz (by rw [h5]; decide) hk
  rw [codeE_some hs, hs, h5]
theorem nonE_good {Q : List Raw} {R : List Bm} (h0 : ∀ j (h : j < R.length), 0 ≤ idxOf (isM R[j]) Q) : (codeE (nonE Q R) R.length, fstE (nonE Q R) R.length) = (0, none) := by
  have hs : fstE (nonE Q R) R.length = none := fstE_none fun j hj => by
    rw [nonE_at hj]
    unfold nonW
    rw [if_neg (Int.not_lt.2 (h0 j hj))]
  rw [codeE_none hs, hs]
end Ve
end Go.Proofs.YtjndahjfodnllaaGreatDoor


namespace Go.Proofs.YtjndahjfodnllaaGreatDoor
open Go.RowKit
namespace Ve
theorem lss_lt (a b : ByteArray) : Op.bytesLess a.toList b.toList = lt a b := by unfold lt; rw [cb_less, ByteArray.toList_eq, ByteArray.toList_eq]
end Ve
end Go.Proofs.YtjndahjfodnllaaGreatDoor
