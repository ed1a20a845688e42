/-
  What the document's DoesBegin answers: what Begins does; nothing old in memory turns.
-/
import Derived.Test.YtmgpapghdbopiaaGreatDoorOrdG
namespace Go.Proofs.YtmgpapghdbopiaaGreatDoor
open Go.RowKit
namespace Ve

theorem does_bad (s h : ByteArray) (w : World) (hs : s.size < 4294967281) (h0 : verErr s.data.toList ≠ 0) :
    Calls Tryz.prog 14 #[.string s, .string h] w fun e w' => e = .returned (.bool false) ∧ Below w.heap.size w w' := by
  have HV := hid (verOf_any s w hs)
  have HH := hid h0
  have hz : decide (0 < ((verErr s.data.toList : Nat) : Int)) = true := decide_eq_true (by omega)
  clear h0
  go_enter Tryz.func14, Tryz.ntmps14
  go_wp2_with fail
  refine HV.out.mono ?_
  rintro e w1 ⟨h1, hb⟩
  have HB := hid hb
  clear hb
  rcases h1 with ⟨_, rfl⟩ | ⟨h1, _⟩
  · generalize ((verErr s.data.toList : Nat) : Int) = c at *
    go_wp2_with fail
    go_ret
    exact ⟨rfl, HB.out.alloc HB.out.size _⟩
  · exact absurd h1 HH.out
theorem does_same (x y z : Int) (X : List ByteArray) (s : ByteArray) (w : World) (hA : Calls Tryz.prog 7 #[.string s] w fun e w' => GoodV w w' e x y z X) :
    Calls Tryz.prog 14 #[.string s, .string s] w fun e w' => e = .returned (.bool true) ∧ Below w.heap.size w w' := by
  have he := str_eq s
  have HA := hid hA
  clear hA
  go_enter Tryz.func14, Tryz.ntmps14
  go_wp2_with fail
  refine HA.out.mono ?_
  rintro e w1 ⟨⟨sa, ca, rfl, _⟩, hb1⟩
  have HB1 := hid hb1
  have HBA := hid ((Below.refl w1.heap.size w1).alloc (Nat.le_refl _) (.cells #[.int .i64 x, .int .i64 y, .int .i64 z, .slice sa X.length ca] 26))
  clear hb1
  go_wp2_with fail
  go_ret
  exact ⟨rfl, HB1.out.trans (HBA.out.mono HB1.out.size)⟩

set_option maxHeartbeats 1000000 in
theorem does_no (x y z : Int) (X : List ByteArray) (s h : ByteArray) (w : World) (hA : Calls Tryz.prog 7 #[.string s] w fun e w' => GoodV w w' e x y z X) (hne : (s.toList == h.toList) = false) (hH : ∀ W, Calls Tryz.prog 49 #[.string h] W fun e w' => HeadP h.data.toList W w' e) (hk : headOk h.data.toList = false) :
    Calls Tryz.prog 14 #[.string s, .string h] w fun e w' => e = .returned (.bool false) ∧ Below w.heap.size w w' := by
  have HH := hid hH
  clear hH
  have HK := hid hk
  clear hk
  have HA := hid hA
  clear hA
  go_enter Tryz.func14, Tryz.ntmps14
  go_wp2_with fail
  refine HA.out.mono ?_
  rintro e w1 ⟨⟨sa, ca, rfl, _⟩, hb1⟩
  have HB1 := hid hb1
  have HBA := hid ((Below.refl w1.heap.size w1).alloc (Nat.le_refl _) (.cells #[.int .i64 x, .int .i64 y, .int .i64 z, .slice sa X.length ca] 26))
  clear hb1
  go_wp2_with fail
  refine (HH.out _).mono ?_
  rintro e w2 ⟨h1, hb2⟩
  obtain ⟨⟨r0, r1, r2, r3⟩, rf, rz⟩ := res4 (hb2.mono (by simp))
  have HB12 := hid (HBA.out.trans (hb2.mono (by simp)))
  have HB3 := hid (HB1.out.trans (HB12.out.mono HB1.out.size))
  clear hb2
  rcases h1 with ⟨_, c, hc, rfl, _⟩ | ⟨h1, _⟩
  · have hz : decide (0 < c) = true := decide_eq_true hc
    go_wp2_with fail
    go_ret
    exact ⟨rfl, HB3.out⟩
  · rw [HK.out] at h1; cases h1

set_option maxHeartbeats 1000000 in
theorem does_1n (x y z a : Int) (X : List ByteArray) (s h : ByteArray) (w : World) (hA : Calls Tryz.prog 7 #[.string s] w fun e w' => GoodV w w' e x y z X) (hne : (s.toList == h.toList) = false) (hH : ∀ W, Calls Tryz.prog 49 #[.string h] W fun e w' => HeadP h.data.toList W w' e) (hk : headOk h.data.toList = true) (hx : numsOf (headOf h.data.toList) = [a]) (hn : a ≠ x) :
    Calls Tryz.prog 14 #[.string s, .string h] w fun e w' => e = .returned (.bool false) ∧ Below w.heap.size w w' := by
  have HH := hid hH
  clear hH
  have HK := hid hk
  have HX := hid hx
  clear hk hx
  have hq : (a == x) = false := beq_eq_false_iff_ne.2 hn
  clear hn
  have HA := hid hA
  clear hA
  go_enter Tryz.func14, Tryz.ntmps14
  go_wp2_with fail
  refine HA.out.mono ?_
  rintro e w1 ⟨⟨sa, ca, rfl, _⟩, hb1⟩
  have HB1 := hid hb1
  have HBA := hid ((Below.refl w1.heap.size w1).alloc (Nat.le_refl _) (.cells #[.int .i64 x, .int .i64 y, .int .i64 z, .slice sa X.length ca] 26))
  clear hb1
  go_wp2_with fail
  refine (HH.out _).mono ?_
  rintro e w2 ⟨h1, hb2⟩
  obtain ⟨⟨r0, r1, r2, r3⟩, rf, rz⟩ := res4 (hb2.mono (by simp))
  have HB12 := hid (HBA.out.trans (hb2.mono (by simp)))
  have HB3 := hid (HB1.out.trans (HB12.out.mono HB1.out.size))
  clear hb2
  rcases h1 with ⟨h1, _⟩ | ⟨_, g, cap, rfl, hgc⟩
  · rw [HK.out] at h1; cases h1
  rw [HX.out] at hgc ⊢
  have g0 : w2.cell? ⟨g, 0, none⟩ = some (.int .i64 a) := hgc 0 (by simp)
  clear hgc
  go_wp2_with fail
  refine wp_loop_rounds 1 ?_
  rw [rounds_succ]
  go_wp2_with fail
  go_quiet (fail)
  go_wp2_with fail
  go_ret
  exact ⟨rfl, by first | exact below_drew HB3.out _ | exact below_drew (below_drew HB3.out _) _⟩

set_option maxHeartbeats 1000000 in
theorem does_1y (x y z : Int) (X : List ByteArray) (s h : ByteArray) (w : World) (hA : Calls Tryz.prog 7 #[.string s] w fun e w' => GoodV w w' e x y z X) (hne : (s.toList == h.toList) = false) (hH : ∀ W, Calls Tryz.prog 49 #[.string h] W fun e w' => HeadP h.data.toList W w' e) (hk : headOk h.data.toList = true) (hx : numsOf (headOf h.data.toList) = [x]) :
    Calls Tryz.prog 14 #[.string s, .string h] w fun e w' => e = .returned (.bool true) ∧ Below w.heap.size w w' := by
  have HH := hid hH
  clear hH
  have HK := hid hk
  have HX := hid hx
  clear hk hx
  have HA := hid hA
  clear hA
  go_enter Tryz.func14, Tryz.ntmps14
  go_wp2_with fail
  refine HA.out.mono ?_
  rintro e w1 ⟨⟨sa, ca, rfl, _⟩, hb1⟩
  have HB1 := hid hb1
  have HBA := hid ((Below.refl w1.heap.size w1).alloc (Nat.le_refl _) (.cells #[.int .i64 x, .int .i64 y, .int .i64 z, .slice sa X.length ca] 26))
  clear hb1
  go_wp2_with fail
  refine (HH.out _).mono ?_
  rintro e w2 ⟨h1, hb2⟩
  obtain ⟨⟨r0, r1, r2, r3⟩, rf, rz⟩ := res4 (hb2.mono (by simp))
  have HB12 := hid (HBA.out.trans (hb2.mono (by simp)))
  have HB3 := hid (HB1.out.trans (HB12.out.mono HB1.out.size))
  clear hb2
  rcases h1 with ⟨h1, _⟩ | ⟨_, g, cap, rfl, hgc⟩
  · rw [HK.out] at h1; cases h1
  rw [HX.out] at hgc ⊢
  have g0 : w2.cell? ⟨g, 0, none⟩ = some (.int .i64 x) := hgc 0 (by simp)
  clear hgc
  go_wp2_with fail
  refine wp_loop_rounds 2 ?_
  rw [rounds_succ]
  go_wp2_with fail
  go_quiet (fail)
  go_wp2_with fail
  rw [rounds_succ]
  go_wp2_with fail
  go_ret
  exact ⟨rfl, by first | exact below_drew HB3.out _ | exact below_drew (below_drew HB3.out _) _⟩

set_option maxHeartbeats 1000000 in
theorem does_2n (x y z a b : Int) (X : List ByteArray) (s h : ByteArray) (w : World) (hA : Calls Tryz.prog 7 #[.string s] w fun e w' => GoodV w w' e x y z X) (hne : (s.toList == h.toList) = false) (hH : ∀ W, Calls Tryz.prog 49 #[.string h] W fun e w' => HeadP h.data.toList W w' e) (hk : headOk h.data.toList = true) (hx : numsOf (headOf h.data.toList) = [a, b]) (hn : a ≠ x) :
    Calls Tryz.prog 14 #[.string s, .string h] w fun e w' => e = .returned (.bool false) ∧ Below w.heap.size w w' := by
  have HH := hid hH
  clear hH
  have HK := hid hk
  have HX := hid hx
  clear hk hx
  have hq : (a == x) = false := beq_eq_false_iff_ne.2 hn
  clear hn
  have HA := hid hA
  clear hA
  go_enter Tryz.func14, Tryz.ntmps14
  go_wp2_with fail
  refine HA.out.mono ?_
  rintro e w1 ⟨⟨sa, ca, rfl, _⟩, hb1⟩
  have HB1 := hid hb1
  have HBA := hid ((Below.refl w1.heap.size w1).alloc (Nat.le_refl _) (.cells #[.int .i64 x, .int .i64 y, .int .i64 z, .slice sa X.length ca] 26))
  clear hb1
  go_wp2_with fail
  refine (HH.out _).mono ?_
  rintro e w2 ⟨h1, hb2⟩
  obtain ⟨⟨r0, r1, r2, r3⟩, rf, rz⟩ := res4 (hb2.mono (by simp))
  have HB12 := hid (HBA.out.trans (hb2.mono (by simp)))
  have HB3 := hid (HB1.out.trans (HB12.out.mono HB1.out.size))
  clear hb2
  rcases h1 with ⟨h1, _⟩ | ⟨_, g, cap, rfl, hgc⟩
  · rw [HK.out] at h1; cases h1
  rw [HX.out] at hgc ⊢
  have g0 : w2.cell? ⟨g, 0, none⟩ = some (.int .i64 a) := hgc 0 (by simp)
  have g1 : w2.cell? ⟨g, 1, none⟩ = some (.int .i64 b) := hgc 1 (by simp)
  clear hgc
  go_wp2_with fail
  refine wp_loop_rounds 1 ?_
  rw [rounds_succ]
  go_wp2_with fail
  go_quiet (fail)
  go_wp2_with fail
  go_ret
  exact ⟨rfl, by first | exact below_drew HB3.out _ | exact below_drew (below_drew HB3.out _) _⟩

set_option maxHeartbeats 1000000 in
theorem does_2m (x y z b : Int) (X : List ByteArray) (s h : ByteArray) (w : World) (hA : Calls Tryz.prog 7 #[.string s] w fun e w' => GoodV w w' e x y z X) (hne : (s.toList == h.toList) = false) (hH : ∀ W, Calls Tryz.prog 49 #[.string h] W fun e w' => HeadP h.data.toList W w' e) (hk : headOk h.data.toList = true) (hx : numsOf (headOf h.data.toList) = [x, b]) (hn : b ≠ y) :
    Calls Tryz.prog 14 #[.string s, .string h] w fun e w' => e = .returned (.bool false) ∧ Below w.heap.size w w' := by
  have HH := hid hH
  clear hH
  have HK := hid hk
  have HX := hid hx
  clear hk hx
  have hq : (b == y) = false := beq_eq_false_iff_ne.2 hn
  clear hn
  have HA := hid hA
  clear hA
  go_enter Tryz.func14, Tryz.ntmps14
  go_wp2_with fail
  refine HA.out.mono ?_
  rintro e w1 ⟨⟨sa, ca, rfl, _⟩, hb1⟩
  have HB1 := hid hb1
  have HBA := hid ((Below.refl w1.heap.size w1).alloc (Nat.le_refl _) (.cells #[.int .i64 x, .int .i64 y, .int .i64 z, .slice sa X.length ca] 26))
  clear hb1
  go_wp2_with fail
  refine (HH.out _).mono ?_
  rintro e w2 ⟨h1, hb2⟩
  obtain ⟨⟨r0, r1, r2, r3⟩, rf, rz⟩ := res4 (hb2.mono (by simp))
  have HB12 := hid (HBA.out.trans (hb2.mono (by simp)))
  have HB3 := hid (HB1.out.trans (HB12.out.mono HB1.out.size))
  clear hb2
  rcases h1 with ⟨h1, _⟩ | ⟨_, g, cap, rfl, hgc⟩
  · rw [HK.out] at h1; cases h1
  rw [HX.out] at hgc ⊢
  have g0 : w2.cell? ⟨g, 0, none⟩ = some (.int .i64 x) := hgc 0 (by simp)
  have g1 : w2.cell? ⟨g, 1, none⟩ = some (.int .i64 b) := hgc 1 (by simp)
  clear hgc
  go_wp2_with fail
  refine wp_loop_rounds 2 ?_
  rw [rounds_succ]
  go_wp2_with fail
  go_quiet (fail)
  go_wp2_with fail
  rw [rounds_succ]
  go_wp2_with fail
  go_quiet (fail)
  go_wp2_with fail
  go_ret
  exact ⟨rfl, by first | exact below_drew HB3.out _ | exact below_drew (below_drew HB3.out _) _⟩

set_option maxHeartbeats 1000000 in
theorem does_2y (x y z : Int) (X : List ByteArray) (s h : ByteArray) (w : World) (hA : Calls Tryz.prog 7 #[.string s] w fun e w' => GoodV w w' e x y z X) (hne : (s.toList == h.toList) = false) (hH : ∀ W, Calls Tryz.prog 49 #[.string h] W fun e w' => HeadP h.data.toList W w' e) (hk : headOk h.data.toList = true) (hx : numsOf (headOf h.data.toList) = [x, y]) :
    Calls Tryz.prog 14 #[.string s, .string h] w fun e w' => e = .returned (.bool true) ∧ Below w.heap.size w w' := by
  have HH := hid hH
  clear hH
  have HK := hid hk
  have HX := hid hx
  clear hk hx
  have HA := hid hA
  clear hA
  go_enter Tryz.func14, Tryz.ntmps14
  go_wp2_with fail
  refine HA.out.mono ?_
  rintro e w1 ⟨⟨sa, ca, rfl, _⟩, hb1⟩
  have HB1 := hid hb1
  have HBA := hid ((Below.refl w1.heap.size w1).alloc (Nat.le_refl _) (.cells #[.int .i64 x, .int .i64 y, .int .i64 z, .slice sa X.length ca] 26))
  clear hb1
  go_wp2_with fail
  refine (HH.out _).mono ?_
  rintro e w2 ⟨h1, hb2⟩
  obtain ⟨⟨r0, r1, r2, r3⟩, rf, rz⟩ := res4 (hb2.mono (by simp))
  have HB12 := hid (HBA.out.trans (hb2.mono (by simp)))
  have HB3 := hid (HB1.out.trans (HB12.out.mono HB1.out.size))
  clear hb2
  rcases h1 with ⟨h1, _⟩ | ⟨_, g, cap, rfl, hgc⟩
  · rw [HK.out] at h1; cases h1
  rw [HX.out] at hgc ⊢
  have g0 : w2.cell? ⟨g, 0, none⟩ = some (.int .i64 x) := hgc 0 (by simp)
  have g1 : w2.cell? ⟨g, 1, none⟩ = some (.int .i64 y) := hgc 1 (by simp)
  clear hgc
  go_wp2_with fail
  refine wp_loop_rounds 3 ?_
  rw [rounds_succ]
  go_wp2_with fail
  go_quiet (fail)
  go_wp2_with fail
  rw [rounds_succ]
  go_wp2_with fail
  go_quiet (fail)
  go_wp2_with fail
  rw [rounds_succ]
  go_wp2_with fail
  go_ret
  exact ⟨rfl, by first | exact below_drew HB3.out _ | exact below_drew (below_drew HB3.out _) _⟩

theorem does_any (s h : ByteArray) (w : World) (hs : s.size < 999999) (hh : h.size < 4294967281) :
    Calls Tryz.prog 14 #[.string s, .string h] w fun e w' => e = .returned (.bool (beginB s h)) ∧ Below w.heap.size w w' := by
  unfold beginB
  by_cases h1 : verErr s.data.toList = 0
  · obtain ⟨X, hX⟩ : ∃ X, bl X = preOf s.data.toList := ⟨_, bl_strs _⟩
    have hA := verOf_good s w (by omega) h1 X hX
    rw [decide_eq_true h1, Bool.true_and]
    by_cases h2 : h = s
    · subst h2
      rw [decide_eq_true rfl, Bool.true_or]
      exact does_same _ _ _ X h w hA
    · rw [decide_eq_false h2, Bool.false_or]
      have hne := str_ne (fun e : s = h => h2 e.symm)
      have hH := fun W => headOf_any h W hh
      cases hk : headOk h.data.toList
      · exact does_no _ _ _ X s h w hA hne hH hk
      · rw [Bool.true_and]
        have hp := headOf_pos h.data.toList
        have hl : (headOf h.data.toList).length ≤ 2 := by
          unfold headOk at hk
          simp only [Bool.and_eq_true, decide_eq_true_eq] at hk
          exact hk.2.2
        have hlen := numsOf_len (headOf h.data.toList)
        by_cases l1 : (headOf h.data.toList).length = 1
        · obtain ⟨a, ha⟩ := List.length_eq_one_iff.1 (hlen.trans l1)
          rw [l1, ha]
          by_cases e : a = nAt s.data.toList 0
          · rw [e] at ha
            rw [show ([a] == List.take 1 [nAt s.data.toList 0, nAt s.data.toList 1]) = true by rw [e]; simp]
            exact does_1y _ _ _ X s h w hA hne hH hk ha
          · rw [show ([a] == List.take 1 [nAt s.data.toList 0, nAt s.data.toList 1]) = false by simp [e]]
            exact does_1n _ _ _ a X s h w hA hne hH hk ha e
        · have l2 : (headOf h.data.toList).length = 2 := by omega
          obtain ⟨a, b, ha⟩ : ∃ a b, numsOf (headOf h.data.toList) = [a, b] := by
            match hq : numsOf (headOf h.data.toList), hlen.trans l2 with
            | [a, b], _ => exact ⟨a, b, rfl⟩
          rw [l2, ha]
          by_cases e : a = nAt s.data.toList 0
          · by_cases e2 : b = nAt s.data.toList 1
            · rw [e, e2] at ha
              rw [show ([a, b] == List.take 2 [nAt s.data.toList 0, nAt s.data.toList 1]) = true by rw [e, e2]; simp]
              exact does_2y _ _ _ X s h w hA hne hH hk ha
            · rw [e] at ha
              rw [show ([a, b] == List.take 2 [nAt s.data.toList 0, nAt s.data.toList 1]) = false by simp [e2]]
              exact does_2m _ _ _ b X s h w hA hne hH hk ha e2
          · rw [show ([a, b] == List.take 2 [nAt s.data.toList 0, nAt s.data.toList 1]) = false by simp [e]]
            exact does_2n _ _ _ a b X s h w hA hne hH hk ha e
  · rw [decide_eq_false h1, Bool.false_and]
    exact does_bad s h w (by omega) h1
end Ve
end Go.Proofs.YtmgpapghdbopiaaGreatDoor
