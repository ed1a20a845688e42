/-
  What compare of package ver answers for two versions of the same numbers of which one has a pre: the one with a pre is less.
-/
import Derived.Test.YtmgpapghdbopiaaDoorVerF
namespace Go.Proofs.YtmgpapghdbopiaaDoor
open Go.RowKit
namespace Ve

set_option maxHeartbeats 400000 in
theorem preC_none (a b : Option Addr) (n c d : Nat) (w : World) (hn : 0 < n) (hn2 : n ≤ 1000000) :
    Calls Tryd.prog 60 #[.slice a n c, .slice b 0 d] w fun e w' => e = .returned (.int .i64 (-1)) ∧ w' = w := by
  have h0 : ((n : Int) == 0) = false := beq_eq_false_iff_ne.2 (by omega)
  have HC := hid (fun W => Tryd.cmp_Compare_int 0 (n : Int) W)
  rw [show Lib.compareInt 0 (n : Int) = -1 by unfold Lib.compareInt; rw [if_pos (by omega)]] at HC
  go_enter Tryd.func60, Tryd.ntmps60
  go_wp2_with fail
  refine (HC.out _).mono ?_
  rintro e w' ⟨rfl, rfl⟩
  go_wp2_with fail
  go_ret
  exact ⟨rfl, rfl⟩

/-- One number, compared with itself. -/
theorem cmp_self (x : Int) (w : World) : Calls Tryd.prog 56 #[.int .i64 x, .int .i64 x] w fun e w' => e = .returned (.int .i64 0) ∧ w' = w := by
  have h := Tryd.cmp_Compare_int x x w
  rw [show Lib.compareInt x x = 0 by unfold Lib.compareInt; rw [if_neg (by omega), if_neg (by omega)]] at h
  exact h

theorem c1_self (v : Int) (A B : Nat) (w : World) (a0 : w.cell? ⟨A, 0, none⟩ = some (.int .i64 v)) (b0 : w.cell? ⟨B, 0, none⟩ = some (.int .i64 v)) :
    Calls Tryd.prog 55 #[.pointer (some ⟨A, 0, none⟩), .pointer (some ⟨B, 0, none⟩)] w fun e w' => e = .returned (.int .i64 0) ∧ w' = w := by
  have HC := hid (cmp_self v w)
  go_enter Tryd.func55, Tryd.ntmps55
  go_wp2_with fail
  refine HC.out.mono ?_
  rintro e w' ⟨rfl, rfl⟩
  go_wp2_with fail
  go_ret
  exact ⟨rfl, rfl⟩
theorem c2_self (v : Int) (A B : Nat) (w : World) (a0 : w.cell? ⟨A, 1, none⟩ = some (.int .i64 v)) (b0 : w.cell? ⟨B, 1, none⟩ = some (.int .i64 v)) :
    Calls Tryd.prog 57 #[.pointer (some ⟨A, 0, none⟩), .pointer (some ⟨B, 0, none⟩)] w fun e w' => e = .returned (.int .i64 0) ∧ w' = w := by
  have HC := hid (cmp_self v w)
  go_enter Tryd.func57, Tryd.ntmps57
  go_wp2_with fail
  refine HC.out.mono ?_
  rintro e w' ⟨rfl, rfl⟩
  go_wp2_with fail
  go_ret
  exact ⟨rfl, rfl⟩
theorem c3_self (v : Int) (A B : Nat) (w : World) (a0 : w.cell? ⟨A, 2, none⟩ = some (.int .i64 v)) (b0 : w.cell? ⟨B, 2, none⟩ = some (.int .i64 v)) :
    Calls Tryd.prog 58 #[.pointer (some ⟨A, 0, none⟩), .pointer (some ⟨B, 0, none⟩)] w fun e w' => e = .returned (.int .i64 0) ∧ w' = w := by
  have HC := hid (cmp_self v w)
  go_enter Tryd.func58, Tryd.ntmps58
  go_wp2_with fail
  refine HC.out.mono ?_
  rintro e w' ⟨rfl, rfl⟩
  go_wp2_with fail
  go_ret
  exact ⟨rfl, rfl⟩
theorem c4_pre (a : Option Addr) (n c A B : Nat) (w : World) (hn : 0 < n) (hn2 : n ≤ 1000000) (a0 : w.cell? ⟨A, 3, none⟩ = some (.slice a n c)) (b0 : w.cell? ⟨B, 3, none⟩ = some (.slice none 0 0)) :
    Calls Tryd.prog 59 #[.pointer (some ⟨A, 0, none⟩), .pointer (some ⟨B, 0, none⟩)] w fun e w' => e = .returned (.int .i64 (-1)) ∧ w' = w := by
  have HC := hid (preC_none a none n c 0 w hn hn2)
  go_enter Tryd.func59, Tryd.ntmps59
  go_wp2_with fail
  refine HC.out.mono ?_
  rintro e w' ⟨rfl, rfl⟩
  go_wp2_with fail
  go_ret
  exact ⟨rfl, rfl⟩

set_option maxHeartbeats 2000000 in
theorem first_pre (x y z : Int) (a : Option Addr) (n c A B F : Nat) (w : World) (hn : 0 < n) (hn2 : n ≤ 1000000)
    (f0 : w.cell? ⟨F, 0, none⟩ = some (.func (.func 55) #[] #[.pointer (some ⟨A, 0, none⟩), .pointer (some ⟨B, 0, none⟩)])) (f1 : w.cell? ⟨F, 1, none⟩ = some (.func (.func 57) #[] #[.pointer (some ⟨A, 0, none⟩), .pointer (some ⟨B, 0, none⟩)]))
    (f2 : w.cell? ⟨F, 2, none⟩ = some (.func (.func 58) #[] #[.pointer (some ⟨A, 0, none⟩), .pointer (some ⟨B, 0, none⟩)])) (f3 : w.cell? ⟨F, 3, none⟩ = some (.func (.func 59) #[] #[.pointer (some ⟨A, 0, none⟩), .pointer (some ⟨B, 0, none⟩)]))
    (a0 : w.cell? ⟨A, 0, none⟩ = some (.int .i64 x)) (a1 : w.cell? ⟨A, 1, none⟩ = some (.int .i64 y)) (a2 : w.cell? ⟨A, 2, none⟩ = some (.int .i64 z)) (a3 : w.cell? ⟨A, 3, none⟩ = some (.slice a n c))
    (b0 : w.cell? ⟨B, 0, none⟩ = some (.int .i64 x)) (b1 : w.cell? ⟨B, 1, none⟩ = some (.int .i64 y)) (b2 : w.cell? ⟨B, 2, none⟩ = some (.int .i64 z)) (b3 : w.cell? ⟨B, 3, none⟩ = some (.slice none 0 0)) :
    Calls Tryd.prog 54 #[.slice (some ⟨F, 0, none⟩) 4 4] w fun e w' => e = .returned (.int .i64 (-1)) ∧ w' = w := by
  have HX := hid (c1_self x A B w a0 b0)
  have HY := hid (c2_self y A B w a1 b1)
  have HZ := hid (c3_self z A B w a2 b2)
  have HP := hid (c4_pre a n c A B w hn hn2 a3 b3)
  clear a0 a1 a2 a3 b0 b1 b2 b3
  go_enter Tryd.func54, Tryd.ntmps54
  go_wp2_with fail
  refine wp_loop_rounds 4 ?_
  rw [rounds_succ]
  go_wp2_with fail
  refine HX.out.mono ?_
  rintro e w' ⟨rfl, rfl⟩
  go_wp2_with fail
  rw [rounds_succ]
  go_wp2_with fail
  refine HY.out.mono ?_
  rintro e w' ⟨rfl, rfl⟩
  go_wp2_with fail
  rw [rounds_succ]
  go_wp2_with fail
  refine HZ.out.mono ?_
  rintro e w' ⟨rfl, rfl⟩
  go_wp2_with fail
  rw [rounds_succ]
  go_wp2_with fail
  refine HP.out.mono ?_
  rintro e w' ⟨rfl, rfl⟩
  go_wp2_with fail
  go_ret
  exact ⟨rfl, rfl⟩

theorem three (w : World) (A B C : Array Value) (T U : TypeId) (j : Nat) :
    (((w.alloc (.cells A T)).alloc (.cells B T)).alloc (.cells C U)).cell? ⟨w.heap.size, j, none⟩ = A[j]? ∧ (((w.alloc (.cells A T)).alloc (.cells B T)).alloc (.cells C U)).cell? ⟨w.heap.size + 1, j, none⟩ = B[j]? ∧
    (((w.alloc (.cells A T)).alloc (.cells B T)).alloc (.cells C U)).cell? ⟨w.heap.size + 1 + 1, j, none⟩ = C[j]? := by
  refine ⟨?_, ?_, ?_⟩
  · rw [World.cell?_alloc_lt _ _ _ (by simp; omega), World.cell?_alloc_lt _ _ _ (by simp), World.cell?_alloc_at _ _ _ _ rfl]
  · rw [World.cell?_alloc_lt _ _ _ (by simp), World.cell?_alloc_at _ _ _ _ (by simp)]
  · rw [World.cell?_alloc_at _ _ _ _ (by simp)]

set_option maxHeartbeats 2000000 in
theorem compare_pre (x y z : Int) (a : Option Addr) (n c : Nat) (w : World) (hn : 0 < n) (hn2 : n ≤ 1000000) :
    Calls Tryd.prog 34 #[.agg #[.int .i64 x, .int .i64 y, .int .i64 z, .slice a n c], .agg #[.int .i64 x, .int .i64 y, .int .i64 z, .slice none 0 0]] w fun e w' => e = .returned (.int .i64 (-1)) ∧ Below w.heap.size w w' := by
  have hmf : ∀ (fn : Fn) (first cap : Array Value) (w : World), (Instr.makeFunc fn first cap).run Tryd.prog w = .ok (.func fn first cap) w := fun _ _ _ _ => rfl
  go_enter Tryd.func34, Tryd.ntmps34
  go_wp2_with fail
  refine (first_pre x y z a n c w.heap.size (w.heap.size + 1) (w.heap.size + 1 + 1) _ hn hn2 ?_ ?_ ?_ ?_ ?_ ?_ ?_ ?_ ?_ ?_ ?_ ?_).mono ?_
  · exact (three w _ _ _ _ _ 0).2.2.trans rfl
  · exact (three w _ _ _ _ _ 1).2.2.trans rfl
  · exact (three w _ _ _ _ _ 2).2.2.trans rfl
  · exact (three w _ _ _ _ _ 3).2.2.trans rfl
  · exact (three w _ _ _ _ _ 0).1.trans rfl
  · exact (three w _ _ _ _ _ 1).1.trans rfl
  · exact (three w _ _ _ _ _ 2).1.trans rfl
  · exact (three w _ _ _ _ _ 3).1.trans rfl
  · exact (three w _ _ _ _ _ 0).2.1.trans rfl
  · exact (three w _ _ _ _ _ 1).2.1.trans rfl
  · exact (three w _ _ _ _ _ 2).2.1.trans rfl
  · exact (three w _ _ _ _ _ 3).2.1.trans rfl
  rintro e w' ⟨rfl, rfl⟩
  go_wp2_with fail
  go_ret
  exact ⟨rfl, (((Below.refl _ _).alloc (Nat.le_refl _) _).alloc (by simp) _).alloc (by simp; omega) _⟩

/-- Less of two versions of the same numbers of which the first has a pre. -/
theorem less_pre (s t : ByteArray) (aT aB : Addr) (m : Int) (w : World) (hs : s.size < 999998) (ht : t.size < 4294967281) (S : Vs w aT aB m) (h1 : verErr s.data.toList = 0) (h2 : verErr t.data.toList = 0)
    (h3 : ∀ i, i < 3 → nAt s.data.toList i = nAt t.data.toList i) (h4 : preOf s.data.toList ≠ []) (h5 : preOf t.data.toList = []) :
    Calls Tryd.prog 16 #[.string s, .string t] w fun e w' => e = .returned (.bool true) ∧ Below w.heap.size w w' := by
  have HS := hid S
  have HA := hid (vsplit_good s aT aB m w (by omega) S h1)
  have hX : ∀ X : List ByteArray, bl X = preOf t.data.toList → X = [] := fun X h => by
    rw [h5] at h
    exact List.length_eq_zero_iff.1 (by rw [← bl_len, h]; rfl)
  have HX := hid hX
  have H3 := hid h3
  have H4 := hid h4
  have HT := hid (fun W (SW : Vs W aT aB m) => vsplit_good t aT aB m W ht SW h2)
  clear S hX h3 h4 h5 h1 h2
  go_enter Tryd.func16, Tryd.ntmps16
  go_wp2_with fail
  refine HA.out.mono ?_
  rintro e w1 ⟨v, X, rfl, hX1, hst, hb1⟩
  have hXn : X ≠ [] := fun h => H4.out (by rw [← hX1, h]; rfl)
  obtain ⟨b, rfl⟩ : ∃ b, v = .slice (some ⟨b, 0, none⟩) X.length X.length := by
    rcases hst with ⟨h, _⟩ | ⟨_, b, h, _⟩
    · exact absurd h hXn
    · exact ⟨b, h⟩
  have hXl : X.length ≤ s.size + 2 := by
    have h1 : (preOf s.data.toList).length ≤ s.size + 2 := by
      unfold preOf
      split
      · have := cutAt_many 46 (one 45 (restOf s.data.toList)).2.1
        have h2 := (one_le 45 (restOf s.data.toList)).2
        have h3 := restOf_le s.data.toList
        rw [len_eq] at h3
        omega
      · simp
    rw [← hX1, bl_len] at h1; exact h1
  have hXp : 0 < X.length := List.length_pos_iff.2 hXn
  have HB1 := hid hb1
  have HS1 := hid ((HS.out.below hb1).below ((Below.refl _ _).alloc (Nat.le_refl _) (.cells #[.int .i64 (nAt s.data.toList 0), .int .i64 (nAt s.data.toList 1), .int .i64 (nAt s.data.toList 2), .slice (some ⟨b, 0, none⟩) X.length X.length] 26)))
  have HB2 := hid ((Below.refl w1.heap.size w1).alloc (Nat.le_refl _) (.cells #[.int .i64 (nAt s.data.toList 0), .int .i64 (nAt s.data.toList 1), .int .i64 (nAt s.data.toList 2), .slice (some ⟨b, 0, none⟩) X.length X.length] 26))
  clear hst hb1 hX1 hXn
  go_wp2_with fail
  refine (HT.out _ HS1.out).mono ?_
  rintro e w2 ⟨v2, X2, rfl, hX2, hst2, hb2⟩
  have hX20 := HX.out X2 hX2
  subst hX20
  obtain rfl : v2 = .slice none 0 0 := by
    rcases hst2 with ⟨_, h⟩ | ⟨h, _⟩
    · exact h
    · exact absurd rfl h
  rw [← H3.out 0 (by omega), ← H3.out 1 (by omega), ← H3.out 2 (by omega)]
  have hb2' : Below (w1.heap.size + 1) (w1.alloc (.cells #[.int .i64 (nAt s.data.toList 0), .int .i64 (nAt s.data.toList 1), .int .i64 (nAt s.data.toList 2), .slice (some ⟨b, 0, none⟩) X.length X.length] 26)) w2 := hb2.mono (by simp)
  obtain ⟨⟨r0, r1, r2, r3⟩, rf, rz⟩ := res4 hb2'
  have HB3 := hid (HB1.out.trans ((HB2.out.trans (hb2.mono (by simp))).mono HB1.out.size))
  generalize nAt s.data.toList 0 = x at *
  generalize nAt s.data.toList 1 = y at *
  generalize nAt s.data.toList 2 = z at *
  clear hst2 hb2 hb2' hX2
  go_wp2_with fail
  refine (compare_pre x y z _ X.length X.length _ hXp (by omega)).mono ?_
  rintro e w3 ⟨rfl, hb3⟩
  have HBF := hid ((HB3.out.alloc HB3.out.size _).trans (hb3.mono (by simp; exact Nat.le_succ_of_le HB3.out.size)))
  clear hb3
  go_wp2_with fail
  go_ret
  exact ⟨rfl, HBF.out⟩
end Ve
end Go.Proofs.YtmgpapghdbopiaaDoor
