/-
  OrdB
-/
import Derived.Test.YtiebgeamfblbdaaGreatDoorFb18
namespace Go.Proofs.YtiebgeamfblbdaaGreatDoor
open Go.RowKit
namespace Ve
theorem ordPs_step (X Y : List ByteArray) (k : Nat) (h1 : k < X.length) (h2 : k < Y.length) :
    ordPs (bl (X.drop k)) (bl (Y.drop k)) = fst (ordPart X[k].data.toList Y[k].data.toList) (ordPs (bl (X.drop (k + 1))) (bl (Y.drop (k + 1)))) := by
  rw [List.drop_eq_getElem_cons h1, List.drop_eq_getElem_cons h2]; rfl
theorem ordPs_long (X Y : List ByteArray) (k : Nat) (h1 : k < X.length) (h2 : k = Y.length) : ordPs (bl (X.drop k)) (bl (Y.drop k)) = 1 := by
  rw [List.drop_eq_getElem_cons h1, List.drop_eq_nil_of_le (show Y.length ≤ k by omega)]; rfl
theorem ordPs_short (X Y : List ByteArray) (k : Nat) (h1 : k = X.length) (h2 : k < Y.length) : ordPs (bl (X.drop k)) (bl (Y.drop k)) = -1 := by
  rw [List.drop_eq_nil_of_le (show X.length ≤ k by omega), List.drop_eq_getElem_cons h2]; rfl
theorem ordPs_end (X Y : List ByteArray) (k : Nat) (h1 : k = X.length) (h2 : k = Y.length) : ordPs (bl (X.drop k)) (bl (Y.drop k)) = 0 := by
  rw [List.drop_eq_nil_of_le (show X.length ≤ k by omega), List.drop_eq_nil_of_le (show Y.length ≤ k by omega)]; rfl
set_option maxHeartbeats 2000000 in
theorem cfunc_any (b0 b1 c0 c1 : Nat) (X Y : List ByteArray) (w : World) (hX : X.length ≤ 1000000) (hXs : ∀ x, x ∈ X → x.size ≤ maxLen) (hYs : ∀ x, x ∈ Y → x.size ≤ maxLen)
    (hc0 : ∀ j (h : j < X.length), w.cell? ⟨b0, 0 + j, none⟩ = some (.string X[j])) (hc1 : ∀ j (h : j < Y.length), w.cell? ⟨b1, 0 + j, none⟩ = some (.string Y[j])) :
    Calls Tryz.prog 129 #[.slice (some ⟨b0, 0, none⟩) X.length c0, .slice (some ⟨b1, 0, none⟩) Y.length c1, .func (.func 130) #[] #[]] w fun e w' => e = .returned (.int .i64 (ordPs (bl X) (bl Y))) ∧ Bw w.heap.size w w' := by
  have HXS := hid hXs
  have HYS := hid hYs
  have HC0 := hid hc0
  have HC1 := hid hc1
  clear hXs hYs hc0 hc1
  go_enter Tryz.func129, Tryz.ntmps129
  go_wp2_with fail
  go_loopw [13] (fun i wr => ∃ k : Nat, k ≤ X.length ∧ k ≤ Y.length ∧ i = .int .i64 k ∧ Hid (ordPs (bl X) (bl Y) = ordPs (bl (X.drop k)) (bl (Y.drop k))) ∧ Hid (Bw w.heap.size w wr)) (fun i _ => X.length - (intOf i).toNat)
  case atStart => exact ⟨0, Nat.zero_le _, Nat.zero_le _, rfl, hid rfl, hid (Bw.refl _ _)⟩
  case round =>
    obtain ⟨k, hk, hk2, rfl, HO, HB⟩ := hrel
    by_cases hlt : k < X.length
    · by_cases hlt2 : k < Y.length
      · have hx : wr.cell? ⟨b0, k, none⟩ = some (.string X[k]) := by
          have := HC0.out k hlt
          rw [Nat.zero_add] at this
          exact cell_below HB.out.be this
        have hy : wr.cell? ⟨b1, k, none⟩ = some (.string Y[k]) := by
          have := HC1.out k hlt2
          rw [Nat.zero_add] at this
          exact cell_below HB.out.be this
        have HP := hid (cpart_bw X[k] Y[k] wr (HXS.out _ (List.getElem_mem hlt)) (HYS.out _ (List.getElem_mem hlt2)))
        have HN := hid (HO.out.trans (ordPs_step X Y k hlt hlt2))
        generalize hq : ordPart X[k].data.toList Y[k].data.toList = q at *
        clear hq HO
        by_cases hz : q = 0
        · subst hz
          go_wp2_with fail
          refine HP.out.mono ?_
          rintro e w1 ⟨rfl, hb1⟩
          have HB1 := hid (HB.out.trans (hb1.mono HB.out.size))
          clear hb1
          go_wp2_with fail
          go_roundw
          case rel => exact ⟨k + 1, by omega, by omega, by go_num, hid (HN.out.trans (fst0 _)), HB1⟩
          case measure => simp [intOf]; omega
        · have hqb : (q == 0) = false := beq_eq_false_iff_ne.2 hz
          have HF := hid (HN.out.trans (fst_ne _ hz))
          clear hz
          go_wp2_with fail
          refine HP.out.mono ?_
          rintro e w1 ⟨rfl, hb1⟩
          have HB1 := hid (HB.out.trans (hb1.mono HB.out.size))
          clear hb1
          go_wp2_with fail
          go_ret
          exact ⟨ret_int HF.out.symm, HB1.out⟩
      · have hx : wr.cell? ⟨b0, k, none⟩ = some (.string X[k]) := by
          have := HC0.out k hlt
          rw [Nat.zero_add] at this
          exact cell_below HB.out.be this
        have HF := hid (HO.out.trans (ordPs_long X Y k hlt (by omega)))
        clear HO
        go_wp2_with fail
        go_ret
        exact ⟨ret_int HF.out.symm, HB.out⟩
    · by_cases hlt2 : X.length < Y.length
      · have HF := hid (HO.out.trans (ordPs_short X Y k (by omega) (by omega)))
        clear HO
        go_wp2_with fail
        go_ret
        exact ⟨ret_int HF.out.symm, HB.out⟩
      · have HF := hid (HO.out.trans (ordPs_end X Y k (by omega) (by omega)))
        clear HO
        go_wp2_with fail
        go_ret
        exact ⟨ret_int HF.out.symm, HB.out⟩
theorem bl_nil {X : List ByteArray} : bl X = [] ↔ X = [] := by
  constructor
  · intro h; exact List.length_eq_zero_iff.1 (by rw [← bl_len, h]; rfl)
  · intro h; rw [h]; rfl
set_option maxHeartbeats 1000000 in
theorem cpre_any (va vb : Value) (X Y : List ByteArray) (w : World) (hX : X.length ≤ 1000000) (hY : Y.length ≤ 1000000) (hXs : ∀ x, x ∈ X → x.size ≤ maxLen) (hYs : ∀ x, x ∈ Y → x.size ≤ maxLen) (ha : StrsAt w va X) (hb : StrsAt w vb Y) :
    Calls Tryz.prog 113 #[va, vb] w fun e w' => e = .returned (.int .i64 (ordPre (bl X) (bl Y))) ∧ Bw w.heap.size w w' := by
  rcases ha with ⟨rfl, rfl⟩ | ⟨hXn, b0, rfl, hb0, hc0⟩
  · obtain ⟨p, c, rfl⟩ : ∃ p c, vb = .slice p Y.length c := by
      rcases hb with ⟨rfl, rfl⟩ | ⟨_, b, rfl, _⟩
      · exact ⟨none, 0, rfl⟩
      · exact ⟨_, _, rfl⟩
    have HO := hid (show ordPre (bl []) (bl Y) = Lib.compareInt (Y.length : Int) 0 by unfold ordPre; rw [if_pos (show bl [] = [] ∨ bl Y = [] from Or.inl rfl), bl_len]; rfl)
    have HC := hid (Tryz.cmp_Compare_int (Y.length : Int) 0 w)
    clear hb hXs hYs
    go_enter Tryz.func113, Tryz.ntmps113
    go_wp2_with fail
    refine HC.out.mono ?_
    rintro e w' ⟨rfl, rfl⟩
    go_wp2_with fail
    go_ret
    exact ⟨ret_int HO.out.symm, Bw.refl _ _⟩
  · have hl : 0 < X.length := List.length_pos_iff.2 hXn
    have h0 : ((X.length : Int) == 0) = false := beq_eq_false_iff_ne.2 (by omega)
    rcases hb with ⟨rfl, rfl⟩ | ⟨hYn, b1, rfl, hb1, hc1⟩
    · have HO := hid (show ordPre (bl X) (bl []) = Lib.compareInt 0 (X.length : Int) by unfold ordPre; rw [if_pos (show bl X = [] ∨ bl [] = [] from Or.inr rfl), bl_len X]; rfl)
      have HC := hid (Tryz.cmp_Compare_int 0 (X.length : Int) w)
      clear hXs hYs hc0
      go_enter Tryz.func113, Tryz.ntmps113
      go_wp2_with fail
      refine HC.out.mono ?_
      rintro e w' ⟨rfl, rfl⟩
      go_wp2_with fail
      go_ret
      exact ⟨ret_int HO.out.symm, Bw.refl _ _⟩
    · have hl2 : 0 < Y.length := List.length_pos_iff.2 hYn
      have h02 : ((Y.length : Int) == 0) = false := beq_eq_false_iff_ne.2 (by omega)
      have HO := hid (show ordPre (bl X) (bl Y) = ordPs (bl X) (bl Y) by unfold ordPre; rw [if_neg]; rintro (h | h); exact hXn (bl_nil.1 h); exact hYn (bl_nil.1 h))
      have HC := hid (cfunc_any b0 b1 X.length Y.length X Y w hX hXs hYs hc0 hc1)
      clear hXs hYs hc0 hc1
      go_enter Tryz.func113, Tryz.ntmps113
      go_wp2_with fail
      refine HC.out.mono ?_
      rintro e w' ⟨rfl, hb⟩
      have HB := hid hb
      clear hb
      go_wp2_with fail
      go_ret
      exact ⟨ret_int HO.out.symm, HB.out⟩
theorem d1_any (x y : Int) (A B : Nat) (w : World) (a0 : w.cell? ⟨A, 0, none⟩ = some (.int .i64 x)) (b0 : w.cell? ⟨B, 0, none⟩ = some (.int .i64 y)) :
    Calls Tryz.prog 108 #[.pointer (some ⟨A, 0, none⟩), .pointer (some ⟨B, 0, none⟩)] w fun e w' => e = .returned (.int .i64 (Lib.compareInt x y)) ∧ w' = w := by
  have HC := hid (Tryz.cmp_Compare_int x y w)
  go_enter Tryz.func108, Tryz.ntmps108
  go_wp2_with fail
  refine HC.out.mono ?_
  rintro e w' ⟨rfl, rfl⟩
  go_wp2_with fail
  go_ret
  exact ⟨rfl, rfl⟩
theorem d2_any (x y : Int) (A B : Nat) (w : World) (a0 : w.cell? ⟨A, 1, none⟩ = some (.int .i64 x)) (b0 : w.cell? ⟨B, 1, none⟩ = some (.int .i64 y)) :
    Calls Tryz.prog 110 #[.pointer (some ⟨A, 0, none⟩), .pointer (some ⟨B, 0, none⟩)] w fun e w' => e = .returned (.int .i64 (Lib.compareInt x y)) ∧ w' = w := by
  have HC := hid (Tryz.cmp_Compare_int x y w)
  go_enter Tryz.func110, Tryz.ntmps110
  go_wp2_with fail
  refine HC.out.mono ?_
  rintro e w' ⟨rfl, rfl⟩
  go_wp2_with fail
  go_ret
  exact ⟨rfl, rfl⟩
theorem d3_any (x y : Int) (A B : Nat) (w : World) (a0 : w.cell? ⟨A, 2, none⟩ = some (.int .i64 x)) (b0 : w.cell? ⟨B, 2, none⟩ = some (.int .i64 y)) :
    Calls Tryz.prog 111 #[.pointer (some ⟨A, 0, none⟩), .pointer (some ⟨B, 0, none⟩)] w fun e w' => e = .returned (.int .i64 (Lib.compareInt x y)) ∧ w' = w := by
  have HC := hid (Tryz.cmp_Compare_int x y w)
  go_enter Tryz.func111, Tryz.ntmps111
  go_wp2_with fail
  refine HC.out.mono ?_
  rintro e w' ⟨rfl, rfl⟩
  go_wp2_with fail
  go_ret
  exact ⟨rfl, rfl⟩
theorem d4_any (va vb : Value) (k : Int) (A B : Nat) (w : World) (a0 : w.cell? ⟨A, 3, none⟩ = some va) (b0 : w.cell? ⟨B, 3, none⟩ = some vb)
    (h : Calls Tryz.prog 113 #[va, vb] w fun e w' => e = .returned (.int .i64 k) ∧ Bw w.heap.size w w') :
    Calls Tryz.prog 112 #[.pointer (some ⟨A, 0, none⟩), .pointer (some ⟨B, 0, none⟩)] w fun e w' => e = .returned (.int .i64 k) ∧ Bw w.heap.size w w' := by
  have HC := hid h
  clear h
  go_enter Tryz.func112, Tryz.ntmps112
  go_wp2_with fail
  refine HC.out.mono ?_
  rintro e w' ⟨rfl, hb⟩
  have HB := hid hb
  clear hb
  go_wp2_with fail
  go_ret
  exact ⟨rfl, HB.out⟩
set_option maxHeartbeats 2000000 in
theorem first_four (k1 k2 k3 k4 : Int) (A B F : Nat) (w : World)
    (h1 : Calls Tryz.prog 108 #[.pointer (some ⟨A, 0, none⟩), .pointer (some ⟨B, 0, none⟩)] w fun e w' => e = .returned (.int .i64 k1) ∧ w' = w)
    (h2 : Calls Tryz.prog 110 #[.pointer (some ⟨A, 0, none⟩), .pointer (some ⟨B, 0, none⟩)] w fun e w' => e = .returned (.int .i64 k2) ∧ w' = w)
    (h3 : Calls Tryz.prog 111 #[.pointer (some ⟨A, 0, none⟩), .pointer (some ⟨B, 0, none⟩)] w fun e w' => e = .returned (.int .i64 k3) ∧ w' = w)
    (h4 : Calls Tryz.prog 112 #[.pointer (some ⟨A, 0, none⟩), .pointer (some ⟨B, 0, none⟩)] w fun e w' => e = .returned (.int .i64 k4) ∧ Bw w.heap.size w w')
    (f0 : w.cell? ⟨F, 0, none⟩ = some (.func (.func 108) #[] #[.pointer (some ⟨A, 0, none⟩), .pointer (some ⟨B, 0, none⟩)])) (f1 : w.cell? ⟨F, 1, none⟩ = some (.func (.func 110) #[] #[.pointer (some ⟨A, 0, none⟩), .pointer (some ⟨B, 0, none⟩)]))
    (f2 : w.cell? ⟨F, 2, none⟩ = some (.func (.func 111) #[] #[.pointer (some ⟨A, 0, none⟩), .pointer (some ⟨B, 0, none⟩)])) (f3 : w.cell? ⟨F, 3, none⟩ = some (.func (.func 112) #[] #[.pointer (some ⟨A, 0, none⟩), .pointer (some ⟨B, 0, none⟩)])) :
    Calls Tryz.prog 107 #[.slice (some ⟨F, 0, none⟩) 4 4] w fun e w' => e = .returned (.int .i64 (fst k1 (fst k2 (fst k3 k4)))) ∧ Bw w.heap.size w w' := by
  have HX := hid h1
  have HY := hid h2
  have HZ := hid h3
  have HP := hid h4
  clear h1 h2 h3 h4
  by_cases z1 : k1 = 0
  · subst z1
    by_cases z2 : k2 = 0
    · subst z2
      by_cases z3 : k3 = 0
      · subst z3
        by_cases z4 : k4 = 0
        · subst z4
          go_enter Tryz.func107, Tryz.ntmps107
          go_wp2_with fail
          refine wp_loop_rounds 5 ?_
          rw [rounds_succ]
          go_wp2_with fail
          refine HX.out.mono ?_
          rintro e w' ⟨rfl, rfl⟩
          go_wp2_with fail
          rw [rounds_succ]
          go_wp2_with fail
          refine HY.out.mono ?_
          rintro e w' ⟨rfl, rfl⟩
          go_wp2_with fail
          rw [rounds_succ]
          go_wp2_with fail
          refine HZ.out.mono ?_
          rintro e w' ⟨rfl, rfl⟩
          go_wp2_with fail
          rw [rounds_succ]
          go_wp2_with fail
          refine HP.out.mono ?_
          rintro e w1 ⟨rfl, hb⟩
          have HB := hid hb
          clear hb
          go_wp2_with fail
          rw [rounds_succ]
          go_wp2_with fail
          go_ret
          exact ⟨rfl, HB.out⟩
        · have b4 : (k4 == 0) = false := beq_eq_false_iff_ne.2 z4
          clear z4
          go_enter Tryz.func107, Tryz.ntmps107
          go_wp2_with fail
          refine wp_loop_rounds 4 ?_
          rw [rounds_succ]
          go_wp2_with fail
          refine HX.out.mono ?_
          rintro e w' ⟨rfl, rfl⟩
          go_wp2_with fail
          rw [rounds_succ]
          go_wp2_with fail
          refine HY.out.mono ?_
          rintro e w' ⟨rfl, rfl⟩
          go_wp2_with fail
          rw [rounds_succ]
          go_wp2_with fail
          refine HZ.out.mono ?_
          rintro e w' ⟨rfl, rfl⟩
          go_wp2_with fail
          rw [rounds_succ]
          go_wp2_with fail
          refine HP.out.mono ?_
          rintro e w1 ⟨rfl, hb⟩
          have HB := hid hb
          clear hb
          go_wp2_with fail
          go_ret
          exact ⟨ret_int rfl, HB.out⟩
      · have b3 : (k3 == 0) = false := beq_eq_false_iff_ne.2 z3
        have HF := hid (show fst 0 (fst 0 (fst k3 k4)) = k3 by rw [fst0, fst0, fst_ne _ z3])
        clear z3
        go_enter Tryz.func107, Tryz.ntmps107
        go_wp2_with fail
        refine wp_loop_rounds 3 ?_
        rw [rounds_succ]
        go_wp2_with fail
        refine HX.out.mono ?_
        rintro e w' ⟨rfl, rfl⟩
        go_wp2_with fail
        rw [rounds_succ]
        go_wp2_with fail
        refine HY.out.mono ?_
        rintro e w' ⟨rfl, rfl⟩
        go_wp2_with fail
        rw [rounds_succ]
        go_wp2_with fail
        refine HZ.out.mono ?_
        rintro e w' ⟨rfl, rfl⟩
        go_wp2_with fail
        go_ret
        exact ⟨ret_int HF.out.symm, Bw.refl _ _⟩
    · have b2 : (k2 == 0) = false := beq_eq_false_iff_ne.2 z2
      have HF := hid (show fst 0 (fst k2 (fst k3 k4)) = k2 by rw [fst0, fst_ne _ z2])
      clear z2
      go_enter Tryz.func107, Tryz.ntmps107
      go_wp2_with fail
      refine wp_loop_rounds 2 ?_
      rw [rounds_succ]
      go_wp2_with fail
      refine HX.out.mono ?_
      rintro e w' ⟨rfl, rfl⟩
      go_wp2_with fail
      rw [rounds_succ]
      go_wp2_with fail
      refine HY.out.mono ?_
      rintro e w' ⟨rfl, rfl⟩
      go_wp2_with fail
      go_ret
      exact ⟨ret_int HF.out.symm, Bw.refl _ _⟩
  · have b1 : (k1 == 0) = false := beq_eq_false_iff_ne.2 z1
    have HF := hid (fst_ne (fst k2 (fst k3 k4)) z1)
    clear z1
    go_enter Tryz.func107, Tryz.ntmps107
    go_wp2_with fail
    refine wp_loop_rounds 1 ?_
    rw [rounds_succ]
    go_wp2_with fail
    refine HX.out.mono ?_
    rintro e w' ⟨rfl, rfl⟩
    go_wp2_with fail
    go_ret
    exact ⟨ret_int HF.out.symm, Bw.refl _ _⟩
set_option maxHeartbeats 2000000 in
theorem compare_bw (x y z x' y' z' : Int) (va vb : Value) (X Y : List ByteArray) (w : World) (hX : X.length ≤ 1000000) (hY : Y.length ≤ 1000000) (hXs : ∀ x, x ∈ X → x.size ≤ maxLen) (hYs : ∀ x, x ∈ Y → x.size ≤ maxLen) (ha : StrsAt w va X) (hb : StrsAt w vb Y) :
    Calls Tryz.prog 81 #[.agg #[.int .i64 x, .int .i64 y, .int .i64 z, va], .agg #[.int .i64 x', .int .i64 y', .int .i64 z', vb]] w fun e w' => e = .returned (.int .i64 (ordN x y z (bl X) x' y' z' (bl Y))) ∧ Bw w.heap.size w w' := by
  have hmf : ∀ (fn : Fn) (first cap : Array Value) (w : World), (Instr.makeFunc fn first cap).run Tryz.prog w = .ok (.func fn first cap) w := fun _ _ _ _ => rfl
  have HXS := hid hXs
  have HYS := hid hYs
  have HA := hid ha
  have HB := hid hb
  obtain ⟨pa, na, ca, rfl⟩ : ∃ p n c, va = .slice p n c := by
    rcases ha with ⟨_, rfl⟩ | ⟨_, b, rfl, _⟩ <;> exact ⟨_, _, _, rfl⟩
  obtain ⟨pb, nb, cb, rfl⟩ : ∃ p n c, vb = .slice p n c := by
    rcases hb with ⟨_, rfl⟩ | ⟨_, b, rfl, _⟩ <;> exact ⟨_, _, _, rfl⟩
  clear hXs hYs ha hb
  go_enter Tryz.func81, Tryz.ntmps81
  go_wp2_with fail
  refine (first_four (Lib.compareInt x x') (Lib.compareInt y y') (Lib.compareInt z z') (ordPre (bl X) (bl Y)) w.heap.size (w.heap.size + 1) (w.heap.size + 1 + 1) _ (d1_any x x' _ _ _ ?_ ?_) (d2_any y y' _ _ _ ?_ ?_) (d3_any z z' _ _ _ ?_ ?_) (d4_any _ _ _ _ _ _ ?_ ?_ (cpre_any _ _ X Y _ hX hY HXS.out HYS.out (HA.out.below ?_) (HB.out.below ?_))) ?_ ?_ ?_ ?_).mono ?_
  · exact (three w _ _ _ _ _ 0).1.trans rfl
  · exact (three w _ _ _ _ _ 0).2.1.trans rfl
  · exact (three w _ _ _ _ _ 1).1.trans rfl
  · exact (three w _ _ _ _ _ 1).2.1.trans rfl
  · exact (three w _ _ _ _ _ 2).1.trans rfl
  · exact (three w _ _ _ _ _ 2).2.1.trans rfl
  · exact (three w _ _ _ _ _ 3).1.trans rfl
  · exact (three w _ _ _ _ _ 3).2.1.trans rfl
  · exact (((Below.refl _ _).alloc (Nat.le_refl _) _).alloc (by simp) _).alloc (by simp; omega) _
  · exact (((Below.refl _ _).alloc (Nat.le_refl _) _).alloc (by simp) _).alloc (by simp; omega) _
  · exact (three w _ _ _ _ _ 0).2.2.trans rfl
  · exact (three w _ _ _ _ _ 1).2.2.trans rfl
  · exact (three w _ _ _ _ _ 2).2.2.trans rfl
  · exact (three w _ _ _ _ _ 3).2.2.trans rfl
  rintro e w1 ⟨rfl, hb⟩
  have HBF := hid ((((((Bw.refl w.heap.size w).alloc (Nat.le_refl _) _).alloc (by simp) _).alloc (by simp; omega) _).trans (hb.mono (by simp; omega))))
  clear hb
  go_wp2_with fail
  go_ret
  exact ⟨rfl, HBF.out⟩
theorem compare_any (x y z x' y' z' : Int) (va vb : Value) (X Y : List ByteArray) (w : World) (hX : X.length ≤ 1000000) (hY : Y.length ≤ 1000000) (hXs : ∀ x, x ∈ X → x.size ≤ maxLen) (hYs : ∀ x, x ∈ Y → x.size ≤ maxLen) (ha : StrsAt w va X) (hb : StrsAt w vb Y) :
    Calls Tryz.prog 81 #[.agg #[.int .i64 x, .int .i64 y, .int .i64 z, va], .agg #[.int .i64 x', .int .i64 y', .int .i64 z', vb]] w fun e w' => e = .returned (.int .i64 (ordN x y z (bl X) x' y' z' (bl Y))) ∧ Below w.heap.size w w' :=
  (compare_bw x y z x' y' z' va vb X Y w hX hY hXs hYs ha hb).mono fun _ _ h => ⟨h.1, h.2.be⟩
end Ve
end Go.Proofs.YtiebgeamfblbdaaGreatDoor
