
import Derived.Test.YtpafkniapacfdaaGreatDoorSq12
import Derived.Test.YtpafkniapacfdaaGreatDoorSq10
import Derived.OwnWalk
import Derived.Test.YtpafkniapacfdaaGreatDoorSq11
namespace Go.Proofs.YtpafkniapacfdaaGreatDoor
open Go.RowKit
namespace Ve
theorem ordPs_step (X Y : List ByteArray) (k : Nat) (h1 : k < X.length) (h2 : k < Y.length) :
    ordPs (bl (X.drop k)) (bl (Y.drop k)) = fst (ordPart X[k].data.toList Y[k].data.toList) (ordPs (bl (X.drop (k + 1))) (bl (Y.drop (k + 1)))) := by
  rw [List.drop_eq_getElem_cons h1, List.drop_eq_getElem_cons h2]; rfl
theorem ordPs_long (X Y : List ByteArray) (k : Nat) (h1 : k < X.length) (h2 : k = Y.length) : ordPs (bl (X.drop k)) (bl (Y.drop k)) = 1 := by
  rw [List.drop_eq_getElem_cons h1, List.drop_eq_nil_of_le (show Y.length ≤ k by omega)]; rfl
theorem ordPs_short (X Y : List ByteArray) (k : Nat) (h1 : k = X.length) (h2 : k < Y.length) : ordPs (bl (X.drop k)) (bl (Y.drop k)) = -1 := by
  rw [List.drop_eq_nil_of_le (show X.length ≤ k by omega), List.drop_eq_getElem_cons h2]; rfl
theorem ordPs_end (X Y : List ByteArray) (k : Nat) (h1 : k = X.length) (h2 : k = Y.length) : ordPs (bl (X.drop k)) (bl (Y.drop k)) = 0 := by
  rw [List.drop_eq_nil_of_le (show X.length ≤ k by omega), List.drop_eq_nil_of_le (show Y.length ≤ k by omega)]; rfl
set_option maxHeartbeats 2000000 in
theorem cfunc_any (b0 b1 c0 c1 : Nat) (X Y : List ByteArray) (w : World) (hX : X.length ≤ 1000000) (hXs : ∀ x, x ∈ X → x.size ≤ maxLen) (hYs : ∀ x, x ∈ Y → x.size ≤ maxLen)
    (hc0 : ∀ j (h : j < X.length), w.cell? ⟨b0, 0 + j, none⟩ = some (.string X[j])) (hc1 : ∀ j (h : j < Y.length), w.cell? ⟨b1, 0 + j, none⟩ = some (.string Y[j])) :
    Calls Tryz.prog 236 #[.slice (some ⟨b0, 0, none⟩) X.length c0, .slice (some ⟨b1, 0, none⟩) Y.length c1, .func (.func 237) #[] #[]] w fun e w' => e = .returned (.int .i64 (ordPs (bl X) (bl Y))) ∧ Bw w.heap.size w w' := by
  have HXS := hid hXs
  have HYS := hid hYs
  have HC0 := hid hc0
  have HC1 := hid hc1
  clear hXs hYs hc0 hc1
  go_enter Tryz.func236, Tryz.ntmps236
  go_wp2_with fail
  go_loopw [13] (fun i wr => ∃ k : Nat, k ≤ X.length ∧ k ≤ Y.length ∧ i = .int .i64 k ∧ Hid (ordPs (bl X) (bl Y) = ordPs (bl (X.drop k)) (bl (Y.drop k))) ∧ Hid (Bw w.heap.size w wr)) (fun i _ => X.length - (intOf i).toNat)
  case atStart => exact ⟨0, Nat.zero_le _, Nat.zero_le _, rfl, hid rfl, hid (Bw.refl _ _)⟩
  case round =>
    obtain ⟨k, hk, hk2, rfl, HO, HB⟩ := hrel
    by_cases hlt : k < X.length
    · by_cases hlt2 : k < Y.length
      · have hx : wr.cell? ⟨b0, k, none⟩ = some (.string X[k]) := by
          have := HC0.out k hlt
          rw [Nat.zero_add] at this
          exact cell_below HB.out.be this
        have hy : wr.cell? ⟨b1, k, none⟩ = some (.string Y[k]) := by
          have := HC1.out k hlt2
          rw [Nat.zero_add] at this
          exact cell_below HB.out.be this
        have HP := hid (cpart_bw X[k] Y[k] wr (HXS.out _ (List.getElem_mem hlt)) (HYS.out _ (List.getElem_mem hlt2)))
        have HN := hid (HO.out.trans (ordPs_step X Y k hlt hlt2))
        generalize hq : ordPart X[k].data.toList Y[k].data.toList = q at *
        clear hq HO
        by_cases hz : q = 0
        · subst hz
          go_wp2_with fail
          refine HP.out.mono ?_
          rintro e w1 ⟨rfl, hb1⟩
          have HB1 := hid (HB.out.trans (hb1.mono HB.out.size))
          clear hb1
          go_wp2_with fail
          go_roundw
          case rel => exact ⟨k + 1, by omega, by omega, by go_num, hid (HN.out.trans (fst0 _)), HB1⟩
          case measure => simp [intOf]; omega
        · have hqb : (q == 0) = false := beq_eq_false_iff_ne.2 hz
          have HF := hid (HN.out.trans (fst_ne _ hz))
          clear hz
          go_wp2_with fail
          refine HP.out.mono ?_
          rintro e w1 ⟨rfl, hb1⟩
          have HB1 := hid (HB.out.trans (hb1.mono HB.out.size))
          clear hb1
          go_wp2_with fail
          go_ret
          exact ⟨ret_int HF.out.symm, HB1.out⟩
      · have hx : wr.cell? ⟨b0, k, none⟩ = some (.string X[k]) := by
          have := HC0.out k hlt
          rw [Nat.zero_add] at this
          exact cell_below HB.out.be this
        have HF := hid (HO.out.trans (ordPs_long X Y k hlt (by omega)))
        clear HO
        go_wp2_with fail
        go_ret
        exact ⟨ret_int HF.out.symm, HB.out⟩
    · by_cases hlt2 : X.length < Y.length
      · have HF := hid (HO.out.trans (ordPs_short X Y k (by omega) (by omega)))
        clear HO
        go_wp2_with fail
        go_ret
        exact ⟨ret_int HF.out.symm, HB.out⟩
      · have HF := hid (HO.out.trans (ordPs_end X Y k (by omega) (by omega)))
        clear HO
        go_wp2_with fail
        go_ret
        exact ⟨ret_int HF.out.symm, HB.out⟩
theorem bl_nil {X : List ByteArray} : bl X = [] ↔ X = [] := by
  constructor
  · intro h; exact List.length_eq_zero_iff.1 (by rw [← bl_len, h]; rfl)
  · intro h; rw [h]; rfl
set_option maxHeartbeats 1000000 in
theorem cpre_any (va vb : Value) (X Y : List ByteArray) (w : World) (hX : X.length ≤ 1000000) (hY : Y.length ≤ 1000000) (hXs : ∀ x, x ∈ X → x.size ≤ maxLen) (hYs : ∀ x, x ∈ Y → x.size ≤ maxLen) (ha : StrsAt w va X) (hb : StrsAt w vb Y) :
    Calls Tryz.prog 199 #[va, vb] w fun e w' => e = .returned (.int .i64 (ordPre (bl X) (bl Y))) ∧ Bw w.heap.size w w' := by
  rcases ha with ⟨rfl, rfl⟩ | ⟨hXn, b0, rfl, hb0, hc0⟩
  · obtain ⟨p, c, rfl⟩ : ∃ p c, vb = .slice p Y.length c := by
      rcases hb with ⟨rfl, rfl⟩ | ⟨_, b, rfl, _⟩
      · exact ⟨none, 0, rfl⟩
      · exact ⟨_, _, rfl⟩
    have HO := hid (show ordPre (bl []) (bl Y) = Lib.compareInt (Y.length : Int) 0 by unfold ordPre; rw [if_pos (show bl [] = [] ∨ bl Y = [] from Or.inl rfl), bl_len]; rfl)
    have HC := hid (Tryz.cmp_Compare_int (Y.length : Int) 0 w)
    clear hb hXs hYs
    go_enter Tryz.func199, Tryz.ntmps199
    go_wp2_with fail
    refine HC.out.mono ?_
    rintro e w' ⟨rfl, rfl⟩
    go_wp2_with fail
    go_ret
    exact ⟨ret_int HO.out.symm, Bw.refl _ _⟩
  · have hl : 0 < X.length := List.length_pos_iff.2 hXn
    have h0 : ((X.length : Int) == 0) = false := beq_eq_false_iff_ne.2 (by omega)
    rcases hb with ⟨rfl, rfl⟩ | ⟨hYn, b1, rfl, hb1, hc1⟩
    · have HO := hid (show ordPre (bl X) (bl []) = Lib.compareInt 0 (X.length : Int) by unfold ordPre; rw [if_pos (show bl X = [] ∨ bl [] = [] from Or.inr rfl), bl_len X]; rfl)
      have HC := hid (Tryz.cmp_Compare_int 0 (X.length : Int) w)
      clear hXs hYs hc0
      go_enter Tryz.func199, Tryz.ntmps199
      go_wp2_with fail
      refine HC.out.mono ?_
      rintro e w' ⟨rfl, rfl⟩
      go_wp2_with fail
      go_ret
      exact ⟨ret_int HO.out.symm, Bw.refl _ _⟩
    · have hl2 : 0 < Y.length := List.length_pos_iff.2 hYn
      have h02 : ((Y.length : Int) == 0) = false := beq_eq_false_iff_ne.2 (by omega)
      have HO := hid (show ordPre (bl X) (bl Y) = ordPs (bl X) (bl Y) by unfold ordPre; rw [if_neg]; rintro (h | h); exact hXn (bl_nil.1 h); exact hYn (bl_nil.1 h))
      have HC := hid (cfunc_any b0 b1 X.length Y.length X Y w hX hXs hYs hc0 hc1)
      clear hXs hYs hc0 hc1
      go_enter Tryz.func199, Tryz.ntmps199
      go_wp2_with fail
      refine HC.out.mono ?_
      rintro e w' ⟨rfl, hb⟩
      have HB := hid hb
      clear hb
      go_wp2_with fail
      go_ret
      exact ⟨ret_int HO.out.symm, HB.out⟩
theorem d1_any (x y : Int) (A B : Nat) (w : World) (a0 : w.cell? ⟨A, 0, none⟩ = some (.int .i64 x)) (b0 : w.cell? ⟨B, 0, none⟩ = some (.int .i64 y)) :
    Calls Tryz.prog 194 #[.pointer (some ⟨A, 0, none⟩), .pointer (some ⟨B, 0, none⟩)] w fun e w' => e = .returned (.int .i64 (Lib.compareInt x y)) ∧ w' = w := by
  have HC := hid (Tryz.cmp_Compare_int x y w)
  go_enter Tryz.func194, Tryz.ntmps194
  go_wp2_with fail
  refine HC.out.mono ?_
  rintro e w' ⟨rfl, rfl⟩
  go_wp2_with fail
  go_ret
  exact ⟨rfl, rfl⟩
theorem d2_any (x y : Int) (A B : Nat) (w : World) (a0 : w.cell? ⟨A, 1, none⟩ = some (.int .i64 x)) (b0 : w.cell? ⟨B, 1, none⟩ = some (.int .i64 y)) :
    Calls Tryz.prog 196 #[.pointer (some ⟨A, 0, none⟩), .pointer (some ⟨B, 0, none⟩)] w fun e w' => e = .returned (.int .i64 (Lib.compareInt x y)) ∧ w' = w := by
  have HC := hid (Tryz.cmp_Compare_int x y w)
  go_enter Tryz.func196, Tryz.ntmps196
  go_wp2_with fail
  refine HC.out.mono ?_
  rintro e w' ⟨rfl, rfl⟩
  go_wp2_with fail
  go_ret
  exact ⟨rfl, rfl⟩
theorem d3_any (x y : Int) (A B : Nat) (w : World) (a0 : w.cell? ⟨A, 2, none⟩ = some (.int .i64 x)) (b0 : w.cell? ⟨B, 2, none⟩ = some (.int .i64 y)) :
    Calls Tryz.prog 197 #[.pointer (some ⟨A, 0, none⟩), .pointer (some ⟨B, 0, none⟩)] w fun e w' => e = .returned (.int .i64 (Lib.compareInt x y)) ∧ w' = w := by
  have HC := hid (Tryz.cmp_Compare_int x y w)
  go_enter Tryz.func197, Tryz.ntmps197
  go_wp2_with fail
  refine HC.out.mono ?_
  rintro e w' ⟨rfl, rfl⟩
  go_wp2_with fail
  go_ret
  exact ⟨rfl, rfl⟩
theorem d4_any (va vb : Value) (k : Int) (A B : Nat) (w : World) (a0 : w.cell? ⟨A, 3, none⟩ = some va) (b0 : w.cell? ⟨B, 3, none⟩ = some vb)
    (h : Calls Tryz.prog 199 #[va, vb] w fun e w' => e = .returned (.int .i64 k) ∧ Bw w.heap.size w w') :
    Calls Tryz.prog 198 #[.pointer (some ⟨A, 0, none⟩), .pointer (some ⟨B, 0, none⟩)] w fun e w' => e = .returned (.int .i64 k) ∧ Bw w.heap.size w w' := by
  have HC := hid h
  clear h
  go_enter Tryz.func198, Tryz.ntmps198
  go_wp2_with fail
  refine HC.out.mono ?_
  rintro e w' ⟨rfl, hb⟩
  have HB := hid hb
  clear hb
  go_wp2_with fail
  go_ret
  exact ⟨rfl, HB.out⟩
set_option maxHeartbeats 2000000 in
theorem first_four (k1 k2 k3 k4 : Int) (A B F : Nat) (w : World)
    (h1 : Calls Tryz.prog 194 #[.pointer (some ⟨A, 0, none⟩), .pointer (some ⟨B, 0, none⟩)] w fun e w' => e = .returned (.int .i64 k1) ∧ w' = w)
    (h2 : Calls Tryz.prog 196 #[.pointer (some ⟨A, 0, none⟩), .pointer (some ⟨B, 0, none⟩)] w fun e w' => e = .returned (.int .i64 k2) ∧ w' = w)
    (h3 : Calls Tryz.prog 197 #[.pointer (some ⟨A, 0, none⟩), .pointer (some ⟨B, 0, none⟩)] w fun e w' => e = .returned (.int .i64 k3) ∧ w' = w)
    (h4 : Calls Tryz.prog 198 #[.pointer (some ⟨A, 0, none⟩), .pointer (some ⟨B, 0, none⟩)] w fun e w' => e = .returned (.int .i64 k4) ∧ Bw w.heap.size w w')
    (f0 : w.cell? ⟨F, 0, none⟩ = some (.func (.func 194) #[] #[.pointer (some ⟨A, 0, none⟩), .pointer (some ⟨B, 0, none⟩)])) (f1 : w.cell? ⟨F, 1, none⟩ = some (.func (.func 196) #[] #[.pointer (some ⟨A, 0, none⟩), .pointer (some ⟨B, 0, none⟩)]))
    (f2 : w.cell? ⟨F, 2, none⟩ = some (.func (.func 197) #[] #[.pointer (some ⟨A, 0, none⟩), .pointer (some ⟨B, 0, none⟩)])) (f3 : w.cell? ⟨F, 3, none⟩ = some (.func (.func 198) #[] #[.pointer (some ⟨A, 0, none⟩), .pointer (some ⟨B, 0, none⟩)])) :
    Calls Tryz.prog 193 #[.slice (some ⟨F, 0, none⟩) 4 4] w fun e w' => e = .returned (.int .i64 (fst k1 (fst k2 (fst k3 k4)))) ∧ Bw w.heap.size w w' := by
  have HX := hid h1
  have HY := hid h2
  have HZ := hid h3
  have HP := hid h4
  clear h1 h2 h3 h4
  by_cases z1 : k1 = 0
  · subst z1
    by_cases z2 : k2 = 0
    · subst z2
      by_cases z3 : k3 = 0
      · subst z3
        by_cases z4 : k4 = 0
        · subst z4
          go_enter Tryz.func193, Tryz.ntmps193
          go_wp2_with fail
          refine wp_loop_rounds 5 ?_
          rw [rounds_succ]
          go_wp2_with fail
          refine HX.out.mono ?_
          rintro e w' ⟨rfl, rfl⟩
          go_wp2_with fail
          rw [rounds_succ]
          go_wp2_with fail
          refine HY.out.mono ?_
          rintro e w' ⟨rfl, rfl⟩
          go_wp2_with fail
          rw [rounds_succ]
          go_wp2_with fail
          refine HZ.out.mono ?_
          rintro e w' ⟨rfl, rfl⟩
          go_wp2_with fail
          rw [rounds_succ]
          go_wp2_with fail
          refine HP.out.mono ?_
          rintro e w1 ⟨rfl, hb⟩
          have HB := hid hb
          clear hb
          go_wp2_with fail
          rw [rounds_succ]
          go_wp2_with fail
          go_ret
          exact ⟨rfl, HB.out⟩
        · have b4 : (k4 == 0) = false := beq_eq_false_iff_ne.2 z4
          clear z4
          go_enter Tryz.func193, Tryz.ntmps193
          go_wp2_with fail
          refine wp_loop_rounds 4 ?_
          rw [rounds_succ]
          go_wp2_with fail
          refine HX.out.mono ?_
          rintro e w' ⟨rfl, rfl⟩
          go_wp2_with fail
          rw [rounds_succ]
          go_wp2_with fail
          refine HY.out.mono ?_
          rintro e w' ⟨rfl, rfl⟩
          go_wp2_with fail
          rw [rounds_succ]
          go_wp2_with fail
          refine HZ.out.mono ?_
          rintro e w' ⟨rfl, rfl⟩
          go_wp2_with fail
          rw [rounds_succ]
          go_wp2_with fail
          refine HP.out.mono ?_
          rintro e w1 ⟨rfl, hb⟩
          have HB := hid hb
          clear hb
          go_wp2_with fail
          go_ret
          exact ⟨ret_int rfl, HB.out⟩
      · have b3 : (k3 == 0) = false := beq_eq_false_iff_ne.2 z3
        have HF := hid (show fst 0 (fst 0 (fst k3 k4)) = k3 by rw [fst0, fst0, fst_ne _ z3])
        clear z3
        go_enter Tryz.func193, Tryz.ntmps193
        go_wp2_with fail
        refine wp_loop_rounds 3 ?_
        rw [rounds_succ]
        go_wp2_with fail
        refine HX.out.mono ?_
        rintro e w' ⟨rfl, rfl⟩
        go_wp2_with fail
        rw [rounds_succ]
        go_wp2_with fail
        refine HY.out.mono ?_
        rintro e w' ⟨rfl, rfl⟩
        go_wp2_with fail
        rw [rounds_succ]
        go_wp2_with fail
        refine HZ.out.mono ?_
        rintro e w' ⟨rfl, rfl⟩
        go_wp2_with fail
        go_ret
        exact ⟨ret_int HF.out.symm, Bw.refl _ _⟩
    · have b2 : (k2 == 0) = false := beq_eq_false_iff_ne.2 z2
      have HF := hid (show fst 0 (fst k2 (fst k3 k4)) = k2 by rw [fst0, fst_ne _ z2])
      clear z2
      go_enter Tryz.func193, Tryz.ntmps193
      go_wp2_with fail
      refine wp_loop_rounds 2 ?_
      rw [rounds_succ]
      go_wp2_with fail
      refine HX.out.mono ?_
      rintro e w' ⟨rfl, rfl⟩
      go_wp2_with fail
      rw [rounds_succ]
      go_wp2_with fail
      refine HY.out.mono ?_
      rintro e w' ⟨rfl, rfl⟩
      go_wp2_with fail
      go_ret
      exact ⟨ret_int HF.out.symm, Bw.refl _ _⟩
  · have b1 : (k1 == 0) = false := beq_eq_false_iff_ne.2 z1
    have HF := hid (fst_ne (fst k2 (fst k3 k4)) z1)
    clear z1
    go_enter Tryz.func193, Tryz.ntmps193
    go_wp2_with fail
    refine wp_loop_rounds 1 ?_
    rw [rounds_succ]
    go_wp2_with fail
    refine HX.out.mono ?_
    rintro e w' ⟨rfl, rfl⟩
    go_wp2_with fail
    go_ret
    exact ⟨ret_int HF.out.symm, Bw.refl _ _⟩
set_option maxHeartbeats 2000000 in
theorem compare_bw (x y z x' y' z' : Int) (va vb : Value) (X Y : List ByteArray) (w : World) (hX : X.length ≤ 1000000) (hY : Y.length ≤ 1000000) (hXs : ∀ x, x ∈ X → x.size ≤ maxLen) (hYs : ∀ x, x ∈ Y → x.size ≤ maxLen) (ha : StrsAt w va X) (hb : StrsAt w vb Y) :
    Calls Tryz.prog 150 #[.agg #[.int .i64 x, .int .i64 y, .int .i64 z, va], .agg #[.int .i64 x', .int .i64 y', .int .i64 z', vb]] w fun e w' => e = .returned (.int .i64 (ordN x y z (bl X) x' y' z' (bl Y))) ∧ Bw w.heap.size w w' := by
  have hmf : ∀ (fn : Fn) (first cap : Array Value) (w : World), (Instr.makeFunc fn first cap).run Tryz.prog w = .ok (.func fn first cap) w := fun _ _ _ _ => rfl
  have HXS := hid hXs
  have HYS := hid hYs
  have HA := hid ha
  have HB := hid hb
  obtain ⟨pa, na, ca, rfl⟩ : ∃ p n c, va = .slice p n c := by
    rcases ha with ⟨_, rfl⟩ | ⟨_, b, rfl, _⟩ <;> exact ⟨_, _, _, rfl⟩
  obtain ⟨pb, nb, cb, rfl⟩ : ∃ p n c, vb = .slice p n c := by
    rcases hb with ⟨_, rfl⟩ | ⟨_, b, rfl, _⟩ <;> exact ⟨_, _, _, rfl⟩
  clear hXs hYs ha hb
  go_enter Tryz.func150, Tryz.ntmps150
  go_wp2_with fail
  refine (first_four (Lib.compareInt x x') (Lib.compareInt y y') (Lib.compareInt z z') (ordPre (bl X) (bl Y)) w.heap.size (w.heap.size + 1) (w.heap.size + 1 + 1) _ (d1_any x x' _ _ _ ?_ ?_) (d2_any y y' _ _ _ ?_ ?_) (d3_any z z' _ _ _ ?_ ?_) (d4_any _ _ _ _ _ _ ?_ ?_ (cpre_any _ _ X Y _ hX hY HXS.out HYS.out (HA.out.below ?_) (HB.out.below ?_))) ?_ ?_ ?_ ?_).mono ?_
  · exact (three w _ _ _ _ _ 0).1.trans rfl
  · exact (three w _ _ _ _ _ 0).2.1.trans rfl
  · exact (three w _ _ _ _ _ 1).1.trans rfl
  · exact (three w _ _ _ _ _ 1).2.1.trans rfl
  · exact (three w _ _ _ _ _ 2).1.trans rfl
  · exact (three w _ _ _ _ _ 2).2.1.trans rfl
  · exact (three w _ _ _ _ _ 3).1.trans rfl
  · exact (three w _ _ _ _ _ 3).2.1.trans rfl
  · exact (((Below.refl _ _).alloc (Nat.le_refl _) _).alloc (by simp) _).alloc (by simp; omega) _
  · exact (((Below.refl _ _).alloc (Nat.le_refl _) _).alloc (by simp) _).alloc (by simp; omega) _
  · exact (three w _ _ _ _ _ 0).2.2.trans rfl
  · exact (three w _ _ _ _ _ 1).2.2.trans rfl
  · exact (three w _ _ _ _ _ 2).2.2.trans rfl
  · exact (three w _ _ _ _ _ 3).2.2.trans rfl
  rintro e w1 ⟨rfl, hb⟩
  have HBF := hid ((((((Bw.refl w.heap.size w).alloc (Nat.le_refl _) _).alloc (by simp) _).alloc (by simp; omega) _).trans (hb.mono (by simp; omega))))
  clear hb
  go_wp2_with fail
  go_ret
  exact ⟨rfl, HBF.out⟩
theorem compare_any (x y z x' y' z' : Int) (va vb : Value) (X Y : List ByteArray) (w : World) (hX : X.length ≤ 1000000) (hY : Y.length ≤ 1000000) (hXs : ∀ x, x ∈ X → x.size ≤ maxLen) (hYs : ∀ x, x ∈ Y → x.size ≤ maxLen) (ha : StrsAt w va X) (hb : StrsAt w vb Y) :
    Calls Tryz.prog 150 #[.agg #[.int .i64 x, .int .i64 y, .int .i64 z, va], .agg #[.int .i64 x', .int .i64 y', .int .i64 z', vb]] w fun e w' => e = .returned (.int .i64 (ordN x y z (bl X) x' y' z' (bl Y))) ∧ Below w.heap.size w w' :=
  (compare_bw x y z x' y' z' va vb X Y w hX hY hXs hYs ha hb).mono fun _ _ h => ⟨h.1, h.2.be⟩
end Ve
end Go.Proofs.YtpafkniapacfdaaGreatDoor


namespace Go.Proofs.YtpafkniapacfdaaGreatDoor
open Go.RowKit
namespace Ve
end Ve
end Go.Proofs.YtpafkniapacfdaaGreatDoor


namespace Go.Proofs.YtpafkniapacfdaaGreatDoor
open Go.RowKit
namespace Ve
def elems (l : List UInt8) : List (List UInt8) := cutAt 47 l
def lastOf (l : List UInt8) : List UInt8 := (elems l).getD ((elems l).length - 1) []
def badE (l : List UInt8) : Bool := (elems l).any fun e => !elemOk e
def longE (l : List UInt8) : Bool := decide (5 < (elems l).length) || (elems l).any long
def sufE (l : List UInt8) : Bool := decide (1 < (elems l).length) && likeB (lastOf l)
def pathErr (l : List UInt8) : Nat := if badE l then 1 else if longE l then 2 else if sufE l && !sufOk (lastOf l) then 4 else 0
def pathN (l : List UInt8) : Int := if sufE l then (num (restOf (lastOf l))).1 else 0
def pathH (l : List UInt8) : List UInt8 := if sufE l then Lib.join ((elems l).take ((elems l).length - 1)) [47] else l
theorem elems_pos (l : List UInt8) : 0 < (elems l).length := List.length_pos_iff.2 (cutAt_ne 47 _)
theorem last_get {l : List UInt8} {X : List ByteArray} (h : bl X = elems l) (hp : X.length - 1 < X.length) : X[X.length - 1].data.toList = lastOf l := by
  unfold lastOf
  have hl : (elems l).length = X.length := by rw [← h, bl_len]
  rw [hl, List.getD_eq_getElem?_getD, ← h]
  unfold bl
  rw [List.getElem?_map, List.getElem?_eq_getElem hp]; rfl
set_option maxHeartbeats 1000000 in
theorem path_bad (s : ByteArray) (A : Nat → Addr) (m : Int) (w : World) (hs : s.size < 4294967281) (S : Te w A m) (h1 : badE s.data.toList = true) :
    Calls Tryz.prog 105 #[.string s] w fun e w' => e = .returned (.tuple #[.string ⟨#[]⟩, .int .i64 0, .iface 291 (.pointer (some (A 0)))]) ∧ Below w.heap.size w w' := by
  have H1 := hid (show ((elems s.data.toList).any fun e => !elemOk e) = true from h1)
  clear h1
  have hmf : ∀ (fn : Fn) (first cap : Array Value) (w : World), (Instr.makeFunc fn first cap).run Tryz.prog w = .ok (.func fn first cap) w := fun _ _ _ _ => rfl
  have HS := hid S
  clear S
  go_enter Tryz.func105, Tryz.ntmps105
  go_wp2_with fail
  refine (split_any 47 s m w hs HS.out.ml).mono ?_
  rintro e w1 ⟨X, rfl, hX, hc, hb, hz⟩
  have HX := hid (show bl X = elems s.data.toList from hX)
  have HC := hid hc
  have HB := hid hb
  have HS1 := hid (HS.out.below hb)
  have hn := many_le hX
  have HXS := hid (show ∀ x, x ∈ X → x.size < 4294967281 from fun x hx => by have := piece_le hX hx; omega)
  have HLN := hid (show X.length = (elems s.data.toList).length by rw [← HX.out, bl_len])
  clear hX hc hb
  go_wp2_with fail
  refine (has1 w.heap.size X.length X m w1 (by omega) HC.out HS1.out.ml HXS.out).mono ?_
  rintro e w2 ⟨rfl, hb2⟩
  have HB2 := hid (HB.out.trans (hb2.mono HB.out.size))
  have HS2 := hid (HS1.out.below hb2)
  have HC2 := hid (show ∀ j (h : j < X.length), w2.cell? ⟨w.heap.size, 0 + j, none⟩ = some (.string X[j]) from fun j h => cell_below hb2 (HC.out j h))
  rw [HX.out, H1.out]
  clear hb2
  have g0 := HS2.out.sen.g0
  go_wp2_with fail
  go_quiet (fail)
  go_wp2_with fail
  go_ret3
  exact ⟨rfl, HB2.out.trans ((below_drawn _ _).mono HB2.out.size)⟩
set_option maxHeartbeats 1000000 in
theorem path_many (s : ByteArray) (A : Nat → Addr) (m : Int) (w : World) (hs : s.size < 4294967281) (S : Te w A m) (h1 : badE s.data.toList = false) (h2 : 5 < (elems s.data.toList).length) :
    Calls Tryz.prog 105 #[.string s] w fun e w' => e = .returned (.tuple #[.string ⟨#[]⟩, .int .i64 0, .iface 291 (.pointer (some (A 1)))]) ∧ Below w.heap.size w w' := by
  have H1 := hid (show ((elems s.data.toList).any fun e => !elemOk e) = false from h1)
  clear h1
  have hmf : ∀ (fn : Fn) (first cap : Array Value) (w : World), (Instr.makeFunc fn first cap).run Tryz.prog w = .ok (.func fn first cap) w := fun _ _ _ _ => rfl
  have HS := hid S
  clear S
  go_enter Tryz.func105, Tryz.ntmps105
  go_wp2_with fail
  refine (split_any 47 s m w hs HS.out.ml).mono ?_
  rintro e w1 ⟨X, rfl, hX, hc, hb, hz⟩
  have HX := hid (show bl X = elems s.data.toList from hX)
  have HC := hid hc
  have HB := hid hb
  have HS1 := hid (HS.out.below hb)
  have hn := many_le hX
  have HXS := hid (show ∀ x, x ∈ X → x.size < 4294967281 from fun x hx => by have := piece_le hX hx; omega)
  have HLN := hid (show X.length = (elems s.data.toList).length by rw [← HX.out, bl_len])
  clear hX hc hb
  go_wp2_with fail
  refine (has1 w.heap.size X.length X m w1 (by omega) HC.out HS1.out.ml HXS.out).mono ?_
  rintro e w2 ⟨rfl, hb2⟩
  have HB2 := hid (HB.out.trans (hb2.mono HB.out.size))
  have HS2 := hid (HS1.out.below hb2)
  have HC2 := hid (show ∀ j (h : j < X.length), w2.cell? ⟨w.heap.size, 0 + j, none⟩ = some (.string X[j]) from fun j h => cell_below hb2 (HC.out j h))
  rw [HX.out, H1.out]
  clear hb2
  have g1 := HS2.out.sen.g1
  have h5 : decide (5 < (X.length : Int)) = true := decide_eq_true (by have := HLN.out; omega)
  go_wp2_with fail
  go_quiet (fail)
  go_wp2_with fail
  go_ret3
  exact ⟨rfl, HB2.out.trans ((below_drawn _ _).mono HB2.out.size)⟩
set_option maxHeartbeats 1000000 in
theorem path_long (s : ByteArray) (A : Nat → Addr) (m : Int) (w : World) (hs : s.size < 4294967281) (S : Te w A m) (h1 : badE s.data.toList = false) (h5 : (elems s.data.toList).length ≤ 5) (h2 : (elems s.data.toList).any long = true) :
    Calls Tryz.prog 105 #[.string s] w fun e w' => e = .returned (.tuple #[.string ⟨#[]⟩, .int .i64 0, .iface 291 (.pointer (some (A 1)))]) ∧ Below w.heap.size w w' := by
  have H1 := hid (show ((elems s.data.toList).any fun e => !elemOk e) = false from h1)
  have H2 := hid h2
  clear h1 h2
  have hmf : ∀ (fn : Fn) (first cap : Array Value) (w : World), (Instr.makeFunc fn first cap).run Tryz.prog w = .ok (.func fn first cap) w := fun _ _ _ _ => rfl
  have HS := hid S
  clear S
  go_enter Tryz.func105, Tryz.ntmps105
  go_wp2_with fail
  refine (split_any 47 s m w hs HS.out.ml).mono ?_
  rintro e w1 ⟨X, rfl, hX, hc, hb, hz⟩
  have HX := hid (show bl X = elems s.data.toList from hX)
  have HC := hid hc
  have HB := hid hb
  have HS1 := hid (HS.out.below hb)
  have hn := many_le hX
  have HXS := hid (show ∀ x, x ∈ X → x.size < 4294967281 from fun x hx => by have := piece_le hX hx; omega)
  have HLN := hid (show X.length = (elems s.data.toList).length by rw [← HX.out, bl_len])
  clear hX hc hb
  go_wp2_with fail
  refine (has1 w.heap.size X.length X m w1 (by omega) HC.out HS1.out.ml HXS.out).mono ?_
  rintro e w2 ⟨rfl, hb2⟩
  have HB2 := hid (HB.out.trans (hb2.mono HB.out.size))
  have HS2 := hid (HS1.out.below hb2)
  have HC2 := hid (show ∀ j (h : j < X.length), w2.cell? ⟨w.heap.size, 0 + j, none⟩ = some (.string X[j]) from fun j h => cell_below hb2 (HC.out j h))
  rw [HX.out, H1.out]
  clear hb2
  have h5b : decide (5 < (X.length : Int)) = false := decide_eq_false (by have := HLN.out; omega)
  go_wp2_with fail
  refine (has2 w.heap.size X.length X w2 (by omega) HC2.out).mono ?_
  rintro e w3 ⟨rfl, hb3⟩
  have HB3 := hid (HB2.out.trans (hb3.mono HB2.out.size))
  have HS3 := hid (HS2.out.below hb3)
  have HC3 := hid (show ∀ j (h : j < X.length), w3.cell? ⟨w.heap.size, 0 + j, none⟩ = some (.string X[j]) from fun j h => cell_below hb3 (HC2.out j h))
  rw [HX.out, H2.out]
  clear hb3
  have g1 := HS3.out.sen.g1
  go_wp2_with fail
  go_quiet (fail)
  go_wp2_with fail
  go_ret3
  exact ⟨rfl, HB3.out.trans ((below_drawn _ _).mono HB3.out.size)⟩
set_option maxHeartbeats 1000000 in
theorem path_one (s : ByteArray) (A : Nat → Addr) (m : Int) (w : World) (hs : s.size < 4294967281) (S : Te w A m) (h1 : badE s.data.toList = false) (h2 : (elems s.data.toList).any long = false) (h0 : (elems s.data.toList).length = 1) :
    Calls Tryz.prog 105 #[.string s] w fun e w' => e = .returned (.tuple #[.string s, .int .i64 0, .nilIface]) ∧ Below w.heap.size w w' := by
  have H1 := hid (show ((elems s.data.toList).any fun e => !elemOk e) = false from h1)
  have H2 := hid h2
  clear h1 h2
  have hmf : ∀ (fn : Fn) (first cap : Array Value) (w : World), (Instr.makeFunc fn first cap).run Tryz.prog w = .ok (.func fn first cap) w := fun _ _ _ _ => rfl
  have HS := hid S
  clear S
  go_enter Tryz.func105, Tryz.ntmps105
  go_wp2_with fail
  refine (split_any 47 s m w hs HS.out.ml).mono ?_
  rintro e w1 ⟨X, rfl, hX, hc, hb, hz⟩
  have HX := hid (show bl X = elems s.data.toList from hX)
  have HC := hid hc
  have HB := hid hb
  have HS1 := hid (HS.out.below hb)
  have hn := many_le hX
  have HXS := hid (show ∀ x, x ∈ X → x.size < 4294967281 from fun x hx => by have := piece_le hX hx; omega)
  have HLN := hid (show X.length = (elems s.data.toList).length by rw [← HX.out, bl_len])
  clear hX hc hb
  go_wp2_with fail
  refine (has1 w.heap.size X.length X m w1 (by omega) HC.out HS1.out.ml HXS.out).mono ?_
  rintro e w2 ⟨rfl, hb2⟩
  have HB2 := hid (HB.out.trans (hb2.mono HB.out.size))
  have HS2 := hid (HS1.out.below hb2)
  have HC2 := hid (show ∀ j (h : j < X.length), w2.cell? ⟨w.heap.size, 0 + j, none⟩ = some (.string X[j]) from fun j h => cell_below hb2 (HC.out j h))
  rw [HX.out, H1.out]
  clear hb2
  obtain ⟨x, rfl⟩ := List.length_eq_one_iff.1 (HLN.out.trans h0)
  have h5b : decide (5 < (([x] : List ByteArray).length : Int)) = false := decide_eq_false (by have := HLN.out; omega)
  go_wp2_with fail
  refine (has2 w.heap.size 1 [x] w2 (by omega) HC2.out).mono ?_
  rintro e w3 ⟨rfl, hb3⟩
  have HB3 := hid (HB2.out.trans (hb3.mono HB2.out.size))
  have HS3 := hid (HS2.out.below hb3)
  have HC3 := hid (show ∀ j (h : j < ([x] : List ByteArray).length), w3.cell? ⟨w.heap.size, 0 + j, none⟩ = some (.string ([x] : List ByteArray)[j]) from fun j h => cell_below hb3 (HC2.out j h))
  rw [HX.out, H2.out]
  clear hb3
  go_wp2_with fail
  go_ret3
  exact ⟨rfl, HB3.out⟩
set_option maxHeartbeats 1000000 in
theorem path_unlike (s : ByteArray) (A : Nat → Addr) (m : Int) (w : World) (hs : s.size < 4294967281) (S : Te w A m) (h1 : badE s.data.toList = false) (h5 : (elems s.data.toList).length ≤ 5) (h2 : (elems s.data.toList).any long = false) (h0 : 1 < (elems s.data.toList).length) (hk : likeB (lastOf s.data.toList) = false) :
    Calls Tryz.prog 105 #[.string s] w fun e w' => e = .returned (.tuple #[.string s, .int .i64 0, .nilIface]) ∧ Below w.heap.size w w' := by
  have H1 := hid (show ((elems s.data.toList).any fun e => !elemOk e) = false from h1)
  have H2 := hid h2
  have HK := hid hk
  clear h1 h2 hk
  have hmf : ∀ (fn : Fn) (first cap : Array Value) (w : World), (Instr.makeFunc fn first cap).run Tryz.prog w = .ok (.func fn first cap) w := fun _ _ _ _ => rfl
  have HS := hid S
  clear S
  go_enter Tryz.func105, Tryz.ntmps105
  go_wp2_with fail
  refine (split_any 47 s m w hs HS.out.ml).mono ?_
  rintro e w1 ⟨X, rfl, hX, hc, hb, hz⟩
  have HX := hid (show bl X = elems s.data.toList from hX)
  have HC := hid hc
  have HB := hid hb
  have HS1 := hid (HS.out.below hb)
  have hn := many_le hX
  have HXS := hid (show ∀ x, x ∈ X → x.size < 4294967281 from fun x hx => by have := piece_le hX hx; omega)
  have HLN := hid (show X.length = (elems s.data.toList).length by rw [← HX.out, bl_len])
  clear hX hc hb
  go_wp2_with fail
  refine (has1 w.heap.size X.length X m w1 (by omega) HC.out HS1.out.ml HXS.out).mono ?_
  rintro e w2 ⟨rfl, hb2⟩
  have HB2 := hid (HB.out.trans (hb2.mono HB.out.size))
  have HS2 := hid (HS1.out.below hb2)
  have HC2 := hid (show ∀ j (h : j < X.length), w2.cell? ⟨w.heap.size, 0 + j, none⟩ = some (.string X[j]) from fun j h => cell_below hb2 (HC.out j h))
  rw [HX.out, H1.out]
  clear hb2
  have h5b : decide (5 < (X.length : Int)) = false := decide_eq_false (by have := HLN.out; omega)
  go_wp2_with fail
  refine (has2 w.heap.size X.length X w2 (by omega) HC2.out).mono ?_
  rintro e w3 ⟨rfl, hb3⟩
  have HB3 := hid (HB2.out.trans (hb3.mono HB2.out.size))
  have HS3 := hid (HS2.out.below hb3)
  have HC3 := hid (show ∀ j (h : j < X.length), w3.cell? ⟨w.heap.size, 0 + j, none⟩ = some (.string X[j]) from fun j h => cell_below hb3 (HC2.out j h))
  rw [HX.out, H2.out]
  clear hb3
  have hp : X.length - 1 < X.length := by have := HLN.out; omega
  have hx : w3.cell? ⟨w.heap.size, X.length - 1, none⟩ = some (.string X[X.length - 1]) := by have := HC3.out (X.length - 1) hp; rw [Nat.zero_add] at this; exact this
  have HLT := hid (last_get HX.out hp)
  have HLS := hid (HXS.out _ (List.getElem_mem hp))
  have hi1 : ((X.length : Int) - 1) = ((X.length - 1 : Nat) : Int) := by have := HLN.out; omega
  have hi2 : (((X.length - 1 : Nat) : Int) == 0) = false := beq_eq_false_iff_ne.2 (by have := HLN.out; omega)
  generalize hZ : X[X.length - 1] = Z at *
  generalize hN : X.length - 1 = n at *
  go_wp2_with fail
  refine (like_any Z w3 HLS.out).mono ?_
  rintro e w' ⟨rfl, rfl⟩
  rw [HLT.out, HK.out]
  go_wp2_with fail
  go_ret3
  exact ⟨rfl, HB3.out⟩
theorem suffix_no (s : ByteArray) (A : Nat → Addr) (m : Int) (w : World) (hs : s.size < 4294967281) (S : Te w A m) (h : sufOk s.data.toList = false) :
    Calls Tryz.prog 143 #[.string s] w fun e w' => e = .returned (.tuple #[.int .i64 0, .iface 291 (.pointer (some (A 3)))]) ∧ Below w.heap.size w w' := by
  have := suffix_any s A m w hs S
  rw [h] at this
  exact this
theorem suffix_yes (s : ByteArray) (A : Nat → Addr) (m : Int) (w : World) (hs : s.size < 4294967281) (S : Te w A m) (h : sufOk s.data.toList = true) :
    Calls Tryz.prog 143 #[.string s] w fun e w' => e = .returned (.tuple #[.int .i64 (num (restOf s.data.toList)).1, .nilIface]) ∧ Below w.heap.size w w' := by
  have := suffix_any s A m w hs S
  rw [h] at this
  exact this
theorem join_snoc (c : UInt8) (ps : List (List UInt8)) (h : ps ≠ []) (q : List UInt8) : Lib.join (ps ++ [q]) [c] = Lib.join ps [c] ++ ([c] ++ q) := by
  cases ps with
  | nil => exact absurd rfl h
  | cons p r =>
    simp only [List.cons_append, Lib.join_cons, Lib.joinTail]
    simp
theorem join_app (c : UInt8) (qs : List (List UInt8)) : ∀ ps : List (List UInt8), (Lib.join ps [c]).length ≤ (Lib.join (ps ++ qs) [c]).length := by
  induction qs with
  | nil => intro ps; simp
  | cons q r ih =>
    intro ps
    have h1 : (Lib.join ps [c]).length ≤ (Lib.join (ps ++ [q]) [c]).length := by
      by_cases h : ps = []
      · subst h; simp [Lib.join]
      · rw [join_snoc c ps h q]; simp
    have h2 := ih (ps ++ [q])
    rw [List.append_assoc] at h2
    exact Nat.le_trans h1 h2
theorem join_take (X : List ByteArray) (l : List UInt8) (hX : bl X = elems l) (n : Nat) : (Lib.join (bl (X.take n)) [47]).length ≤ l.length := by
  have h := join_app 47 (bl (X.drop n)) (bl (X.take n))
  have e : bl (X.take n) ++ bl (X.drop n) = bl X := by unfold bl; rw [← List.map_append, List.take_append_drop]
  rw [e, hX] at h
  unfold elems at h
  rw [join_cut] at h
  exact h
set_option maxHeartbeats 1000000 in
theorem path_major (s : ByteArray) (A : Nat → Addr) (m : Int) (w : World) (hs : s.size < 4294967281) (S : Te w A m) (h1 : badE s.data.toList = false) (h5 : (elems s.data.toList).length ≤ 5) (h2 : (elems s.data.toList).any long = false) (h0 : 1 < (elems s.data.toList).length) (hk : likeB (lastOf s.data.toList) = true) (ho : sufOk (lastOf s.data.toList) = false) :
    Calls Tryz.prog 105 #[.string s] w fun e w' => e = .returned (.tuple #[.string ⟨#[]⟩, .int .i64 0, .iface 291 (.pointer (some (A 3)))]) ∧ Below w.heap.size w w' := by
  have H1 := hid (show ((elems s.data.toList).any fun e => !elemOk e) = false from h1)
  have H2 := hid h2
  have HK := hid hk
  have HO := hid ho
  clear h1 h2 hk ho
  have hmf : ∀ (fn : Fn) (first cap : Array Value) (w : World), (Instr.makeFunc fn first cap).run Tryz.prog w = .ok (.func fn first cap) w := fun _ _ _ _ => rfl
  have HS := hid S
  clear S
  go_enter Tryz.func105, Tryz.ntmps105
  go_wp2_with fail
  refine (split_any 47 s m w hs HS.out.ml).mono ?_
  rintro e w1 ⟨X, rfl, hX, hc, hb, hz⟩
  have HX := hid (show bl X = elems s.data.toList from hX)
  have HC := hid hc
  have HB := hid hb
  have HS1 := hid (HS.out.below hb)
  have hn := many_le hX
  have HXS := hid (show ∀ x, x ∈ X → x.size < 4294967281 from fun x hx => by have := piece_le hX hx; omega)
  have HLN := hid (show X.length = (elems s.data.toList).length by rw [← HX.out, bl_len])
  clear hX hc hb
  go_wp2_with fail
  refine (has1 w.heap.size X.length X m w1 (by omega) HC.out HS1.out.ml HXS.out).mono ?_
  rintro e w2 ⟨rfl, hb2⟩
  have HB2 := hid (HB.out.trans (hb2.mono HB.out.size))
  have HS2 := hid (HS1.out.below hb2)
  have HC2 := hid (show ∀ j (h : j < X.length), w2.cell? ⟨w.heap.size, 0 + j, none⟩ = some (.string X[j]) from fun j h => cell_below hb2 (HC.out j h))
  rw [HX.out, H1.out]
  clear hb2
  have h5b : decide (5 < (X.length : Int)) = false := decide_eq_false (by have := HLN.out; omega)
  go_wp2_with fail
  refine (has2 w.heap.size X.length X w2 (by omega) HC2.out).mono ?_
  rintro e w3 ⟨rfl, hb3⟩
  have HB3 := hid (HB2.out.trans (hb3.mono HB2.out.size))
  have HS3 := hid (HS2.out.below hb3)
  have HC3 := hid (show ∀ j (h : j < X.length), w3.cell? ⟨w.heap.size, 0 + j, none⟩ = some (.string X[j]) from fun j h => cell_below hb3 (HC2.out j h))
  rw [HX.out, H2.out]
  clear hb3
  have hp : X.length - 1 < X.length := by have := HLN.out; omega
  have hx : w3.cell? ⟨w.heap.size, X.length - 1, none⟩ = some (.string X[X.length - 1]) := by have := HC3.out (X.length - 1) hp; rw [Nat.zero_add] at this; exact this
  have HLT := hid (last_get HX.out hp)
  have HLS := hid (HXS.out _ (List.getElem_mem hp))
  have hi1 : ((X.length : Int) - 1) = ((X.length - 1 : Nat) : Int) := by have := HLN.out; omega
  have hi2 : (((X.length - 1 : Nat) : Int) == 0) = false := beq_eq_false_iff_ne.2 (by have := HLN.out; omega)
  generalize hZ : X[X.length - 1] = Z at *
  generalize hN : X.length - 1 = n at *
  go_wp2_with fail
  refine (like_any Z w3 HLS.out).mono ?_
  rintro e w' ⟨rfl, rfl⟩
  rw [HLT.out, HK.out]
  go_wp2_with fail
  refine (suffix_no Z A m w' HLS.out HS3.out (by rw [HLT.out]; exact HO.out)).mono ?_
  rintro e w4 ⟨rfl, hb4⟩
  have HB4 := hid (HB3.out.trans (hb4.mono HB3.out.size))
  clear hb4
  go_wp2_with fail
  go_ret3
  exact ⟨rfl, HB4.out⟩
set_option maxHeartbeats 1000000 in
theorem path_suffix (s : ByteArray) (A : Nat → Addr) (m : Int) (w : World) (hs : s.size < 4294967281) (S : Te w A m) (h1 : badE s.data.toList = false) (h5 : (elems s.data.toList).length ≤ 5) (h2 : (elems s.data.toList).any long = false) (h0 : 1 < (elems s.data.toList).length) (hk : likeB (lastOf s.data.toList) = true) (ho : sufOk (lastOf s.data.toList) = true) :
    Calls Tryz.prog 105 #[.string s] w fun e w' => (∃ H : ByteArray, e = .returned (.tuple #[.string H, .int .i64 (num (restOf (lastOf s.data.toList))).1, .nilIface]) ∧ H.data.toList = Lib.join ((elems s.data.toList).take ((elems s.data.toList).length - 1)) [47]) ∧ Below w.heap.size w w' := by
  have H1 := hid (show ((elems s.data.toList).any fun e => !elemOk e) = false from h1)
  have H2 := hid h2
  have HK := hid hk
  have HO := hid ho
  clear h1 h2 hk ho
  have hmf : ∀ (fn : Fn) (first cap : Array Value) (w : World), (Instr.makeFunc fn first cap).run Tryz.prog w = .ok (.func fn first cap) w := fun _ _ _ _ => rfl
  have HS := hid S
  clear S
  go_enter Tryz.func105, Tryz.ntmps105
  go_wp2_with fail
  refine (split_any 47 s m w hs HS.out.ml).mono ?_
  rintro e w1 ⟨X, rfl, hX, hc, hb, hz⟩
  have HX := hid (show bl X = elems s.data.toList from hX)
  have HC := hid hc
  have HB := hid hb
  have HS1 := hid (HS.out.below hb)
  have hn := many_le hX
  have HXS := hid (show ∀ x, x ∈ X → x.size < 4294967281 from fun x hx => by have := piece_le hX hx; omega)
  have HLN := hid (show X.length = (elems s.data.toList).length by rw [← HX.out, bl_len])
  clear hX hc hb
  go_wp2_with fail
  refine (has1 w.heap.size X.length X m w1 (by omega) HC.out HS1.out.ml HXS.out).mono ?_
  rintro e w2 ⟨rfl, hb2⟩
  have HB2 := hid (HB.out.trans (hb2.mono HB.out.size))
  have HS2 := hid (HS1.out.below hb2)
  have HC2 := hid (show ∀ j (h : j < X.length), w2.cell? ⟨w.heap.size, 0 + j, none⟩ = some (.string X[j]) from fun j h => cell_below hb2 (HC.out j h))
  rw [HX.out, H1.out]
  clear hb2
  have h5b : decide (5 < (X.length : Int)) = false := decide_eq_false (by have := HLN.out; omega)
  go_wp2_with fail
  refine (has2 w.heap.size X.length X w2 (by omega) HC2.out).mono ?_
  rintro e w3 ⟨rfl, hb3⟩
  have HB3 := hid (HB2.out.trans (hb3.mono HB2.out.size))
  have HS3 := hid (HS2.out.below hb3)
  have HC3 := hid (show ∀ j (h : j < X.length), w3.cell? ⟨w.heap.size, 0 + j, none⟩ = some (.string X[j]) from fun j h => cell_below hb3 (HC2.out j h))
  rw [HX.out, H2.out]
  clear hb3
  have HJ := hid (fun W (hW : Below w3.heap.size w3 W) => Tryz.strings_Join w.heap.size 0 X.length (X.take (X.length - 1)) ⟨#[47]⟩ W (fun j x hx => by
      have hj : j < (X.take (X.length - 1)).length := by
        rcases Nat.lt_or_ge j (X.take (X.length - 1)).length with h | h
        · exact h
        · rw [List.getElem?_eq_none h] at hx; cases hx
      have hj2 : j < X.length := by rw [List.length_take] at hj; omega
      have hx2 : X[j] = x := by
        rw [List.getElem?_eq_getElem hj, List.getElem_take] at hx
        exact Option.some.inj hx
      rw [← hx2]
      exact cell_below hW (HC3.out j hj2)) (by
      have h1 := lt_of_cell (HC3.out 0 (by have := HLN.out; omega))
      have h2 := hW.size
      simp at h1; omega) (by rw [List.length_take]; omega) (by rw [List.length_take]; omega) (by
      have := join_take X s.data.toList HX.out (X.length - 1)
      rw [len_eq] at this
      show (Lib.join (bl (X.take (X.length - 1))) [47]).length ≤ _
      omega))
  rw [show (X.take (X.length - 1)).length = X.length - 1 by rw [List.length_take]; omega] at HJ
  have HJT := hid (show Lib.join (bl (X.take (X.length - 1))) [47] = Lib.join ((elems s.data.toList).take ((elems s.data.toList).length - 1)) [47] by
    rw [← HX.out, bl_len]; unfold bl; rw [List.map_take])
  have hp : X.length - 1 < X.length := by have := HLN.out; omega
  have hx : w3.cell? ⟨w.heap.size, X.length - 1, none⟩ = some (.string X[X.length - 1]) := by have := HC3.out (X.length - 1) hp; rw [Nat.zero_add] at this; exact this
  have HLT := hid (last_get HX.out hp)
  have HLS := hid (HXS.out _ (List.getElem_mem hp))
  have hi1 : ((X.length : Int) - 1) = ((X.length - 1 : Nat) : Int) := by have := HLN.out; omega
  have hi2 : (((X.length - 1 : Nat) : Int) == 0) = false := beq_eq_false_iff_ne.2 (by have := HLN.out; omega)
  generalize hZ : X[X.length - 1] = Z at *
  generalize hN : X.length - 1 = n at *
  go_wp2_with fail
  refine (like_any Z w3 HLS.out).mono ?_
  rintro e w' ⟨rfl, rfl⟩
  rw [HLT.out, HK.out]
  go_wp2_with fail
  refine (suffix_yes Z A m w' HLS.out HS3.out (by rw [HLT.out]; exact HO.out)).mono ?_
  rintro e w4 ⟨rfl, hb4⟩
  have HB4 := hid (HB3.out.trans (hb4.mono HB3.out.size))
  have HB34 := hid hb4
  rw [HLT.out]
  clear hb4
  go_wp2_with fail
  refine (HJ.out _ HB34.out).mono ?_
  rintro e w5 ⟨rfl, hb5⟩
  have HB5 := hid (HB4.out.trans (hb5.mono HB4.out.size))
  clear hb5
  go_wp2_with fail
  go_ret3
  exact ⟨⟨_, rfl, by have := HJT.out; unfold bl at this; rw [List.map_take] at this; exact this⟩, HB5.out⟩
def PathP (A : Nat → Addr) (l : List UInt8) (w w' : World) (e : Ending) : Prop :=
  (∃ (H : ByteArray) (n : Int) (v : Value), e = .returned (.tuple #[.string H, .int .i64 n, v]) ∧ v = errA A (pathErr l) ∧ (pathErr l = 0 → H.data.toList = pathH l ∧ n = pathN l) ∧ (pathErr l ≠ 0 → H = ⟨#[]⟩ ∧ n = 0)) ∧ Below w.heap.size w w'
theorem readPath_any (s : ByteArray) (A : Nat → Addr) (m : Int) (w : World) (hs : s.size < 4294967281) (S : Te w A m) : Calls Tryz.prog 105 #[.string s] w fun e w' => PathP A s.data.toList w w' e := by
  have hp := elems_pos s.data.toList
  cases h1 : badE s.data.toList
  · by_cases h5 : 5 < (elems s.data.toList).length
    · have he : pathErr s.data.toList = 2 := by unfold pathErr longE; rw [h1, decide_eq_true h5]; rfl
      exact (path_many s A m w hs S h1 h5).mono fun e w' h => ⟨⟨_, _, _, h.1, by rw [he]; rfl, (fun h => by rw [he] at h; cases h), fun _ => ⟨rfl, rfl⟩⟩, h.2⟩
    · have d5 := decide_eq_false h5
      cases h2 : (elems s.data.toList).any long
      · have hl : longE s.data.toList = false := by unfold longE; rw [d5, h2]; rfl
        by_cases h0 : 1 < (elems s.data.toList).length
        · cases hk : likeB (lastOf s.data.toList)
          · have hu : sufE s.data.toList = false := by unfold sufE; rw [hk]; simp
            have he : pathErr s.data.toList = 0 := by unfold pathErr; rw [h1, hl, hu]; rfl
            exact (path_unlike s A m w hs S h1 (by omega) h2 h0 hk).mono fun e w' h => ⟨⟨_, _, _, h.1, by rw [he]; rfl, fun _ => ⟨by unfold pathH; rw [hu]; rfl, by unfold pathN; rw [hu]; rfl⟩, fun h => absurd he h⟩, h.2⟩
          · have hu : sufE s.data.toList = true := by unfold sufE; rw [hk, decide_eq_true h0]; rfl
            cases ho : sufOk (lastOf s.data.toList)
            · have he : pathErr s.data.toList = 4 := by unfold pathErr; rw [h1, hl, hu, ho]; rfl
              exact (path_major s A m w hs S h1 (by omega) h2 h0 hk ho).mono fun e w' h => ⟨⟨_, _, _, h.1, by rw [he]; rfl, (fun h => by rw [he] at h; cases h), fun _ => ⟨rfl, rfl⟩⟩, h.2⟩
            · have he : pathErr s.data.toList = 0 := by unfold pathErr; rw [h1, hl, hu, ho]; rfl
              exact (path_suffix s A m w hs S h1 (by omega) h2 h0 hk ho).mono fun e w' ⟨⟨H, e1, e2⟩, hb⟩ => ⟨⟨H, _, _, e1, by rw [he]; rfl, fun _ => ⟨by unfold pathH; rw [hu]; exact e2, by unfold pathN; rw [hu]; rfl⟩, fun h => absurd he h⟩, hb⟩
        · have hu : sufE s.data.toList = false := by unfold sufE; rw [decide_eq_false h0]; rfl
          have he : pathErr s.data.toList = 0 := by unfold pathErr; rw [h1, hl, hu]; rfl
          exact (path_one s A m w hs S h1 h2 (by omega)).mono fun e w' h => ⟨⟨_, _, _, h.1, by rw [he]; rfl, fun _ => ⟨by unfold pathH; rw [hu]; rfl, by unfold pathN; rw [hu]; rfl⟩, fun h => absurd he h⟩, h.2⟩
      · have he : pathErr s.data.toList = 2 := by unfold pathErr longE; rw [h1, h2]; simp
        exact (path_long s A m w hs S h1 (by omega) h2).mono fun e w' h => ⟨⟨_, _, _, h.1, by rw [he]; rfl, (fun h => by rw [he] at h; cases h), fun _ => ⟨rfl, rfl⟩⟩, h.2⟩
  · have he : pathErr s.data.toList = 1 := by unfold pathErr; rw [h1]; rfl
    exact (path_bad s A m w hs S h1).mono fun e w' h => ⟨⟨_, _, _, h.1, by rw [he]; rfl, (fun h => by rw [he] at h; cases h), fun _ => ⟨rfl, rfl⟩⟩, h.2⟩
end Ve
end Go.Proofs.YtpafkniapacfdaaGreatDoor


namespace Go.Proofs.YtpafkniapacfdaaGreatDoor
open Go.RowKit
namespace Ve
def lessB (s t : List UInt8) : Bool := decide (verErr s = 0) && (decide (verErr t = 0) && decide (ordV s t < 0))
set_option maxHeartbeats 1000000 in
theorem less_11 (k : Int) (x y z x' y' z' : Int) (X Y : List ByteArray) (s t : ByteArray) (aT aB : Addr) (m : Int) (w : World) (S : Vs w aT aB m)
    (hA : Calls Tryz.prog 106 #[.string s] w fun e w' => GoodP w w' e x y z X) (hT : ∀ W, Vs W aT aB m → Calls Tryz.prog 106 #[.string t] W fun e w' => GoodP W w' e x' y' z' Y)
    (hC : ∀ W va vb, StrsAt W va X → StrsAt W vb Y → Calls Tryz.prog 150 #[.agg #[.int .i64 x, .int .i64 y, .int .i64 z, va], .agg #[.int .i64 x', .int .i64 y', .int .i64 z', vb]] W fun e w' => e = .returned (.int .i64 k) ∧ Below W.heap.size W w') :
    Calls Tryz.prog 108 #[.string s, .string t] w fun e w' => e = .returned (.bool (decide (k < 0))) ∧ Below w.heap.size w w' := by
  have HC := hid hC
  clear hC
  have HA := hid hA
  have HT := hid hT
  have HS := hid S
  clear hA hT S
  go_enter Tryz.func108, Tryz.ntmps108
  go_wp2_with fail
  refine HA.out.mono ?_
  rintro e w1 ⟨v, rfl, hst, hb1⟩
  obtain ⟨pa, na, ca, rfl⟩ := hst.slice
  have HST := hid hst
  clear hst
  have HB1 := hid hb1
  have HB2 := hid ((Below.refl w1.heap.size w1).alloc (Nat.le_refl _) (.cells #[.int .i64 x, .int .i64 y, .int .i64 z, .slice pa na ca] 162))
  have HS1 := hid ((HS.out.below hb1).below HB2.out)
  clear hb1
  go_wp2_with fail
  refine (HT.out _ HS1.out).mono ?_
  rintro e w2 ⟨v, rfl, hst, hb2⟩
  obtain ⟨pb, nb, cb, rfl⟩ := hst.slice
  have HTT := hid hst
  clear hst
  obtain ⟨⟨r0, r1, r2, r3⟩, rf, rz⟩ := res4 (hb2.mono (by simp))
  have HB12 := hid (HB2.out.trans (hb2.mono (by simp)))
  have HB3 := hid (HB1.out.trans (HB12.out.mono HB1.out.size))
  have HBA := hid ((Below.refl w2.heap.size w2).alloc (Nat.le_refl _) (.cells #[.int .i64 x', .int .i64 y', .int .i64 z', .slice pb nb cb] 162))
  have HB4 := hid (HB3.out.trans (HBA.out.mono HB3.out.size))
  clear hb2
  have HSA := hid ((HST.out.below HB12.out).below HBA.out)
  have HSB := hid (HTT.out.below HBA.out)
  go_wp2_with fail
  refine (HC.out _ _ _ HSA.out HSB.out).mono ?_
  rintro e w3 ⟨rfl, hb3⟩
  have HB5 := hid (HB4.out.trans (hb3.mono HB4.out.size))
  clear hb3
  go_wp2_with fail
  go_ret
  exact ⟨rfl, HB5.out⟩
set_option maxHeartbeats 1000000 in
theorem less_10 (x y z : Int) (X : List ByteArray) (s t : ByteArray) (aT aB : Addr) (m : Int) (w : World) (S : Vs w aT aB m)
    (hA : Calls Tryz.prog 106 #[.string s] w fun e w' => GoodP w w' e x y z X) (hT : ∀ W, Vs W aT aB m → Calls Tryz.prog 106 #[.string t] W fun e w' => BadP W w' e) :
    Calls Tryz.prog 108 #[.string s, .string t] w fun e w' => e = .returned (.bool false) ∧ Below w.heap.size w w' := by
  have HA := hid hA
  have HT := hid hT
  have HS := hid S
  clear hA hT S
  go_enter Tryz.func108, Tryz.ntmps108
  go_wp2_with fail
  refine HA.out.mono ?_
  rintro e w1 ⟨v, rfl, hst, hb1⟩
  obtain ⟨pa, na, ca, rfl⟩ := hst.slice
  have HST := hid hst
  clear hst
  have HB1 := hid hb1
  have HB2 := hid ((Below.refl w1.heap.size w1).alloc (Nat.le_refl _) (.cells #[.int .i64 x, .int .i64 y, .int .i64 z, .slice pa na ca] 162))
  have HS1 := hid ((HS.out.below hb1).below HB2.out)
  clear hb1
  go_wp2_with fail
  refine (HT.out _ HS1.out).mono ?_
  rintro e w2 ⟨a2, rfl, hb2⟩
  obtain ⟨⟨r0, r1, r2, r3⟩, rf, rz⟩ := res4 (hb2.mono (by simp))
  have HB12 := hid (HB2.out.trans (hb2.mono (by simp)))
  have HB3 := hid (HB1.out.trans (HB12.out.mono HB1.out.size))
  have HBA := hid ((Below.refl w2.heap.size w2).alloc (Nat.le_refl _) (.cells #[.int .i64 0, .int .i64 0, .int .i64 0, .slice none 0 0] 162))
  have HB4 := hid (HB3.out.trans (HBA.out.mono HB3.out.size))
  clear hb2
  go_wp2_with fail
  go_ret
  exact ⟨rfl, HB4.out⟩
set_option maxHeartbeats 1000000 in
theorem less_01 (x' y' z' : Int) (Y : List ByteArray) (s t : ByteArray) (aT aB : Addr) (m : Int) (w : World) (S : Vs w aT aB m)
    (hA : Calls Tryz.prog 106 #[.string s] w fun e w' => BadP w w' e) (hT : ∀ W, Vs W aT aB m → Calls Tryz.prog 106 #[.string t] W fun e w' => GoodP W w' e x' y' z' Y) :
    Calls Tryz.prog 108 #[.string s, .string t] w fun e w' => e = .returned (.bool false) ∧ Below w.heap.size w w' := by
  have HA := hid hA
  have HT := hid hT
  have HS := hid S
  clear hA hT S
  go_enter Tryz.func108, Tryz.ntmps108
  go_wp2_with fail
  refine HA.out.mono ?_
  rintro e w1 ⟨a1, rfl, hb1⟩
  have HB1 := hid hb1
  have HB2 := hid ((Below.refl w1.heap.size w1).alloc (Nat.le_refl _) (.cells #[.int .i64 0, .int .i64 0, .int .i64 0, .slice none 0 0] 162))
  have HS1 := hid ((HS.out.below hb1).below HB2.out)
  clear hb1
  go_wp2_with fail
  refine (HT.out _ HS1.out).mono ?_
  rintro e w2 ⟨v, rfl, hst, hb2⟩
  obtain ⟨pb, nb, cb, rfl⟩ := hst.slice
  have HTT := hid hst
  clear hst
  obtain ⟨⟨r0, r1, r2, r3⟩, rf, rz⟩ := res4 (hb2.mono (by simp))
  have HB12 := hid (HB2.out.trans (hb2.mono (by simp)))
  have HB3 := hid (HB1.out.trans (HB12.out.mono HB1.out.size))
  have HBA := hid ((Below.refl w2.heap.size w2).alloc (Nat.le_refl _) (.cells #[.int .i64 x', .int .i64 y', .int .i64 z', .slice pb nb cb] 162))
  have HB4 := hid (HB3.out.trans (HBA.out.mono HB3.out.size))
  clear hb2
  go_wp2_with fail
  go_ret
  exact ⟨rfl, HB4.out⟩
set_option maxHeartbeats 1000000 in
theorem less_00 (s t : ByteArray) (aT aB : Addr) (m : Int) (w : World) (S : Vs w aT aB m)
    (hA : Calls Tryz.prog 106 #[.string s] w fun e w' => BadP w w' e) (hT : ∀ W, Vs W aT aB m → Calls Tryz.prog 106 #[.string t] W fun e w' => BadP W w' e) :
    Calls Tryz.prog 108 #[.string s, .string t] w fun e w' => e = .returned (.bool false) ∧ Below w.heap.size w w' := by
  have HA := hid hA
  have HT := hid hT
  have HS := hid S
  clear hA hT S
  go_enter Tryz.func108, Tryz.ntmps108
  go_wp2_with fail
  refine HA.out.mono ?_
  rintro e w1 ⟨a1, rfl, hb1⟩
  have HB1 := hid hb1
  have HB2 := hid ((Below.refl w1.heap.size w1).alloc (Nat.le_refl _) (.cells #[.int .i64 0, .int .i64 0, .int .i64 0, .slice none 0 0] 162))
  have HS1 := hid ((HS.out.below hb1).below HB2.out)
  clear hb1
  go_wp2_with fail
  refine (HT.out _ HS1.out).mono ?_
  rintro e w2 ⟨a2, rfl, hb2⟩
  obtain ⟨⟨r0, r1, r2, r3⟩, rf, rz⟩ := res4 (hb2.mono (by simp))
  have HB12 := hid (HB2.out.trans (hb2.mono (by simp)))
  have HB3 := hid (HB1.out.trans (HB12.out.mono HB1.out.size))
  have HBA := hid ((Below.refl w2.heap.size w2).alloc (Nat.le_refl _) (.cells #[.int .i64 0, .int .i64 0, .int .i64 0, .slice none 0 0] 162))
  have HB4 := hid (HB3.out.trans (HBA.out.mono HB3.out.size))
  clear hb2
  go_wp2_with fail
  go_ret
  exact ⟨rfl, HB4.out⟩
theorem pre_bounds {s : ByteArray} {X : List ByteArray} (hs : s.size < 999999) (hX : bl X = preOf s.data.toList) : X.length ≤ 1000000 ∧ ∀ x, x ∈ X → x.size ≤ maxLen := by
  constructor
  · have := pre_len (l := s.data.toList); rw [← hX, bl_len, len_eq] at this; omega
  · intro x hx
    have hm : x.data.toList ∈ preOf s.data.toList := hX ▸ bl_mem hx
    have := pre_size hm
    rw [len_eq, len_eq] at this
    unfold maxLen; omega
theorem less_any (s t : ByteArray) (aT aB : Addr) (m : Int) (w : World) (hs : s.size < 999999) (ht : t.size < 999999) (S : Vs w aT aB m) :
    Calls Tryz.prog 108 #[.string s, .string t] w fun e w' => e = .returned (.bool (lessB s.data.toList t.data.toList)) ∧ Below w.heap.size w w' := by
  obtain ⟨X, hX⟩ : ∃ X, bl X = preOf s.data.toList := ⟨_, bl_strs _⟩
  obtain ⟨Y, hY⟩ : ∃ X, bl X = preOf t.data.toList := ⟨_, bl_strs _⟩
  obtain ⟨lX, pX⟩ := pre_bounds hs hX
  obtain ⟨lY, pY⟩ := pre_bounds ht hY
  unfold lessB
  by_cases h1 : verErr s.data.toList = 0
  all_goals by_cases h2 : verErr t.data.toList = 0
  · rw [decide_eq_true h1, decide_eq_true h2]
    refine (less_11 (ordV s.data.toList t.data.toList) _ _ _ _ _ _ X Y s t aT aB m w S (vsplit_is s aT aB m w (by omega) S h1 X hX) (fun W SW => vsplit_is t aT aB m W (by omega) SW h2 Y hY) ?_).mono fun e w' h => h
    intro W va vb ha hb
    unfold ordV
    rw [← hX, ← hY]
    exact compare_any _ _ _ _ _ _ va vb X Y W lX lY pX pY ha hb
  · rw [decide_eq_true h1, decide_eq_false h2]
    exact less_10 _ _ _ X s t aT aB m w S (vsplit_is s aT aB m w (by omega) S h1 X hX) (fun W SW => vsplit_not t aT aB m W (by omega) SW h2)
  · rw [decide_eq_false h1]
    exact less_01 _ _ _ Y s t aT aB m w S (vsplit_not s aT aB m w (by omega) S h1) (fun W SW => vsplit_is t aT aB m W (by omega) SW h2 Y hY)
  · rw [decide_eq_false h1]
    exact less_00 s t aT aB m w S (vsplit_not s aT aB m w (by omega) S h1) (fun W SW => vsplit_not t aT aB m W (by omega) SW h2)
end Ve
end Go.Proofs.YtpafkniapacfdaaGreatDoor


namespace Go.Proofs.YtpafkniapacfdaaGreatDoor
namespace Ve
theorem ordPart_swap (a b : List UInt8) : ordPart b a = -ordPart a b := by
  unfold ordPart
  cases h1 : digs a <;> cases h2 : digs b
  · simp only [Bool.false_eq_true, if_false]; exact cb_swap a b
  · simp
  · simp
  · simp only [if_true]; exact fst_swap (ci_swap _ _) (cb_swap _ _)
theorem ordPart_zero (a b : List UInt8) : ordPart a b = 0 ↔ a = b := by
  unfold ordPart
  cases h1 : digs a <;> cases h2 : digs b
  · simp only [Bool.false_eq_true, if_false]; exact cb_zero a b
  · simp only [Bool.false_eq_true, if_false, if_true]
    constructor
    · intro h; cases h
    · intro h; subst h; rw [h1] at h2; cases h2
  · simp only [Bool.false_eq_true, if_false, if_true]
    constructor
    · intro h; cases h
    · intro h; subst h; rw [h1] at h2; cases h2
  · simp only [if_true]
    rw [fst_zero, cb_zero]
    constructor
    · intro h; exact h.2
    · intro h; subst h; exact ⟨ci_self _, rfl⟩
theorem ordPs_swap : ∀ (a b : List (List UInt8)), ordPs b a = -ordPs a b
  | [], [] => rfl
  | [], _ :: _ => rfl
  | _ :: _, [] => rfl
  | x :: xs, y :: ys => fst_swap (ordPart_swap x y) (ordPs_swap xs ys)
theorem ordPs_zero : ∀ (a b : List (List UInt8)), ordPs a b = 0 ↔ a = b
  | [], [] => by simp [ordPs]
  | [], _ :: _ => by simp [ordPs]
  | _ :: _, [] => by simp [ordPs]
  | x :: xs, y :: ys => by
    unfold ordPs
    rw [fst_zero, ordPart_zero, ordPs_zero xs ys]
    simp
theorem ordPre_swap (a b : List (List UInt8)) : ordPre b a = -ordPre a b := by
  unfold ordPre
  by_cases h : a = [] ∨ b = []
  · rw [if_pos h, if_pos h.symm]; exact ci_swap _ _
  · rw [if_neg h, if_neg (fun k => h k.symm)]; exact ordPs_swap a b
theorem ordPre_zero (a b : List (List UInt8)) : ordPre a b = 0 ↔ a = b := by
  unfold ordPre
  by_cases h : a = [] ∨ b = []
  · rw [if_pos h, ci_zero]
    constructor
    · intro e
      rcases h with h | h
      · subst h; simp at e; exact e.symm
      · subst h; simp at e; exact List.length_eq_zero_iff.1 (by omega)
    · intro e; subst e; rfl
  · rw [if_neg h]; exact ordPs_zero a b
theorem ordV_swap (s t : List UInt8) : ordV t s = -ordV s t :=
  fst_swap (ci_swap _ _) (fst_swap (ci_swap _ _) (fst_swap (ci_swap _ _) (ordPre_swap _ _)))
theorem ordV_zero {s t : List UInt8} (hs : verErr s = 0) (ht : verErr t = 0) : ordV s t = 0 ↔ s = t := by
  unfold ordV ordN
  rw [fst_zero, fst_zero, fst_zero, ci_zero, ci_zero, ci_zero, ordPre_zero]
  constructor
  · rintro ⟨h0, h1, h2, h3⟩
    rw [← text_back s hs, ← text_back t ht, h0, h1, h2, h3]
  · intro h; subst h; exact ⟨rfl, rfl, rfl, rfl⟩
end Ve
end Go.Proofs.YtpafkniapacfdaaGreatDoor
