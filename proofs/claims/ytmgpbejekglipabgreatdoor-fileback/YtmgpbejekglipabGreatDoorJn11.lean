/-
  What slices.CompareFunc answers with comparePart, and comparePre and compare of package ver: the order on pres and on versions; nothing old in memory turns.
-/
import Derived.Test.YtmgpbejekglipabGreatDoorJn10
import Derived.Test.YtmgpbejekglipabGreatDoorJn9
import Derived.Test.YtmgpbejekglipabGreatDoorJn2
namespace Go.Proofs.YtmgpbejekglipabGreatDoor
open Go.RowKit
namespace Ve

theorem ordPs_step (X Y : List ByteArray) (k : Nat) (h1 : k < X.length) (h2 : k < Y.length) :
    ordPs (bl (X.drop k)) (bl (Y.drop k)) = fst (ordPart X[k].data.toList Y[k].data.toList) (ordPs (bl (X.drop (k + 1))) (bl (Y.drop (k + 1)))) := by
  rw [List.drop_eq_getElem_cons h1, List.drop_eq_getElem_cons h2]; rfl
theorem ordPs_long (X Y : List ByteArray) (k : Nat) (h1 : k < X.length) (h2 : k = Y.length) : ordPs (bl (X.drop k)) (bl (Y.drop k)) = 1 := by
  rw [List.drop_eq_getElem_cons h1, List.drop_eq_nil_of_le (show Y.length ≤ k by omega)]; rfl
theorem ordPs_short (X Y : List ByteArray) (k : Nat) (h1 : k = X.length) (h2 : k < Y.length) : ordPs (bl (X.drop k)) (bl (Y.drop k)) = -1 := by
  rw [List.drop_eq_nil_of_le (show X.length ≤ k by omega), List.drop_eq_getElem_cons h2]; rfl
theorem ordPs_end (X Y : List ByteArray) (k : Nat) (h1 : k = X.length) (h2 : k = Y.length) : ordPs (bl (X.drop k)) (bl (Y.drop k)) = 0 := by
  rw [List.drop_eq_nil_of_le (show X.length ≤ k by omega), List.drop_eq_nil_of_le (show Y.length ≤ k by omega)]; rfl

set_option maxHeartbeats 2000000 in
theorem cfunc_any (b0 b1 c0 c1 : Nat) (X Y : List ByteArray) (w : World) (hX : X.length ≤ 1000000) (hXs : ∀ x, x ∈ X → x.size ≤ maxLen) (hYs : ∀ x, x ∈ Y → x.size ≤ maxLen)
    (hc0 : ∀ j (h : j < X.length), w.cell? ⟨b0, 0 + j, none⟩ = some (.string X[j])) (hc1 : ∀ j (h : j < Y.length), w.cell? ⟨b1, 0 + j, none⟩ = some (.string Y[j])) :
    Calls Tryz.prog 177 #[.slice (some ⟨b0, 0, none⟩) X.length c0, .slice (some ⟨b1, 0, none⟩) Y.length c1, .func (.func 178) #[] #[]] w fun e w' => e = .returned (.int .i64 (ordPs (bl X) (bl Y))) ∧ Bw w.heap.size w w' := by
  have HXS := hid hXs
  have HYS := hid hYs
  have HC0 := hid hc0
  have HC1 := hid hc1
  clear hXs hYs hc0 hc1
  go_enter Tryz.func177, Tryz.ntmps177
  go_wp2_with fail
  go_loopw [13] (fun i wr => ∃ k : Nat, k ≤ X.length ∧ k ≤ Y.length ∧ i = .int .i64 k ∧ Hid (ordPs (bl X) (bl Y) = ordPs (bl (X.drop k)) (bl (Y.drop k))) ∧ Hid (Bw w.heap.size w wr)) (fun i _ => X.length - (intOf i).toNat)
  case atStart => exact ⟨0, Nat.zero_le _, Nat.zero_le _, rfl, hid rfl, hid (Bw.refl _ _)⟩
  case round =>
    obtain ⟨k, hk, hk2, rfl, HO, HB⟩ := hrel
    by_cases hlt : k < X.length
    · by_cases hlt2 : k < Y.length
      · have hx : wr.cell? ⟨b0, k, none⟩ = some (.string X[k]) := by
          have := HC0.out k hlt
          rw [Nat.zero_add] at this
          exact cell_below HB.out.be this
        have hy : wr.cell? ⟨b1, k, none⟩ = some (.string Y[k]) := by
          have := HC1.out k hlt2
          rw [Nat.zero_add] at this
          exact cell_below HB.out.be this
        have HP := hid (cpart_bw X[k] Y[k] wr (HXS.out _ (List.getElem_mem hlt)) (HYS.out _ (List.getElem_mem hlt2)))
        have HN := hid (HO.out.trans (ordPs_step X Y k hlt hlt2))
        generalize hq : ordPart X[k].data.toList Y[k].data.toList = q at *
        clear hq HO
        by_cases hz : q = 0
        · subst hz
          go_wp2_with fail
          refine HP.out.mono ?_
          rintro e w1 ⟨rfl, hb1⟩
          have HB1 := hid (HB.out.trans (hb1.mono HB.out.size))
          clear hb1
          go_wp2_with fail
          go_roundw
          case rel => exact ⟨k + 1, by omega, by omega, by go_num, hid (HN.out.trans (fst0 _)), HB1⟩
          case measure => simp [intOf]; omega
        · have hqb : (q == 0) = false := beq_eq_false_iff_ne.2 hz
          have HF := hid (HN.out.trans (fst_ne _ hz))
          clear hz
          go_wp2_with fail
          refine HP.out.mono ?_
          rintro e w1 ⟨rfl, hb1⟩
          have HB1 := hid (HB.out.trans (hb1.mono HB.out.size))
          clear hb1
          go_wp2_with fail
          go_ret
          exact ⟨ret_int HF.out.symm, HB1.out⟩
      · have hx : wr.cell? ⟨b0, k, none⟩ = some (.string X[k]) := by
          have := HC0.out k hlt
          rw [Nat.zero_add] at this
          exact cell_below HB.out.be this
        have HF := hid (HO.out.trans (ordPs_long X Y k hlt (by omega)))
        clear HO
        go_wp2_with fail
        go_ret
        exact ⟨ret_int HF.out.symm, HB.out⟩
    · by_cases hlt2 : X.length < Y.length
      · have HF := hid (HO.out.trans (ordPs_short X Y k (by omega) (by omega)))
        clear HO
        go_wp2_with fail
        go_ret
        exact ⟨ret_int HF.out.symm, HB.out⟩
      · have HF := hid (HO.out.trans (ordPs_end X Y k (by omega) (by omega)))
        clear HO
        go_wp2_with fail
        go_ret
        exact ⟨ret_int HF.out.symm, HB.out⟩

theorem bl_nil {X : List ByteArray} : bl X = [] ↔ X = [] := by
  constructor
  · intro h; exact List.length_eq_zero_iff.1 (by rw [← bl_len, h]; rfl)
  · intro h; rw [h]; rfl

set_option maxHeartbeats 1000000 in
theorem cpre_any (va vb : Value) (X Y : List ByteArray) (w : World) (hX : X.length ≤ 1000000) (hY : Y.length ≤ 1000000) (hXs : ∀ x, x ∈ X → x.size ≤ maxLen) (hYs : ∀ x, x ∈ Y → x.size ≤ maxLen) (ha : StrsAt w va X) (hb : StrsAt w vb Y) :
    Calls Tryz.prog 134 #[va, vb] w fun e w' => e = .returned (.int .i64 (ordPre (bl X) (bl Y))) ∧ Bw w.heap.size w w' := by
  rcases ha with ⟨rfl, rfl⟩ | ⟨hXn, b0, rfl, hb0, hc0⟩
  · obtain ⟨p, c, rfl⟩ : ∃ p c, vb = .slice p Y.length c := by
      rcases hb with ⟨rfl, rfl⟩ | ⟨_, b, rfl, _⟩
      · exact ⟨none, 0, rfl⟩
      · exact ⟨_, _, rfl⟩
    have HO := hid (show ordPre (bl []) (bl Y) = Lib.compareInt (Y.length : Int) 0 by unfold ordPre; rw [if_pos (show bl [] = [] ∨ bl Y = [] from Or.inl rfl), bl_len]; rfl)
    have HC := hid (Tryz.cmp_Compare_int (Y.length : Int) 0 w)
    clear hb hXs hYs
    go_enter Tryz.func134, Tryz.ntmps134
    go_wp2_with fail
    refine HC.out.mono ?_
    rintro e w' ⟨rfl, rfl⟩
    go_wp2_with fail
    go_ret
    exact ⟨ret_int HO.out.symm, Bw.refl _ _⟩
  · have hl : 0 < X.length := List.length_pos_iff.2 hXn
    have h0 : ((X.length : Int) == 0) = false := beq_eq_false_iff_ne.2 (by omega)
    rcases hb with ⟨rfl, rfl⟩ | ⟨hYn, b1, rfl, hb1, hc1⟩
    · have HO := hid (show ordPre (bl X) (bl []) = Lib.compareInt 0 (X.length : Int) by unfold ordPre; rw [if_pos (show bl X = [] ∨ bl [] = [] from Or.inr rfl), bl_len X]; rfl)
      have HC := hid (Tryz.cmp_Compare_int 0 (X.length : Int) w)
      clear hXs hYs hc0
      go_enter Tryz.func134, Tryz.ntmps134
      go_wp2_with fail
      refine HC.out.mono ?_
      rintro e w' ⟨rfl, rfl⟩
      go_wp2_with fail
      go_ret
      exact ⟨ret_int HO.out.symm, Bw.refl _ _⟩
    · have hl2 : 0 < Y.length := List.length_pos_iff.2 hYn
      have h02 : ((Y.length : Int) == 0) = false := beq_eq_false_iff_ne.2 (by omega)
      have HO := hid (show ordPre (bl X) (bl Y) = ordPs (bl X) (bl Y) by unfold ordPre; rw [if_neg]; rintro (h | h); exact hXn (bl_nil.1 h); exact hYn (bl_nil.1 h))
      have HC := hid (cfunc_any b0 b1 X.length Y.length X Y w hX hXs hYs hc0 hc1)
      clear hXs hYs hc0 hc1
      go_enter Tryz.func134, Tryz.ntmps134
      go_wp2_with fail
      refine HC.out.mono ?_
      rintro e w' ⟨rfl, hb⟩
      have HB := hid hb
      clear hb
      go_wp2_with fail
      go_ret
      exact ⟨ret_int HO.out.symm, HB.out⟩

theorem d1_any (x y : Int) (A B : Nat) (w : World) (a0 : w.cell? ⟨A, 0, none⟩ = some (.int .i64 x)) (b0 : w.cell? ⟨B, 0, none⟩ = some (.int .i64 y)) :
    Calls Tryz.prog 129 #[.pointer (some ⟨A, 0, none⟩), .pointer (some ⟨B, 0, none⟩)] w fun e w' => e = .returned (.int .i64 (Lib.compareInt x y)) ∧ w' = w := by
  have HC := hid (Tryz.cmp_Compare_int x y w)
  go_enter Tryz.func129, Tryz.ntmps129
  go_wp2_with fail
  refine HC.out.mono ?_
  rintro e w' ⟨rfl, rfl⟩
  go_wp2_with fail
  go_ret
  exact ⟨rfl, rfl⟩
theorem d2_any (x y : Int) (A B : Nat) (w : World) (a0 : w.cell? ⟨A, 1, none⟩ = some (.int .i64 x)) (b0 : w.cell? ⟨B, 1, none⟩ = some (.int .i64 y)) :
    Calls Tryz.prog 131 #[.pointer (some ⟨A, 0, none⟩), .pointer (some ⟨B, 0, none⟩)] w fun e w' => e = .returned (.int .i64 (Lib.compareInt x y)) ∧ w' = w := by
  have HC := hid (Tryz.cmp_Compare_int x y w)
  go_enter Tryz.func131, Tryz.ntmps131
  go_wp2_with fail
  refine HC.out.mono ?_
  rintro e w' ⟨rfl, rfl⟩
  go_wp2_with fail
  go_ret
  exact ⟨rfl, rfl⟩
theorem d3_any (x y : Int) (A B : Nat) (w : World) (a0 : w.cell? ⟨A, 2, none⟩ = some (.int .i64 x)) (b0 : w.cell? ⟨B, 2, none⟩ = some (.int .i64 y)) :
    Calls Tryz.prog 132 #[.pointer (some ⟨A, 0, none⟩), .pointer (some ⟨B, 0, none⟩)] w fun e w' => e = .returned (.int .i64 (Lib.compareInt x y)) ∧ w' = w := by
  have HC := hid (Tryz.cmp_Compare_int x y w)
  go_enter Tryz.func132, Tryz.ntmps132
  go_wp2_with fail
  refine HC.out.mono ?_
  rintro e w' ⟨rfl, rfl⟩
  go_wp2_with fail
  go_ret
  exact ⟨rfl, rfl⟩
theorem d4_any (va vb : Value) (k : Int) (A B : Nat) (w : World) (a0 : w.cell? ⟨A, 3, none⟩ = some va) (b0 : w.cell? ⟨B, 3, none⟩ = some vb)
    (h : Calls Tryz.prog 134 #[va, vb] w fun e w' => e = .returned (.int .i64 k) ∧ Bw w.heap.size w w') :
    Calls Tryz.prog 133 #[.pointer (some ⟨A, 0, none⟩), .pointer (some ⟨B, 0, none⟩)] w fun e w' => e = .returned (.int .i64 k) ∧ Bw w.heap.size w w' := by
  have HC := hid h
  clear h
  go_enter Tryz.func133, Tryz.ntmps133
  go_wp2_with fail
  refine HC.out.mono ?_
  rintro e w' ⟨rfl, hb⟩
  have HB := hid hb
  clear hb
  go_wp2_with fail
  go_ret
  exact ⟨rfl, HB.out⟩

set_option maxHeartbeats 2000000 in
theorem first_four (k1 k2 k3 k4 : Int) (A B F : Nat) (w : World)
    (h1 : Calls Tryz.prog 129 #[.pointer (some ⟨A, 0, none⟩), .pointer (some ⟨B, 0, none⟩)] w fun e w' => e = .returned (.int .i64 k1) ∧ w' = w)
    (h2 : Calls Tryz.prog 131 #[.pointer (some ⟨A, 0, none⟩), .pointer (some ⟨B, 0, none⟩)] w fun e w' => e = .returned (.int .i64 k2) ∧ w' = w)
    (h3 : Calls Tryz.prog 132 #[.pointer (some ⟨A, 0, none⟩), .pointer (some ⟨B, 0, none⟩)] w fun e w' => e = .returned (.int .i64 k3) ∧ w' = w)
    (h4 : Calls Tryz.prog 133 #[.pointer (some ⟨A, 0, none⟩), .pointer (some ⟨B, 0, none⟩)] w fun e w' => e = .returned (.int .i64 k4) ∧ Bw w.heap.size w w')
    (f0 : w.cell? ⟨F, 0, none⟩ = some (.func (.func 129) #[] #[.pointer (some ⟨A, 0, none⟩), .pointer (some ⟨B, 0, none⟩)])) (f1 : w.cell? ⟨F, 1, none⟩ = some (.func (.func 131) #[] #[.pointer (some ⟨A, 0, none⟩), .pointer (some ⟨B, 0, none⟩)]))
    (f2 : w.cell? ⟨F, 2, none⟩ = some (.func (.func 132) #[] #[.pointer (some ⟨A, 0, none⟩), .pointer (some ⟨B, 0, none⟩)])) (f3 : w.cell? ⟨F, 3, none⟩ = some (.func (.func 133) #[] #[.pointer (some ⟨A, 0, none⟩), .pointer (some ⟨B, 0, none⟩)])) :
    Calls Tryz.prog 128 #[.slice (some ⟨F, 0, none⟩) 4 4] w fun e w' => e = .returned (.int .i64 (fst k1 (fst k2 (fst k3 k4)))) ∧ Bw w.heap.size w w' := by
  have HX := hid h1
  have HY := hid h2
  have HZ := hid h3
  have HP := hid h4
  clear h1 h2 h3 h4
  by_cases z1 : k1 = 0
  · subst z1
    by_cases z2 : k2 = 0
    · subst z2
      by_cases z3 : k3 = 0
      · subst z3
        by_cases z4 : k4 = 0
        · subst z4
          go_enter Tryz.func128, Tryz.ntmps128
          go_wp2_with fail
          refine wp_loop_rounds 5 ?_
          rw [rounds_succ]
          go_wp2_with fail
          refine HX.out.mono ?_
          rintro e w' ⟨rfl, rfl⟩
          go_wp2_with fail
          rw [rounds_succ]
          go_wp2_with fail
          refine HY.out.mono ?_
          rintro e w' ⟨rfl, rfl⟩
          go_wp2_with fail
          rw [rounds_succ]
          go_wp2_with fail
          refine HZ.out.mono ?_
          rintro e w' ⟨rfl, rfl⟩
          go_wp2_with fail
          rw [rounds_succ]
          go_wp2_with fail
          refine HP.out.mono ?_
          rintro e w1 ⟨rfl, hb⟩
          have HB := hid hb
          clear hb
          go_wp2_with fail
          rw [rounds_succ]
          go_wp2_with fail
          go_ret
          exact ⟨rfl, HB.out⟩
        · have b4 : (k4 == 0) = false := beq_eq_false_iff_ne.2 z4
          clear z4
          go_enter Tryz.func128, Tryz.ntmps128
          go_wp2_with fail
          refine wp_loop_rounds 4 ?_
          rw [rounds_succ]
          go_wp2_with fail
          refine HX.out.mono ?_
          rintro e w' ⟨rfl, rfl⟩
          go_wp2_with fail
          rw [rounds_succ]
          go_wp2_with fail
          refine HY.out.mono ?_
          rintro e w' ⟨rfl, rfl⟩
          go_wp2_with fail
          rw [rounds_succ]
          go_wp2_with fail
          refine HZ.out.mono ?_
          rintro e w' ⟨rfl, rfl⟩
          go_wp2_with fail
          rw [rounds_succ]
          go_wp2_with fail
          refine HP.out.mono ?_
          rintro e w1 ⟨rfl, hb⟩
          have HB := hid hb
          clear hb
          go_wp2_with fail
          go_ret
          exact ⟨ret_int rfl, HB.out⟩
      · have b3 : (k3 == 0) = false := beq_eq_false_iff_ne.2 z3
        have HF := hid (show fst 0 (fst 0 (fst k3 k4)) = k3 by rw [fst0, fst0, fst_ne _ z3])
        clear z3
        go_enter Tryz.func128, Tryz.ntmps128
        go_wp2_with fail
        refine wp_loop_rounds 3 ?_
        rw [rounds_succ]
        go_wp2_with fail
        refine HX.out.mono ?_
        rintro e w' ⟨rfl, rfl⟩
        go_wp2_with fail
        rw [rounds_succ]
        go_wp2_with fail
        refine HY.out.mono ?_
        rintro e w' ⟨rfl, rfl⟩
        go_wp2_with fail
        rw [rounds_succ]
        go_wp2_with fail
        refine HZ.out.mono ?_
        rintro e w' ⟨rfl, rfl⟩
        go_wp2_with fail
        go_ret
        exact ⟨ret_int HF.out.symm, Bw.refl _ _⟩
    · have b2 : (k2 == 0) = false := beq_eq_false_iff_ne.2 z2
      have HF := hid (show fst 0 (fst k2 (fst k3 k4)) = k2 by rw [fst0, fst_ne _ z2])
      clear z2
      go_enter Tryz.func128, Tryz.ntmps128
      go_wp2_with fail
      refine wp_loop_rounds 2 ?_
      rw [rounds_succ]
      go_wp2_with fail
      refine HX.out.mono ?_
      rintro e w' ⟨rfl, rfl⟩
      go_wp2_with fail
      rw [rounds_succ]
      go_wp2_with fail
      refine HY.out.mono ?_
      rintro e w' ⟨rfl, rfl⟩
      go_wp2_with fail
      go_ret
      exact ⟨ret_int HF.out.symm, Bw.refl _ _⟩
  · have b1 : (k1 == 0) = false := beq_eq_false_iff_ne.2 z1
    have HF := hid (fst_ne (fst k2 (fst k3 k4)) z1)
    clear z1
    go_enter Tryz.func128, Tryz.ntmps128
    go_wp2_with fail
    refine wp_loop_rounds 1 ?_
    rw [rounds_succ]
    go_wp2_with fail
    refine HX.out.mono ?_
    rintro e w' ⟨rfl, rfl⟩
    go_wp2_with fail
    go_ret
    exact ⟨ret_int HF.out.symm, Bw.refl _ _⟩

set_option maxHeartbeats 2000000 in
theorem compare_bw (x y z x' y' z' : Int) (va vb : Value) (X Y : List ByteArray) (w : World) (hX : X.length ≤ 1000000) (hY : Y.length ≤ 1000000) (hXs : ∀ x, x ∈ X → x.size ≤ maxLen) (hYs : ∀ x, x ∈ Y → x.size ≤ maxLen) (ha : StrsAt w va X) (hb : StrsAt w vb Y) :
    Calls Tryz.prog 80 #[.agg #[.int .i64 x, .int .i64 y, .int .i64 z, va], .agg #[.int .i64 x', .int .i64 y', .int .i64 z', vb]] w fun e w' => e = .returned (.int .i64 (ordN x y z (bl X) x' y' z' (bl Y))) ∧ Bw w.heap.size w w' := by
  have hmf : ∀ (fn : Fn) (first cap : Array Value) (w : World), (Instr.makeFunc fn first cap).run Tryz.prog w = .ok (.func fn first cap) w := fun _ _ _ _ => rfl
  have HXS := hid hXs
  have HYS := hid hYs
  have HA := hid ha
  have HB := hid hb
  obtain ⟨pa, na, ca, rfl⟩ : ∃ p n c, va = .slice p n c := by
    rcases ha with ⟨_, rfl⟩ | ⟨_, b, rfl, _⟩ <;> exact ⟨_, _, _, rfl⟩
  obtain ⟨pb, nb, cb, rfl⟩ : ∃ p n c, vb = .slice p n c := by
    rcases hb with ⟨_, rfl⟩ | ⟨_, b, rfl, _⟩ <;> exact ⟨_, _, _, rfl⟩
  clear hXs hYs ha hb
  go_enter Tryz.func80, Tryz.ntmps80
  go_wp2_with fail
  refine (first_four (Lib.compareInt x x') (Lib.compareInt y y') (Lib.compareInt z z') (ordPre (bl X) (bl Y)) w.heap.size (w.heap.size + 1) (w.heap.size + 1 + 1) _ (d1_any x x' _ _ _ ?_ ?_) (d2_any y y' _ _ _ ?_ ?_) (d3_any z z' _ _ _ ?_ ?_) (d4_any _ _ _ _ _ _ ?_ ?_ (cpre_any _ _ X Y _ hX hY HXS.out HYS.out (HA.out.below ?_) (HB.out.below ?_))) ?_ ?_ ?_ ?_).mono ?_
  · exact (three w _ _ _ _ _ 0).1.trans rfl
  · exact (three w _ _ _ _ _ 0).2.1.trans rfl
  · exact (three w _ _ _ _ _ 1).1.trans rfl
  · exact (three w _ _ _ _ _ 1).2.1.trans rfl
  · exact (three w _ _ _ _ _ 2).1.trans rfl
  · exact (three w _ _ _ _ _ 2).2.1.trans rfl
  · exact (three w _ _ _ _ _ 3).1.trans rfl
  · exact (three w _ _ _ _ _ 3).2.1.trans rfl
  · exact (((Below.refl _ _).alloc (Nat.le_refl _) _).alloc (by simp) _).alloc (by simp; omega) _
  · exact (((Below.refl _ _).alloc (Nat.le_refl _) _).alloc (by simp) _).alloc (by simp; omega) _
  · exact (three w _ _ _ _ _ 0).2.2.trans rfl
  · exact (three w _ _ _ _ _ 1).2.2.trans rfl
  · exact (three w _ _ _ _ _ 2).2.2.trans rfl
  · exact (three w _ _ _ _ _ 3).2.2.trans rfl
  rintro e w1 ⟨rfl, hb⟩
  have HBF := hid ((((((Bw.refl w.heap.size w).alloc (Nat.le_refl _) _).alloc (by simp) _).alloc (by simp; omega) _).trans (hb.mono (by simp; omega))))
  clear hb
  go_wp2_with fail
  go_ret
  exact ⟨rfl, HBF.out⟩
theorem compare_any (x y z x' y' z' : Int) (va vb : Value) (X Y : List ByteArray) (w : World) (hX : X.length ≤ 1000000) (hY : Y.length ≤ 1000000) (hXs : ∀ x, x ∈ X → x.size ≤ maxLen) (hYs : ∀ x, x ∈ Y → x.size ≤ maxLen) (ha : StrsAt w va X) (hb : StrsAt w vb Y) :
    Calls Tryz.prog 80 #[.agg #[.int .i64 x, .int .i64 y, .int .i64 z, va], .agg #[.int .i64 x', .int .i64 y', .int .i64 z', vb]] w fun e w' => e = .returned (.int .i64 (ordN x y z (bl X) x' y' z' (bl Y))) ∧ Below w.heap.size w w' :=
  (compare_bw x y z x' y' z' va vb X Y w hX hY hXs hYs ha hb).mono fun _ _ h => ⟨h.1, h.2.be⟩
end Ve
end Go.Proofs.YtmgpbejekglipabGreatDoor

/-
  What Less of package ver answers; nothing old in memory turns.
-/
namespace Go.Proofs.YtmgpbejekglipabGreatDoor
open Go.RowKit
namespace Ve

def lessB (s t : List UInt8) : Bool := decide (verErr s = 0) && (decide (verErr t = 0) && decide (ordV s t < 0))
set_option maxHeartbeats 1000000 in
theorem less_11 (k : Int) (x y z x' y' z' : Int) (X Y : List ByteArray) (s t : ByteArray) (aT aB : Addr) (m : Int) (w : World) (S : Vs w aT aB m)
    (hA : Calls Tryz.prog 32 #[.string s] w fun e w' => GoodP w w' e x y z X) (hT : ∀ W, Vs W aT aB m → Calls Tryz.prog 32 #[.string t] W fun e w' => GoodP W w' e x' y' z' Y)
    (hC : ∀ W va vb, StrsAt W va X → StrsAt W vb Y → Calls Tryz.prog 80 #[.agg #[.int .i64 x, .int .i64 y, .int .i64 z, va], .agg #[.int .i64 x', .int .i64 y', .int .i64 z', vb]] W fun e w' => e = .returned (.int .i64 k) ∧ Below W.heap.size W w') :
    Calls Tryz.prog 33 #[.string s, .string t] w fun e w' => e = .returned (.bool (decide (k < 0))) ∧ Below w.heap.size w w' := by
  have HC := hid hC
  clear hC
  have HA := hid hA
  have HT := hid hT
  have HS := hid S
  clear hA hT S
  go_enter Tryz.func33, Tryz.ntmps33
  go_wp2_with fail
  refine HA.out.mono ?_
  rintro e w1 ⟨v, rfl, hst, hb1⟩
  obtain ⟨pa, na, ca, rfl⟩ := hst.slice
  have HST := hid hst
  clear hst
  have HB1 := hid hb1
  have HB2 := hid ((Below.refl w1.heap.size w1).alloc (Nat.le_refl _) (.cells #[.int .i64 x, .int .i64 y, .int .i64 z, .slice pa na ca] 62))
  have HS1 := hid ((HS.out.below hb1).below HB2.out)
  clear hb1
  go_wp2_with fail
  refine (HT.out _ HS1.out).mono ?_
  rintro e w2 ⟨v, rfl, hst, hb2⟩
  obtain ⟨pb, nb, cb, rfl⟩ := hst.slice
  have HTT := hid hst
  clear hst
  obtain ⟨⟨r0, r1, r2, r3⟩, rf, rz⟩ := res4 (hb2.mono (by simp))
  have HB12 := hid (HB2.out.trans (hb2.mono (by simp)))
  have HB3 := hid (HB1.out.trans (HB12.out.mono HB1.out.size))
  have HBA := hid ((Below.refl w2.heap.size w2).alloc (Nat.le_refl _) (.cells #[.int .i64 x', .int .i64 y', .int .i64 z', .slice pb nb cb] 62))
  have HB4 := hid (HB3.out.trans (HBA.out.mono HB3.out.size))
  clear hb2
  have HSA := hid ((HST.out.below HB12.out).below HBA.out)
  have HSB := hid (HTT.out.below HBA.out)
  go_wp2_with fail
  refine (HC.out _ _ _ HSA.out HSB.out).mono ?_
  rintro e w3 ⟨rfl, hb3⟩
  have HB5 := hid (HB4.out.trans (hb3.mono HB4.out.size))
  clear hb3
  go_wp2_with fail
  go_ret
  exact ⟨rfl, HB5.out⟩

set_option maxHeartbeats 1000000 in
theorem less_10 (x y z : Int) (X : List ByteArray) (s t : ByteArray) (aT aB : Addr) (m : Int) (w : World) (S : Vs w aT aB m)
    (hA : Calls Tryz.prog 32 #[.string s] w fun e w' => GoodP w w' e x y z X) (hT : ∀ W, Vs W aT aB m → Calls Tryz.prog 32 #[.string t] W fun e w' => BadP W w' e) :
    Calls Tryz.prog 33 #[.string s, .string t] w fun e w' => e = .returned (.bool false) ∧ Below w.heap.size w w' := by
  have HA := hid hA
  have HT := hid hT
  have HS := hid S
  clear hA hT S
  go_enter Tryz.func33, Tryz.ntmps33
  go_wp2_with fail
  refine HA.out.mono ?_
  rintro e w1 ⟨v, rfl, hst, hb1⟩
  obtain ⟨pa, na, ca, rfl⟩ := hst.slice
  have HST := hid hst
  clear hst
  have HB1 := hid hb1
  have HB2 := hid ((Below.refl w1.heap.size w1).alloc (Nat.le_refl _) (.cells #[.int .i64 x, .int .i64 y, .int .i64 z, .slice pa na ca] 62))
  have HS1 := hid ((HS.out.below hb1).below HB2.out)
  clear hb1
  go_wp2_with fail
  refine (HT.out _ HS1.out).mono ?_
  rintro e w2 ⟨a2, rfl, hb2⟩
  obtain ⟨⟨r0, r1, r2, r3⟩, rf, rz⟩ := res4 (hb2.mono (by simp))
  have HB12 := hid (HB2.out.trans (hb2.mono (by simp)))
  have HB3 := hid (HB1.out.trans (HB12.out.mono HB1.out.size))
  have HBA := hid ((Below.refl w2.heap.size w2).alloc (Nat.le_refl _) (.cells #[.int .i64 0, .int .i64 0, .int .i64 0, .slice none 0 0] 62))
  have HB4 := hid (HB3.out.trans (HBA.out.mono HB3.out.size))
  clear hb2
  go_wp2_with fail
  go_ret
  exact ⟨rfl, HB4.out⟩

set_option maxHeartbeats 1000000 in
theorem less_01 (x' y' z' : Int) (Y : List ByteArray) (s t : ByteArray) (aT aB : Addr) (m : Int) (w : World) (S : Vs w aT aB m)
    (hA : Calls Tryz.prog 32 #[.string s] w fun e w' => BadP w w' e) (hT : ∀ W, Vs W aT aB m → Calls Tryz.prog 32 #[.string t] W fun e w' => GoodP W w' e x' y' z' Y) :
    Calls Tryz.prog 33 #[.string s, .string t] w fun e w' => e = .returned (.bool false) ∧ Below w.heap.size w w' := by
  have HA := hid hA
  have HT := hid hT
  have HS := hid S
  clear hA hT S
  go_enter Tryz.func33, Tryz.ntmps33
  go_wp2_with fail
  refine HA.out.mono ?_
  rintro e w1 ⟨a1, rfl, hb1⟩
  have HB1 := hid hb1
  have HB2 := hid ((Below.refl w1.heap.size w1).alloc (Nat.le_refl _) (.cells #[.int .i64 0, .int .i64 0, .int .i64 0, .slice none 0 0] 62))
  have HS1 := hid ((HS.out.below hb1).below HB2.out)
  clear hb1
  go_wp2_with fail
  refine (HT.out _ HS1.out).mono ?_
  rintro e w2 ⟨v, rfl, hst, hb2⟩
  obtain ⟨pb, nb, cb, rfl⟩ := hst.slice
  have HTT := hid hst
  clear hst
  obtain ⟨⟨r0, r1, r2, r3⟩, rf, rz⟩ := res4 (hb2.mono (by simp))
  have HB12 := hid (HB2.out.trans (hb2.mono (by simp)))
  have HB3 := hid (HB1.out.trans (HB12.out.mono HB1.out.size))
  have HBA := hid ((Below.refl w2.heap.size w2).alloc (Nat.le_refl _) (.cells #[.int .i64 x', .int .i64 y', .int .i64 z', .slice pb nb cb] 62))
  have HB4 := hid (HB3.out.trans (HBA.out.mono HB3.out.size))
  clear hb2
  go_wp2_with fail
  go_ret
  exact ⟨rfl, HB4.out⟩

set_option maxHeartbeats 1000000 in
theorem less_00 (s t : ByteArray) (aT aB : Addr) (m : Int) (w : World) (S : Vs w aT aB m)
    (hA : Calls Tryz.prog 32 #[.string s] w fun e w' => BadP w w' e) (hT : ∀ W, Vs W aT aB m → Calls Tryz.prog 32 #[.string t] W fun e w' => BadP W w' e) :
    Calls Tryz.prog 33 #[.string s, .string t] w fun e w' => e = .returned (.bool false) ∧ Below w.heap.size w w' := by
  have HA := hid hA
  have HT := hid hT
  have HS := hid S
  clear hA hT S
  go_enter Tryz.func33, Tryz.ntmps33
  go_wp2_with fail
  refine HA.out.mono ?_
  rintro e w1 ⟨a1, rfl, hb1⟩
  have HB1 := hid hb1
  have HB2 := hid ((Below.refl w1.heap.size w1).alloc (Nat.le_refl _) (.cells #[.int .i64 0, .int .i64 0, .int .i64 0, .slice none 0 0] 62))
  have HS1 := hid ((HS.out.below hb1).below HB2.out)
  clear hb1
  go_wp2_with fail
  refine (HT.out _ HS1.out).mono ?_
  rintro e w2 ⟨a2, rfl, hb2⟩
  obtain ⟨⟨r0, r1, r2, r3⟩, rf, rz⟩ := res4 (hb2.mono (by simp))
  have HB12 := hid (HB2.out.trans (hb2.mono (by simp)))
  have HB3 := hid (HB1.out.trans (HB12.out.mono HB1.out.size))
  have HBA := hid ((Below.refl w2.heap.size w2).alloc (Nat.le_refl _) (.cells #[.int .i64 0, .int .i64 0, .int .i64 0, .slice none 0 0] 62))
  have HB4 := hid (HB3.out.trans (HBA.out.mono HB3.out.size))
  clear hb2
  go_wp2_with fail
  go_ret
  exact ⟨rfl, HB4.out⟩

/-- A pre of a version: how many parts, how long. -/
theorem pre_bounds {s : ByteArray} {X : List ByteArray} (hs : s.size < 999999) (hX : bl X = preOf s.data.toList) : X.length ≤ 1000000 ∧ ∀ x, x ∈ X → x.size ≤ maxLen := by
  constructor
  · have := pre_len (l := s.data.toList); rw [← hX, bl_len, len_eq] at this; omega
  · intro x hx
    have hm : x.data.toList ∈ preOf s.data.toList := hX ▸ bl_mem hx
    have := pre_size hm
    rw [len_eq, len_eq] at this
    unfold maxLen; omega
theorem less_any (s t : ByteArray) (aT aB : Addr) (m : Int) (w : World) (hs : s.size < 999999) (ht : t.size < 999999) (S : Vs w aT aB m) :
    Calls Tryz.prog 33 #[.string s, .string t] w fun e w' => e = .returned (.bool (lessB s.data.toList t.data.toList)) ∧ Below w.heap.size w w' := by
  obtain ⟨X, hX⟩ : ∃ X, bl X = preOf s.data.toList := ⟨_, bl_strs _⟩
  obtain ⟨Y, hY⟩ : ∃ X, bl X = preOf t.data.toList := ⟨_, bl_strs _⟩
  obtain ⟨lX, pX⟩ := pre_bounds hs hX
  obtain ⟨lY, pY⟩ := pre_bounds ht hY
  unfold lessB
  by_cases h1 : verErr s.data.toList = 0
  all_goals by_cases h2 : verErr t.data.toList = 0
  · rw [decide_eq_true h1, decide_eq_true h2]
    refine (less_11 (ordV s.data.toList t.data.toList) _ _ _ _ _ _ X Y s t aT aB m w S (vsplit_is s aT aB m w (by omega) S h1 X hX) (fun W SW => vsplit_is t aT aB m W (by omega) SW h2 Y hY) ?_).mono fun e w' h => h
    intro W va vb ha hb
    unfold ordV
    rw [← hX, ← hY]
    exact compare_any _ _ _ _ _ _ va vb X Y W lX lY pX pY ha hb
  · rw [decide_eq_true h1, decide_eq_false h2]
    exact less_10 _ _ _ X s t aT aB m w S (vsplit_is s aT aB m w (by omega) S h1 X hX) (fun W SW => vsplit_not t aT aB m W (by omega) SW h2)
  · rw [decide_eq_false h1]
    exact less_01 _ _ _ Y s t aT aB m w S (vsplit_not s aT aB m w (by omega) S h1) (fun W SW => vsplit_is t aT aB m W (by omega) SW h2 Y hY)
  · rw [decide_eq_false h1]
    exact less_00 s t aT aB m w S (vsplit_not s aT aB m w (by omega) S h1) (fun W SW => vsplit_not t aT aB m W (by omega) SW h2)
end Ve
end Go.Proofs.YtmgpbejekglipabGreatDoor

/-
  What Ahead of package mod answers; nothing old in memory turns.
-/
namespace Go.Proofs.YtmgpbejekglipabGreatDoor
open Go.RowKit
namespace Ve

theorem str_refl (a : ByteArray) : (a.toList == a.toList) = true := by simp
theorem res2f {w w3 : World} {a b : Value} {T : TypeId} (hb : Below (w.heap.size + 1) (w.alloc (.cells #[a, b] T)) w3) : ∀ o, w3.frozen? ⟨w.heap.size, o, none⟩ = false := by
  intro o; rw [hb.frozen (by simp)]; simp

/-- Ahead: by the path's bytes, then by the version. -/
def aheadB (p v q u : List UInt8) : Bool := if p = q then lessB v u else decide (Lib.compareBytes p q < 0)
set_option maxHeartbeats 1000000 in
theorem ahead_any (p v q u : ByteArray) (A : Nat → Addr) (m : Int) (w : World) (hv : v.size < 999999) (hu : u.size < 999999) (S : Te w A m) :
    Calls Tryz.prog 91 #[.agg #[.string p, .string v], .agg #[.string q, .string u]] w fun e w' => e = .returned (.bool (aheadB p.data.toList v.data.toList q.data.toList u.data.toList)) ∧ Below w.heap.size w w' := by
  have HO := hid (show aheadB p.data.toList v.data.toList q.data.toList u.data.toList = if p.data.toList = q.data.toList then lessB v.data.toList u.data.toList else decide (Lib.compareBytes p.data.toList q.data.toList < 0) from rfl)
  have HB0 := hid (((Below.refl w.heap.size w).alloc (Nat.le_refl _) (.cells #[.string p, .string v] 26)).alloc (by simp) (.cells #[.string q, .string u] 26))
  by_cases h : p = q
  · subst h
    rw [if_pos rfl] at HO
    have he := str_refl p
    have HL := hid (fun W (SW : Te W A m) => less_any v u (A 0) (A 1) m W hv hu SW.vs)
    have HS := hid S
    clear S
    go_enter Tryz.func91, Tryz.ntmps91
    go_wp2_with fail
    refine (HL.out _ (HS.out.below HB0.out)).mono ?_
    rintro e w1 ⟨rfl, hb⟩
    have HB := hid (HB0.out.trans (hb.mono HB0.out.size))
    clear hb
    go_wp2_with fail
    go_ret
    exact ⟨ret_bool HO.out.symm, HB.out⟩
  · rw [if_neg (fun e => h (str_ext e))] at HO
    have he := str_ne h
    have HC := hid (show Op.bytesLess p.toList q.toList = decide (Lib.compareBytes p.data.toList q.data.toList < 0) by rw [cb_less, ByteArray.toList_eq, ByteArray.toList_eq])
    clear S h
    go_enter Tryz.func91, Tryz.ntmps91
    go_wp2_with fail
    go_ret
    exact ⟨ret_bool (by rw [HO.out, ← HC.out]), HB0.out⟩

end Ve
end Go.Proofs.YtmgpbejekglipabGreatDoor

/-
  Files as texts, plain: the lines of a file, and how lines are read; what was written is read as it was.
-/
namespace Go.Proofs.YtmgpbejekglipabGreatDoor
namespace Ve

/-- A module: its path, its version. -/
abbrev Bm := ByteArray × ByteArray
/-- A file: its path, what it requires, what it excludes. -/
abbrev Fs := ByteArray × List Bm × List Bm
def bt (l : List UInt8) : ByteArray := ⟨l.toArray⟩
theorem bt_list (l : List UInt8) : (bt l).data.toList = l := by simp [bt]
theorem bt_of (a : ByteArray) : bt a.data.toList = a := by cases a; simp [bt]
theorem bt_of' {a : ByteArray} {l : List UInt8} (h : a.data.toList = l) : a = bt l := by rw [← h, bt_of]
def wModule : List UInt8 := [109, 111, 100, 117, 108, 101]
def wRequire : List UInt8 := [114, 101, 113, 117, 105, 114, 101]
def wExclude : List UInt8 := [101, 120, 99, 108, 117, 100, 101]
/-- What a line's words add; none: it is wrong. -/
def stepF (i : Nat) (ws : List (List UInt8)) (f : Fs) : Option Fs :=
  if i = 0 then (match ws with
    | [a, b] => if a = wModule then some (bt b, f.2) else none
    | _ => none)
  else (match ws with
    | [a, b, c] => if a = wRequire ∧ f.2.2 = [] then some (f.1, f.2.1 ++ [(bt b, bt c)], f.2.2) else if a = wExclude then some (f.1, f.2.1, f.2.2 ++ [(bt b, bt c)]) else none
    | _ => none)
/-- Lines, from the i-th on; behind the last line end there is an empty piece. -/
def readGo : Nat → List (List UInt8) → Fs → Except Nat Fs
  | _, [], f => .ok f
  | i, [l], f => if l = [] ∧ i ≠ 0 then .ok f else .error i
  | i, l :: k :: r, f => match stepF i (cutAt 32 l) f with
    | some f' => readGo (i + 1) (k :: r) f'
    | none => .error i
def noFile : Fs := (⟨#[]⟩, [], [])
def readL (s : List UInt8) : Except Nat Fs := readGo 0 (cutAt 10 s) noFile

def lineOf (w : List UInt8) (m : Bm) : List UInt8 := w ++ 32 :: (m.1.data.toList ++ 32 :: m.2.data.toList)
def linesOf (f : Fs) : List (List UInt8) := (wModule ++ 32 :: f.1.data.toList) :: (f.2.1.map (lineOf wRequire) ++ f.2.2.map (lineOf wExclude))
def ended (ls : List (List UInt8)) : List UInt8 := ls.flatMap (fun l => l ++ [10])
def fText (f : Fs) : List UInt8 := ended (linesOf f)

theorem cut_not {c : UInt8} : ∀ {a : List UInt8}, c ∉ a → cutAt c a = [a]
  | [], _ => rfl
  | x :: a, h => by
    have h1 : x ≠ c := fun e => h (by rw [e]; exact List.mem_cons_self)
    have h2 := cut_not (c := c) (a := a) (fun e => h (List.mem_cons_of_mem _ e))
    unfold cutAt
    rw [if_neg h1, h2]; rfl
theorem cut_at {c : UInt8} (b : List UInt8) : ∀ {a : List UInt8}, c ∉ a → cutAt c (a ++ c :: b) = a :: cutAt c b
  | [], _ => by simp [cutAt]
  | x :: a, h => by
    have h1 : x ≠ c := fun e => h (by rw [e]; exact List.mem_cons_self)
    have h2 := cut_at b (c := c) (a := a) (fun e => h (List.mem_cons_of_mem _ e))
    rw [List.cons_append, cutAt, if_neg h1, h2]; rfl
theorem cut_ended : ∀ {ls : List (List UInt8)}, (∀ l, l ∈ ls → (10 : UInt8) ∉ l) → cutAt 10 (ended ls) = ls ++ [[]]
  | [], _ => rfl
  | l :: r, h => by
    have h2 := cut_ended (ls := r) (fun x hx => h x (List.mem_cons_of_mem _ hx))
    have e : ended (l :: r) = l ++ 10 :: ended r := by simp [ended]
    rw [e, cut_at _ (h l List.mem_cons_self), h2]; rfl
/-- No word of a module has a blank or a line end. -/
def clean (m : Bm) : Prop := ((10 : UInt8) ∉ m.1.data.toList ∧ (10 : UInt8) ∉ m.2.data.toList) ∧ ((32 : UInt8) ∉ m.1.data.toList ∧ (32 : UInt8) ∉ m.2.data.toList)
theorem line_words {w : List UInt8} {m : Bm} (hw : (32 : UInt8) ∉ w) (h : clean m) : cutAt 32 (lineOf w m) = [w, m.1.data.toList, m.2.data.toList] := by
  unfold lineOf
  rw [cut_at _ hw, cut_at _ h.2.1, cut_not h.2.2]
theorem line_end {w : List UInt8} {m : Bm} (hw : (10 : UInt8) ∉ w) (h : clean m) : (10 : UInt8) ∉ lineOf w m := by
  unfold lineOf
  intro hm
  rcases List.mem_append.1 hm with h1 | h1
  · exact hw h1
  · rcases List.mem_cons.1 h1 with h1 | h1
    · exact absurd h1 (by decide)
    · rcases List.mem_append.1 h1 with h1 | h1
      · exact h.1.1 h1
      · rcases List.mem_cons.1 h1 with h1 | h1
        · exact absurd h1 (by decide)
        · exact h.1.2 h1
theorem go_step {i : Nat} {l : List UInt8} {r : List (List UInt8)} {f f' : Fs} (hr : r ≠ []) (h : stepF i (cutAt 32 l) f = some f') : readGo i (l :: r) f = readGo (i + 1) r f' := by
  cases r with
  | nil => exact absurd rfl hr
  | cons k r => rw [readGo, h]
theorem go_bad {i : Nat} {l : List UInt8} {r : List (List UInt8)} {f : Fs} (hr : r ≠ []) (h : stepF i (cutAt 32 l) f = none) : readGo i (l :: r) f = .error i := by
  cases r with
  | nil => exact absurd rfl hr
  | cons k r => rw [readGo, h]
theorem go_ex {p : ByteArray} {R : List Bm} : ∀ {X Y : List Bm} {i : Nat}, i ≠ 0 → (∀ m, m ∈ X → clean m) → readGo i (X.map (lineOf wExclude) ++ [[]]) (p, R, Y) = .ok (p, R, Y ++ X)
  | [], Y, i, hi, _ => by simp [readGo, hi]
  | m :: X, Y, i, hi, h => by
    have hm := line_words (w := wExclude) (by decide) (h m List.mem_cons_self)
    have hs : stepF i (cutAt 32 (lineOf wExclude m)) (p, R, Y) = some (p, R, Y ++ [m]) := by
      rw [hm]
      unfold stepF
      rw [if_neg hi]
      simp only
      rw [if_neg (fun h => absurd h.1 (by decide)), if_pos trivial, bt_of, bt_of]
    rw [List.map_cons, List.cons_append, go_step (by simp) hs, go_ex (by omega) (fun x hx => h x (List.mem_cons_of_mem _ hx))]
    simp
theorem go_req {p : ByteArray} {X : List Bm} (hX : ∀ m, m ∈ X → clean m) : ∀ {R Q : List Bm} {i : Nat}, i ≠ 0 → (∀ m, m ∈ R → clean m) → readGo i (R.map (lineOf wRequire) ++ (X.map (lineOf wExclude) ++ [[]])) (p, Q, []) = .ok (p, Q ++ R, X)
  | [], Q, i, hi, _ => by
    rw [List.map_nil, List.nil_append, go_ex hi hX]; simp
  | m :: R, Q, i, hi, h => by
    have hm := line_words (w := wRequire) (by decide) (h m List.mem_cons_self)
    have hs : stepF i (cutAt 32 (lineOf wRequire m)) (p, Q, []) = some (p, Q ++ [m], []) := by
      rw [hm]
      unfold stepF
      rw [if_neg hi]
      simp only
      rw [if_pos ⟨trivial, trivial⟩, bt_of, bt_of]
    rw [List.map_cons, List.cons_append, go_step (by simp) hs, go_req hX (by omega) (fun x hx => h x (List.mem_cons_of_mem _ hx))]
    simp
/-- What was written is read as it was. -/
theorem read_back {f : Fs} (h1 : (10 : UInt8) ∉ f.1.data.toList ∧ (32 : UInt8) ∉ f.1.data.toList) (hR : ∀ m, m ∈ f.2.1 → clean m) (hX : ∀ m, m ∈ f.2.2 → clean m) : readL (fText f) = .ok f := by
  have hls : ∀ l, l ∈ linesOf f → (10 : UInt8) ∉ l := by
    intro l hl
    unfold linesOf at hl
    rcases List.mem_cons.1 hl with rfl | hl
    · intro hm
      rcases List.mem_append.1 hm with h | h
      · exact absurd h (by decide)
      · rcases List.mem_cons.1 h with h | h
        · exact absurd h (by decide)
        · exact h1.1 h
    · rcases List.mem_append.1 hl with h | h
      · obtain ⟨m, hm, rfl⟩ := List.mem_map.1 h
        exact line_end (by decide) (hR m hm)
      · obtain ⟨m, hm, rfl⟩ := List.mem_map.1 h
        exact line_end (by decide) (hX m hm)
  unfold readL fText
  rw [cut_ended hls]
  unfold linesOf
  have hs : stepF 0 (cutAt 32 (wModule ++ 32 :: f.1.data.toList)) noFile = some (f.1, [], []) := by
    rw [cut_at _ (by decide), cut_not h1.2]
    unfold stepF
    rw [if_pos rfl]
    simp only
    rw [if_pos trivial, bt_of]; rfl
  rw [List.cons_append, go_step (by simp) hs, List.append_assoc, go_req hX (by omega) hR]
  simp
/-- How long a file's text is. -/
theorem ended_len (n : Nat) : ∀ (ls : List (List UInt8)), (∀ l, l ∈ ls → l.length ≤ n) → (ended ls).length ≤ ls.length * (n + 1)
  | [], _ => by simp [ended]
  | l :: r, h => by
    have h1 := ended_len n r (fun x hx => h x (List.mem_cons_of_mem _ hx))
    have h2 := h l List.mem_cons_self
    have e : ended (l :: r) = l ++ 10 :: ended r := by simp [ended]
    rw [e]
    simp only [List.length_append, List.length_cons]
    rw [Nat.succ_mul]
    omega
theorem fText_len {f : Fs} (h1 : f.1.size ≤ 90) (hr : f.2.1.length ≤ 20) (hx : f.2.2.length ≤ 20) (hR : ∀ m, m ∈ f.2.1 ++ f.2.2 → m.1.size ≤ 70 ∧ m.2.size ≤ 60) : (fText f).length ≤ 8000 := by
  have h := ended_len 140 (linesOf f) (fun l hl => by
    unfold linesOf at hl
    have hsz : ∀ a : ByteArray, a.data.toList.length = a.size := fun a => by simp
    rcases List.mem_cons.1 hl with rfl | hl
    · simp [wModule]; omega
    · rcases List.mem_append.1 hl with h | h
      · obtain ⟨m, hm, rfl⟩ := List.mem_map.1 h
        have := hR m (List.mem_append_left _ hm)
        simp [lineOf, wRequire]; omega
      · obtain ⟨m, hm, rfl⟩ := List.mem_map.1 h
        have := hR m (List.mem_append_right _ hm)
        simp [lineOf, wExclude]; omega)
  have hn : (linesOf f).length ≤ 41 := by simp [linesOf]; omega
  unfold fText
  have : (linesOf f).length * (140 + 1) ≤ 41 * 141 := Nat.mul_le_mul_right _ hn
  omega
end Ve
end Go.Proofs.YtmgpbejekglipabGreatDoor
