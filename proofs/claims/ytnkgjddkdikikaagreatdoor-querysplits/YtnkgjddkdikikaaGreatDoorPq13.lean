/-
  VerS Te PreT OrdB SplitAny ModB
-/
import Derived.Test.YtnkgjddkdikikaaGreatDoorPq2
import Derived.Test.YtnkgjddkdikikaaGreatDoorPq4
import Derived.Test.YtnkgjddkdikikaaGreatDoorPq10
import Derived.Test.YtnkgjddkdikikaaGreatDoorPq7
import Derived.Test.YtnkgjddkdikikaaGreatDoorPq3
import Derived.Test.YtnkgjddkdikikaaGreatDoorPq9
namespace Go.Proofs.YtnkgjddkdikikaaGreatDoor
namespace Ve
theorem fst_lt {a b : Int} : fst a b < 0 ↔ a < 0 ∨ a = 0 ∧ b < 0 := by
  unfold fst
  by_cases h : a = 0
  · rw [if_pos h]; subst h; simp
  · rw [if_neg h]; simp [h]
theorem lex_trans {a1 a2 a3 b1 b2 b3 : Int} (h12 : a1 < 0 → a2 < 0 → a3 < 0) (h0l : a1 = 0 → a3 = a2) (h0r : a2 = 0 → a3 = a1) (hb : a1 = 0 → a2 = 0 → b1 < 0 → b2 < 0 → b3 < 0) :
    fst a1 b1 < 0 → fst a2 b2 < 0 → fst a3 b3 < 0 := by
  rw [fst_lt, fst_lt, fst_lt]
  rintro (h1 | ⟨h1, k1⟩) (h2 | ⟨h2, k2⟩)
  · exact Or.inl (h12 h1 h2)
  · exact Or.inl (by rw [h0r h2]; exact h1)
  · exact Or.inl (by rw [h0l h1]; exact h2)
  · exact Or.inr ⟨by rw [h0l h1]; exact h2, hb h1 h2 k1 k2⟩
theorem ci_trans {x y z : Int} (h1 : Lib.compareInt x y < 0) (h2 : Lib.compareInt y z < 0) : Lib.compareInt x z < 0 := by
  have e1 : x < y := by
    unfold Lib.compareInt at h1
    split at h1
    · assumption
    · split at h1 <;> omega
  have e2 : y < z := by
    unfold Lib.compareInt at h2
    split at h2
    · assumption
    · split at h2 <;> omega
  rw [ci_lt (by omega)]; decide
theorem cb_trans : ∀ (a b c : List UInt8), Lib.compareBytes a b < 0 → Lib.compareBytes b c < 0 → Lib.compareBytes a c < 0
  | [], [], _, h, _ => by simp [Lib.compareBytes] at h
  | [], _ :: _, [], _, h => by simp [Lib.compareBytes] at h
  | [], _ :: _, _ :: _, _, _ => by simp [Lib.compareBytes]
  | _ :: _, [], _, h, _ => by simp [Lib.compareBytes] at h
  | _ :: _, _ :: _, [], _, h => by simp [Lib.compareBytes] at h
  | x :: a, y :: b, z :: c, h1, h2 => by
    unfold Lib.compareBytes at h1 h2 ⊢
    by_cases h3 : x < y
    · by_cases h4 : y < z
      · rw [if_pos (UInt8.lt_trans h3 h4)]; decide
      · rw [if_neg h4] at h2
        by_cases h5 : z < y
        · rw [if_pos h5] at h2; omega
        · have := u8_eq h4 h5
          subst this
          rw [if_pos h3]; decide
    · rw [if_neg h3] at h1
      by_cases h4 : y < x
      · rw [if_pos h4] at h1; omega
      · rw [if_neg h4] at h1
        have := u8_eq h3 h4
        subst this
        by_cases h5 : x < z
        · rw [if_pos h5]; decide
        · rw [if_neg h5] at h2 ⊢
          by_cases h6 : z < x
          · rw [if_pos h6] at h2; omega
          · rw [if_neg h6] at h2 ⊢
            exact cb_trans a b c h1 h2
theorem ordPart_trans {a b c : List UInt8} (h1 : ordPart a b < 0) (h2 : ordPart b c < 0) : ordPart a c < 0 := by
  unfold ordPart at *
  cases ha : digs a <;> cases hb : digs b <;> cases hc : digs c <;> rw [ha, hb] at h1 <;> rw [hb, hc] at h2
  · exact cb_trans _ _ _ h1 h2
  · exact absurd (show (1 : Int) < 0 from h2) (by decide)
  · exact absurd (show (1 : Int) < 0 from h1) (by decide)
  · exact absurd (show (1 : Int) < 0 from h1) (by decide)
  · show (-1 : Int) < 0; decide
  · exact absurd (show (1 : Int) < 0 from h2) (by decide)
  · show (-1 : Int) < 0; decide
  · refine lex_trans (fun h k => ci_trans h k) ?_ ?_ (fun _ _ h k => cb_trans _ _ _ h k) h1 h2
    · intro h; rw [(ci_zero _ _).1 h]
    · intro h; rw [(ci_zero _ _).1 h]
theorem ordPs_trans : ∀ (a b c : List (List UInt8)), ordPs a b < 0 → ordPs b c < 0 → ordPs a c < 0
  | [], [], _, h, _ => by simp [ordPs] at h
  | [], _ :: _, [], _, h => by simp [ordPs] at h
  | [], _ :: _, _ :: _, _, _ => by simp [ordPs]
  | _ :: _, [], _, h, _ => by simp [ordPs] at h
  | _ :: _, _ :: _, [], _, h => by simp [ordPs] at h
  | x :: a, y :: b, z :: c, h1, h2 => by
    unfold ordPs at h1 h2 ⊢
    refine lex_trans (fun h k => ordPart_trans h k) ?_ ?_ (fun _ _ h k => ordPs_trans a b c h k) h1 h2
    · intro h; rw [(ordPart_zero _ _).1 h]
    · intro h; rw [(ordPart_zero _ _).1 h]
theorem ordPre_trans {a b c : List (List UInt8)} (h1 : ordPre a b < 0) (h2 : ordPre b c < 0) : ordPre a c < 0 := by
  unfold ordPre at *
  by_cases ha : a = []
  · subst ha
    rw [if_pos (Or.inl rfl)] at h1
    exfalso
    have : ¬ Lib.compareInt (b.length : Int) (([] : List (List UInt8)).length : Int) < 0 := by
      unfold Lib.compareInt
      split
      · rename_i h; simp at h; omega
      · split <;> omega
    exact this h1
  · by_cases hb : b = []
    · subst hb
      rw [if_pos (Or.inl rfl)] at h2
      exfalso
      have : ¬ Lib.compareInt (c.length : Int) (([] : List (List UInt8)).length : Int) < 0 := by
        unfold Lib.compareInt
        split
        · rename_i h; simp at h; omega
        · split <;> omega
      exact this h2
    · by_cases hc : c = []
      · subst hc
        rw [if_pos (Or.inr rfl)]
        rw [ci_lt (by have := List.length_pos_iff.2 ha; simp; omega)]; decide
      · rw [if_neg (by rintro (h | h); exact ha h; exact hb h)] at h1
        rw [if_neg (by rintro (h | h); exact hb h; exact hc h)] at h2
        rw [if_neg (by rintro (h | h); exact ha h; exact hc h)]
        exact ordPs_trans a b c h1 h2
theorem ordV_trans {s t u : List UInt8} (h1 : ordV s t < 0) (h2 : ordV t u < 0) : ordV s u < 0 := by
  unfold ordV ordN at *
  refine lex_trans (fun h k => ci_trans h k) ?_ ?_ (fun _ _ => lex_trans (fun h k => ci_trans h k) ?_ ?_ (fun _ _ => lex_trans (fun h k => ci_trans h k) ?_ ?_ (fun _ _ h k => ordPre_trans h k))) h1 h2
  all_goals (intro h; rw [(ci_zero _ _).1 h])
end Ve
end Go.Proofs.YtnkgjddkdikikaaGreatDoor
namespace Go.Proofs.YtnkgjddkdikikaaGreatDoor
open Go.RowKit
namespace Ve
structure Sn (w : World) (A : Nat → Addr) : Prop where
  g0 : w.cell? ⟨1, 0, none⟩ = some (.iface 311 (.pointer (some (A 0))))
  g1 : w.cell? ⟨4, 0, none⟩ = some (.iface 311 (.pointer (some (A 1))))
  g2 : w.cell? ⟨5, 0, none⟩ = some (.iface 311 (.pointer (some (A 2))))
  g3 : w.cell? ⟨6, 0, none⟩ = some (.iface 311 (.pointer (some (A 3))))
  g4 : w.cell? ⟨2, 0, none⟩ = some (.iface 311 (.pointer (some (A 4))))
  g6 : w.cell? ⟨0, 0, none⟩ = some (.iface 311 (.pointer (some (A 6))))
  g7 : w.cell? ⟨3, 0, none⟩ = some (.iface 311 (.pointer (some (A 7))))
  et : w.cell? ⟨10, 0, none⟩ = some (.iface 233 (.agg #[.pointer (some ⟨17, 27, none⟩)]))
structure Te (w : World) (A : Nat → Addr) (m : Int) : Prop where
  sen : Sn w A
  vs : Vs w (A 0) (A 1) m
theorem Te.ml {w : World} {A : Nat → Addr} {m : Int} (h : Te w A m) : w.cell? ⟨11, 0, none⟩ = some (.int .i64 m) := h.vs.ml
theorem Te.below {w w' : World} {A : Nat → Addr} {m : Int} (h : Te w A m) (hb : Below w.heap.size w w') : Te w' A m :=
  ⟨⟨cell_below hb h.sen.g0, cell_below hb h.sen.g1, cell_below hb h.sen.g2, cell_below hb h.sen.g3, cell_below hb h.sen.g4, cell_below hb h.sen.g6, cell_below hb h.sen.g7, cell_below hb h.sen.et⟩, h.vs.below hb⟩
def errA (A : Nat → Addr) (c : Nat) : Value := if c = 0 then .nilIface else .iface 311 (.pointer (some (A (c - 1))))
theorem errA0 (A : Nat → Addr) : errA A 0 = .nilIface := rfl
theorem errA_V (A : Nat → Addr) (c : Nat) (h : c = 0 ∨ c = 1 ∨ c = 2) : errV (A 0) (A 1) c = errA A c := by
  rcases h with rfl | rfl | rfl <;> rfl
theorem errA_ne (A : Nat → Addr) {c : Nat} (h : c ≠ 0) : ∃ a, errA A c = .iface 311 (.pointer (some a)) := ⟨_, by unfold errA; rw [if_neg h]⟩
end Ve
end Go.Proofs.YtnkgjddkdikikaaGreatDoor
namespace Go.Proofs.YtnkgjddkdikikaaGreatDoor
open Go.RowKit
namespace Ve
theorem bl_inj {X Y : List ByteArray} (h : bl X = bl Y) : X = Y := by
  induction X generalizing Y with
  | nil => cases Y with
    | nil => rfl
    | cons y r => simp [bl] at h
  | cons x r ih => cases Y with
    | nil => simp [bl] at h
    | cons y s =>
      simp only [bl, List.map_cons, List.cons.injEq] at h
      rw [str_ext h.1, ih h.2]
end Ve
end Go.Proofs.YtnkgjddkdikikaaGreatDoor
namespace Go.Proofs.YtnkgjddkdikikaaGreatDoor
open Go.RowKit
namespace Ve
theorem ordPs_step (X Y : List ByteArray) (k : Nat) (h1 : k < X.length) (h2 : k < Y.length) :
    ordPs (bl (X.drop k)) (bl (Y.drop k)) = fst (ordPart X[k].data.toList Y[k].data.toList) (ordPs (bl (X.drop (k + 1))) (bl (Y.drop (k + 1)))) := by
  rw [List.drop_eq_getElem_cons h1, List.drop_eq_getElem_cons h2]; rfl
theorem ordPs_long (X Y : List ByteArray) (k : Nat) (h1 : k < X.length) (h2 : k = Y.length) : ordPs (bl (X.drop k)) (bl (Y.drop k)) = 1 := by
  rw [List.drop_eq_getElem_cons h1, List.drop_eq_nil_of_le (show Y.length ≤ k by omega)]; rfl
theorem ordPs_short (X Y : List ByteArray) (k : Nat) (h1 : k = X.length) (h2 : k < Y.length) : ordPs (bl (X.drop k)) (bl (Y.drop k)) = -1 := by
  rw [List.drop_eq_nil_of_le (show X.length ≤ k by omega), List.drop_eq_getElem_cons h2]; rfl
theorem ordPs_end (X Y : List ByteArray) (k : Nat) (h1 : k = X.length) (h2 : k = Y.length) : ordPs (bl (X.drop k)) (bl (Y.drop k)) = 0 := by
  rw [List.drop_eq_nil_of_le (show X.length ≤ k by omega), List.drop_eq_nil_of_le (show Y.length ≤ k by omega)]; rfl
set_option maxHeartbeats 2000000 in
theorem cfunc_any (b0 b1 c0 c1 : Nat) (X Y : List ByteArray) (w : World) (hX : X.length ≤ 1000000) (hXs : ∀ x, x ∈ X → x.size ≤ maxLen) (hYs : ∀ x, x ∈ Y → x.size ≤ maxLen)
    (hc0 : ∀ j (h : j < X.length), w.cell? ⟨b0, 0 + j, none⟩ = some (.string X[j])) (hc1 : ∀ j (h : j < Y.length), w.cell? ⟨b1, 0 + j, none⟩ = some (.string Y[j])) :
    Calls Tryz.prog 200 #[.slice (some ⟨b0, 0, none⟩) X.length c0, .slice (some ⟨b1, 0, none⟩) Y.length c1, .func (.func 201) #[] #[]] w fun e w' => e = .returned (.int .i64 (ordPs (bl X) (bl Y))) ∧ Bw w.heap.size w w' := by
  have HXS := hid hXs
  have HYS := hid hYs
  have HC0 := hid hc0
  have HC1 := hid hc1
  clear hXs hYs hc0 hc1
  go_enter Tryz.func200, Tryz.ntmps200
  go_wp2_with fail
  go_loopw [13] (fun i wr => ∃ k : Nat, k ≤ X.length ∧ k ≤ Y.length ∧ i = .int .i64 k ∧ Hid (ordPs (bl X) (bl Y) = ordPs (bl (X.drop k)) (bl (Y.drop k))) ∧ Hid (Bw w.heap.size w wr)) (fun i _ => X.length - (intOf i).toNat)
  case atStart => exact ⟨0, Nat.zero_le _, Nat.zero_le _, rfl, hid rfl, hid (Bw.refl _ _)⟩
  case round =>
    obtain ⟨k, hk, hk2, rfl, HO, HB⟩ := hrel
    by_cases hlt : k < X.length
    · by_cases hlt2 : k < Y.length
      · have hx : wr.cell? ⟨b0, k, none⟩ = some (.string X[k]) := by
          have := HC0.out k hlt
          rw [Nat.zero_add] at this
          exact cell_below HB.out.be this
        have hy : wr.cell? ⟨b1, k, none⟩ = some (.string Y[k]) := by
          have := HC1.out k hlt2
          rw [Nat.zero_add] at this
          exact cell_below HB.out.be this
        have HP := hid (cpart_bw X[k] Y[k] wr (HXS.out _ (List.getElem_mem hlt)) (HYS.out _ (List.getElem_mem hlt2)))
        have HN := hid (HO.out.trans (ordPs_step X Y k hlt hlt2))
        generalize hq : ordPart X[k].data.toList Y[k].data.toList = q at *
        clear hq HO
        by_cases hz : q = 0
        · subst hz
          go_wp2_with fail
          refine HP.out.mono ?_
          rintro e w1 ⟨rfl, hb1⟩
          have HB1 := hid (HB.out.trans (hb1.mono HB.out.size))
          clear hb1
          go_wp2_with fail
          go_roundw
          case rel => exact ⟨k + 1, by omega, by omega, by go_num, hid (HN.out.trans (fst0 _)), HB1⟩
          case measure => simp [intOf]; omega
        · have hqb : (q == 0) = false := beq_eq_false_iff_ne.2 hz
          have HF := hid (HN.out.trans (fst_ne _ hz))
          clear hz
          go_wp2_with fail
          refine HP.out.mono ?_
          rintro e w1 ⟨rfl, hb1⟩
          have HB1 := hid (HB.out.trans (hb1.mono HB.out.size))
          clear hb1
          go_wp2_with fail
          go_ret
          exact ⟨ret_int HF.out.symm, HB1.out⟩
      · have hx : wr.cell? ⟨b0, k, none⟩ = some (.string X[k]) := by
          have := HC0.out k hlt
          rw [Nat.zero_add] at this
          exact cell_below HB.out.be this
        have HF := hid (HO.out.trans (ordPs_long X Y k hlt (by omega)))
        clear HO
        go_wp2_with fail
        go_ret
        exact ⟨ret_int HF.out.symm, HB.out⟩
    · by_cases hlt2 : X.length < Y.length
      · have HF := hid (HO.out.trans (ordPs_short X Y k (by omega) (by omega)))
        clear HO
        go_wp2_with fail
        go_ret
        exact ⟨ret_int HF.out.symm, HB.out⟩
      · have HF := hid (HO.out.trans (ordPs_end X Y k (by omega) (by omega)))
        clear HO
        go_wp2_with fail
        go_ret
        exact ⟨ret_int HF.out.symm, HB.out⟩
theorem bl_nil {X : List ByteArray} : bl X = [] ↔ X = [] := by
  constructor
  · intro h; exact List.length_eq_zero_iff.1 (by rw [← bl_len, h]; rfl)
  · intro h; rw [h]; rfl
set_option maxHeartbeats 1000000 in
theorem cpre_any (va vb : Value) (X Y : List ByteArray) (w : World) (hX : X.length ≤ 1000000) (hY : Y.length ≤ 1000000) (hXs : ∀ x, x ∈ X → x.size ≤ maxLen) (hYs : ∀ x, x ∈ Y → x.size ≤ maxLen) (ha : StrsAt w va X) (hb : StrsAt w vb Y) :
    Calls Tryz.prog 140 #[va, vb] w fun e w' => e = .returned (.int .i64 (ordPre (bl X) (bl Y))) ∧ Bw w.heap.size w w' := by
  rcases ha with ⟨rfl, rfl⟩ | ⟨hXn, b0, rfl, hb0, hc0⟩
  · obtain ⟨p, c, rfl⟩ : ∃ p c, vb = .slice p Y.length c := by
      rcases hb with ⟨rfl, rfl⟩ | ⟨_, b, rfl, _⟩
      · exact ⟨none, 0, rfl⟩
      · exact ⟨_, _, rfl⟩
    have HO := hid (show ordPre (bl []) (bl Y) = Lib.compareInt (Y.length : Int) 0 by unfold ordPre; rw [if_pos (show bl [] = [] ∨ bl Y = [] from Or.inl rfl), bl_len]; rfl)
    have HC := hid (Tryz.cmp_Compare_int (Y.length : Int) 0 w)
    clear hb hXs hYs
    go_enter Tryz.func140, Tryz.ntmps140
    go_wp2_with fail
    refine HC.out.mono ?_
    rintro e w' ⟨rfl, rfl⟩
    go_wp2_with fail
    go_ret
    exact ⟨ret_int HO.out.symm, Bw.refl _ _⟩
  · have hl : 0 < X.length := List.length_pos_iff.2 hXn
    have h0 : ((X.length : Int) == 0) = false := beq_eq_false_iff_ne.2 (by omega)
    rcases hb with ⟨rfl, rfl⟩ | ⟨hYn, b1, rfl, hb1, hc1⟩
    · have HO := hid (show ordPre (bl X) (bl []) = Lib.compareInt 0 (X.length : Int) by unfold ordPre; rw [if_pos (show bl X = [] ∨ bl [] = [] from Or.inr rfl), bl_len X]; rfl)
      have HC := hid (Tryz.cmp_Compare_int 0 (X.length : Int) w)
      clear hXs hYs hc0
      go_enter Tryz.func140, Tryz.ntmps140
      go_wp2_with fail
      refine HC.out.mono ?_
      rintro e w' ⟨rfl, rfl⟩
      go_wp2_with fail
      go_ret
      exact ⟨ret_int HO.out.symm, Bw.refl _ _⟩
    · have hl2 : 0 < Y.length := List.length_pos_iff.2 hYn
      have h02 : ((Y.length : Int) == 0) = false := beq_eq_false_iff_ne.2 (by omega)
      have HO := hid (show ordPre (bl X) (bl Y) = ordPs (bl X) (bl Y) by unfold ordPre; rw [if_neg]; rintro (h | h); exact hXn (bl_nil.1 h); exact hYn (bl_nil.1 h))
      have HC := hid (cfunc_any b0 b1 X.length Y.length X Y w hX hXs hYs hc0 hc1)
      clear hXs hYs hc0 hc1
      go_enter Tryz.func140, Tryz.ntmps140
      go_wp2_with fail
      refine HC.out.mono ?_
      rintro e w' ⟨rfl, hb⟩
      have HB := hid hb
      clear hb
      go_wp2_with fail
      go_ret
      exact ⟨ret_int HO.out.symm, HB.out⟩
theorem d1_any (x y : Int) (A B : Nat) (w : World) (a0 : w.cell? ⟨A, 0, none⟩ = some (.int .i64 x)) (b0 : w.cell? ⟨B, 0, none⟩ = some (.int .i64 y)) :
    Calls Tryz.prog 135 #[.pointer (some ⟨A, 0, none⟩), .pointer (some ⟨B, 0, none⟩)] w fun e w' => e = .returned (.int .i64 (Lib.compareInt x y)) ∧ w' = w := by
  have HC := hid (Tryz.cmp_Compare_int x y w)
  go_enter Tryz.func135, Tryz.ntmps135
  go_wp2_with fail
  refine HC.out.mono ?_
  rintro e w' ⟨rfl, rfl⟩
  go_wp2_with fail
  go_ret
  exact ⟨rfl, rfl⟩
theorem d2_any (x y : Int) (A B : Nat) (w : World) (a0 : w.cell? ⟨A, 1, none⟩ = some (.int .i64 x)) (b0 : w.cell? ⟨B, 1, none⟩ = some (.int .i64 y)) :
    Calls Tryz.prog 137 #[.pointer (some ⟨A, 0, none⟩), .pointer (some ⟨B, 0, none⟩)] w fun e w' => e = .returned (.int .i64 (Lib.compareInt x y)) ∧ w' = w := by
  have HC := hid (Tryz.cmp_Compare_int x y w)
  go_enter Tryz.func137, Tryz.ntmps137
  go_wp2_with fail
  refine HC.out.mono ?_
  rintro e w' ⟨rfl, rfl⟩
  go_wp2_with fail
  go_ret
  exact ⟨rfl, rfl⟩
theorem d3_any (x y : Int) (A B : Nat) (w : World) (a0 : w.cell? ⟨A, 2, none⟩ = some (.int .i64 x)) (b0 : w.cell? ⟨B, 2, none⟩ = some (.int .i64 y)) :
    Calls Tryz.prog 138 #[.pointer (some ⟨A, 0, none⟩), .pointer (some ⟨B, 0, none⟩)] w fun e w' => e = .returned (.int .i64 (Lib.compareInt x y)) ∧ w' = w := by
  have HC := hid (Tryz.cmp_Compare_int x y w)
  go_enter Tryz.func138, Tryz.ntmps138
  go_wp2_with fail
  refine HC.out.mono ?_
  rintro e w' ⟨rfl, rfl⟩
  go_wp2_with fail
  go_ret
  exact ⟨rfl, rfl⟩
theorem d4_any (va vb : Value) (k : Int) (A B : Nat) (w : World) (a0 : w.cell? ⟨A, 3, none⟩ = some va) (b0 : w.cell? ⟨B, 3, none⟩ = some vb)
    (h : Calls Tryz.prog 140 #[va, vb] w fun e w' => e = .returned (.int .i64 k) ∧ Bw w.heap.size w w') :
    Calls Tryz.prog 139 #[.pointer (some ⟨A, 0, none⟩), .pointer (some ⟨B, 0, none⟩)] w fun e w' => e = .returned (.int .i64 k) ∧ Bw w.heap.size w w' := by
  have HC := hid h
  clear h
  go_enter Tryz.func139, Tryz.ntmps139
  go_wp2_with fail
  refine HC.out.mono ?_
  rintro e w' ⟨rfl, hb⟩
  have HB := hid hb
  clear hb
  go_wp2_with fail
  go_ret
  exact ⟨rfl, HB.out⟩
set_option maxHeartbeats 2000000 in
theorem first_four (k1 k2 k3 k4 : Int) (A B F : Nat) (w : World)
    (h1 : Calls Tryz.prog 135 #[.pointer (some ⟨A, 0, none⟩), .pointer (some ⟨B, 0, none⟩)] w fun e w' => e = .returned (.int .i64 k1) ∧ w' = w)
    (h2 : Calls Tryz.prog 137 #[.pointer (some ⟨A, 0, none⟩), .pointer (some ⟨B, 0, none⟩)] w fun e w' => e = .returned (.int .i64 k2) ∧ w' = w)
    (h3 : Calls Tryz.prog 138 #[.pointer (some ⟨A, 0, none⟩), .pointer (some ⟨B, 0, none⟩)] w fun e w' => e = .returned (.int .i64 k3) ∧ w' = w)
    (h4 : Calls Tryz.prog 139 #[.pointer (some ⟨A, 0, none⟩), .pointer (some ⟨B, 0, none⟩)] w fun e w' => e = .returned (.int .i64 k4) ∧ Bw w.heap.size w w')
    (f0 : w.cell? ⟨F, 0, none⟩ = some (.func (.func 135) #[] #[.pointer (some ⟨A, 0, none⟩), .pointer (some ⟨B, 0, none⟩)])) (f1 : w.cell? ⟨F, 1, none⟩ = some (.func (.func 137) #[] #[.pointer (some ⟨A, 0, none⟩), .pointer (some ⟨B, 0, none⟩)]))
    (f2 : w.cell? ⟨F, 2, none⟩ = some (.func (.func 138) #[] #[.pointer (some ⟨A, 0, none⟩), .pointer (some ⟨B, 0, none⟩)])) (f3 : w.cell? ⟨F, 3, none⟩ = some (.func (.func 139) #[] #[.pointer (some ⟨A, 0, none⟩), .pointer (some ⟨B, 0, none⟩)])) :
    Calls Tryz.prog 134 #[.slice (some ⟨F, 0, none⟩) 4 4] w fun e w' => e = .returned (.int .i64 (fst k1 (fst k2 (fst k3 k4)))) ∧ Bw w.heap.size w w' := by
  have HX := hid h1
  have HY := hid h2
  have HZ := hid h3
  have HP := hid h4
  clear h1 h2 h3 h4
  by_cases z1 : k1 = 0
  · subst z1
    by_cases z2 : k2 = 0
    · subst z2
      by_cases z3 : k3 = 0
      · subst z3
        by_cases z4 : k4 = 0
        · subst z4
          go_enter Tryz.func134, Tryz.ntmps134
          go_wp2_with fail
          refine wp_loop_rounds 5 ?_
          rw [rounds_succ]
          go_wp2_with fail
          refine HX.out.mono ?_
          rintro e w' ⟨rfl, rfl⟩
          go_wp2_with fail
          rw [rounds_succ]
          go_wp2_with fail
          refine HY.out.mono ?_
          rintro e w' ⟨rfl, rfl⟩
          go_wp2_with fail
          rw [rounds_succ]
          go_wp2_with fail
          refine HZ.out.mono ?_
          rintro e w' ⟨rfl, rfl⟩
          go_wp2_with fail
          rw [rounds_succ]
          go_wp2_with fail
          refine HP.out.mono ?_
          rintro e w1 ⟨rfl, hb⟩
          have HB := hid hb
          clear hb
          go_wp2_with fail
          rw [rounds_succ]
          go_wp2_with fail
          go_ret
          exact ⟨rfl, HB.out⟩
        · have b4 : (k4 == 0) = false := beq_eq_false_iff_ne.2 z4
          clear z4
          go_enter Tryz.func134, Tryz.ntmps134
          go_wp2_with fail
          refine wp_loop_rounds 4 ?_
          rw [rounds_succ]
          go_wp2_with fail
          refine HX.out.mono ?_
          rintro e w' ⟨rfl, rfl⟩
          go_wp2_with fail
          rw [rounds_succ]
          go_wp2_with fail
          refine HY.out.mono ?_
          rintro e w' ⟨rfl, rfl⟩
          go_wp2_with fail
          rw [rounds_succ]
          go_wp2_with fail
          refine HZ.out.mono ?_
          rintro e w' ⟨rfl, rfl⟩
          go_wp2_with fail
          rw [rounds_succ]
          go_wp2_with fail
          refine HP.out.mono ?_
          rintro e w1 ⟨rfl, hb⟩
          have HB := hid hb
          clear hb
          go_wp2_with fail
          go_ret
          exact ⟨ret_int rfl, HB.out⟩
      · have b3 : (k3 == 0) = false := beq_eq_false_iff_ne.2 z3
        have HF := hid (show fst 0 (fst 0 (fst k3 k4)) = k3 by rw [fst0, fst0, fst_ne _ z3])
        clear z3
        go_enter Tryz.func134, Tryz.ntmps134
        go_wp2_with fail
        refine wp_loop_rounds 3 ?_
        rw [rounds_succ]
        go_wp2_with fail
        refine HX.out.mono ?_
        rintro e w' ⟨rfl, rfl⟩
        go_wp2_with fail
        rw [rounds_succ]
        go_wp2_with fail
        refine HY.out.mono ?_
        rintro e w' ⟨rfl, rfl⟩
        go_wp2_with fail
        rw [rounds_succ]
        go_wp2_with fail
        refine HZ.out.mono ?_
        rintro e w' ⟨rfl, rfl⟩
        go_wp2_with fail
        go_ret
        exact ⟨ret_int HF.out.symm, Bw.refl _ _⟩
    · have b2 : (k2 == 0) = false := beq_eq_false_iff_ne.2 z2
      have HF := hid (show fst 0 (fst k2 (fst k3 k4)) = k2 by rw [fst0, fst_ne _ z2])
      clear z2
      go_enter Tryz.func134, Tryz.ntmps134
      go_wp2_with fail
      refine wp_loop_rounds 2 ?_
      rw [rounds_succ]
      go_wp2_with fail
      refine HX.out.mono ?_
      rintro e w' ⟨rfl, rfl⟩
      go_wp2_with fail
      rw [rounds_succ]
      go_wp2_with fail
      refine HY.out.mono ?_
      rintro e w' ⟨rfl, rfl⟩
      go_wp2_with fail
      go_ret
      exact ⟨ret_int HF.out.symm, Bw.refl _ _⟩
  · have b1 : (k1 == 0) = false := beq_eq_false_iff_ne.2 z1
    have HF := hid (fst_ne (fst k2 (fst k3 k4)) z1)
    clear z1
    go_enter Tryz.func134, Tryz.ntmps134
    go_wp2_with fail
    refine wp_loop_rounds 1 ?_
    rw [rounds_succ]
    go_wp2_with fail
    refine HX.out.mono ?_
    rintro e w' ⟨rfl, rfl⟩
    go_wp2_with fail
    go_ret
    exact ⟨ret_int HF.out.symm, Bw.refl _ _⟩
set_option maxHeartbeats 2000000 in
theorem compare_bw (x y z x' y' z' : Int) (va vb : Value) (X Y : List ByteArray) (w : World) (hX : X.length ≤ 1000000) (hY : Y.length ≤ 1000000) (hXs : ∀ x, x ∈ X → x.size ≤ maxLen) (hYs : ∀ x, x ∈ Y → x.size ≤ maxLen) (ha : StrsAt w va X) (hb : StrsAt w vb Y) :
    Calls Tryz.prog 69 #[.agg #[.int .i64 x, .int .i64 y, .int .i64 z, va], .agg #[.int .i64 x', .int .i64 y', .int .i64 z', vb]] w fun e w' => e = .returned (.int .i64 (ordN x y z (bl X) x' y' z' (bl Y))) ∧ Bw w.heap.size w w' := by
  have hmf : ∀ (fn : Fn) (first cap : Array Value) (w : World), (Instr.makeFunc fn first cap).run Tryz.prog w = .ok (.func fn first cap) w := fun _ _ _ _ => rfl
  have HXS := hid hXs
  have HYS := hid hYs
  have HA := hid ha
  have HB := hid hb
  obtain ⟨pa, na, ca, rfl⟩ : ∃ p n c, va = .slice p n c := by
    rcases ha with ⟨_, rfl⟩ | ⟨_, b, rfl, _⟩ <;> exact ⟨_, _, _, rfl⟩
  obtain ⟨pb, nb, cb, rfl⟩ : ∃ p n c, vb = .slice p n c := by
    rcases hb with ⟨_, rfl⟩ | ⟨_, b, rfl, _⟩ <;> exact ⟨_, _, _, rfl⟩
  clear hXs hYs ha hb
  go_enter Tryz.func69, Tryz.ntmps69
  go_wp2_with fail
  refine (first_four (Lib.compareInt x x') (Lib.compareInt y y') (Lib.compareInt z z') (ordPre (bl X) (bl Y)) w.heap.size (w.heap.size + 1) (w.heap.size + 1 + 1) _ (d1_any x x' _ _ _ ?_ ?_) (d2_any y y' _ _ _ ?_ ?_) (d3_any z z' _ _ _ ?_ ?_) (d4_any _ _ _ _ _ _ ?_ ?_ (cpre_any _ _ X Y _ hX hY HXS.out HYS.out (HA.out.below ?_) (HB.out.below ?_))) ?_ ?_ ?_ ?_).mono ?_
  · exact (three w _ _ _ _ _ 0).1.trans rfl
  · exact (three w _ _ _ _ _ 0).2.1.trans rfl
  · exact (three w _ _ _ _ _ 1).1.trans rfl
  · exact (three w _ _ _ _ _ 1).2.1.trans rfl
  · exact (three w _ _ _ _ _ 2).1.trans rfl
  · exact (three w _ _ _ _ _ 2).2.1.trans rfl
  · exact (three w _ _ _ _ _ 3).1.trans rfl
  · exact (three w _ _ _ _ _ 3).2.1.trans rfl
  · exact (((Below.refl _ _).alloc (Nat.le_refl _) _).alloc (by simp) _).alloc (by simp; omega) _
  · exact (((Below.refl _ _).alloc (Nat.le_refl _) _).alloc (by simp) _).alloc (by simp; omega) _
  · exact (three w _ _ _ _ _ 0).2.2.trans rfl
  · exact (three w _ _ _ _ _ 1).2.2.trans rfl
  · exact (three w _ _ _ _ _ 2).2.2.trans rfl
  · exact (three w _ _ _ _ _ 3).2.2.trans rfl
  rintro e w1 ⟨rfl, hb⟩
  have HBF := hid ((((((Bw.refl w.heap.size w).alloc (Nat.le_refl _) _).alloc (by simp) _).alloc (by simp; omega) _).trans (hb.mono (by simp; omega))))
  clear hb
  go_wp2_with fail
  go_ret
  exact ⟨rfl, HBF.out⟩
theorem compare_any (x y z x' y' z' : Int) (va vb : Value) (X Y : List ByteArray) (w : World) (hX : X.length ≤ 1000000) (hY : Y.length ≤ 1000000) (hXs : ∀ x, x ∈ X → x.size ≤ maxLen) (hYs : ∀ x, x ∈ Y → x.size ≤ maxLen) (ha : StrsAt w va X) (hb : StrsAt w vb Y) :
    Calls Tryz.prog 69 #[.agg #[.int .i64 x, .int .i64 y, .int .i64 z, va], .agg #[.int .i64 x', .int .i64 y', .int .i64 z', vb]] w fun e w' => e = .returned (.int .i64 (ordN x y z (bl X) x' y' z' (bl Y))) ∧ Below w.heap.size w w' :=
  (compare_bw x y z x' y' z' va vb X Y w hX hY hXs hYs ha hb).mono fun _ _ h => ⟨h.1, h.2.be⟩
end Ve
end Go.Proofs.YtnkgjddkdikikaaGreatDoor
namespace Go.Proofs.YtnkgjddkdikikaaGreatDoor
open Go.RowKit
namespace Ve
theorem errV_ne {c : Nat} (aT aB : Addr) (h : c ≠ 0) : ∃ a, errV aT aB c = .iface 311 (.pointer (some a)) := by
  unfold errV
  rw [if_neg h]
  split
  · exact ⟨aT, rfl⟩
  · exact ⟨aB, rfl⟩
theorem StrsAt.slice {w : World} {v : Value} {X : List ByteArray} (h : StrsAt w v X) : ∃ p n c, v = .slice p n c := by
  rcases h with ⟨_, rfl⟩ | ⟨_, b, rfl, _⟩ <;> exact ⟨_, _, _, rfl⟩
def GoodP (w w' : World) (e : Ending) (x y z : Int) (X : List ByteArray) : Prop :=
  ∃ v, e = .returned (.tuple #[.agg #[.int .i64 x, .int .i64 y, .int .i64 z, v], .nilIface]) ∧ StrsAt w' v X ∧ Below w.heap.size w w'
theorem vsplit_is (s : ByteArray) (aT aB : Addr) (m : Int) (w : World) (hs : s.size < 4294967281) (S : Vs w aT aB m) (h : verErr s.data.toList = 0) (X : List ByteArray) (hX : bl X = preOf s.data.toList) :
    Calls Tryz.prog 20 #[.string s] w fun e w' => GoodP w w' e (nAt s.data.toList 0) (nAt s.data.toList 1) (nAt s.data.toList 2) X :=
  (vsplit_good s aT aB m w hs S h).mono fun e w' ⟨v, X2, h1, h2, h3, h4⟩ => by
    obtain rfl : X2 = X := bl_inj (h2.trans hX.symm)
    exact ⟨v, h1, h3, h4⟩
def BadP (w w' : World) (e : Ending) : Prop :=
  ∃ a, e = .returned (.tuple #[.agg #[.int .i64 0, .int .i64 0, .int .i64 0, .slice none 0 0], .iface 311 (.pointer (some a))]) ∧ Below w.heap.size w w'
theorem vsplit_not (s : ByteArray) (aT aB : Addr) (m : Int) (w : World) (hs : s.size < 4294967281) (S : Vs w aT aB m) (h : verErr s.data.toList ≠ 0) :
    Calls Tryz.prog 20 #[.string s] w fun e w' => BadP w w' e :=
  (vsplit_bad s aT aB m w hs S h).mono fun e w' ⟨h1, h2⟩ => by
    obtain ⟨a, ha⟩ := errV_ne aT aB h
    exact ⟨a, by rw [h1, ha], h2⟩
def strs (ps : List (List UInt8)) : List ByteArray := ps.map fun p => ⟨p.toArray⟩
theorem bl_strs (ps : List (List UInt8)) : bl (strs ps) = ps := by
  unfold bl strs
  rw [List.map_map]
  conv => rhs; rw [← List.map_id ps]
  apply List.map_congr_left
  intro p _
  rfl
theorem pre_len {l : List UInt8} : (preOf l).length ≤ l.length + 1 := by
  unfold preOf
  split
  · have := cutAt_many 46 (one 45 (restOf l)).2.1
    have h2 := (one_le 45 (restOf l)).2
    have h3 := restOf_le l
    omega
  · simp
theorem pre_size {l p : List UInt8} (h : p ∈ preOf l) : p.length ≤ l.length := by
  unfold preOf at h
  split at h
  · have := cutAt_le 46 _ p h
    have h2 := (one_le 45 (restOf l)).2
    have h3 := restOf_le l
    omega
  · simp at h
end Ve
end Go.Proofs.YtnkgjddkdikikaaGreatDoor
namespace Go.Proofs.YtnkgjddkdikikaaGreatDoor
open Go.RowKit
namespace Ve
def sufOk (l : List UInt8) : Bool := decide ((num (restOf l)).2 = 0) && decide (2 ≤ (num (restOf l)).1)
theorem trimV_any (s : ByteArray) (w : World) : Calls Tryz.prog 231 #[.string s, .string ⟨#[118]⟩] w fun e w' => ∃ R : ByteArray, e = .returned (.string R) ∧ R.data.toList = restOf s.data.toList ∧ w' = w :=
  (Tryz.strings_TrimPrefix s ⟨#[118]⟩ w).mono fun e w' ⟨h1, h2⟩ => ⟨_, h1, by
    have e0 : (⟨#[118]⟩ : ByteArray).data.toList = [118] := rfl
    rw [e0, trimPrefix_v], h2⟩
set_option maxHeartbeats 1000000 in
theorem suffix_any (s : ByteArray) (A : Nat → Addr) (m : Int) (w : World) (hs : s.size < 4294967281) (S : Te w A m) :
    Calls Tryz.prog 168 #[.string s] w fun e w' => e = .returned (.tuple #[.int .i64 (if sufOk s.data.toList then (num (restOf s.data.toList)).1 else 0), if sufOk s.data.toList then .nilIface else .iface 311 (.pointer (some (A 3)))]) ∧ Below w.heap.size w w' := by
  have HO := hid (show sufOk s.data.toList = (decide ((num (restOf s.data.toList)).2 = 0) && decide (2 ≤ (num (restOf s.data.toList)).1)) from rfl)
  have HS := hid S
  have HT := hid (trimV_any s w)
  have HN := hid (fun (R : ByteArray) (h : R.data.toList = restOf s.data.toList) W (SW : Te W A m) => num_any R (A 0) (A 1) m W (by
      have h1 := size_of h
      have h2 := restOf_le s.data.toList
      simp at h2; unfold maxLen; omega) SW.vs)
  have HE := hid (num_err (restOf s.data.toList))
  clear S
  by_cases h1 : (num (restOf s.data.toList)).2 = 0
  · by_cases h2 : 2 ≤ (num (restOf s.data.toList)).1
    · have HK := hid (show sufOk s.data.toList = true by rw [HO.out, decide_eq_true h1, decide_eq_true h2]; rfl)
      have H1 := hid h1
      rw [HK.out]
      clear h1
      go_enter Tryz.func168, Tryz.ntmps168
      go_wp2_with fail
      refine HT.out.mono ?_
      rintro e w' ⟨R, rfl, hR, rfl⟩
      have HR := hid hR
      clear hR
      go_wp2_with fail
      refine (HN.out R HR.out _ HS.out).mono ?_
      rintro e w1 ⟨rfl, hb1⟩
      rw [HR.out, H1.out, errV0]
      have HB := hid hb1
      clear hb1
      generalize hn : (num (restOf s.data.toList)).1 = n at *
      have HNN := hid hn
      clear hn
      go_wp2_with fail
      go_ret2
      exact ⟨by rw [← HNN.out]; rfl, HB.out⟩
    · have HK := hid (show sufOk s.data.toList = false by rw [HO.out, decide_eq_false h2]; simp)
      have H1 := hid h1
      rw [HK.out]
      clear h1
      go_enter Tryz.func168, Tryz.ntmps168
      go_wp2_with fail
      refine HT.out.mono ?_
      rintro e w' ⟨R, rfl, hR, rfl⟩
      have HR := hid hR
      clear hR
      go_wp2_with fail
      refine (HN.out R HR.out _ HS.out).mono ?_
      rintro e w1 ⟨rfl, hb1⟩
      rw [HR.out, H1.out, errV0]
      have HB := hid hb1
      have g3 := (HS.out.below hb1).sen.g3
      clear hb1
      generalize (num (restOf s.data.toList)).1 = n at *
      go_wp2_with fail
      go_quiet (fail)
      go_wp2_with fail
      go_ret2
      exact ⟨rfl, HB.out.trans ((below_drawn _ _).mono HB.out.size)⟩
  · have HK := hid (show sufOk s.data.toList = false by rw [HO.out, decide_eq_false h1]; rfl)
    have H1 := hid h1
    rw [HK.out]
    clear h1
    go_enter Tryz.func168, Tryz.ntmps168
    go_wp2_with fail
    refine HT.out.mono ?_
    rintro e w' ⟨R, rfl, hR, rfl⟩
    have HR := hid hR
    clear hR
    go_wp2_with fail
    refine (HN.out R HR.out _ HS.out).mono ?_
    rintro e w1 ⟨rfl, hb1⟩
    rw [HR.out]
    have HB := hid hb1
    have g3 := (HS.out.below hb1).sen.g3
    clear hb1
    obtain ⟨a9, ha9⟩ : ∃ a, errV (A 0) (A 1) (num (restOf s.data.toList)).2 = .iface 311 (.pointer (some a)) := by
      rcases HE.out with h | h | h
      · exact absurd h H1.out
      · exact ⟨_, by rw [h]; rfl⟩
      · exact ⟨_, by rw [h]; rfl⟩
    rw [ha9]
    clear ha9
    generalize (num (restOf s.data.toList)).1 = n at *
    go_wp2_with fail
    go_quiet (fail)
    go_wp2_with fail
    go_ret2
    exact ⟨rfl, HB.out.trans ((below_drawn _ _).mono HB.out.size)⟩
end Ve
end Go.Proofs.YtnkgjddkdikikaaGreatDoor
