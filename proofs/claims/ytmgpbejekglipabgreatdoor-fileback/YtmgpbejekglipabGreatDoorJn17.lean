/-
  What plain.Code answers: for a sentinel its number and -1, for another error of errors.New -1 and -1, for an api.Fault that wraps a sentinel its number and its place; nothing old in memory turns.
-/
import Derived.Test.YtmgpbejekglipabGreatDoorJn16
import Derived.Test.YtmgpbejekglipabGreatDoorJn15
import Derived.OwnWalk
import Derived.Lib.SliceRun
namespace Go.Proofs.YtmgpbejekglipabGreatDoor
open Go.RowKit Go.Extern.Stop Go.Stop Go.Extern
namespace Er

theorem hid {p : Prop} (h : p) : Hid p := h

theorem lt_of_cell {w : World} {a : Addr} {v : Value} (h : w.cell? a = some v) : a.block < w.heap.size := by
  rcases Nat.lt_or_ge a.block w.heap.size with hh | hh
  · exact hh
  · simp [World.cell?, Array.getElem?_eq_none hh] at h

/-- The ten sentinels lie where they should: each variable's cell, each pointee's block; no two are one. -/
structure Sen (w : World) (A : Nat → Addr) : Prop where
  g0 : w.cell? ⟨3, 0, none⟩ = some (.iface 279 (.pointer (some (A 0))))
  g1 : w.cell? ⟨1, 0, none⟩ = some (.iface 279 (.pointer (some (A 1))))
  g2 : w.cell? ⟨4, 0, none⟩ = some (.iface 279 (.pointer (some (A 2))))
  g3 : w.cell? ⟨5, 0, none⟩ = some (.iface 279 (.pointer (some (A 3))))
  g4 : w.cell? ⟨2, 0, none⟩ = some (.iface 279 (.pointer (some (A 4))))
  g5 : w.cell? ⟨6, 0, none⟩ = some (.iface 279 (.pointer (some (A 5))))
  g6 : w.cell? ⟨0, 0, none⟩ = some (.iface 279 (.pointer (some (A 6))))
  g7 : w.cell? ⟨7, 0, none⟩ = some (.iface 279 (.pointer (some (A 7))))
  g8 : w.cell? ⟨8, 0, none⟩ = some (.iface 279 (.pointer (some (A 8))))
  g9 : w.cell? ⟨9, 0, none⟩ = some (.iface 279 (.pointer (some (A 9))))
  et : w.cell? ⟨10, 0, none⟩ = some (.iface 198 (.agg #[.pointer (some ⟨17, 32, none⟩)]))
  blk : ∀ k, k < 10 → ∃ c t, w.heap[(A k).block]? = some (.cells c t (0, 0))
  inj : ∀ i j, i < 10 → j < 10 → i ≠ j → A i ≠ A j

theorem Sen.below {w w' : World} {A : Nat → Addr} (h : Sen w A) (hb : Below w.heap.size w w') : Sen w' A := by
  refine ⟨?_, ?_, ?_, ?_, ?_, ?_, ?_, ?_, ?_, ?_, ?_, ?_, h.inj⟩
  · rw [hb.cell (lt_of_cell h.g0)]; exact h.g0
  · rw [hb.cell (lt_of_cell h.g1)]; exact h.g1
  · rw [hb.cell (lt_of_cell h.g2)]; exact h.g2
  · rw [hb.cell (lt_of_cell h.g3)]; exact h.g3
  · rw [hb.cell (lt_of_cell h.g4)]; exact h.g4
  · rw [hb.cell (lt_of_cell h.g5)]; exact h.g5
  · rw [hb.cell (lt_of_cell h.g6)]; exact h.g6
  · rw [hb.cell (lt_of_cell h.g7)]; exact h.g7
  · rw [hb.cell (lt_of_cell h.g8)]; exact h.g8
  · rw [hb.cell (lt_of_cell h.g9)]; exact h.g9
  · rw [hb.cell (lt_of_cell h.et)]; exact h.et
  · intro k hk
    obtain ⟨c, t, e⟩ := h.blk k hk
    have hlt : (A k).block < w.heap.size := by
      rcases Nat.lt_or_ge (A k).block w.heap.size with hh | hh
      · exact hh
      · rw [Array.getElem?_eq_none hh] at e; cases e
    exact ⟨c, t, by rw [hb.block _ hlt]; exact e⟩

/-- The ten of a list that was made of them. -/
theorem ten (w : World) (A : Nat → Addr) (T : TypeId) (k : Nat) (hk : k < 10) :
    (w.alloc (.cells #[.iface 279 (.pointer (some (A 0))), .iface 279 (.pointer (some (A 1))), .iface 279 (.pointer (some (A 2))), .iface 279 (.pointer (some (A 3))), .iface 279 (.pointer (some (A 4))), .iface 279 (.pointer (some (A 5))), .iface 279 (.pointer (some (A 6))), .iface 279 (.pointer (some (A 7))), .iface 279 (.pointer (some (A 8))), .iface 279 (.pointer (some (A 9)))] T)).cell? ⟨w.heap.size, k, none⟩ = some (.iface 279 (.pointer (some (A k)))) := by
  match k, hk with
  | 0, _ => simp
  | 1, _ => simp
  | 2, _ => simp
  | 3, _ => simp
  | 4, _ => simp
  | 5, _ => simp
  | 6, _ => simp
  | 7, _ => simp
  | 8, _ => simp
  | 9, _ => simp

set_option maxHeartbeats 1000000 in
theorem code_nil (w : World) : Calls Tryz.prog 41 #[.nilIface] w fun e w' => e = .returned (.tuple #[.int .i64 0, .int .i64 (-1)]) ∧ w' = w := by
  go_enter Tryz.func41, Tryz.ntmps41
  go_wp2
  go_ret2
  exact ⟨rfl, rfl⟩

theorem as_miss_b (e t : Addr) (w : World) (hg : w.cell? ⟨10, 0, none⟩ = some (.iface 198 (.agg #[.pointer (some ⟨17, 32, none⟩)]))) :
    Calls Tryz.prog 84 #[.iface 279 (.pointer (some e)), .iface 122 (.pointer (some t))] w fun ev w' => ev = .returned (.bool false) ∧ Below w.heap.size w w' :=
  (as_miss e t w hg).mono fun _ _ ⟨h1, h2⟩ => ⟨h1, by
    rw [h2]
    exact (((Below.refl _ _).alloc (Nat.le_refl _) _).alloc (by simp) _).alloc (by simp; omega) _⟩

set_option maxHeartbeats 1000000 in
theorem code_miss (a : Addr) (A : Nat → Addr) (j : Nat) (w : World) (S : Sen w A) (hj : j ≤ 10)
    (hY : j < 10 → ∀ W, Below w.heap.size w W → Calls Tryz.prog 85 #[.iface 279 (.pointer (some a)), .iface 279 (.pointer (some (A j)))] W fun e w' => e = .returned (.bool true) ∧ w' = W)
    (hN : ∀ k, k < 10 → k ≠ j → ∀ W, Below w.heap.size w W → Calls Tryz.prog 85 #[.iface 279 (.pointer (some a)), .iface 279 (.pointer (some (A k)))] W fun e w' => e = .returned (.bool false) ∧ w' = W) :
    Calls Tryz.prog 41 #[.iface 279 (.pointer (some a))] w fun e w' => e = .returned (.tuple #[.int .i64 (if j < 10 then (j : Int) + 1 else -1), .int .i64 (-1)]) ∧ Below w.heap.size w w' := by
  have hb0 : Below w.heap.size w (w.alloc (.cells #[.pointer none] 120)) := (Below.refl _ _).alloc (Nat.le_refl _) _
  have HY := hid hY
  have HN := hid hN
  have HS := hid S
  have HB0 := hid hb0
  clear hY hN S hb0
  go_enter Tryz.func41, Tryz.ntmps41
  go_wp2_with fail
  refine (as_miss_b a _ _ (HS.out.below HB0.out).et).mono ?_
  rintro e w1 ⟨rfl, hb1⟩
  have hb : Below w.heap.size w w1 := HB0.out.trans (hb1.mono (by simp))
  have S := HS.out.below hb
  have HB := hid hb
  clear hb1 hb
  have c0 := S.g0
  have c1 := S.g1
  have c2 := S.g2
  have c3 := S.g3
  have c4 := S.g4
  have c5 := S.g5
  have c6 := S.g6
  have c7 := S.g7
  have c8 := S.g8
  have c9 := S.g9
  clear S
  go_wp2_with fail
  have hbL := HB.out.alloc HB.out.size (.cells #[.iface 279 (.pointer (some (A 0))), .iface 279 (.pointer (some (A 1))), .iface 279 (.pointer (some (A 2))), .iface 279 (.pointer (some (A 3))), .iface 279 (.pointer (some (A 4))), .iface 279 (.pointer (some (A 5))), .iface 279 (.pointer (some (A 6))), .iface 279 (.pointer (some (A 7))), .iface 279 (.pointer (some (A 8))), .iface 279 (.pointer (some (A 9)))] 32)
  have HBL := hid hbL
  clear hbL c0 c1 c2 c3 c4 c5 c6 c7 c8 c9
  go_loop [3, 28] (fun at_ i => ∃ k : Nat, k ≤ 10 ∧ k ≤ j ∧ i = .int .i64 k ∧ at_ = .int .i64 (-1)) (fun _ i => 10 - (intOf i).toNat)
  case atStart => exact ⟨0, by omega, by omega, rfl, rfl⟩
  case round =>
    obtain ⟨k, hk, hkj, rfl, rfl⟩ := hrel
    by_cases hlt : k < 10
    · have hc := ten w1 A 32 k hlt
      by_cases hkeq : k = j
      · subst hkeq
        go_wp2_with fail
        refine (HY.out hlt _ HBL.out).mono ?_
        rintro e w' ⟨rfl, rfl⟩
        go_wp2_with fail
        go_ret2
        exact ⟨rfl, HBL.out⟩
      · go_wp2_with fail
        refine (HN.out k hlt hkeq _ HBL.out).mono ?_
        rintro e w' ⟨rfl, rfl⟩
        go_wp2_with fail
        go_round
        case rel => exact ⟨k + 1, by omega, by omega, by go_num, rfl⟩
        case measure => simp [intOf]; omega
    · have hj10 : ¬ j < 10 := by omega
      go_wp2_with fail
      go_ret2
      exact ⟨rfl, HBL.out⟩

theorem as_hit_b (e t : Addr) (old : Value) (w : World) (B : Nat) (hB : B ≤ t.block) (hg : w.cell? ⟨10, 0, none⟩ = some (.iface 198 (.agg #[.pointer (some ⟨17, 32, none⟩)]))) (ht0 : w.cell? t = some old) (hf0 : w.frozen? t = false) (htb : t.block < w.heap.size) :
    Calls Tryz.prog 84 #[.iface 120 (.pointer (some e)), .iface 122 (.pointer (some t))] w fun ev w' => ev = .returned (.bool true) ∧ Below B w w' ∧ w'.cell? t = some (.pointer (some e)) :=
  (as_hit e t old w hg ht0 hf0).mono fun _ _ ⟨h1, h2⟩ => ⟨h1, by
    rw [h2]
    exact (((((Below.refl _ _).alloc (by omega) _).alloc (by simp; omega) _).alloc (by simp; omega) _).alloc (by simp; omega) _).setCell hB _, by
    rw [h2, World.cell?_setCell_same (u := old)]
    rw [World.cell?_alloc_lt _ _ t (by simp; omega), World.cell?_alloc_lt _ _ t (by simp; omega), World.cell?_alloc_lt _ _ t (by simp; omega), World.cell?_alloc_lt _ _ t htb]; exact ht0⟩

set_option maxHeartbeats 1000000 in
theorem code_hit (fb fo : Nat) (n : Int) (A : Nat → Addr) (j : Nat) (w : World) (S : Sen w A) (hj : j ≤ 10) (hfb : fb < w.heap.size) (hn : w.cell? ⟨fb, fo, none⟩ = some (.int .i64 n))
    (hY : j < 10 → ∀ W, Below w.heap.size w W → Calls Tryz.prog 85 #[.iface 120 (.pointer (some ⟨fb, fo, none⟩)), .iface 279 (.pointer (some (A j)))] W fun e w' => e = .returned (.bool true) ∧ w' = W)
    (hN : ∀ k, k < 10 → k ≠ j → ∀ W, Below w.heap.size w W → Calls Tryz.prog 85 #[.iface 120 (.pointer (some ⟨fb, fo, none⟩)), .iface 279 (.pointer (some (A k)))] W fun e w' => e = .returned (.bool false) ∧ w' = W) :
    Calls Tryz.prog 41 #[.iface 120 (.pointer (some ⟨fb, fo, none⟩))] w fun e w' => e = .returned (.tuple #[.int .i64 (if j < 10 then (j : Int) + 1 else -1), .int .i64 n]) ∧ Below w.heap.size w w' := by
  have hb0 : Below w.heap.size w (w.alloc (.cells #[.pointer none] 120)) := (Below.refl _ _).alloc (Nat.le_refl _) _
  have HY := hid hY
  have HN := hid hN
  have HS := hid S
  have HB0 := hid hb0
  have Hn := hid hn
  clear hY hN S hb0 hn
  go_enter Tryz.func41, Tryz.ntmps41
  go_wp2_with fail
  refine (as_hit_b ⟨fb, fo, none⟩ ⟨w.heap.size, 0, none⟩ (.pointer none) _ w.heap.size (Nat.le_refl _) (HS.out.below HB0.out).et (by simp) (by simp) (by simp)).mono ?_
  rintro e w1 ⟨rfl, hb1, ht1⟩
  have hb : Below w.heap.size w w1 := HB0.out.trans hb1
  have S := HS.out.below hb
  have hn1 : w1.cell? ⟨fb, fo, none⟩ = some (.int .i64 n) := by rw [hb.cell hfb]; exact Hn.out
  have HB := hid hb
  clear hb1 hb
  have c0 := S.g0
  have c1 := S.g1
  have c2 := S.g2
  have c3 := S.g3
  have c4 := S.g4
  have c5 := S.g5
  have c6 := S.g6
  have c7 := S.g7
  have c8 := S.g8
  have c9 := S.g9
  clear S
  go_wp2_with fail
  have hbL := HB.out.alloc HB.out.size (.cells #[.iface 279 (.pointer (some (A 0))), .iface 279 (.pointer (some (A 1))), .iface 279 (.pointer (some (A 2))), .iface 279 (.pointer (some (A 3))), .iface 279 (.pointer (some (A 4))), .iface 279 (.pointer (some (A 5))), .iface 279 (.pointer (some (A 6))), .iface 279 (.pointer (some (A 7))), .iface 279 (.pointer (some (A 8))), .iface 279 (.pointer (some (A 9)))] 32)
  have HBL := hid hbL
  clear hbL c0 c1 c2 c3 c4 c5 c6 c7 c8 c9 hn1 ht1
  go_loop [3, 28] (fun at_ i => ∃ k : Nat, k ≤ 10 ∧ k ≤ j ∧ i = .int .i64 k ∧ at_ = .int .i64 n) (fun _ i => 10 - (intOf i).toNat)
  case atStart => exact ⟨0, by omega, by omega, rfl, rfl⟩
  case round =>
    obtain ⟨k, hk, hkj, rfl, rfl⟩ := hrel
    by_cases hlt : k < 10
    · have hc := ten w1 A 32 k hlt
      by_cases hkeq : k = j
      · subst hkeq
        go_wp2_with fail
        refine (HY.out hlt _ HBL.out).mono ?_
        rintro e w' ⟨rfl, rfl⟩
        go_wp2_with fail
        go_ret2
        exact ⟨rfl, HBL.out⟩
      · go_wp2_with fail
        refine (HN.out k hlt hkeq _ HBL.out).mono ?_
        rintro e w' ⟨rfl, rfl⟩
        go_wp2_with fail
        go_round
        case rel => exact ⟨k + 1, by omega, by omega, by go_num, rfl⟩
        case measure => simp [intOf]; omega
    · have hj10 : ¬ j < 10 := by omega
      go_wp2_with fail
      go_ret2
      exact ⟨rfl, HBL.out⟩

/-- The block of a sentinel, later. -/
theorem blk_below {w W : World} {b : Nat} {c : Array Value} {t : TypeId} (h : w.heap[b]? = some (.cells c t (0, 0))) (hb : Below w.heap.size w W) : W.heap[b]? = some (.cells c t (0, 0)) := by
  have hlt : b < w.heap.size := by
    rcases Nat.lt_or_ge b w.heap.size with hh | hh
    · exact hh
    · rw [Array.getElem?_eq_none hh] at h; cases h
  rw [hb.block _ hlt]; exact h

/-- plain.Code of the j-th sentinel. -/
theorem code_sen (A : Nat → Addr) (j : Nat) (w : World) (S : Sen w A) (hj : j < 10) :
    Calls Tryz.prog 41 #[.iface 279 (.pointer (some (A j)))] w fun e w' => e = .returned (.tuple #[.int .i64 ((j : Int) + 1), .int .i64 (-1)]) ∧ Below w.heap.size w w' := by
  refine (code_miss (A j) A j w S (Nat.le_of_lt hj) (fun _ W _ => is_same (A j) W) (fun k hk hkj W hW => ?_)).mono fun e w' ⟨h1, h2⟩ => ⟨by rw [h1, if_pos hj], h2⟩
  obtain ⟨c1, t1, e1⟩ := S.blk j hj
  obtain ⟨c2, t2, e2⟩ := S.blk k hk
  exact is_other (A j) (A k) c1 c2 t1 t2 W (S.inj j k hj hk (fun h => hkj h.symm)) (blk_below e1 hW) (blk_below e2 hW)

/-- plain.Code of another error of errors.New. -/
theorem code_else (a : Addr) (A : Nat → Addr) (w : World) (S : Sen w A) (hne : ∀ k, k < 10 → a ≠ A k) (hblk : ∃ c t, w.heap[a.block]? = some (.cells c t (0, 0))) :
    Calls Tryz.prog 41 #[.iface 279 (.pointer (some a))] w fun e w' => e = .returned (.tuple #[.int .i64 (-1), .int .i64 (-1)]) ∧ Below w.heap.size w w' := by
  refine (code_miss a A 10 w S (Nat.le_refl _) (fun h => absurd h (by omega)) (fun k hk _ W hW => ?_)).mono fun e w' ⟨h1, h2⟩ => ⟨by rw [h1, if_neg (by omega)], h2⟩
  obtain ⟨c1, t1, e1⟩ := hblk
  obtain ⟨c2, t2, e2⟩ := S.blk k hk
  exact is_other a (A k) c1 c2 t1 t2 W (hne k hk) (blk_below e1 hW) (blk_below e2 hW)

/-- plain.Code of an api.Fault that wraps the j-th sentinel. -/
theorem code_fault (fb fo : Nat) (n : Int) (A : Nat → Addr) (j : Nat) (w : World) (S : Sen w A) (hj : j < 10) (hfb : fb < w.heap.size) (hn : w.cell? ⟨fb, fo, none⟩ = some (.int .i64 n)) (he : w.cell? ⟨fb, fo + 1, none⟩ = some (.iface 279 (.pointer (some (A j))))) :
    Calls Tryz.prog 41 #[.iface 120 (.pointer (some ⟨fb, fo, none⟩))] w fun e w' => e = .returned (.tuple #[.int .i64 ((j : Int) + 1), .int .i64 n]) ∧ Below w.heap.size w w' := by
  refine (code_hit fb fo n A j w S (Nat.le_of_lt hj) hfb hn (fun _ W hW => is_wrap_same fb fo (A j) W ?_) (fun k hk hkj W hW => ?_)).mono fun e w' ⟨h1, h2⟩ => ⟨by rw [h1, if_pos hj], h2⟩
  · rw [hW.cell hfb]; exact he
  · obtain ⟨c1, t1, e1⟩ := S.blk j hj
    obtain ⟨c2, t2, e2⟩ := S.blk k hk
    exact is_wrap_other fb fo (A k) (A j) c1 c2 t1 t2 W (by rw [hW.cell hfb]; exact he) (S.inj j k hj hk (fun h => hkj h.symm)) (blk_below e1 hW) (blk_below e2 hW)
end Er
end Go.Proofs.YtmgpbejekglipabGreatDoor

/-
  What Bare of package place, right and Read of package file answer; nothing old in memory turns.
-/
namespace Go.Proofs.YtmgpbejekglipabGreatDoor
open Go.RowKit
namespace Ve

set_option maxHeartbeats 1000000 in
theorem bare_sen (a : Addr) (A : Nat → Addr) (m : Int) (w : World) (S : Te w A m) :
    Calls Tryz.prog 103 #[.iface 279 (.pointer (some a))] w fun e w' => e = .returned (.iface 279 (.pointer (some a))) ∧ Below w.heap.size w w' := by
  have HB0 := hid ((Below.refl w.heap.size w).alloc (Nat.le_refl _) (.cells #[.pointer none] 120))
  have HA := hid (Er.as_miss_b a ⟨w.heap.size, 0, none⟩ _ (S.below HB0.out).sen.et)
  clear S
  go_enter Tryz.func103, Tryz.ntmps103
  go_wp2_with fail
  refine HA.out.mono ?_
  rintro e w1 ⟨rfl, hb⟩
  have HB := hid (HB0.out.trans (hb.mono HB0.out.size))
  clear hb
  go_wp2_with fail
  go_ret
  exact ⟨rfl, HB.out⟩
set_option maxHeartbeats 1000000 in
theorem bare_fault (b : Nat) (x : Addr) (A : Nat → Addr) (m : Int) (w : World) (S : Te w A m) (h1 : w.cell? ⟨b, 1, none⟩ = some (.iface 279 (.pointer (some x)))) :
    Calls Tryz.prog 103 #[.iface 120 (.pointer (some ⟨b, 0, none⟩))] w fun e w' => e = .returned (.iface 279 (.pointer (some x))) ∧ Below w.heap.size w w' := by
  have HB0 := hid ((Below.refl w.heap.size w).alloc (Nat.le_refl _) (.cells #[.pointer none] 120))
  have HA := hid (Er.as_hit_b ⟨b, 0, none⟩ ⟨w.heap.size, 0, none⟩ (.pointer none) _ w.heap.size (Nat.le_refl _) (S.below HB0.out).sen.et (by simp) (by simp) (by simp))
  have H1 := hid h1
  clear S h1
  go_enter Tryz.func103, Tryz.ntmps103
  go_wp2_with fail
  refine HA.out.mono ?_
  rintro e w1 ⟨rfl, hb, ht⟩
  have HB := hid (HB0.out.trans hb)
  have c1 := cell_below HB.out H1.out
  clear hb
  go_wp2_with fail
  go_ret
  exact ⟨rfl, HB.out⟩
/-- place.Bare. -/
theorem bare_any (x : Value) (c : Nat) (o : Option Nat) (A : Nat → Addr) (m : Int) (w : World) (S : Te w A m) (h : ErrAt w A x c o) (hc : c ≠ 0) :
    Calls Tryz.prog 103 #[x] w fun e w' => e = .returned (errA A c) ∧ Below w.heap.size w w' := by
  cases o with
  | none =>
    have h : x = errA A c := h
    rw [h, errA_if A hc]
    exact bare_sen _ A m w S
  | some i =>
    obtain ⟨_, b, rfl, _, h3⟩ := h
    rw [errA_if A hc] at h3 ⊢
    exact bare_fault b _ A m w S h3

theorem two3 {w w3 : World} {a b c a' b' c' : Value} {T T' : TypeId} (hb : Below (w.heap.size + 1 + 1) ((w.alloc (.cells #[a, b, c] T)).alloc (.cells #[a', b', c'] T')) w3) :
    (w3.cell? ⟨w.heap.size, 0, none⟩ = some a ∧ w3.cell? ⟨w.heap.size, 1, none⟩ = some b ∧ w3.cell? ⟨w.heap.size, 2, none⟩ = some c) ∧
    (w3.cell? ⟨w.heap.size + 1, 0, none⟩ = some a' ∧ w3.cell? ⟨w.heap.size + 1, 1, none⟩ = some b' ∧ w3.cell? ⟨w.heap.size + 1, 2, none⟩ = some c') ∧ (∀ o, w3.frozen? ⟨w.heap.size + 1, o, none⟩ = false) ∧ w.heap.size + 1 < w3.heap.size := by
  have hz : (w.alloc (.cells #[a, b, c] T)).heap.size = w.heap.size + 1 := by simp
  have h2 : Below ((w.alloc (.cells #[a, b, c] T)).heap.size + 1) ((w.alloc (.cells #[a, b, c] T)).alloc (.cells #[a', b', c'] T')) w3 := by rw [hz]; exact hb
  obtain ⟨c2, z2⟩ := res3 h2
  have f2 := res3f h2
  rw [hz] at c2 z2 f2
  refine ⟨?_, c2, f2, z2⟩
  have go : ∀ o, w3.cell? ⟨w.heap.size, o, none⟩ = (w.alloc (.cells #[a, b, c] T)).cell? ⟨w.heap.size, o, none⟩ := fun o => by
    rw [hb.cell (by simp; omega), World.cell?_alloc_lt _ _ _ (by simp)]
  rw [go, go, go]
  simp
set_option maxHeartbeats 1000000 in
theorem right_bad (p : ByteArray) (R X : List Bm) (v u : Value) (A : Nat → Addr) (m : Int) (w : World) (hp : p.size < 999999) (S : Te w A m) (F : Fl w R X v u) (h : (fileF p R X).1 ≠ 0) :
    Calls Tryz.prog 56 #[.agg #[.string p, v, u]] w fun e w' => e = .returned (.tuple #[.agg #[.string ⟨#[]⟩, .slice none 0 0, .slice none 0 0], errA A (fileF p R X).1]) ∧ Below w.heap.size w w' := by
  obtain ⟨⟨vp, vc, rfl⟩, up, uc, rfl⟩ := F.slices
  have HB1 := hid (((Below.refl w.heap.size w).alloc (Nat.le_refl _) (.cells #[.string p, .slice vp R.length vc, .slice up X.length uc] 24)).alloc (by simp) (.cells #[.string ⟨#[]⟩, .slice none 0 0, .slice none 0 0] 24))
  have HS := hid (S.below HB1.out)
  have HC := hid (fcheck_any p R X _ _ A m _ hp HS.out (F.below HB1.out))
  have HN := hid h
  rw [errA_if A h]
  have HEI := hid (errA_if A h)
  clear S F h
  generalize (fileF p R X).1 = cc at *
  generalize (fileF p R X).2 = oo at *
  go_enter Tryz.func56, Tryz.ntmps56
  go_wp2_with fail
  refine HC.out.mono ?_
  rintro e w1 ⟨x, rfl, he, hb⟩
  have HE := hid he
  have HBa := hid (show Below (w.heap.size + 1 + 1) ((w.alloc (.cells #[.string p, .slice vp R.length vc, .slice up X.length uc] 24)).alloc (.cells #[.string ⟨#[]⟩, .slice none 0 0, .slice none 0 0] 24)) w1 from hb.mono (by simp))
  have HS1 := hid (HS.out.below hb)
  have HB2 := hid (HB1.out.trans (hb.mono HB1.out.size))
  have HBR := hid (bare_any x cc oo A m w1 HS1.out he HN.out)
  rw [HEI.out] at HBR
  obtain ⟨T, a, rfl⟩ := errAt_iface he HN.out
  clear he hb
  go_wp2_with fail
  refine HBR.out.mono ?_
  rintro e w2 ⟨rfl, hb⟩
  have HBb := hid (HBa.out.trans (hb.mono (by have := HBa.out.size; simp at this; omega)))
  obtain ⟨_, ⟨r0, r1, r2⟩, rf, rz⟩ := two3 HBb.out
  have HB3 := hid (HB2.out.trans (hb.mono HB2.out.size))
  clear hb
  go_wp2_with fail
  refine bodyPost_ret (v := .tuple #[.agg #[.string ⟨#[]⟩, .slice none 0 0, .slice none 0 0], .iface 279 (.pointer (some (A (cc - 1))))]) (by simp [results, Tryz.results56, go_sem, r0, r1, r2]) rfl ⟨rfl, ?_⟩
  exact put3_below HB3.out (by omega)
set_option maxHeartbeats 1000000 in
theorem right_ok (p : ByteArray) (R X : List Bm) (v u : Value) (A : Nat → Addr) (m : Int) (w : World) (hp : p.size < 999999) (S : Te w A m) (F : Fl w R X v u) (h : (fileF p R X).1 = 0) :
    Calls Tryz.prog 56 #[.agg #[.string p, v, u]] w fun e w' => e = .returned (.tuple #[.agg #[.string p, v, u], .nilIface]) ∧ Below w.heap.size w w' := by
  obtain ⟨⟨vp, vc, rfl⟩, up, uc, rfl⟩ := F.slices
  have HB1 := hid (((Below.refl w.heap.size w).alloc (Nat.le_refl _) (.cells #[.string p, .slice vp R.length vc, .slice up X.length uc] 24)).alloc (by simp) (.cells #[.string ⟨#[]⟩, .slice none 0 0, .slice none 0 0] 24))
  have HC := hid (fcheck_any p R X _ _ A m _ hp (S.below HB1.out) (F.below HB1.out))
  rw [h] at HC
  clear S F h
  go_enter Tryz.func56, Tryz.ntmps56
  go_wp2_with fail
  refine HC.out.mono ?_
  rintro e w1 ⟨x, rfl, he, hb⟩
  obtain rfl := errAt_nil he
  have HBa := hid (show Below (w.heap.size + 1 + 1) ((w.alloc (.cells #[.string p, .slice vp R.length vc, .slice up X.length uc] 24)).alloc (.cells #[.string ⟨#[]⟩, .slice none 0 0, .slice none 0 0] 24)) w1 from hb.mono (by simp))
  obtain ⟨⟨q0, q1, q2⟩, ⟨r0, r1, r2⟩, rf, rz⟩ := two3 HBa.out
  have HB2 := hid (HB1.out.trans (hb.mono HB1.out.size))
  clear he hb
  go_wp2_with fail
  refine bodyPost_ret (v := .tuple #[.agg #[.string p, .slice vp R.length vc, .slice up X.length uc], .nilIface]) (by simp [results, Tryz.results56, go_sem, r0, r1, r2]) rfl ⟨rfl, ?_⟩
  exact put3_below HB2.out (by omega)

/-- What Read answers. -/
def readF (s : List UInt8) : Except (Nat × Option Nat) Fs :=
  if 8000 < s.length then .error (2, none) else match readL s with
    | .error i => .error (1, some i)
    | .ok f => if (fileF f.1 f.2.1 f.2.2).1 = 0 then .ok f else .error ((fileF f.1 f.2.1 f.2.2).1, none)
def ReadFP (s : List UInt8) (A : Nat → Addr) (w w' : World) (e : Ending) : Prop :=
  ∃ (P : ByteArray) (v u x : Value), e = .returned (.tuple #[.agg #[.string P, v, u], x]) ∧ Below w.heap.size w w' ∧ match readF s with
    | .error co => ErrAt w' A x co.1 co.2 ∧ co.1 ≠ 0 ∧ P = ⟨#[]⟩ ∧ v = .slice none 0 0 ∧ u = .slice none 0 0
    | .ok f => x = .nilIface ∧ P = f.1 ∧ MsAt w' v f.2.1 ∧ MsAt w' u f.2.2

/-- Words are no longer than the line. -/
theorem step_short {N i : Nat} {ws : List (List UInt8)} {f f' : Fs} (h : stepF i ws f = some f') (hw : ∀ x, x ∈ ws → x.length ≤ N) (hf : f.1.size ≤ N ∧ ∀ m, m ∈ f.2.1 ++ f.2.2 → m.1.size ≤ N ∧ m.2.size ≤ N) : f'.1.size ≤ N ∧ ∀ m, m ∈ f'.2.1 ++ f'.2.2 → m.1.size ≤ N ∧ m.2.size ≤ N := by
  have hb : ∀ l : List UInt8, (bt l).size = l.length := fun l => by rw [← len_eq, bt_list]
  unfold stepF at h
  split at h
  · split at h
    · split at h
      · rename_i a b _
        simp only [Option.some.injEq] at h; subst h
        exact ⟨by rw [hb]; exact hw _ (by simp), hf.2⟩
      · cases h
    · cases h
  · split at h
    · rename_i a b c
      have h1 := hw b (by simp)
      have h2 := hw c (by simp)
      split at h
      · simp only [Option.some.injEq] at h; subst h
        refine ⟨hf.1, fun m hm => ?_⟩
        simp only [List.mem_append, List.mem_singleton] at hm
        rcases hm with (hm | hm) | hm
        · exact hf.2 m (List.mem_append_left _ hm)
        · rw [hm]; exact ⟨by rw [hb]; exact h1, by rw [hb]; exact h2⟩
        · exact hf.2 m (List.mem_append_right _ hm)
      · split at h
        · simp only [Option.some.injEq] at h; subst h
          refine ⟨hf.1, fun m hm => ?_⟩
          simp only [List.mem_append, List.mem_singleton] at hm
          rcases hm with hm | hm | hm
          · exact hf.2 m (List.mem_append_left _ hm)
          · exact hf.2 m (List.mem_append_right _ hm)
          · rw [hm]; exact ⟨by rw [hb]; exact h1, by rw [hb]; exact h2⟩
        · cases h
    · cases h
theorem st_short {N : Nat} {C : List (List UInt8)} (hC : ∀ p, p ∈ C → p.length ≤ N) : ∀ i, (stF C i).1.size ≤ N ∧ ∀ m, m ∈ (stF C i).2.1 ++ (stF C i).2.2 → m.1.size ≤ N ∧ m.2.size ≤ N
  | 0 => ⟨Nat.zero_le _, fun m hm => by simp [stF, noFile] at hm⟩
  | i + 1 => by
    have ih := st_short hC i
    unfold stF
    cases h : stepF i (cutAt 32 (C.getD i [])) (stF C i) with
    | none => exact ih
    | some f =>
      refine step_short h (fun x hx => ?_) ih
      have h1 := cutAt_le 32 _ x hx
      have h2 : (C.getD i []).length ≤ N := by
        by_cases hc : i < C.length
        · rw [show C.getD i [] = C[i] by simp [List.getD, List.getElem?_eq_getElem hc]]
          exact hC _ (List.getElem_mem hc)
        · rw [show C.getD i [] = [] by simp [List.getD, List.getElem?_eq_none (Nat.le_of_not_lt hc)]]
          simp
      omega
theorem readL_short {s : List UInt8} {f : Fs} (h : readL s = .ok f) : f.1.size ≤ s.length ∧ (∀ m, m ∈ f.2.1 ++ f.2.2 → m.1.size ≤ s.length ∧ m.2.size ≤ s.length) ∧ f.2.1.length + f.2.2.length ≤ s.length + 1 := by
  rw [readL_is] at h
  cases h2 : fstE (lnE (cutAt 10 s)) (cutAt 10 s).length with
  | some k => rw [h2] at h; cases h
  | none =>
    rw [h2] at h
    simp only [Except.ok.injEq] at h
    have h3 := st_short (cutAt_le 10 s) ((cutAt 10 s).length - 1)
    have h4 := st_many (cutAt 10 s) ((cutAt 10 s).length - 1)
    have h5 := cutAt_many 10 s
    rw [h] at h3 h4
    exact ⟨h3.1, h3.2, by omega⟩
end Ve
end Go.Proofs.YtmgpbejekglipabGreatDoor

/-
  What slices.Clone at modules and copyOf of package file answer: rows of the call's own; nothing old in memory turns.
-/
namespace Go.Proofs.YtmgpbejekglipabGreatDoor
open Go.RowKit
namespace Ve

theorem ms_flat {w : World} {b o : Nat} {L : List Bm} (hc : ∀ j (h : j < L.length), w.cell? ⟨b, o + j * 2, none⟩ = some (.string L[j].1) ∧ w.cell? ⟨b, o + j * 2 + 1, none⟩ = some (.string L[j].2)) : ∀ j u, (flatM L)[j]? = some u → w.cell? ⟨b, o + j, none⟩ = some u := by
  intro j u hj
  have hl : j < L.length * 2 := by rw [← flatM_len]; exact (List.getElem?_eq_some_iff.1 hj).1
  have h1 := flatM_get L (j / 2) (j % 2) (by omega) (by omega)
  rw [show j / 2 * 2 + j % 2 = j by omega, hj] at h1
  have h2 := hc (j / 2) (by omega)
  rcases Nat.mod_two_eq_zero_or_one j with e | e
  · rw [e] at h1
    have : u = .string L[j / 2].1 := by simpa using h1
    rw [this, ← h2.1]
    congr 2; omega
  · rw [e] at h1
    have : u = .string L[j / 2].2 := by simpa using h1
    rw [this, ← h2.2]
    congr 2; omega
theorem flat_one (L : List Bm) : ∀ u ∈ flatM L, u.oneCell' = true := by
  intro u hu
  obtain ⟨m, _, hm⟩ := List.mem_flatMap.1 hu
  simp at hm
  rcases hm with rfl | rfl <;> rfl
set_option maxHeartbeats 1000000 in
theorem clone_some (b o c : Nat) (L : List Bm) (w : World) (hn : L.length ≤ 1000000) (hc : ∀ j u, (flatM L)[j]? = some u → w.cell? ⟨b, o + j, none⟩ = some u) :
    Calls Tryz.prog 104 #[.slice (some ⟨b, o, none⟩) L.length c] w fun e w' => ∃ v, e = .returned v ∧ w'.ownsRow w.heap.size 26 2 v L.length (flatM L) ∧ Below w.heap.size w w' := by
  obtain ⟨i0, hi, hz0, hz1, hz2⟩ := info_parts infoMod
  have q22 : ∀ (w : World) (a : Option Addr) (n c n' c' : Nat), (binOp .eql 22 (.slice a n c) (.slice none n' c')).run Tryz.prog w = .ok (.bool a.isNone) w := fun w a n c n' c' => Lib.run_eql_slice_nil w _ _ a n c n' c' Tryz.underlying22
  have HC := hid hc
  clear hc
  go_enter Tryz.func104, Tryz.ntmps104
  go_wp2_with (at_builtin; refine wpList_append_own _ rfl _ _ 22 rfl w.heap.size 26 i0 _ 2 32 Tryz.underlying22 hi hz0 hz1 hz2 rfl (by decide) _ _ _ rfl (World.ownsRow_made w #[] 0 (Nat.le_refl _) (Nat.zero_le _) (by simp)) ⟨b, o, none⟩ L.length c (flatM L) rfl ?qc1 ?qc2 ?qc3 ?qc4 ?qc5 ?qc6 ?_)
  case qc1 => exact flatM_len L
  case qc2 =>
    intro j u hj
    rw [Addr.add_lit]
    exact Lib.cell?_alloc_some _ (HC.out j u hj)
  case qc3 => exact flat_one L
  case qc4 => rw [Nat.zero_add]; unfold maxLen; omega
  case qc5 => rw [Nat.zero_add]; omega
  case qc6 => simp
  intro v' w1 hown hgrow hnil
  obtain ⟨va, vn, vc, rfl⟩ := own_sl hown
  have HO := hid hown
  have HG := hid hgrow
  clear hown hgrow hnil
  go_wp2_with fail
  go_ret
  refine ⟨_, rfl, by simpa using HO.out, ?_⟩
  exact ((Below.refl _ w).alloc (Nat.le_refl _) _).grown HG.out (by simp) (by intro k hk; simp [Value.ownBlock] at hk; omega)
theorem clone_nil (w : World) : Calls Tryz.prog 104 #[.slice none 0 0] w fun e w' => e = .returned (.slice none 0 0) ∧ w' = w := by
  have q22 : ∀ (w : World) (a : Option Addr) (n c n' c' : Nat), (binOp .eql 22 (.slice a n c) (.slice none n' c')).run Tryz.prog w = .ok (.bool a.isNone) w := fun w a n c n' c' => Lib.run_eql_slice_nil w _ _ a n c n' c' Tryz.underlying22
  go_enter Tryz.func104, Tryz.ntmps104
  go_wp2_with fail
  go_ret
  exact ⟨rfl, rfl⟩
/-- slices.Clone at modules: what is empty is nil. -/
theorem clone_any (v : Value) (L : List Bm) (w : World) (hn : L.length ≤ 1000000) (hv : MsAt w v L) (hz : L = [] → v = .slice none 0 0) :
    Calls Tryz.prog 104 #[v] w fun e w' => ∃ u, e = .returned u ∧ w'.ownsRow w.heap.size 26 2 u L.length (flatM L) ∧ (L = [] → u = .slice none 0 0) ∧ Below w.heap.size w w' := by
  cases L with
  | nil =>
    rw [hz rfl]
    exact (clone_nil w).mono fun e w' ⟨h1, h2⟩ => ⟨_, h1, World.ownsRow_nil _ _ _ _, fun _ => rfl, by rw [h2]; exact Below.refl _ _⟩
  | cons x r =>
    obtain ⟨a, c, rfl, _, h⟩ := hv
    obtain ⟨b, o, rfl, h2⟩ := h (by simp)
    exact (clone_some b o c (x :: r) w hn (ms_flat h2)).mono fun e w' ⟨u, h1, h2, h3⟩ => ⟨u, h1, h2, (fun h => by cases h), h3⟩
/-- What copyOf answers: a file in rows of its own, which stand apart. -/
structure Cp2 (w0 W : World) (R X : List Bm) (v u : Value) : Prop where
  ov : W.ownsRow w0.heap.size 26 2 v R.length (flatM R)
  ou : W.ownsRow w0.heap.size 26 2 u X.length (flatM X)
  ap : ∀ g, v.ownBlock = some g → u.ownBlock ≠ some g
  bl : Below w0.heap.size w0 W
  zv : R = [] → v = .slice none 0 0
  zu : X = [] → u = .slice none 0 0
theorem own_below2 {W W' : World} {B n : Nat} {e : TypeId} {v : Value} {xs : List Value} (h : W.ownsRow B e 2 v n xs) (hb : Below W.heap.size W W') : W'.ownsRow B e 2 v n xs := owns_below h hb
theorem two3b {w w3 : World} {o : Obj} {a' b' c' : Value} {T' : TypeId} (hb : Below (w.heap.size + 1 + 1) ((w.alloc o).alloc (.cells #[a', b', c'] T')) w3) : w3.heap[w.heap.size + 1]? = some (.cells #[a', b', c'] T' (0, 0)) := by
  have := heap_new (w.alloc o) (.cells #[a', b', c'] T')
  rw [show (w.alloc o).heap.size = w.heap.size + 1 by simp] at this
  rw [hb.block _ (by omega)]; exact this
theorem cp_size {w w1 : World} {a b : Obj} (h : Below (w.heap.size + 1 + 1) ((w.alloc a).alloc b) w1) : w.heap.size + 1 + 1 ≤ w1.heap.size := by
  have := h.size; simpa using this
set_option maxHeartbeats 2000000 in
theorem copy_of (p : ByteArray) (R X : List Bm) (v u : Value) (w : World) (F : Fl w R X v u) (hz : R = [] → v = .slice none 0 0) (hx : X = [] → u = .slice none 0 0) :
    Calls Tryz.prog 59 #[.agg #[.string p, v, u]] w fun e w' => ∃ v' u', e = .returned (.agg #[.string p, v', u']) ∧ Cp2 w w' R X v' u' := by
  obtain ⟨⟨vp, vc, rfl⟩, up, uc, rfl⟩ := F.slices
  have HB1 := hid (((Below.refl w.heap.size w).alloc (Nat.le_refl _) (.cells #[.string p, .slice vp R.length vc, .slice up X.length uc] 24)).alloc (by simp) (.cells #[.string ⟨#[]⟩, .slice none 0 0, .slice none 0 0] 24))
  have HC1 := hid (fun W (hW : MsAt W (.slice vp R.length vc) R) => clone_any (.slice vp R.length vc) R W F.rn hW hz)
  have HC2 := hid (fun W (hW : MsAt W (.slice up X.length uc) X) => clone_any (.slice up X.length uc) X W F.xn hW hx)
  have HF := hid F
  clear F hz hx
  go_enter Tryz.func59, Tryz.ntmps59
  have HBX := hid (show Below (w.heap.size + 1 + 1) ((w.alloc (.cells #[.string p, .slice vp R.length vc, .slice up X.length uc] 24)).alloc (.cells #[.string ⟨#[]⟩, .slice none 0 0, .slice none 0 0] 24)) ((w.alloc (.cells #[.string p, .slice vp R.length vc, .slice up X.length uc] 24)).alloc (.cells #[.string ⟨#[]⟩, .slice none 0 0, .slice none 0 0] 24)).drew from below_drawn_of (Below.refl _ _) 1)
  have HBD := hid (show Below w.heap.size w ((w.alloc (.cells #[.string p, .slice vp R.length vc, .slice up X.length uc] 24)).alloc (.cells #[.string ⟨#[]⟩, .slice none 0 0, .slice none 0 0] 24)).drew from below_drawn_of HB1.out 1)
  have HSZ := hid (show ((w.alloc (.cells #[.string p, .slice vp R.length vc, .slice up X.length uc] 24)).alloc (.cells #[.string ⟨#[]⟩, .slice none 0 0, .slice none 0 0] 24)).drew.heap.size = w.heap.size + 1 + 1 by simp)
  have HM1 := hid (HF.out.r.below HBD.out)
  go_wp2_with fail
  go_region_held3 (fun W => W.cell? ⟨w.heap.size, 0, none⟩ = some (.string p) ∧ W.cell? ⟨w.heap.size, 1, none⟩ = some (.slice vp R.length vc) ∧ W.cell? ⟨w.heap.size, 2, none⟩ = some (.slice up X.length uc))
    (first | exact HK2.out | exact HK1.out | go_keep)
    (first
      | (go_at_call_of 104 (Value.slice vp R.length vc); refine (HC1.out _ HM1.out).mono ?_; rintro e w1 ⟨v1, rfl, ho, hzv, hb⟩; have HO1 := hid ho; have HZV := hid hzv; clear hzv; have HBa := hid (HBX.out.trans (hb.mono (Nat.le_of_eq HSZ.out.symm))); have HBb := hid (HBD.out.trans (hb.mono HBD.out.size)); have HK1 := hid (two3 HBa.out).1; clear ho hb)
      | (go_at_call_of 104 (Value.slice up X.length uc); refine (HC2.out _ (HF.out.x.below HBb.out)).mono ?_; rintro e w2 ⟨u1, rfl, ho, hzu, hb⟩; have HO2 := hid ho; have HZU := hid hzu; clear hzu; have HBc := hid (HBa.out.trans (hb.mono (cp_size HBa.out))); have HBd := hid (HBb.out.trans (hb.mono HBb.out.size)); have HO3 := hid (owns_below HO1.out hb); have HK2 := hid (two3 HBc.out).1; clear ho hb; obtain ⟨_, ⟨r0, r1, r2⟩, rf, rz⟩ := two3 HBc.out; obtain ⟨va, vn, vc2, rfl⟩ := own_sl HO1.out; obtain ⟨ua, un, uc2, rfl⟩ := own_sl HO2.out))
  all_goals
    go_wp2_with fail
    refine bodyPost_ret (v := .agg #[.string p, .slice va vn vc2, .slice ua un uc2]) (by simp [results, Tryz.results59, go_sem, r0, r1, r2]) rfl ?_
    have hblk := two3b HBc.out
    refine ⟨_, _, rfl, put3_owns (own_base HO3.out HBD.out.size) (own_ne2 HO3.out hblk (by decide)), put3_owns (own_base HO2.out HBb.out.size) (own_ne2 HO2.out hblk (by decide)), fun g hg hu => ?_, put3_below HBd.out (by omega), HZV.out, HZU.out⟩
    have e1 := (own_lt HO1.out hg).1
    have e2 := (own_lt HO2.out hu).2
    omega
end Ve
end Go.Proofs.YtmgpbejekglipabGreatDoor
