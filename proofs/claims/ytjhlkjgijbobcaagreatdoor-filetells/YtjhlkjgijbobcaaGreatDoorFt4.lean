/-
  Code Bld VerC
-/
import Derived.Test.YtjhlkjgijbobcaaGreatDoorFt9
import Derived.Test.YtjhlkjgijbobcaaGreatDoorFt3
import Derived.WalkKit
import Derived.Lib.Builder
import Derived.Lib.AppendStr
import Derived.Lib.UnsafeStr
import Derived.Laws.Externs
namespace Go.Proofs.YtjhlkjgijbobcaaGreatDoor
open Go.RowKit Go.Extern.Stop Go.Stop Go.Extern
namespace Er
theorem hid {p : Prop} (h : p) : Hid p := h
theorem lt_of_cell {w : World} {a : Addr} {v : Value} (h : w.cell? a = some v) : a.block < w.heap.size := by
  rcases Nat.lt_or_ge a.block w.heap.size with hh | hh
  · exact hh
  · simp [World.cell?, Array.getElem?_eq_none hh] at h
structure Sen (w : World) (A : Nat → Addr) : Prop where
  g0 : w.cell? ⟨3, 0, none⟩ = some (.iface 201 (.pointer (some (A 0))))
  g1 : w.cell? ⟨1, 0, none⟩ = some (.iface 201 (.pointer (some (A 1))))
  g2 : w.cell? ⟨4, 0, none⟩ = some (.iface 201 (.pointer (some (A 2))))
  g3 : w.cell? ⟨5, 0, none⟩ = some (.iface 201 (.pointer (some (A 3))))
  g4 : w.cell? ⟨2, 0, none⟩ = some (.iface 201 (.pointer (some (A 4))))
  g5 : w.cell? ⟨6, 0, none⟩ = some (.iface 201 (.pointer (some (A 5))))
  g6 : w.cell? ⟨0, 0, none⟩ = some (.iface 201 (.pointer (some (A 6))))
  g7 : w.cell? ⟨7, 0, none⟩ = some (.iface 201 (.pointer (some (A 7))))
  g8 : w.cell? ⟨8, 0, none⟩ = some (.iface 201 (.pointer (some (A 8))))
  g9 : w.cell? ⟨9, 0, none⟩ = some (.iface 201 (.pointer (some (A 9))))
  et : w.cell? ⟨10, 0, none⟩ = some (.iface 142 (.agg #[.pointer (some ⟨14, 32, none⟩)]))
  blk : ∀ k, k < 10 → ∃ c t, w.heap[(A k).block]? = some (.cells c t (0, 0))
  inj : ∀ i j, i < 10 → j < 10 → i ≠ j → A i ≠ A j
theorem Sen.below {w w' : World} {A : Nat → Addr} (h : Sen w A) (hb : Below w.heap.size w w') : Sen w' A := by
  refine ⟨?_, ?_, ?_, ?_, ?_, ?_, ?_, ?_, ?_, ?_, ?_, ?_, h.inj⟩
  · rw [hb.cell (lt_of_cell h.g0)]; exact h.g0
  · rw [hb.cell (lt_of_cell h.g1)]; exact h.g1
  · rw [hb.cell (lt_of_cell h.g2)]; exact h.g2
  · rw [hb.cell (lt_of_cell h.g3)]; exact h.g3
  · rw [hb.cell (lt_of_cell h.g4)]; exact h.g4
  · rw [hb.cell (lt_of_cell h.g5)]; exact h.g5
  · rw [hb.cell (lt_of_cell h.g6)]; exact h.g6
  · rw [hb.cell (lt_of_cell h.g7)]; exact h.g7
  · rw [hb.cell (lt_of_cell h.g8)]; exact h.g8
  · rw [hb.cell (lt_of_cell h.g9)]; exact h.g9
  · rw [hb.cell (lt_of_cell h.et)]; exact h.et
  · intro k hk
    obtain ⟨c, t, e⟩ := h.blk k hk
    have hlt : (A k).block < w.heap.size := by
      rcases Nat.lt_or_ge (A k).block w.heap.size with hh | hh
      · exact hh
      · rw [Array.getElem?_eq_none hh] at e; cases e
    exact ⟨c, t, by rw [hb.block _ hlt]; exact e⟩
theorem ten (w : World) (A : Nat → Addr) (T : TypeId) (k : Nat) (hk : k < 10) :
    (w.alloc (.cells #[.iface 201 (.pointer (some (A 0))), .iface 201 (.pointer (some (A 1))), .iface 201 (.pointer (some (A 2))), .iface 201 (.pointer (some (A 3))), .iface 201 (.pointer (some (A 4))), .iface 201 (.pointer (some (A 5))), .iface 201 (.pointer (some (A 6))), .iface 201 (.pointer (some (A 7))), .iface 201 (.pointer (some (A 8))), .iface 201 (.pointer (some (A 9)))] T)).cell? ⟨w.heap.size, k, none⟩ = some (.iface 201 (.pointer (some (A k)))) := by
  match k, hk with
  | 0, _ => simp
  | 1, _ => simp
  | 2, _ => simp
  | 3, _ => simp
  | 4, _ => simp
  | 5, _ => simp
  | 6, _ => simp
  | 7, _ => simp
  | 8, _ => simp
  | 9, _ => simp
set_option maxHeartbeats 1000000 in
theorem code_nil (w : World) : Calls Tryz.prog 23 #[.nilIface] w fun e w' => e = .returned (.tuple #[.int .i64 0, .int .i64 (-1)]) ∧ w' = w := by
  go_enter Tryz.func23, Tryz.ntmps23
  go_wp2
  go_ret2
  exact ⟨rfl, rfl⟩
theorem as_miss_b (e t : Addr) (w : World) (hg : w.cell? ⟨10, 0, none⟩ = some (.iface 142 (.agg #[.pointer (some ⟨14, 32, none⟩)]))) :
    Calls Tryz.prog 45 #[.iface 201 (.pointer (some e)), .iface 82 (.pointer (some t))] w fun ev w' => ev = .returned (.bool false) ∧ Below w.heap.size w w' :=
  (as_miss e t w hg).mono fun _ _ ⟨h1, h2⟩ => ⟨h1, by
    rw [h2]
    exact (((Below.refl _ _).alloc (Nat.le_refl _) _).alloc (by simp) _).alloc (by simp; omega) _⟩
set_option maxHeartbeats 1000000 in
theorem code_miss (a : Addr) (A : Nat → Addr) (j : Nat) (w : World) (S : Sen w A) (hj : j ≤ 10)
    (hY : j < 10 → ∀ W, Below w.heap.size w W → Calls Tryz.prog 46 #[.iface 201 (.pointer (some a)), .iface 201 (.pointer (some (A j)))] W fun e w' => e = .returned (.bool true) ∧ w' = W)
    (hN : ∀ k, k < 10 → k ≠ j → ∀ W, Below w.heap.size w W → Calls Tryz.prog 46 #[.iface 201 (.pointer (some a)), .iface 201 (.pointer (some (A k)))] W fun e w' => e = .returned (.bool false) ∧ w' = W) :
    Calls Tryz.prog 23 #[.iface 201 (.pointer (some a))] w fun e w' => e = .returned (.tuple #[.int .i64 (if j < 10 then (j : Int) + 1 else -1), .int .i64 (-1)]) ∧ Below w.heap.size w w' := by
  have hb0 : Below w.heap.size w (w.alloc (.cells #[.pointer none] 80)) := (Below.refl _ _).alloc (Nat.le_refl _) _
  have HY := hid hY
  have HN := hid hN
  have HS := hid S
  have HB0 := hid hb0
  clear hY hN S hb0
  go_enter Tryz.func23, Tryz.ntmps23
  go_wp2_with fail
  refine (as_miss_b a _ _ (HS.out.below HB0.out).et).mono ?_
  rintro e w1 ⟨rfl, hb1⟩
  have hb : Below w.heap.size w w1 := HB0.out.trans (hb1.mono (by simp))
  have S := HS.out.below hb
  have HB := hid hb
  clear hb1 hb
  have c0 := S.g0
  have c1 := S.g1
  have c2 := S.g2
  have c3 := S.g3
  have c4 := S.g4
  have c5 := S.g5
  have c6 := S.g6
  have c7 := S.g7
  have c8 := S.g8
  have c9 := S.g9
  clear S
  go_wp2_with fail
  have hbL := HB.out.alloc HB.out.size (.cells #[.iface 201 (.pointer (some (A 0))), .iface 201 (.pointer (some (A 1))), .iface 201 (.pointer (some (A 2))), .iface 201 (.pointer (some (A 3))), .iface 201 (.pointer (some (A 4))), .iface 201 (.pointer (some (A 5))), .iface 201 (.pointer (some (A 6))), .iface 201 (.pointer (some (A 7))), .iface 201 (.pointer (some (A 8))), .iface 201 (.pointer (some (A 9)))] 32)
  have HBL := hid hbL
  clear hbL c0 c1 c2 c3 c4 c5 c6 c7 c8 c9
  go_loop [3, 28] (fun at_ i => ∃ k : Nat, k ≤ 10 ∧ k ≤ j ∧ i = .int .i64 k ∧ at_ = .int .i64 (-1)) (fun _ i => 10 - (intOf i).toNat)
  case atStart => exact ⟨0, by omega, by omega, rfl, rfl⟩
  case round =>
    obtain ⟨k, hk, hkj, rfl, rfl⟩ := hrel
    by_cases hlt : k < 10
    · have hc := ten w1 A 32 k hlt
      by_cases hkeq : k = j
      · subst hkeq
        go_wp2_with fail
        refine (HY.out hlt _ HBL.out).mono ?_
        rintro e w' ⟨rfl, rfl⟩
        go_wp2_with fail
        go_ret2
        exact ⟨rfl, HBL.out⟩
      · go_wp2_with fail
        refine (HN.out k hlt hkeq _ HBL.out).mono ?_
        rintro e w' ⟨rfl, rfl⟩
        go_wp2_with fail
        go_round
        case rel => exact ⟨k + 1, by omega, by omega, by go_num, rfl⟩
        case measure => simp [intOf]; omega
    · have hj10 : ¬ j < 10 := by omega
      go_wp2_with fail
      go_ret2
      exact ⟨rfl, HBL.out⟩
theorem as_hit_b (e t : Addr) (old : Value) (w : World) (B : Nat) (hB : B ≤ t.block) (hg : w.cell? ⟨10, 0, none⟩ = some (.iface 142 (.agg #[.pointer (some ⟨14, 32, none⟩)]))) (ht0 : w.cell? t = some old) (hf0 : w.frozen? t = false) (htb : t.block < w.heap.size) :
    Calls Tryz.prog 45 #[.iface 80 (.pointer (some e)), .iface 82 (.pointer (some t))] w fun ev w' => ev = .returned (.bool true) ∧ Below B w w' ∧ w'.cell? t = some (.pointer (some e)) :=
  (as_hit e t old w hg ht0 hf0).mono fun _ _ ⟨h1, h2⟩ => ⟨h1, by
    rw [h2]
    exact (((((Below.refl _ _).alloc (by omega) _).alloc (by simp; omega) _).alloc (by simp; omega) _).alloc (by simp; omega) _).setCell hB _, by
    rw [h2, World.cell?_setCell_same (u := old)]
    rw [World.cell?_alloc_lt _ _ t (by simp; omega), World.cell?_alloc_lt _ _ t (by simp; omega), World.cell?_alloc_lt _ _ t (by simp; omega), World.cell?_alloc_lt _ _ t htb]; exact ht0⟩
set_option maxHeartbeats 1000000 in
theorem code_hit (fb fo : Nat) (n : Int) (A : Nat → Addr) (j : Nat) (w : World) (S : Sen w A) (hj : j ≤ 10) (hfb : fb < w.heap.size) (hn : w.cell? ⟨fb, fo, none⟩ = some (.int .i64 n))
    (hY : j < 10 → ∀ W, Below w.heap.size w W → Calls Tryz.prog 46 #[.iface 80 (.pointer (some ⟨fb, fo, none⟩)), .iface 201 (.pointer (some (A j)))] W fun e w' => e = .returned (.bool true) ∧ w' = W)
    (hN : ∀ k, k < 10 → k ≠ j → ∀ W, Below w.heap.size w W → Calls Tryz.prog 46 #[.iface 80 (.pointer (some ⟨fb, fo, none⟩)), .iface 201 (.pointer (some (A k)))] W fun e w' => e = .returned (.bool false) ∧ w' = W) :
    Calls Tryz.prog 23 #[.iface 80 (.pointer (some ⟨fb, fo, none⟩))] w fun e w' => e = .returned (.tuple #[.int .i64 (if j < 10 then (j : Int) + 1 else -1), .int .i64 n]) ∧ Below w.heap.size w w' := by
  have hb0 : Below w.heap.size w (w.alloc (.cells #[.pointer none] 80)) := (Below.refl _ _).alloc (Nat.le_refl _) _
  have HY := hid hY
  have HN := hid hN
  have HS := hid S
  have HB0 := hid hb0
  have Hn := hid hn
  clear hY hN S hb0 hn
  go_enter Tryz.func23, Tryz.ntmps23
  go_wp2_with fail
  refine (as_hit_b ⟨fb, fo, none⟩ ⟨w.heap.size, 0, none⟩ (.pointer none) _ w.heap.size (Nat.le_refl _) (HS.out.below HB0.out).et (by simp) (by simp) (by simp)).mono ?_
  rintro e w1 ⟨rfl, hb1, ht1⟩
  have hb : Below w.heap.size w w1 := HB0.out.trans hb1
  have S := HS.out.below hb
  have hn1 : w1.cell? ⟨fb, fo, none⟩ = some (.int .i64 n) := by rw [hb.cell hfb]; exact Hn.out
  have HB := hid hb
  clear hb1 hb
  have c0 := S.g0
  have c1 := S.g1
  have c2 := S.g2
  have c3 := S.g3
  have c4 := S.g4
  have c5 := S.g5
  have c6 := S.g6
  have c7 := S.g7
  have c8 := S.g8
  have c9 := S.g9
  clear S
  go_wp2_with fail
  have hbL := HB.out.alloc HB.out.size (.cells #[.iface 201 (.pointer (some (A 0))), .iface 201 (.pointer (some (A 1))), .iface 201 (.pointer (some (A 2))), .iface 201 (.pointer (some (A 3))), .iface 201 (.pointer (some (A 4))), .iface 201 (.pointer (some (A 5))), .iface 201 (.pointer (some (A 6))), .iface 201 (.pointer (some (A 7))), .iface 201 (.pointer (some (A 8))), .iface 201 (.pointer (some (A 9)))] 32)
  have HBL := hid hbL
  clear hbL c0 c1 c2 c3 c4 c5 c6 c7 c8 c9 hn1 ht1
  go_loop [3, 28] (fun at_ i => ∃ k : Nat, k ≤ 10 ∧ k ≤ j ∧ i = .int .i64 k ∧ at_ = .int .i64 n) (fun _ i => 10 - (intOf i).toNat)
  case atStart => exact ⟨0, by omega, by omega, rfl, rfl⟩
  case round =>
    obtain ⟨k, hk, hkj, rfl, rfl⟩ := hrel
    by_cases hlt : k < 10
    · have hc := ten w1 A 32 k hlt
      by_cases hkeq : k = j
      · subst hkeq
        go_wp2_with fail
        refine (HY.out hlt _ HBL.out).mono ?_
        rintro e w' ⟨rfl, rfl⟩
        go_wp2_with fail
        go_ret2
        exact ⟨rfl, HBL.out⟩
      · go_wp2_with fail
        refine (HN.out k hlt hkeq _ HBL.out).mono ?_
        rintro e w' ⟨rfl, rfl⟩
        go_wp2_with fail
        go_round
        case rel => exact ⟨k + 1, by omega, by omega, by go_num, rfl⟩
        case measure => simp [intOf]; omega
    · have hj10 : ¬ j < 10 := by omega
      go_wp2_with fail
      go_ret2
      exact ⟨rfl, HBL.out⟩
theorem blk_below {w W : World} {b : Nat} {c : Array Value} {t : TypeId} (h : w.heap[b]? = some (.cells c t (0, 0))) (hb : Below w.heap.size w W) : W.heap[b]? = some (.cells c t (0, 0)) := by
  have hlt : b < w.heap.size := by
    rcases Nat.lt_or_ge b w.heap.size with hh | hh
    · exact hh
    · rw [Array.getElem?_eq_none hh] at h; cases h
  rw [hb.block _ hlt]; exact h
theorem code_sen (A : Nat → Addr) (j : Nat) (w : World) (S : Sen w A) (hj : j < 10) :
    Calls Tryz.prog 23 #[.iface 201 (.pointer (some (A j)))] w fun e w' => e = .returned (.tuple #[.int .i64 ((j : Int) + 1), .int .i64 (-1)]) ∧ Below w.heap.size w w' := by
  refine (code_miss (A j) A j w S (Nat.le_of_lt hj) (fun _ W _ => is_same (A j) W) (fun k hk hkj W hW => ?_)).mono fun e w' ⟨h1, h2⟩ => ⟨by rw [h1, if_pos hj], h2⟩
  obtain ⟨c1, t1, e1⟩ := S.blk j hj
  obtain ⟨c2, t2, e2⟩ := S.blk k hk
  exact is_other (A j) (A k) c1 c2 t1 t2 W (S.inj j k hj hk (fun h => hkj h.symm)) (blk_below e1 hW) (blk_below e2 hW)
theorem code_fault (fb fo : Nat) (n : Int) (A : Nat → Addr) (j : Nat) (w : World) (S : Sen w A) (hj : j < 10) (hfb : fb < w.heap.size) (hn : w.cell? ⟨fb, fo, none⟩ = some (.int .i64 n)) (he : w.cell? ⟨fb, fo + 1, none⟩ = some (.iface 201 (.pointer (some (A j))))) :
    Calls Tryz.prog 23 #[.iface 80 (.pointer (some ⟨fb, fo, none⟩))] w fun e w' => e = .returned (.tuple #[.int .i64 ((j : Int) + 1), .int .i64 n]) ∧ Below w.heap.size w w' := by
  refine (code_hit fb fo n A j w S (Nat.le_of_lt hj) hfb hn (fun _ W hW => is_wrap_same fb fo (A j) W ?_) (fun k hk hkj W hW => ?_)).mono fun e w' ⟨h1, h2⟩ => ⟨by rw [h1, if_pos hj], h2⟩
  · rw [hW.cell hfb]; exact he
  · obtain ⟨c1, t1, e1⟩ := S.blk j hj
    obtain ⟨c2, t2, e2⟩ := S.blk k hk
    exact is_wrap_other fb fo (A k) (A j) c1 c2 t1 t2 W (by rw [hW.cell hfb]; exact he) (S.inj j k hj hk (fun h => hkj h.symm)) (blk_below e1 hW) (blk_below e2 hW)
end Er
end Go.Proofs.YtjhlkjgijbobcaaGreatDoor
namespace Go.Proofs.YtjhlkjgijbobcaaGreatDoor
open Go.RowKit
namespace Ve
theorem bSize : (Tryz.prog.info? 67).map (·.size) = some 2 := by kernel_rfl
theorem bLies : liesAt Tryz.prog Tryz.prog.depth 67 (2 / Tryz.prog.cellsOf 67) 0 67 1 = true := by kernel_rfl
theorem bByte : (Tryz.prog.info? 5).map (fun i => (i.zero, i.size, i.bytes)) = some (some (.int .u8 0), 1, 1) := by kernel_rfl
set_option maxHeartbeats 1000000 in
set_option maxRecDepth 100000 in
theorem copy_used (b : Nat) (w : World) (h0 : w.cell? ⟨b, 0, none⟩ = some (.pointer (some ⟨b, 0, none⟩))) :
    Calls Tryz.prog 59 #[.pointer (some ⟨b, 0, none⟩)] w fun e w' => e = .returned (.tuple #[]) ∧ w' = w := by
  obtain ⟨j, hj, _⟩ := Option.map_eq_some_iff.1 bSize
  go_enter Tryz.func59, Tryz.ntmps59
  go_wp2
  rw [Lib.run_neq_ptr_same w _ Tryz.underlying64 hj]
  go_wp2
  go_end0
  exact ⟨rfl, rfl⟩
set_option maxHeartbeats 1000000 in
set_option maxRecDepth 100000 in
theorem copy_fresh (b : Nat) (w : World) (h0 : w.cell? ⟨b, 0, none⟩ = some (.pointer none)) (hsh : w.shape? b = some (67, 2)) (hfz : w.frozen? ⟨b, 0, none⟩ = false) :
    Calls Tryz.prog 59 #[.pointer (some ⟨b, 0, none⟩)] w fun e w' => e = .returned (.tuple #[]) ∧ w' = w.setCell ⟨b, 0, none⟩ (.pointer (some ⟨b, 0, none⟩)) := by
  obtain ⟨j, hj, hjs⟩ := Option.map_eq_some_iff.1 bSize
  have hnp := fun W => Lib.run_neq_ptr_same (P := Tryz.prog) W ⟨b, 0, none⟩ Tryz.underlying64 hj
  go_enter Tryz.func59, Tryz.ntmps59
  go_wp2
  rw [Lib.run_to_unsafe w ⟨b, 0, none⟩ Tryz.underlying64 Tryz.underlying112 hj (by rw [hjs]; decide) hsh (Nat.zero_lt_succ 1)]
  simp only [Result.andThen]
  rw [Oper.upon_value]
  go_wp2
  rw [run_callFunc_extern Tryz.func93 (by kernel_rfl) (by kernel_rfl) (by kernel_rfl) (e := Extern.AbiNoEscape.same) (by kernel_rfl)]
  rw [Lib.run_noEscape]
  simp only [Result.andThen]
  rw [Oper.upon_value]
  go_wp2
  rw [Lib.run_from_unsafe w ⟨b, 0, none⟩ Tryz.underlying112 Tryz.underlying64 hj hsh bLies]
  simp only [Result.andThen]
  rw [Oper.upon_value]
  go_wp2
  go_end0
  exact ⟨rfl, rfl⟩
theorem copy_any (B b : Nat) (bs : List Value) (w : World) (h : Lib.IsBuilder 67 5 B b bs w) :
    Calls Tryz.prog 59 #[.pointer (some ⟨b, 0, none⟩)] w fun e w' => e = .returned (.tuple #[]) ∧ (Lib.BuilderAt 67 5 B b (.pointer (some ⟨b, 0, none⟩)) bs w' ∧ Below B w w') := by
  rcases h with h | h
  · refine (copy_fresh b w h.cell0 h.shape h.frozen0).mono ?_
    rintro e w' ⟨rfl, rfl⟩
    exact ⟨rfl, h.used _, (Below.refl B w).setCell (p := ⟨b, 0, none⟩) h.1 _⟩
  · refine (copy_used b w h.cell0).mono ?_
    rintro e w' ⟨rfl, rfl⟩
    exact ⟨rfl, h, Below.refl B _⟩
set_option maxHeartbeats 2000000 in
set_option maxRecDepth 100000 in
theorem write_any (B b : Nat) (bs : List Value) (s : ByteArray) (w : World) (h : Lib.IsBuilder 67 5 B b bs w) (hlen : bs.length + s.size ≤ 140737488355328) (hBw : B ≤ w.heap.size) :
    Calls Tryz.prog 34 #[.pointer (some ⟨b, 0, none⟩), .string s] w fun e w' => e = .returned (.tuple #[.int .i64 s.size, .nilIface]) ∧ (Lib.BuilderAt 67 5 B b (.pointer (some ⟨b, 0, none⟩)) (bs ++ Lib.strCells s) w' ∧ Below B w w') := by
  obtain ⟨i0, hi, hz0, hz1, hz2⟩ := info_parts bByte
  go_enter Tryz.func34, Tryz.ntmps34
  go_wp2_with (go_at_call 59; refine (copy_any B b bs _ h).mono ?_)
  rintro e w1 ⟨rfl, h1, hb1⟩
  obtain ⟨hB, v, hbk, hown, hne⟩ := h1
  have c0 : w1.cell? ⟨b, 0, none⟩ = some (.pointer (some ⟨b, 0, none⟩)) := by rw [Lib.cell_of_heap hbk]; rfl
  have c1 : w1.cell? ⟨b, 1, none⟩ = some v := by rw [Lib.cell_of_heap hbk]; rfl
  go_wp2_with (at_builtin; refine Lib.wpList_append_own_string _ rfl _ _ 65 9 rfl B 5 i0 Tryz.underlying65 Tryz.underlying9 hi hz0 hz1 hz2 _ _ _ rfl hown s rfl ?c3 ?c4 ?c5 ?_)
  case c3 => unfold maxLen; omega
  case c4 => omega
  case c5 => have := hb1.size; omega
  intro v' w2 hown' hgrow _
  have hlt : b < w1.heap.size := by
    rcases Nat.lt_or_ge b w1.heap.size with h' | h'
    · exact h'
    · simp [Array.getElem?_eq_none h'] at hbk
  have hb2 : w2.heap[b]? = some (.cells #[.pointer (some ⟨b, 0, none⟩), v] 67 (0, 0)) := by
    rw [hgrow.block b hlt (fun e => hne e.symm)]
    exact hbk
  have d0 : w2.cell? ⟨b, 0, none⟩ = some (.pointer (some ⟨b, 0, none⟩)) := by rw [Lib.cell_of_heap hb2]; rfl
  have d1 : w2.cell? ⟨b, 1, none⟩ = some v := by rw [Lib.cell_of_heap hb2]; rfl
  have f1 : w2.frozen? ⟨b, 1, none⟩ = false := Lib.frozen_of_heap hb2 1
  obtain ⟨ao, n', cap, rfl⟩ : ∃ ao n' cap, v' = .slice ao n' cap := by
    rcases hown'.2 with ⟨hv, _⟩ | ⟨g, cap, cur, hv, _⟩
    · exact ⟨_, _, _, hv⟩
    · exact ⟨_, _, _, hv⟩
  go_wp2
  go_ret2
  refine ⟨rfl, ?_, ?_⟩
  · exact Lib.BuilderAt.put (T := 67) (e := 5) hB hb2 (bs' := bs ++ Lib.strCells s) (by simpa [Lib.strCells_length] using hown') (by decide)
  · exact (hb1.grown hgrow (by have := hb1.size; omega) (fun k hk => (hown.lt k hk).1)).setCell (p := ⟨b, 1, none⟩) hB _
end Ve
end Go.Proofs.YtjhlkjgijbobcaaGreatDoor
namespace Go.Proofs.YtjhlkjgijbobcaaGreatDoor
open Go.RowKit
namespace Ve
set_option maxHeartbeats 1000000 in
theorem pre_some (b o c : Nat) (xs : List ByteArray) (aT aB : Addr) (m : Int) (w : World) (S : Vs w aT aB m) (hn : xs.length ≤ 140737488355328) (hx : ∀ x, x ∈ xs → x.size ≤ maxLen)
    (hc : ∀ j (h : j < xs.length), w.cell? ⟨b, o + j, none⟩ = some (.string xs[j])) :
    Calls Tryz.prog 113 #[.slice (some ⟨b, o, none⟩) xs.length c] w fun e w' => e = .returned (errV aT aB (pre (bl xs))) ∧ Below w.heap.size w w' := by
  have HP := hid (show pre (bl xs) = preTo (if 5 < xs.length then 2 else 0) (bl xs) by unfold pre; rw [bl_len])
  have HS := hid S
  have HC := hid hc
  have HX := hid hx
  have g := S.b
  clear S hc hx
  by_cases h5 : 5 < xs.length
  · rw [if_pos h5] at HP
    have h5b : decide (5 < (xs.length : Int)) = true := by simp; omega
    go_enter Tryz.func113, Tryz.ntmps113
    go_wp2_with fail
    clear g
    go_loopw [3, 12] (fun bad i wr => ∃ k : Nat, k ≤ xs.length ∧ i = .int .i64 k ∧ bad = errV aT aB (preTo 2 (bl (xs.take k))) ∧ Below w.heap.size w wr) (fun _ i _ => xs.length - (intOf i).toNat)
    case atStart => exact ⟨0, Nat.zero_le _, rfl, rfl, Below.refl _ _⟩
    case round =>
      obtain ⟨k, hk, rfl, rfl, hb⟩ := hrel
      have HB := hid hb
      clear hb
      by_cases hlt : k < xs.length
      · have hcell : wr.cell? ⟨b, o + k, none⟩ = some (.string xs[k]) := cell_below HB.out (HC.out k hlt)
        have HSN := hid (preTo_snoc 2 (bl (xs.take k)) xs[k].data.toList)
        rw [← bl_take_snoc xs k hlt] at HSN
        have HE := hid (preTo_err 2 (bl (xs.take k)) (by simp))
        have HXK := hid (HX.out xs[k] (List.getElem_mem hlt))
        generalize hq : preTo 2 (bl (xs.take k)) = q at *
        clear hq
        go_wp2_with fail
        refine (part_any xs[k] aT aB m wr HXK.out (HS.out.below HB.out)).mono ?_
        rintro e w1 ⟨rfl, hb1⟩
        have HB1 := hid (HB.out.trans (hb1.mono HB.out.size))
        clear hb1
        have HPE := hid (part_err xs[k].data.toList)
        go_wp2_with fail
        refine (worse_any q _ aT aB m w1 (HS.out.below HB1.out) HE.out HPE.out).mono ?_
        rintro e w' ⟨rfl, rfl⟩
        rw [← HSN.out]
        go_wp2_with fail
        go_roundw
        case rel => exact ⟨k + 1, by omega, by go_num, rfl, HB1.out⟩
        case measure => simp [intOf]; omega
      · have hkk : xs.take k = xs := List.take_of_length_le (by omega)
        rw [hkk, ← HP.out]
        clear hkk
        go_wp2_with fail
        go_ret
        exact ⟨rfl, HB.out⟩
  · rw [if_neg h5] at HP
    have h5b : decide (5 < (xs.length : Int)) = false := by simp; omega
    go_enter Tryz.func113, Tryz.ntmps113
    go_wp2_with fail
    clear g
    go_loopw [3, 12] (fun bad i wr => ∃ k : Nat, k ≤ xs.length ∧ i = .int .i64 k ∧ bad = errV aT aB (preTo 0 (bl (xs.take k))) ∧ Below w.heap.size w wr) (fun _ i _ => xs.length - (intOf i).toNat)
    case atStart => exact ⟨0, Nat.zero_le _, rfl, rfl, Below.refl _ _⟩
    case round =>
      obtain ⟨k, hk, rfl, rfl, hb⟩ := hrel
      have HB := hid hb
      clear hb
      by_cases hlt : k < xs.length
      · have hcell : wr.cell? ⟨b, o + k, none⟩ = some (.string xs[k]) := cell_below HB.out (HC.out k hlt)
        have HSN := hid (preTo_snoc 0 (bl (xs.take k)) xs[k].data.toList)
        rw [← bl_take_snoc xs k hlt] at HSN
        have HE := hid (preTo_err 0 (bl (xs.take k)) (by simp))
        have HXK := hid (HX.out xs[k] (List.getElem_mem hlt))
        generalize hq : preTo 0 (bl (xs.take k)) = q at *
        clear hq
        go_wp2_with fail
        refine (part_any xs[k] aT aB m wr HXK.out (HS.out.below HB.out)).mono ?_
        rintro e w1 ⟨rfl, hb1⟩
        have HB1 := hid (HB.out.trans (hb1.mono HB.out.size))
        clear hb1
        have HPE := hid (part_err xs[k].data.toList)
        go_wp2_with fail
        refine (worse_any q _ aT aB m w1 (HS.out.below HB1.out) HE.out HPE.out).mono ?_
        rintro e w' ⟨rfl, rfl⟩
        rw [← HSN.out]
        go_wp2_with fail
        go_roundw
        case rel => exact ⟨k + 1, by omega, by go_num, rfl, HB1.out⟩
        case measure => simp [intOf]; omega
      · have hkk : xs.take k = xs := List.take_of_length_le (by omega)
        rw [hkk, ← HP.out]
        clear hkk
        go_wp2_with fail
        go_ret
        exact ⟨rfl, HB.out⟩
end Ve
end Go.Proofs.YtjhlkjgijbobcaaGreatDoor
