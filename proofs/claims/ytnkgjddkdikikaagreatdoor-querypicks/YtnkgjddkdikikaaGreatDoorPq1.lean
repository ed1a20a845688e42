/-
  VerPlain Err Code RefOa OrdM PathT RefJ
-/
import Derived.Below
import Derived.Test.YtnkgjddkdikikaaGreatDoorProg
import Derived.WalkKit
import Derived.LaidEql
import Derived.Stop.Asserts
import Derived.RowKitTokens
import Derived.Test.YtnkgjddkdikikaaGreatDoorPq16
import Derived.Test.YtnkgjddkdikikaaGreatDoorPq3
import Derived.Test.YtnkgjddkdikikaaGreatDoorPq7
import Derived.Test.YtnkgjddkdikikaaGreatDoorPq10
import Derived.Deep.RegionHeld
import Derived.Laws.AppendOwnNone
import Derived.Test.YtnkgjddkdikikaaGreatDoorPq2
import Derived.Test.YtnkgjddkdikikaaGreatDoorPq4
import Derived.Test.YtnkgjddkdikikaaGreatDoorPq5
import Derived.Test.YtnkgjddkdikikaaGreatDoorPq6
import Derived.Test.YtnkgjddkdikikaaGreatDoorPq12
import Derived.Test.YtnkgjddkdikikaaGreatDoorPq13
import Derived.Test.YtnkgjddkdikikaaGreatDoorPq34
import Derived.Test.YtnkgjddkdikikaaGreatDoorPq9
import Derived.Test.YtnkgjddkdikikaaGreatDoorPq21
namespace Go.Proofs.YtnkgjddkdikikaaGreatDoor
namespace Ve
theorem take_all (s : ByteArray) : s.data.toList.take s.size = s.data.toList := List.take_of_length_le (by simp)
end Ve
end Go.Proofs.YtnkgjddkdikikaaGreatDoor
namespace Go.Proofs.YtnkgjddkdikikaaGreatDoor
open Go.RowKit Go.Extern.Stop Go.Stop Go.Extern
namespace Er
theorem noIsS (v : Value) (xT : TypeId) (w : World) : (Instr.typeAssert (.iface 311 v) xT 250 true).run Tryz.prog w = .ok (.tuple #[.nilIface, .bool false]) w := run_typeAssert_lacksB Tryz.underlying250 (by kernel_rfl) (by kernel_rfl) v xT w
theorem noIsP (v : Value) (xT : TypeId) (w : World) : (Instr.typeAssert (.iface 142 v) xT 250 true).run Tryz.prog w = .ok (.tuple #[.nilIface, .bool false]) w := run_typeAssert_lacksB Tryz.underlying250 (by kernel_rfl) (by kernel_rfl) v xT w
theorem hasUnwrapP (v : Value) (xT : TypeId) (w : World) : (Instr.typeAssert (.iface 142 v) xT 240 true).run Tryz.prog w = .ok (.tuple #[.iface 142 v, .bool true]) w := run_typeAssert_hasB Tryz.underlying240 (by kernel_rfl) v xT w
theorem methodUnwrap (v : Value) (w : World) : (Go.method 440 142 v "Unwrap").run Tryz.prog w = .ok (346, v) w := by kernel_rfl
theorem callComp (w : World) : (callFunc 353 #[.agg #[.pointer (some ⟨17, 311, none⟩)]]).run Tryz.prog w = .ok (.value (.bool true)) w := by kernel_rfl
theorem methodComparable (v : Value) (w : World) : (Go.method 440 233 v "Comparable").run Tryz.prog w = .ok (353, v) w := by kernel_rfl
set_option maxHeartbeats 1000000 in
theorem is_same (a : Addr) (w : World) :
    Calls Tryz.prog 152 #[.iface 311 (.pointer (some a)), .iface 311 (.pointer (some a))] w fun e w' => e = .returned (.bool true) ∧ w' = w := by
  obtain ⟨i, hi, hcmp⟩ := Option.map_eq_some_iff.1 compS
  obtain ⟨j, hj, hjs⟩ := Option.map_eq_some_iff.1 sizeS
  have h8 := @run_callFunc_extern Tryz.prog 205 _ ReflectliteType.typeOf Tryz.func205 (by kernel_rfl) (by kernel_rfl) (by kernel_rfl) (by kernel_rfl)
  have h32 := callComp
  have tT := typeOfS
  have mR := methodComparable
  have heq := run_eql_iface_ptr_same (P := Tryz.prog) w a Tryz.underlying27 Tryz.underlying311 hi hcmp hj
  go_enter Tryz.func152, Tryz.ntmps152
  go_wp2
  refine wp_loop_rounds 1 ?_
  rw [rounds_succ]
  go_wp2
  go_ret
  exact ⟨rfl, rfl⟩
set_option maxHeartbeats 1000000 in
theorem is_other (a b : Addr) (ca cb : Array Value) (ta tb : TypeId) (w : World) (hne : a ≠ b) (ha : w.heap[a.block]? = some (.cells ca ta (0, 0))) (hb : w.heap[b.block]? = some (.cells cb tb (0, 0))) :
    Calls Tryz.prog 152 #[.iface 311 (.pointer (some a)), .iface 311 (.pointer (some b))] w fun e w' => e = .returned (.bool false) ∧ w' = w := by
  obtain ⟨i, hi, hcmp⟩ := Option.map_eq_some_iff.1 compS
  obtain ⟨j, hj, hjs⟩ := Option.map_eq_some_iff.1 sizeS
  have h8 := @run_callFunc_extern Tryz.prog 205 _ ReflectliteType.typeOf Tryz.func205 (by kernel_rfl) (by kernel_rfl) (by kernel_rfl) (by kernel_rfl)
  have h32 := callComp
  have tT := typeOfS
  have mR := methodComparable
  have nE := noIsS
  have uE := noUnwrapS
  have vE := noUnwrapsS
  have heq := run_eql_iface_ptr_other (P := Tryz.prog) w Tryz.underlying27 Tryz.underlying311 hi hcmp hj (by rw [hjs]; decide) hne ha hb
  go_enter Tryz.func152, Tryz.ntmps152
  go_wp2
  refine wp_loop_rounds 1 ?_
  rw [rounds_succ]
  go_wp2
  go_ret
  exact ⟨rfl, rfl⟩
set_option maxHeartbeats 1000000 in
theorem is_wrap_same (pb po : Nat) (b : Addr) (w : World) (h1 : w.cell? ⟨pb, po + 1, none⟩ = some (.iface 311 (.pointer (some b)))) :
    Calls Tryz.prog 152 #[.iface 142 (.pointer (some ⟨pb, po, none⟩)), .iface 311 (.pointer (some b))] w fun e w' => e = .returned (.bool true) ∧ w' = w := by
  obtain ⟨i, hi, hcmp⟩ := Option.map_eq_some_iff.1 compS
  obtain ⟨j, hj, hjs⟩ := Option.map_eq_some_iff.1 sizeS
  have h8 := @run_callFunc_extern Tryz.prog 205 _ ReflectliteType.typeOf Tryz.func205 (by kernel_rfl) (by kernel_rfl) (by kernel_rfl) (by kernel_rfl)
  have h32 := callComp
  have tT := typeOfS
  have mR := methodComparable
  have nW := noIsP
  have uW := hasUnwrapP
  have mU := methodUnwrap
  have heq := run_eql_iface_ptr_same (P := Tryz.prog) w b Tryz.underlying27 Tryz.underlying311 hi hcmp hj
  have hty := run_eql_iface_types (P := Tryz.prog) 142 311 (.pointer (some ⟨pb, po, none⟩)) (.pointer (some b)) Tryz.underlying27 (by decide) w
  go_enter Tryz.func152, Tryz.ntmps152
  go_wp2
  refine wp_loop_rounds 2 ?_
  rw [rounds_succ]
  go_wp2
  rw [rounds_succ]
  go_wp2
  go_ret
  exact ⟨rfl, rfl⟩
set_option maxHeartbeats 1000000 in
theorem is_wrap_other (pb po : Nat) (b a : Addr) (ca cb : Array Value) (ta tb : TypeId) (w : World) (h1 : w.cell? ⟨pb, po + 1, none⟩ = some (.iface 311 (.pointer (some a)))) (hne : a ≠ b) (ha : w.heap[a.block]? = some (.cells ca ta (0, 0))) (hb : w.heap[b.block]? = some (.cells cb tb (0, 0))) :
    Calls Tryz.prog 152 #[.iface 142 (.pointer (some ⟨pb, po, none⟩)), .iface 311 (.pointer (some b))] w fun e w' => e = .returned (.bool false) ∧ w' = w := by
  obtain ⟨i, hi, hcmp⟩ := Option.map_eq_some_iff.1 compS
  obtain ⟨j, hj, hjs⟩ := Option.map_eq_some_iff.1 sizeS
  have h8 := @run_callFunc_extern Tryz.prog 205 _ ReflectliteType.typeOf Tryz.func205 (by kernel_rfl) (by kernel_rfl) (by kernel_rfl) (by kernel_rfl)
  have h32 := callComp
  have tT := typeOfS
  have mR := methodComparable
  have nE := noIsS
  have uE := noUnwrapS
  have vE := noUnwrapsS
  have nW := noIsP
  have uW := hasUnwrapP
  have mU := methodUnwrap
  have heq := run_eql_iface_ptr_other (P := Tryz.prog) w Tryz.underlying27 Tryz.underlying311 hi hcmp hj (by rw [hjs]; decide) hne ha hb
  have hty := run_eql_iface_types (P := Tryz.prog) 142 311 (.pointer (some ⟨pb, po, none⟩)) (.pointer (some b)) Tryz.underlying27 (by decide) w
  go_enter Tryz.func152, Tryz.ntmps152
  go_wp2
  refine wp_loop_rounds 2 ?_
  rw [rounds_succ]
  go_wp2
  rw [rounds_succ]
  go_wp2
  go_ret
  exact ⟨rfl, rfl⟩
end Er
end Go.Proofs.YtnkgjddkdikikaaGreatDoor
namespace Go.Proofs.YtnkgjddkdikikaaGreatDoor
open Go.RowKit Go.Extern.Stop Go.Stop Go.Extern
namespace Er
theorem ten (w : World) (A : Nat → Addr) (T : TypeId) (k : Nat) (hk : k < 10) :
    (w.alloc (.cells #[.iface 311 (.pointer (some (A 0))), .iface 311 (.pointer (some (A 1))), .iface 311 (.pointer (some (A 2))), .iface 311 (.pointer (some (A 3))), .iface 311 (.pointer (some (A 4))), .iface 311 (.pointer (some (A 5))), .iface 311 (.pointer (some (A 6))), .iface 311 (.pointer (some (A 7))), .iface 311 (.pointer (some (A 8))), .iface 311 (.pointer (some (A 9)))] T)).cell? ⟨w.heap.size, k, none⟩ = some (.iface 311 (.pointer (some (A k)))) := by
  match k, hk with
  | 0, _ => simp
  | 1, _ => simp
  | 2, _ => simp
  | 3, _ => simp
  | 4, _ => simp
  | 5, _ => simp
  | 6, _ => simp
  | 7, _ => simp
  | 8, _ => simp
  | 9, _ => simp
set_option maxHeartbeats 1000000 in
theorem code_miss (a : Addr) (A : Nat → Addr) (j : Nat) (w : World) (S : Sen w A) (hj : j ≤ 10)
    (hY : j < 10 → ∀ W, Below w.heap.size w W → Calls Tryz.prog 152 #[.iface 311 (.pointer (some a)), .iface 311 (.pointer (some (A j)))] W fun e w' => e = .returned (.bool true) ∧ w' = W)
    (hN : ∀ k, k < 10 → k ≠ j → ∀ W, Below w.heap.size w W → Calls Tryz.prog 152 #[.iface 311 (.pointer (some a)), .iface 311 (.pointer (some (A k)))] W fun e w' => e = .returned (.bool false) ∧ w' = W) :
    Calls Tryz.prog 82 #[.iface 311 (.pointer (some a))] w fun e w' => e = .returned (.tuple #[.int .i64 (if j < 10 then (j : Int) + 1 else -1), .int .i64 (-1)]) ∧ Below w.heap.size w w' := by
  have hb0 : Below w.heap.size w (w.alloc (.cells #[.pointer none] 142)) := (Below.refl _ _).alloc (Nat.le_refl _) _
  have HY := hid hY
  have HN := hid hN
  have HS := hid S
  have HB0 := hid hb0
  clear hY hN S hb0
  go_enter Tryz.func82, Tryz.ntmps82
  go_wp2_with fail
  refine (as_miss_b a _ _ (HS.out.below HB0.out).et).mono ?_
  rintro e w1 ⟨rfl, hb1⟩
  have hb : Below w.heap.size w w1 := HB0.out.trans (hb1.mono (by simp))
  have S := HS.out.below hb
  have HB := hid hb
  clear hb1 hb
  have c0 := S.g0
  have c1 := S.g1
  have c2 := S.g2
  have c3 := S.g3
  have c4 := S.g4
  have c5 := S.g5
  have c6 := S.g6
  have c7 := S.g7
  have c8 := S.g8
  have c9 := S.g9
  clear S
  go_wp2_with fail
  have hbL := HB.out.alloc HB.out.size (.cells #[.iface 311 (.pointer (some (A 0))), .iface 311 (.pointer (some (A 1))), .iface 311 (.pointer (some (A 2))), .iface 311 (.pointer (some (A 3))), .iface 311 (.pointer (some (A 4))), .iface 311 (.pointer (some (A 5))), .iface 311 (.pointer (some (A 6))), .iface 311 (.pointer (some (A 7))), .iface 311 (.pointer (some (A 8))), .iface 311 (.pointer (some (A 9)))] 27)
  have HBL := hid hbL
  clear hbL c0 c1 c2 c3 c4 c5 c6 c7 c8 c9
  go_loop [3, 28] (fun at_ i => ∃ k : Nat, k ≤ 10 ∧ k ≤ j ∧ i = .int .i64 k ∧ at_ = .int .i64 (-1)) (fun _ i => 10 - (intOf i).toNat)
  case atStart => exact ⟨0, by omega, by omega, rfl, rfl⟩
  case round =>
    obtain ⟨k, hk, hkj, rfl, rfl⟩ := hrel
    by_cases hlt : k < 10
    · have hc := ten w1 A 27 k hlt
      by_cases hkeq : k = j
      · subst hkeq
        go_wp2_with fail
        refine (HY.out hlt _ HBL.out).mono ?_
        rintro e w' ⟨rfl, rfl⟩
        go_wp2_with fail
        go_ret2
        exact ⟨rfl, HBL.out⟩
      · go_wp2_with fail
        refine (HN.out k hlt hkeq _ HBL.out).mono ?_
        rintro e w' ⟨rfl, rfl⟩
        go_wp2_with fail
        go_round
        case rel => exact ⟨k + 1, by omega, by omega, by go_num, rfl⟩
        case measure => simp [intOf]; omega
    · have hj10 : ¬ j < 10 := by omega
      go_wp2_with fail
      go_ret2
      exact ⟨rfl, HBL.out⟩
set_option maxHeartbeats 1000000 in
theorem code_hit (fb fo : Nat) (n : Int) (A : Nat → Addr) (j : Nat) (w : World) (S : Sen w A) (hj : j ≤ 10) (hfb : fb < w.heap.size) (hn : w.cell? ⟨fb, fo, none⟩ = some (.int .i64 n))
    (hY : j < 10 → ∀ W, Below w.heap.size w W → Calls Tryz.prog 152 #[.iface 142 (.pointer (some ⟨fb, fo, none⟩)), .iface 311 (.pointer (some (A j)))] W fun e w' => e = .returned (.bool true) ∧ w' = W)
    (hN : ∀ k, k < 10 → k ≠ j → ∀ W, Below w.heap.size w W → Calls Tryz.prog 152 #[.iface 142 (.pointer (some ⟨fb, fo, none⟩)), .iface 311 (.pointer (some (A k)))] W fun e w' => e = .returned (.bool false) ∧ w' = W) :
    Calls Tryz.prog 82 #[.iface 142 (.pointer (some ⟨fb, fo, none⟩))] w fun e w' => e = .returned (.tuple #[.int .i64 (if j < 10 then (j : Int) + 1 else -1), .int .i64 n]) ∧ Below w.heap.size w w' := by
  have hb0 : Below w.heap.size w (w.alloc (.cells #[.pointer none] 142)) := (Below.refl _ _).alloc (Nat.le_refl _) _
  have HY := hid hY
  have HN := hid hN
  have HS := hid S
  have HB0 := hid hb0
  have Hn := hid hn
  clear hY hN S hb0 hn
  go_enter Tryz.func82, Tryz.ntmps82
  go_wp2_with fail
  refine (as_hit_b ⟨fb, fo, none⟩ ⟨w.heap.size, 0, none⟩ (.pointer none) _ w.heap.size (Nat.le_refl _) (HS.out.below HB0.out).et (by simp) (by simp) (by simp)).mono ?_
  rintro e w1 ⟨rfl, hb1, ht1⟩
  have hb : Below w.heap.size w w1 := HB0.out.trans hb1
  have S := HS.out.below hb
  have hn1 : w1.cell? ⟨fb, fo, none⟩ = some (.int .i64 n) := by rw [hb.cell hfb]; exact Hn.out
  have HB := hid hb
  clear hb1 hb
  have c0 := S.g0
  have c1 := S.g1
  have c2 := S.g2
  have c3 := S.g3
  have c4 := S.g4
  have c5 := S.g5
  have c6 := S.g6
  have c7 := S.g7
  have c8 := S.g8
  have c9 := S.g9
  clear S
  go_wp2_with fail
  have hbL := HB.out.alloc HB.out.size (.cells #[.iface 311 (.pointer (some (A 0))), .iface 311 (.pointer (some (A 1))), .iface 311 (.pointer (some (A 2))), .iface 311 (.pointer (some (A 3))), .iface 311 (.pointer (some (A 4))), .iface 311 (.pointer (some (A 5))), .iface 311 (.pointer (some (A 6))), .iface 311 (.pointer (some (A 7))), .iface 311 (.pointer (some (A 8))), .iface 311 (.pointer (some (A 9)))] 27)
  have HBL := hid hbL
  clear hbL c0 c1 c2 c3 c4 c5 c6 c7 c8 c9 hn1 ht1
  go_loop [3, 28] (fun at_ i => ∃ k : Nat, k ≤ 10 ∧ k ≤ j ∧ i = .int .i64 k ∧ at_ = .int .i64 n) (fun _ i => 10 - (intOf i).toNat)
  case atStart => exact ⟨0, by omega, by omega, rfl, rfl⟩
  case round =>
    obtain ⟨k, hk, hkj, rfl, rfl⟩ := hrel
    by_cases hlt : k < 10
    · have hc := ten w1 A 27 k hlt
      by_cases hkeq : k = j
      · subst hkeq
        go_wp2_with fail
        refine (HY.out hlt _ HBL.out).mono ?_
        rintro e w' ⟨rfl, rfl⟩
        go_wp2_with fail
        go_ret2
        exact ⟨rfl, HBL.out⟩
      · go_wp2_with fail
        refine (HN.out k hlt hkeq _ HBL.out).mono ?_
        rintro e w' ⟨rfl, rfl⟩
        go_wp2_with fail
        go_round
        case rel => exact ⟨k + 1, by omega, by omega, by go_num, rfl⟩
        case measure => simp [intOf]; omega
    · have hj10 : ¬ j < 10 := by omega
      go_wp2_with fail
      go_ret2
      exact ⟨rfl, HBL.out⟩
theorem blk_below {w W : World} {b : Nat} {c : Array Value} {t : TypeId} (h : w.heap[b]? = some (.cells c t (0, 0))) (hb : Below w.heap.size w W) : W.heap[b]? = some (.cells c t (0, 0)) := by
  have hlt : b < w.heap.size := by
    rcases Nat.lt_or_ge b w.heap.size with hh | hh
    · exact hh
    · rw [Array.getElem?_eq_none hh] at h; cases h
  rw [hb.block _ hlt]; exact h
theorem code_sen (A : Nat → Addr) (j : Nat) (w : World) (S : Sen w A) (hj : j < 10) :
    Calls Tryz.prog 82 #[.iface 311 (.pointer (some (A j)))] w fun e w' => e = .returned (.tuple #[.int .i64 ((j : Int) + 1), .int .i64 (-1)]) ∧ Below w.heap.size w w' := by
  refine (code_miss (A j) A j w S (Nat.le_of_lt hj) (fun _ W _ => is_same (A j) W) (fun k hk hkj W hW => ?_)).mono fun e w' ⟨h1, h2⟩ => ⟨by rw [h1, if_pos hj], h2⟩
  obtain ⟨c1, t1, e1⟩ := S.blk j hj
  obtain ⟨c2, t2, e2⟩ := S.blk k hk
  exact is_other (A j) (A k) c1 c2 t1 t2 W (S.inj j k hj hk (fun h => hkj h.symm)) (blk_below e1 hW) (blk_below e2 hW)
theorem code_fault (fb fo : Nat) (n : Int) (A : Nat → Addr) (j : Nat) (w : World) (S : Sen w A) (hj : j < 10) (hfb : fb < w.heap.size) (hn : w.cell? ⟨fb, fo, none⟩ = some (.int .i64 n)) (he : w.cell? ⟨fb, fo + 1, none⟩ = some (.iface 311 (.pointer (some (A j))))) :
    Calls Tryz.prog 82 #[.iface 142 (.pointer (some ⟨fb, fo, none⟩))] w fun e w' => e = .returned (.tuple #[.int .i64 ((j : Int) + 1), .int .i64 n]) ∧ Below w.heap.size w w' := by
  refine (code_hit fb fo n A j w S (Nat.le_of_lt hj) hfb hn (fun _ W hW => is_wrap_same fb fo (A j) W ?_) (fun k hk hkj W hW => ?_)).mono fun e w' ⟨h1, h2⟩ => ⟨by rw [h1, if_pos hj], h2⟩
  · rw [hW.cell hfb]; exact he
  · obtain ⟨c1, t1, e1⟩ := S.blk j hj
    obtain ⟨c2, t2, e2⟩ := S.blk k hk
    exact is_wrap_other fb fo (A k) (A j) c1 c2 t1 t2 W (by rw [hW.cell hfb]; exact he) (S.inj j k hj hk (fun h => hkj h.symm)) (blk_below e1 hW) (blk_below e2 hW)
end Er
end Go.Proofs.YtnkgjddkdikikaaGreatDoor
namespace Go.Proofs.YtnkgjddkdikikaaGreatDoor
open Go.RowKit
namespace Ve
def atOf : Option Nat → Int
  | none => -1
  | some i => (i : Int)
def faultV (r : Nat × Option Nat) : Value := .agg #[.int .i64 (r.1 : Nat), .int .i64 (atOf r.2)]
theorem rbare_any (n : Int) (w : World) : Calls Tryz.prog 89 #[.int .i64 n] w fun e w' => e = .returned (.agg #[.int .i64 n, .int .i64 (-1)]) ∧ Below w.heap.size w w' := by
  go_enter Tryz.func89, Tryz.ntmps89
  go_wp2_with fail
  refine bodyPost_ret (v := .agg #[.int .i64 n, .int .i64 (-1)]) (by simp [results, Tryz.results89, go_sem]) rfl ⟨rfl, ?_⟩
  exact (Below.refl w.heap.size w).alloc (Nat.le_refl _) _
theorem fine_any (w : World) : Calls Tryz.prog 91 #[] w fun e w' => e = .returned (.agg #[.int .i64 0, .int .i64 (-1)]) ∧ Below w.heap.size w w' := by
  go_enter Tryz.func91, Tryz.ntmps91
  go_wp2_with fail
  refine bodyPost_ret (v := .agg #[.int .i64 0, .int .i64 (-1)]) (by simp [results, Tryz.results91, go_sem]) rfl ⟨rfl, ?_⟩
  exact (Below.refl w.heap.size w).alloc (Nat.le_refl _) _
end Ve
end Go.Proofs.YtnkgjddkdikikaaGreatDoor
namespace Go.Proofs.YtnkgjddkdikikaaGreatDoor
open Go.RowKit
namespace Ve
theorem rises_ins {A B : List (List UInt8)} {x : List UInt8} (h : rises (A ++ B)) (ha : ∀ a, a ∈ A → ordV a x < 0) (hb : ∀ b, B.head? = some b → ordV x b < 0) : rises (A ++ x :: B) := by
  unfold rises at *
  rw [List.pairwise_append] at h ⊢
  obtain ⟨h1, h2, h3⟩ := h
  have hB : ∀ b, b ∈ B → ordV x b < 0 := by
    cases B with
    | nil => intro b hb; cases hb
    | cons b r =>
      have hb0 := hb b rfl
      intro c hc
      rcases List.mem_cons.1 hc with e | hc
      · rw [e]; exact hb0
      · exact ordV_trans hb0 ((List.pairwise_cons.1 h2).1 c hc)
  refine ⟨h1, List.pairwise_cons.2 ⟨hB, h2⟩, fun a ha' c hc => ?_⟩
  rcases List.mem_cons.1 hc with e | hc
  · rw [e]; exact ha a ha'
  · exact h3 a ha' c hc
theorem kept_no {L : List ByteArray} {k : Nat} {X : List ByteArray} (hk : k < L.length) (h : Kept L k X) (hv : verErr L[k].data.toList ≠ 0) : Kept L (k + 1) X := by
  refine ⟨h.1, fun t => ?_⟩
  rw [h.2 t, bl_take_snoc L k hk, List.mem_append, List.mem_singleton]
  constructor
  · rintro ⟨a, b⟩; exact ⟨Or.inl a, b⟩
  · rintro ⟨a | a, b⟩
    · exact ⟨a, b⟩
    · rw [a] at b; exact absurd b hv
theorem kept_old {L : List ByteArray} {k : Nat} {X : List ByteArray} (hk : k < L.length) (h : Kept L k X) (hm : L[k].data.toList ∈ bl X) : Kept L (k + 1) X := by
  refine ⟨h.1, fun t => ?_⟩
  rw [bl_take_snoc L k hk, List.mem_append, List.mem_singleton]
  constructor
  · intro ht
    exact ⟨Or.inl ((h.2 t).1 ht).1, ((h.2 t).1 ht).2⟩
  · rintro ⟨a | a, b⟩
    · exact (h.2 t).2 ⟨a, b⟩
    · rw [a]; exact hm
theorem kept_new {L : List ByteArray} {k : Nat} {X : List ByteArray} (hk : k < L.length) (h : Kept L k X) (hv : verErr L[k].data.toList = 0) {j : Nat} (hj : j ≤ X.length) (hlt : ∀ t (ht : t < X.length), t < j → ordV X[t].data.toList L[k].data.toList < 0)
    (hge : ∀ (ht : j < X.length), ¬ ordV X[j].data.toList L[k].data.toList < 0 ∧ X[j].data.toList ≠ L[k].data.toList) : Kept L (k + 1) (X.take j ++ L[k] :: X.drop j) := by
  have e : bl (X.take j ++ L[k] :: X.drop j) = (bl X).take j ++ L[k].data.toList :: (bl X).drop j := by simp [bl]
  refine ⟨?_, fun t => ?_⟩
  · rw [e]
    refine rises_ins (by rw [List.take_append_drop]; exact h.1) ?_ ?_
    · intro a ha
      obtain ⟨i, hi, e2⟩ := List.mem_iff_getElem.1 ha
      rw [List.getElem_take] at e2
      simp [bl_len] at hi
      rw [bl_get (by omega)] at e2
      rw [← e2]; exact hlt i (by omega) (by omega)
    · intro b hb
      rw [List.head?_drop] at hb
      obtain ⟨hl, e2⟩ := List.getElem?_eq_some_iff.1 hb
      rw [bl_len] at hl
      rw [bl_get hl] at e2
      obtain ⟨h1, h2⟩ := hge hl
      rw [e2] at h1 h2
      have hbv : verErr b = 0 := ((h.2 b).1 (by rw [← e2]; exact bl_mem (List.getElem_mem hl))).2
      rw [ordV_swap b]
      rcases ordV_range b L[k].data.toList with r | r | r
      · omega
      · exact absurd ((ordV_zero hbv hv).1 r) h2
      · omega
  · rw [e, List.mem_append, List.mem_cons, bl_take_snoc L k hk, List.mem_append, List.mem_singleton]
    have hm := h.2 t
    rw [← List.take_append_drop j (bl X), List.mem_append] at hm
    constructor
    · rintro (a | a | a)
      · exact ⟨Or.inl (hm.1 (Or.inl a)).1, (hm.1 (Or.inl a)).2⟩
      · rw [a]; exact ⟨Or.inr rfl, hv⟩
      · exact ⟨Or.inl (hm.1 (Or.inr a)).1, (hm.1 (Or.inr a)).2⟩
    · rintro ⟨a | a, b⟩
      · rcases hm.2 ⟨a, b⟩ with c | c
        · exact Or.inl c
        · exact Or.inr (Or.inr c)
      · exact Or.inr (Or.inl a)
end Ve
end Go.Proofs.YtnkgjddkdikikaaGreatDoor
namespace Go.Proofs.YtnkgjddkdikikaaGreatDoor
namespace Ve
theorem dw_nil (p : UInt8 → Bool) : ∀ l : List UInt8, l.dropWhile p = [] ↔ ∀ x, x ∈ l → p x = true
  | [] => by simp
  | b :: r => by
    rw [List.dropWhile_cons]
    cases hb : p b
    · simp [hb]
    · simp [hb, dw_nil p r]
theorem trim_nil (l : List UInt8) : (Lib.trimB l 46 == []) = l.all (· == 46) := by
  have key : Lib.trimB l 46 = [] ↔ ∀ x, x ∈ l → x = 46 := by
    unfold Lib.trimB Lib.trimLeftB Lib.trimRightB
    constructor
    · intro h x hx
      have h1 : ∀ y, y ∈ (l.reverse.dropWhile (· == 46)).reverse → y = 46 := by
        intro y hy
        have := (dw_nil _ _).1 h y hy
        simpa using this
      have h2 : l.reverse.dropWhile (· == 46) = [] := by
        cases e : l.reverse.dropWhile (· == 46) with
        | nil => rfl
        | cons b r =>
          exfalso
          have hb : b = 46 := h1 b (by rw [e]; simp)
          have := List.head_dropWhile_not (· == 46) (l := l.reverse) (by rw [e]; simp)
          simp [e, hb] at this
      have := (dw_nil _ _).1 h2 x (by simpa using hx)
      simpa using this
    · intro h
      have h2 : l.reverse.dropWhile (· == 46) = [] := (dw_nil _ _).2 (fun x hx => by simpa using h x (by simpa using hx))
      rw [h2]; rfl
  rw [Bool.eq_iff_iff]
  simp only [beq_iff_eq, key, List.all_eq_true]
theorem three_iff (l : List UInt8) : Lib.contains l [46, 46, 46] = true ↔ ∃ k, 2 ≤ k ∧ k < l.length ∧ (l.drop (k - 2)).take 3 = [46, 46, 46] := by
  have hocc : ∀ i, Lib.occAt l [46, 46, 46] i = true ↔ (l.drop i).take 3 = [46, 46, 46] := by
    intro i
    unfold Lib.occAt
    rw [List.isPrefixOf_iff_prefix]
    constructor
    · rintro ⟨t, ht⟩
      rw [← ht]; rfl
    · intro h
      exact ⟨(l.drop i).drop 3, by rw [← h, List.take_append_drop]⟩
  unfold Lib.contains
  rw [decide_eq_true_iff]
  rcases Lib.index_spec l [46, 46, 46] with ⟨h1, h2⟩ | ⟨i, h1, h2, h3, h4⟩
  · constructor
    · intro h; omega
    · rintro ⟨k, hk2, hkl, h⟩
      have := h2 (k - 2) (by omega)
      rw [(hocc (k - 2)).2 h] at this
      cases this
  · constructor
    · intro _
      have h5 := (hocc i).1 h3
      have h6 := congrArg List.length h5
      simp at h6
      exact ⟨i + 2, by omega, by omega, by simpa using h5⟩
    · intro _; omega
def seenOk (l : List UInt8) (k : Nat) : Prop := (l.take k).all el = true ∧ ∀ j, 2 ≤ j → j < k → (l.drop (j - 2)).take 3 ≠ [46, 46, 46]
theorem seen_all {l : List UInt8} (h : seenOk l l.length) : elemOk l = !l.all (· == 46) := by
  unfold elemOk
  rw [trim_nil]
  have h1 : allEl l = true := by have := h.1; rw [List.take_length] at this; exact this
  have h2 : Lib.contains l [46, 46, 46] = false := by
    cases e : Lib.contains l [46, 46, 46]
    · rfl
    · obtain ⟨k, a, b, c⟩ := (three_iff l).1 e
      exact absurd c (h.2 k a b)
  rw [h1, h2]; simp
theorem seen_bad {l : List UInt8} {k : Nat} (hk : k < l.length) (h : el l[k] = false) : elemOk l = false := by
  have : allEl l = false := by
    cases e : allEl l
    · rfl
    · have := List.all_eq_true.1 e l[k] (List.getElem_mem hk)
      rw [h] at this; cases this
  unfold elemOk
  rw [this]; simp
theorem seen_three {l : List UInt8} {k : Nat} (h2 : 2 ≤ k) (hk : k < l.length) (h : (l.drop (k - 2)).take 3 = [46, 46, 46]) : elemOk l = false := by
  have : Lib.contains l [46, 46, 46] = true := (three_iff l).2 ⟨k, h2, hk, h⟩
  unfold elemOk
  rw [this]; simp
theorem seen_next {l : List UInt8} {k : Nat} (hs : seenOk l k) (hk : k < l.length) (h : el l[k] = true) (h3 : 2 ≤ k → (l.drop (k - 2)).take 3 ≠ [46, 46, 46]) : seenOk l (k + 1) := by
  refine ⟨?_, fun j h2 hj => ?_⟩
  · rw [List.take_succ_eq_append_getElem hk, all_snoc, hs.1, h]; rfl
  · by_cases e : j = k
    · subst e; exact h3 h2
    · exact hs.2 j h2 (by omega)
theorem dots_next {l : List UInt8} {k : Nat} (hk : k < l.length) : (l.take (k + 1)).all (· == 46) = ((l.take k).all (· == 46) && l[k] == 46) := by
  rw [List.take_succ_eq_append_getElem hk, all_snoc]
def sufV (l : List UInt8) : Int := if likeB l then (if sufOk l then (num (restOf l)).1 else -1) else 0
theorem suf_pos {l : List UInt8} (h : sufOk l = true) : 2 ≤ (num (restOf l)).1 := by
  unfold sufOk at h
  simp only [Bool.and_eq_true, decide_eq_true_eq] at h
  exact h.2
theorem cut_app (c : UInt8) (b : List UInt8) (hb : b.contains c = false) : ∀ a : List UInt8, cutAt c (a ++ c :: b) = cutAt c a ++ [b]
  | [] => by
    show cutAt c (c :: b) = [[]] ++ [b]
    rw [cutAt, if_pos rfl, cut_last c b hb]; rfl
  | x :: a => by
    show cutAt c (x :: (a ++ c :: b)) = cutAt c (x :: a) ++ [b]
    rw [cutAt, cutAt, cut_app c b hb a]
    by_cases hx : x = c
    · rw [if_pos hx, if_pos hx]; rfl
    · rw [if_neg hx, if_neg hx]
      cases e : cutAt c a with
      | nil => exact absurd e (cutAt_ne c a)
      | cons y r => rfl
theorem slash_split {l : List UInt8} {k : Nat} (hk : k < l.length) (h : l[k] = 47) (hn : ∀ j (hj : j < l.length), k < j → l[j] ≠ 47) :
    elems l = elems (l.take k) ++ [l.drop (k + 1)] := by
  have hb : (l.drop (k + 1)).contains 47 = false := by
    cases e : (l.drop (k + 1)).contains 47
    · rfl
    · exfalso
      have hm : (47 : UInt8) ∈ l.drop (k + 1) := by simpa using e
      obtain ⟨i, hi, e2⟩ := List.mem_iff_getElem.1 hm
      rw [List.getElem_drop] at e2
      exact hn (k + 1 + i) (by simp at hi; omega) (by omega) e2
  have e1 : l = l.take k ++ 47 :: l.drop (k + 1) := by
    have h2 := List.take_append_drop k l
    rw [← List.getElem_cons_drop (h := hk), h] at h2
    exact h2.symm
  have h3 := cut_app 47 (l.drop (k + 1)) hb (l.take k)
  rw [← e1] at h3
  exact h3
theorem slash_last {l : List UInt8} {k : Nat} (h : elems l = elems (l.take k) ++ [l.drop (k + 1)]) : 1 < (elems l).length ∧ lastOf l = l.drop (k + 1) ∧ Lib.join ((elems l).take ((elems l).length - 1)) [47] = l.take k := by
  have hp := elems_pos (l.take k)
  have hl : (elems l).length = (elems (l.take k)).length + 1 := by rw [h]; simp
  refine ⟨by omega, ?_, ?_⟩
  · unfold lastOf
    rw [hl, h]
    simp
  · rw [hl, h]
    simp only [Nat.add_sub_cancel, List.take_left']
    exact join_cut 47 _
theorem slash_none {l : List UInt8} (hn : ∀ j (hj : j < l.length), l[j] ≠ 47) : elems l = [l] := by
  refine cut_last 47 l ?_
  cases e : l.contains 47
  · rfl
  · exfalso
    have hm : (47 : UInt8) ∈ l := by simpa using e
    obtain ⟨i, hi, e2⟩ := List.mem_iff_getElem.1 hm
    exact hn i hi e2
end Ve
end Go.Proofs.YtnkgjddkdikikaaGreatDoor
namespace Go.Proofs.YtnkgjddkdikikaaGreatDoor
open Go.RowKit
namespace Ve
theorem rcut47 (s : ByteArray) (w : World) (hs : s.size < 4294967281) :
    Calls Tryz.prog 96 #[.string s, .int .u8 47] w fun e w' => ∃ v X, e = .returned v ∧ bl X = elems s.data.toList ∧ w'.ownsRow w.heap.size 9 1 v X.length (X.map Value.string) ∧ Below w.heap.size w w' := rcut_any s 47 w hs
theorem unmarked {s : ByteArray} (hp : 0 < s.size) (h : marked s.data.toList = false) : ((s[0].toNat : Int) == 118) = false := by
  unfold marked at h
  rw [List.headD_eq_head?_getD, List.head?_eq_getElem?, List.getElem?_eq_getElem (by simpa using hp)] at h
  simp only [Option.getD_some, beq_eq_false_iff_ne] at h
  have h2 : s[0] ≠ 118 := h
  refine beq_eq_false_iff_ne.2 fun e => h2 ?_
  apply UInt8.toNat_inj.1
  have : (118 : UInt8).toNat = 118 := rfl
  omega
set_option maxHeartbeats 1000000 in
theorem suffixOf_any (s : ByteArray) (w : World) (hs : s.size ≤ maxLen) :
    Calls Tryz.prog 173 #[.string s] w fun e w' => e = .returned (.int .i64 (sufV s.data.toList)) ∧ w' = w := by
  have HV := hid (show sufV s.data.toList = if likeB s.data.toList then (if sufOk s.data.toList then (num (restOf s.data.toList)).1 else -1) else 0 from rfl)
  have HO := hid (show sufOk s.data.toList = (decide ((num (restOf s.data.toList)).2 = 0) && decide (2 ≤ (num (restOf s.data.toList)).1)) from rfl)
  have HL := hid (show likeB s.data.toList = (marked s.data.toList && digs (restOf s.data.toList)) from rfl)
  have hsz : s.size ≤ 9223372036854775807 := hs
  by_cases h2 : s.size < 2
  · have hk : likeB s.data.toList = false := by
      rw [HL.out]
      cases hm : marked s.data.toList
      · rfl
      · have hd : restOf s.data.toList = [] := by rw [rest_drop hm]; exact List.length_eq_zero_iff.1 (by simp; omega)
        rw [hd]; rfl
    rw [hk] at HV
    clear hk
    go_enter Tryz.func173, Tryz.ntmps173
    go_wp2_with fail
    go_ret
    exact ⟨by rw [HV.out]; rfl, rfl⟩
  · have hpos : 0 < s.size := by omega
    cases hm : marked s.data.toList
    · have h0 := unmarked hpos hm
      rw [HL.out, hm] at HV
      clear hm
      go_enter Tryz.func173, Tryz.ntmps173
      go_wp2_with fail
      go_ret
      exact ⟨by rw [HV.out]; rfl, rfl⟩
    · obtain ⟨_, h0⟩ := marked_pos hm
      have HT := hid (show (s.extract 1 s.size).data.toList = restOf s.data.toList by rw [ext_drop, rest_drop hm])
      have hTs : (s.extract 1 s.size).size ≤ maxLen := by rw [ByteArray.size_extract]; unfold maxLen; omega
      have HA := hid (areDigits_any (s.extract 1 s.size) w hTs)
      have HN := hid (numberOf_any (s.extract 1 s.size) w hTs)
      rw [HT.out] at HA HN
      rw [hm] at HL
      have h1k : (1 : Int) ≤ (s.size : Int) := by omega
      generalize restOf s.data.toList = r at *
      clear hm
      cases hd : digs r
      · rw [hd] at HA HL
        rw [HL.out] at HV
        clear hd
        go_enter Tryz.func173, Tryz.ntmps173
        go_wp2_with fail
        refine HA.out.mono ?_
        rintro e w' ⟨rfl, rfl⟩
        go_wp2_with fail
        go_ret
        exact ⟨by rw [HV.out]; rfl, rfl⟩
      · rw [hd] at HA HL
        rw [HL.out] at HV
        clear hd
        by_cases he : (num r).2 = 0
        · rw [decide_eq_true he] at HO
          have hz : ((num r).2 : Int) = 0 := by omega
          have hz2 : ¬ (0 : Int) < ((num r).2 : Int) := by omega
          rw [hz] at HN
          clear hz he
          by_cases hn : (num r).1 < 2
          · rw [decide_eq_false (show ¬ 2 ≤ (num r).1 by omega)] at HO
            rw [HO.out] at HV
            generalize (num r).1 = n at *
            go_enter Tryz.func173, Tryz.ntmps173
            go_wp2_with fail
            refine HA.out.mono ?_
            rintro e w' ⟨rfl, rfl⟩
            go_wp2_with fail
            refine HN.out.mono ?_
            rintro e w' ⟨rfl, rfl⟩
            go_wp2_with fail
            go_ret
            exact ⟨by rw [HV.out]; rfl, rfl⟩
          · rw [decide_eq_true (show 2 ≤ (num r).1 by omega)] at HO
            rw [HO.out] at HV
            generalize (num r).1 = n at *
            go_enter Tryz.func173, Tryz.ntmps173
            go_wp2_with fail
            refine HA.out.mono ?_
            rintro e w' ⟨rfl, rfl⟩
            go_wp2_with fail
            refine HN.out.mono ?_
            rintro e w' ⟨rfl, rfl⟩
            go_wp2_with fail
            go_ret
            exact ⟨by rw [HV.out]; rfl, rfl⟩
        · rw [decide_eq_false he, Bool.false_and] at HO
          rw [HO.out] at HV
          have hz : (0 : Int) < ((num r).2 : Int) := by omega
          generalize ((num r).2 : Int) = c at *
          generalize (num r).1 = n at *
          clear he
          go_enter Tryz.func173, Tryz.ntmps173
          go_wp2_with fail
          refine HA.out.mono ?_
          rintro e w' ⟨rfl, rfl⟩
          go_wp2_with fail
          refine HN.out.mono ?_
          rintro e w' ⟨rfl, rfl⟩
          go_wp2_with fail
          go_ret
          exact ⟨by rw [HV.out]; rfl, rfl⟩
end Ve
end Go.Proofs.YtnkgjddkdikikaaGreatDoor
