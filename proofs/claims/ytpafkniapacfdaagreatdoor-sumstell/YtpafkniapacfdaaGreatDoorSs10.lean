/-
  What Text of package ver answers, for any parts: the text, or the empty one; nothing old in memory turns.
-/
import Derived.Test.YtpafkniapacfdaaGreatDoorSs9
import Derived.WalkSmall
import Derived.Shelf.Strconv.Itoa3
import Derived.Deep.RegionHeld
import Derived.Test.YtpafkniapacfdaaGreatDoorSs8
import Derived.Test.YtpafkniapacfdaaGreatDoorSs6
namespace Go.Proofs.YtpafkniapacfdaaGreatDoor
open Go.RowKit Go.Sort
namespace Ve

/-- The name of the library's table of powers of ten. -/
def powName : String := "internal/strconv.uint64pow10"
theorem below_grow (w : World) (k : Nat) (os : Array Obj) : Below w.heap.size w (grow (w.drewN k) os) :=
  ⟨rfl, rfl, rfl, by show w.heap.size ≤ (w.heap ++ os).size; simp, fun i hi => by show (w.heap ++ os)[i]? = _; rw [Array.getElem?_append_left hi]⟩
theorem nDigits_le : ∀ (k u : Nat), u < 10 ^ (k + 1) → Lib.nDigits u ≤ k + 1
  | 0, u, h => by rw [Lib.nDigits_small (by simpa using h)]; omega
  | k + 1, u, h => by
    by_cases h0 : u < 10
    · rw [Lib.nDigits_small h0]; omega
    · rw [Lib.nDigits_big h0]
      have := nDigits_le k (u / 10) (by rw [Nat.pow_succ] at h; omega)
      omega
theorem itoa_le (n : Int) (h0 : 0 ≤ n) (h1 : n ≤ 999999) : (Lib.itoa n).length ≤ 6 := by
  unfold Lib.itoa
  rw [if_neg (by omega), Lib.decDigits_length]
  exact nDigits_le 5 n.toNat (by omega)
theorem itoa_any (n : Int) (w : World) (h0 : 0 ≤ n) (h1 : n ≤ 999999) (htab : Lib.TabIs Tryz.prog w powName .u64 Lib.pow10Tab) :
    Calls Tryz.prog 246 #[.int .i64 n] w fun e w' => ∃ S : ByteArray, e = .returned (.string S) ∧ S.data.toList = Lib.itoa n ∧ S.size ≤ 6 ∧ Below w.heap.size w w' :=
  (Tryz.strconv_Itoa n (by omega) (by omega) w htab).mono fun e w' ⟨e1, k, os, e2⟩ => ⟨_, e1, by simp, by show (Lib.itoa n).toArray.size ≤ 6; simpa using itoa_le n h0 h1, by rw [e2]; exact below_grow w k os⟩
theorem powAt : Tryz.prog.globalNamed powName = some 11 := by kernel_rfl
theorem tab_below {w w' : World} (h : Lib.TabIs Tryz.prog w powName .u64 Lib.pow10Tab) (hb : Below w.heap.size w w') : Lib.TabIs Tryz.prog w' powName .u64 Lib.pow10Tab := by
  have hlt : 11 < w.heap.size := by
    have h1 : w.var? Tryz.prog powName = some _ := h
    unfold World.var? at h1
    rw [powAt] at h1
    simp only [Option.bind_some] at h1
    rcases Nat.lt_or_ge 11 w.heap.size with hh | hh
    · exact hh
    · rw [Array.getElem?_eq_none hh] at h1; cases h1
  exact var?_below hb powAt hlt h

/-- A boxed struct of four, and the table, while memory grows. -/
structure Tx (w0 w : World) (N : Nat) (a b c v : Value) : Prop where
  c0 : w.cell? ⟨N, 0, none⟩ = some a
  c1 : w.cell? ⟨N, 1, none⟩ = some b
  c2 : w.cell? ⟨N, 2, none⟩ = some c
  c3 : w.cell? ⟨N, 3, none⟩ = some v
  tab : Lib.TabIs Tryz.prog w powName .u64 Lib.pow10Tab
  bl : Below w0.heap.size w0 w
theorem Tx.below {w0 w w' : World} {N : Nat} {a b c v : Value} (h : Tx w0 w N a b c v) (hb : Below w.heap.size w w') : Tx w0 w' N a b c v :=
  ⟨cell_below hb h.c0, cell_below hb h.c1, cell_below hb h.c2, cell_below hb h.c3, tab_below h.tab hb, h.bl.trans (hb.mono h.bl.size)⟩
theorem Tx.start {w : World} {a b c v : Value} {T : TypeId} (h : Lib.TabIs Tryz.prog w powName .u64 Lib.pow10Tab) : Tx w (w.alloc (.cells #[a, b, c, v] T)) w.heap.size a b c v :=
  ⟨by simp, by simp, by simp, by simp, tab_below h ((Below.refl _ _).alloc (Nat.le_refl _) _), (Below.refl _ _).alloc (Nat.le_refl _) _⟩

theorem Tx.drew {w0 w : World} {N : Nat} {a b c v : Value} (h : Tx w0 w N a b c v) : Tx w0 w.drew N a b c v := h.below (below_drawn w 1)
theorem Tx.held {w0 w : World} {N : Nat} {a b c v : Value} (h : Tx w0 w N a b c v) : w.cell? ⟨N, 0, none⟩ = some a ∧ w.cell? ⟨N, 1, none⟩ = some b ∧ w.cell? ⟨N, 2, none⟩ = some c ∧ w.cell? ⟨N, 3, none⟩ = some v ∧ Hid (Tx w0 w N a b c v) :=
  ⟨h.c0, h.c1, h.c2, h.c3, h⟩

/-- A text of three numbers. -/
def core3 (a b c : Int) : List UInt8 := [118] ++ Lib.itoa a ++ [46] ++ Lib.itoa b ++ [46] ++ Lib.itoa c
/-- What Text answers. -/
def textOf (a b c : Int) (ps : List (List UInt8)) : List UInt8 :=
  if inBB a && inBB b && inBB c && pre ps == 0 then (if ps.isEmpty then core3 a b c else core3 a b c ++ [45] ++ Lib.join ps [46]) else []

end Ve
end Go.Proofs.YtpafkniapacfdaaGreatDoor

/-
  What compare of package ver answers for two versions of the same numbers of which one has a pre: the one with a pre is less.
-/
namespace Go.Proofs.YtpafkniapacfdaaGreatDoor
open Go.RowKit
namespace Ve

set_option maxHeartbeats 400000 in
theorem preC_none (a b : Option Addr) (n c d : Nat) (w : World) (hn : 0 < n) (hn2 : n ≤ 1000000) :
    Calls Tryz.prog 199 #[.slice a n c, .slice b 0 d] w fun e w' => e = .returned (.int .i64 (-1)) ∧ w' = w := by
  have h0 : ((n : Int) == 0) = false := beq_eq_false_iff_ne.2 (by omega)
  have HC := hid (fun W => Tryz.cmp_Compare_int 0 (n : Int) W)
  rw [show Lib.compareInt 0 (n : Int) = -1 by unfold Lib.compareInt; rw [if_pos (by omega)]] at HC
  go_enter Tryz.func199, Tryz.ntmps199
  go_wp2_with fail
  refine (HC.out _).mono ?_
  rintro e w' ⟨rfl, rfl⟩
  go_wp2_with fail
  go_ret
  exact ⟨rfl, rfl⟩

/-- One number, compared with itself. -/
theorem cmp_self (x : Int) (w : World) : Calls Tryz.prog 195 #[.int .i64 x, .int .i64 x] w fun e w' => e = .returned (.int .i64 0) ∧ w' = w := by
  have h := Tryz.cmp_Compare_int x x w
  rw [show Lib.compareInt x x = 0 by unfold Lib.compareInt; rw [if_neg (by omega), if_neg (by omega)]] at h
  exact h

theorem c1_self (v : Int) (A B : Nat) (w : World) (a0 : w.cell? ⟨A, 0, none⟩ = some (.int .i64 v)) (b0 : w.cell? ⟨B, 0, none⟩ = some (.int .i64 v)) :
    Calls Tryz.prog 194 #[.pointer (some ⟨A, 0, none⟩), .pointer (some ⟨B, 0, none⟩)] w fun e w' => e = .returned (.int .i64 0) ∧ w' = w := by
  have HC := hid (cmp_self v w)
  go_enter Tryz.func194, Tryz.ntmps194
  go_wp2_with fail
  refine HC.out.mono ?_
  rintro e w' ⟨rfl, rfl⟩
  go_wp2_with fail
  go_ret
  exact ⟨rfl, rfl⟩
theorem c2_self (v : Int) (A B : Nat) (w : World) (a0 : w.cell? ⟨A, 1, none⟩ = some (.int .i64 v)) (b0 : w.cell? ⟨B, 1, none⟩ = some (.int .i64 v)) :
    Calls Tryz.prog 196 #[.pointer (some ⟨A, 0, none⟩), .pointer (some ⟨B, 0, none⟩)] w fun e w' => e = .returned (.int .i64 0) ∧ w' = w := by
  have HC := hid (cmp_self v w)
  go_enter Tryz.func196, Tryz.ntmps196
  go_wp2_with fail
  refine HC.out.mono ?_
  rintro e w' ⟨rfl, rfl⟩
  go_wp2_with fail
  go_ret
  exact ⟨rfl, rfl⟩
theorem c3_self (v : Int) (A B : Nat) (w : World) (a0 : w.cell? ⟨A, 2, none⟩ = some (.int .i64 v)) (b0 : w.cell? ⟨B, 2, none⟩ = some (.int .i64 v)) :
    Calls Tryz.prog 197 #[.pointer (some ⟨A, 0, none⟩), .pointer (some ⟨B, 0, none⟩)] w fun e w' => e = .returned (.int .i64 0) ∧ w' = w := by
  have HC := hid (cmp_self v w)
  go_enter Tryz.func197, Tryz.ntmps197
  go_wp2_with fail
  refine HC.out.mono ?_
  rintro e w' ⟨rfl, rfl⟩
  go_wp2_with fail
  go_ret
  exact ⟨rfl, rfl⟩
theorem c4_pre (a : Option Addr) (n c A B : Nat) (w : World) (hn : 0 < n) (hn2 : n ≤ 1000000) (a0 : w.cell? ⟨A, 3, none⟩ = some (.slice a n c)) (b0 : w.cell? ⟨B, 3, none⟩ = some (.slice none 0 0)) :
    Calls Tryz.prog 198 #[.pointer (some ⟨A, 0, none⟩), .pointer (some ⟨B, 0, none⟩)] w fun e w' => e = .returned (.int .i64 (-1)) ∧ w' = w := by
  have HC := hid (preC_none a none n c 0 w hn hn2)
  go_enter Tryz.func198, Tryz.ntmps198
  go_wp2_with fail
  refine HC.out.mono ?_
  rintro e w' ⟨rfl, rfl⟩
  go_wp2_with fail
  go_ret
  exact ⟨rfl, rfl⟩

set_option maxHeartbeats 2000000 in
theorem first_pre (x y z : Int) (a : Option Addr) (n c A B F : Nat) (w : World) (hn : 0 < n) (hn2 : n ≤ 1000000)
    (f0 : w.cell? ⟨F, 0, none⟩ = some (.func (.func 194) #[] #[.pointer (some ⟨A, 0, none⟩), .pointer (some ⟨B, 0, none⟩)])) (f1 : w.cell? ⟨F, 1, none⟩ = some (.func (.func 196) #[] #[.pointer (some ⟨A, 0, none⟩), .pointer (some ⟨B, 0, none⟩)]))
    (f2 : w.cell? ⟨F, 2, none⟩ = some (.func (.func 197) #[] #[.pointer (some ⟨A, 0, none⟩), .pointer (some ⟨B, 0, none⟩)])) (f3 : w.cell? ⟨F, 3, none⟩ = some (.func (.func 198) #[] #[.pointer (some ⟨A, 0, none⟩), .pointer (some ⟨B, 0, none⟩)]))
    (a0 : w.cell? ⟨A, 0, none⟩ = some (.int .i64 x)) (a1 : w.cell? ⟨A, 1, none⟩ = some (.int .i64 y)) (a2 : w.cell? ⟨A, 2, none⟩ = some (.int .i64 z)) (a3 : w.cell? ⟨A, 3, none⟩ = some (.slice a n c))
    (b0 : w.cell? ⟨B, 0, none⟩ = some (.int .i64 x)) (b1 : w.cell? ⟨B, 1, none⟩ = some (.int .i64 y)) (b2 : w.cell? ⟨B, 2, none⟩ = some (.int .i64 z)) (b3 : w.cell? ⟨B, 3, none⟩ = some (.slice none 0 0)) :
    Calls Tryz.prog 193 #[.slice (some ⟨F, 0, none⟩) 4 4] w fun e w' => e = .returned (.int .i64 (-1)) ∧ w' = w := by
  have HX := hid (c1_self x A B w a0 b0)
  have HY := hid (c2_self y A B w a1 b1)
  have HZ := hid (c3_self z A B w a2 b2)
  have HP := hid (c4_pre a n c A B w hn hn2 a3 b3)
  clear a0 a1 a2 a3 b0 b1 b2 b3
  go_enter Tryz.func193, Tryz.ntmps193
  go_wp2_with fail
  refine wp_loop_rounds 4 ?_
  rw [rounds_succ]
  go_wp2_with fail
  refine HX.out.mono ?_
  rintro e w' ⟨rfl, rfl⟩
  go_wp2_with fail
  rw [rounds_succ]
  go_wp2_with fail
  refine HY.out.mono ?_
  rintro e w' ⟨rfl, rfl⟩
  go_wp2_with fail
  rw [rounds_succ]
  go_wp2_with fail
  refine HZ.out.mono ?_
  rintro e w' ⟨rfl, rfl⟩
  go_wp2_with fail
  rw [rounds_succ]
  go_wp2_with fail
  refine HP.out.mono ?_
  rintro e w' ⟨rfl, rfl⟩
  go_wp2_with fail
  go_ret
  exact ⟨rfl, rfl⟩

theorem three (w : World) (A B C : Array Value) (T U : TypeId) (j : Nat) :
    (((w.alloc (.cells A T)).alloc (.cells B T)).alloc (.cells C U)).cell? ⟨w.heap.size, j, none⟩ = A[j]? ∧ (((w.alloc (.cells A T)).alloc (.cells B T)).alloc (.cells C U)).cell? ⟨w.heap.size + 1, j, none⟩ = B[j]? ∧
    (((w.alloc (.cells A T)).alloc (.cells B T)).alloc (.cells C U)).cell? ⟨w.heap.size + 1 + 1, j, none⟩ = C[j]? := by
  refine ⟨?_, ?_, ?_⟩
  · rw [World.cell?_alloc_lt _ _ _ (by simp; omega), World.cell?_alloc_lt _ _ _ (by simp), World.cell?_alloc_at _ _ _ _ rfl]
  · rw [World.cell?_alloc_lt _ _ _ (by simp), World.cell?_alloc_at _ _ _ _ (by simp)]
  · rw [World.cell?_alloc_at _ _ _ _ (by simp)]

set_option maxHeartbeats 2000000 in
theorem compare_pre (x y z : Int) (a : Option Addr) (n c : Nat) (w : World) (hn : 0 < n) (hn2 : n ≤ 1000000) :
    Calls Tryz.prog 150 #[.agg #[.int .i64 x, .int .i64 y, .int .i64 z, .slice a n c], .agg #[.int .i64 x, .int .i64 y, .int .i64 z, .slice none 0 0]] w fun e w' => e = .returned (.int .i64 (-1)) ∧ Below w.heap.size w w' := by
  have hmf : ∀ (fn : Fn) (first cap : Array Value) (w : World), (Instr.makeFunc fn first cap).run Tryz.prog w = .ok (.func fn first cap) w := fun _ _ _ _ => rfl
  go_enter Tryz.func150, Tryz.ntmps150
  go_wp2_with fail
  refine (first_pre x y z a n c w.heap.size (w.heap.size + 1) (w.heap.size + 1 + 1) _ hn hn2 ?_ ?_ ?_ ?_ ?_ ?_ ?_ ?_ ?_ ?_ ?_ ?_).mono ?_
  · exact (three w _ _ _ _ _ 0).2.2.trans rfl
  · exact (three w _ _ _ _ _ 1).2.2.trans rfl
  · exact (three w _ _ _ _ _ 2).2.2.trans rfl
  · exact (three w _ _ _ _ _ 3).2.2.trans rfl
  · exact (three w _ _ _ _ _ 0).1.trans rfl
  · exact (three w _ _ _ _ _ 1).1.trans rfl
  · exact (three w _ _ _ _ _ 2).1.trans rfl
  · exact (three w _ _ _ _ _ 3).1.trans rfl
  · exact (three w _ _ _ _ _ 0).2.1.trans rfl
  · exact (three w _ _ _ _ _ 1).2.1.trans rfl
  · exact (three w _ _ _ _ _ 2).2.1.trans rfl
  · exact (three w _ _ _ _ _ 3).2.1.trans rfl
  rintro e w' ⟨rfl, rfl⟩
  go_wp2_with fail
  go_ret
  exact ⟨rfl, (((Below.refl _ _).alloc (Nat.le_refl _) _).alloc (by simp) _).alloc (by simp; omega) _⟩

/-- Less of two versions of the same numbers of which the first has a pre. -/
theorem less_pre (s t : ByteArray) (aT aB : Addr) (m : Int) (w : World) (hs : s.size < 999998) (ht : t.size < 4294967281) (S : Vs w aT aB m) (h1 : verErr s.data.toList = 0) (h2 : verErr t.data.toList = 0)
    (h3 : ∀ i, i < 3 → nAt s.data.toList i = nAt t.data.toList i) (h4 : preOf s.data.toList ≠ []) (h5 : preOf t.data.toList = []) :
    Calls Tryz.prog 108 #[.string s, .string t] w fun e w' => e = .returned (.bool true) ∧ Below w.heap.size w w' := by
  have HS := hid S
  have HA := hid (vsplit_good s aT aB m w (by omega) S h1)
  have hX : ∀ X : List ByteArray, bl X = preOf t.data.toList → X = [] := fun X h => by
    rw [h5] at h
    exact List.length_eq_zero_iff.1 (by rw [← bl_len, h]; rfl)
  have HX := hid hX
  have H3 := hid h3
  have H4 := hid h4
  have HT := hid (fun W (SW : Vs W aT aB m) => vsplit_good t aT aB m W ht SW h2)
  clear S hX h3 h4 h5 h1 h2
  go_enter Tryz.func108, Tryz.ntmps108
  go_wp2_with fail
  refine HA.out.mono ?_
  rintro e w1 ⟨v, X, rfl, hX1, hst, hb1⟩
  have hXn : X ≠ [] := fun h => H4.out (by rw [← hX1, h]; rfl)
  obtain ⟨b, rfl⟩ : ∃ b, v = .slice (some ⟨b, 0, none⟩) X.length X.length := by
    rcases hst with ⟨h, _⟩ | ⟨_, b, h, _⟩
    · exact absurd h hXn
    · exact ⟨b, h⟩
  have hXl : X.length ≤ s.size + 2 := by
    have h1 : (preOf s.data.toList).length ≤ s.size + 2 := by
      unfold preOf
      split
      · have := cutAt_many 46 (one 45 (restOf s.data.toList)).2.1
        have h2 := (one_le 45 (restOf s.data.toList)).2
        have h3 := restOf_le s.data.toList
        rw [len_eq] at h3
        omega
      · simp
    rw [← hX1, bl_len] at h1; exact h1
  have hXp : 0 < X.length := List.length_pos_iff.2 hXn
  have HB1 := hid hb1
  have HS1 := hid ((HS.out.below hb1).below ((Below.refl _ _).alloc (Nat.le_refl _) (.cells #[.int .i64 (nAt s.data.toList 0), .int .i64 (nAt s.data.toList 1), .int .i64 (nAt s.data.toList 2), .slice (some ⟨b, 0, none⟩) X.length X.length] 162)))
  have HB2 := hid ((Below.refl w1.heap.size w1).alloc (Nat.le_refl _) (.cells #[.int .i64 (nAt s.data.toList 0), .int .i64 (nAt s.data.toList 1), .int .i64 (nAt s.data.toList 2), .slice (some ⟨b, 0, none⟩) X.length X.length] 162))
  clear hst hb1 hX1 hXn
  go_wp2_with fail
  refine (HT.out _ HS1.out).mono ?_
  rintro e w2 ⟨v2, X2, rfl, hX2, hst2, hb2⟩
  have hX20 := HX.out X2 hX2
  subst hX20
  obtain rfl : v2 = .slice none 0 0 := by
    rcases hst2 with ⟨_, h⟩ | ⟨h, _⟩
    · exact h
    · exact absurd rfl h
  rw [← H3.out 0 (by omega), ← H3.out 1 (by omega), ← H3.out 2 (by omega)]
  have hb2' : Below (w1.heap.size + 1) (w1.alloc (.cells #[.int .i64 (nAt s.data.toList 0), .int .i64 (nAt s.data.toList 1), .int .i64 (nAt s.data.toList 2), .slice (some ⟨b, 0, none⟩) X.length X.length] 162)) w2 := hb2.mono (by simp)
  obtain ⟨⟨r0, r1, r2, r3⟩, rf, rz⟩ := res4 hb2'
  have HB3 := hid (HB1.out.trans ((HB2.out.trans (hb2.mono (by simp))).mono HB1.out.size))
  generalize nAt s.data.toList 0 = x at *
  generalize nAt s.data.toList 1 = y at *
  generalize nAt s.data.toList 2 = z at *
  clear hst2 hb2 hb2' hX2
  go_wp2_with fail
  refine (compare_pre x y z _ X.length X.length _ hXp (by omega)).mono ?_
  rintro e w3 ⟨rfl, hb3⟩
  have HBF := hid ((HB3.out.alloc HB3.out.size _).trans (hb3.mono (by simp; exact Nat.le_succ_of_le HB3.out.size)))
  clear hb3
  go_wp2_with fail
  go_ret
  exact ⟨rfl, HBF.out⟩
end Ve
end Go.Proofs.YtpafkniapacfdaaGreatDoor

/-
  What the document's answer says of a text without a pre (VerOf): its numbers, or the error; nothing old in memory turns.
-/
namespace Go.Proofs.YtpafkniapacfdaaGreatDoor
open Go.RowKit
namespace Ve

theorem rcut46 (s : ByteArray) (w : World) (hs : s.size < 4294967281) :
    Calls Tryz.prog 55 #[.string s, .int .u8 46] w fun e w' => ∃ v X, e = .returned v ∧ bl X = cutAt 46 s.data.toList ∧ w'.ownsRow w.heap.size 9 1 v X.length (X.map Value.string) ∧ Below w.heap.size w w' := rcut_any s 46 w hs
theorem marked_pos {s : ByteArray} (h : marked s.data.toList = true) : ∃ hp : 0 < s.size, ((s[0].toNat : Int) == 118) = true := by
  unfold marked at h
  rcases Nat.eq_zero_or_pos s.size with h0 | hp
  · have : s.data.toList = [] := List.length_eq_zero_iff.1 (by simpa using h0)
    rw [this] at h; cases h
  · refine ⟨hp, ?_⟩
    rw [List.headD_eq_head?_getD, List.head?_eq_getElem?, List.getElem?_eq_getElem (by simpa using hp)] at h
    simp only [Option.getD_some, beq_iff_eq] at h
    have h2 : s[0] = 118 := h
    rw [h2]; rfl
theorem rest_drop {l : List UInt8} (h : marked l = true) : restOf l = l.drop 1 := by unfold restOf; rw [if_pos h]
theorem ext_drop (s : ByteArray) (k : Nat) : (s.extract k s.size).data.toList = s.data.toList.drop k := by
  rw [extract_list, List.take_of_length_le (by simp)]
theorem one_no {c : UInt8} {l : List UInt8} (h : l.contains c = false) : one c l = (l, [], false) := by
  unfold one
  have h1 : ∀ x, x ∈ l → (x != c) = true := by
    intro x hx
    simp at h ⊢
    intro e; subst e; exact h hx
  have e1 : l.takeWhile (· != c) = l := by
    induction l with
    | nil => rfl
    | cons a r ih =>
      have := h1 a (List.mem_cons_self)
      simp only [List.takeWhile_cons, this, if_true]
      rw [ih (by simp at h ⊢; exact h.2) (fun x hx => h1 x (List.mem_cons_of_mem _ hx))]
  have e2 := List.takeWhile_append_dropWhile (p := (· != c)) (l := l)
  rw [e1] at e2
  have e3 : l.dropWhile (· != c) = [] := by
    have := congrArg List.length e2
    simp at this
    exact this
  rw [e1, e3, h]; rfl
theorem no_dash {s : ByteArray} (hm : marked s.data.toList = true) (h : hasPre s.data.toList = false) : (∀ k (hk : k < s.size), ((s[k].toNat : Int) == 45) = false) ∧ coreOf s.data.toList = cutAt 46 (s.data.toList.drop 1) := by
  have hr := rest_drop hm
  obtain ⟨hp, hv⟩ := marked_pos hm
  have hc : (s.data.toList.drop 1).contains 45 = false := by unfold hasPre one at h; rw [hr] at h; exact h
  refine ⟨fun k hk => ?_, by unfold coreOf; rw [hr, one_no hc]⟩
  rw [beq_eq_false_iff_ne]
  intro e
  have e2 : s[k] = 45 := by apply UInt8.toNat_inj.1; show s[k].toNat = 45; omega
  cases k with
  | zero => rw [e2] at hv; cases hv
  | succ k =>
    have hmem : (45 : UInt8) ∈ s.data.toList.drop 1 := by
      rw [← e2]
      have : s[k + 1] = (s.data.toList.drop 1)[k]'(by simp; omega) := by
        rw [List.getElem_drop]
        simp only [Nat.add_comm 1 k]
        rfl
      rw [this]
      exact List.getElem_mem _
    simp at hc
    exact hc (by simpa using hmem)

/-- The cells of a list that is owned. -/
theorem owned_cells {w : World} {base : Nat} {e : TypeId} {v : Value} {X : List ByteArray} (h : w.ownsRow base e 1 v X.length (X.map Value.string)) (hX : X ≠ []) : ∃ g cap, v = .slice (some ⟨g, 0, none⟩) X.length cap ∧ base ≤ g ∧ g < w.heap.size ∧ ∀ j (hj : j < X.length), w.cell? ⟨g, j, none⟩ = some (.string X[j]) := by
  obtain ⟨_, ⟨_, hn0⟩ | ⟨g, cap, cur, hv, hg, hblk, hcap, hcm, hcs, hct⟩⟩ := h
  · exact absurd (List.length_eq_zero_iff.1 hn0) hX
  · refine ⟨g, cap, hv, hg, lt_of_blk hblk, fun j hj => ?_⟩
    have : cur[j]? = (X.map Value.string)[j]? := by
      rw [← hct, List.getElem?_take, if_pos (by omega)]; simp
    simp only [World.cell?, hblk]
    simp [this, hj]

set_option maxRecDepth 100000 in
set_option maxHeartbeats 1000000 in
theorem verOf_A1 (s : ByteArray) (w : World) (hs : s.size < 4294967281) (hmk : marked s.data.toList = true) (hp : hasPre s.data.toList = false) (h3 : (coreOf s.data.toList).length ≠ 3) :
    Calls Tryz.prog 88 #[.string s] w fun e w' => e = .returned (.tuple #[.agg #[.int .i64 0, .int .i64 0, .int .i64 0, .slice none 0 0], .int .i64 1]) ∧ Below w.heap.size w w' := by
  have H3 := hid h3
  clear h3
  obtain ⟨hno0, hcore⟩ := no_dash hmk hp
  obtain ⟨hpos, hv0⟩ := marked_pos hmk
  have HNO := hid hno0
  have HCO := hid hcore
  have h0b : ((s.size : Int) == 0) = false := beq_eq_false_iff_ne.2 (by omega)
  clear hno0 hcore hmk hp
  go_enter Tryz.func88, Tryz.ntmps88
  go_wp2_with fail
  go_loop [4, 5, 6, 7] (fun hd pr hs i => ∃ k : Nat, k ≤ s.size ∧ i = .int .i64 k ∧ hd = .string (s.extract 1 s.size) ∧ pr = .string ⟨#[]⟩ ∧ hs = .bool false) (fun _ _ _ i => s.size - (intOf i).toNat)
  case atStart => exact ⟨0, Nat.zero_le _, rfl, rfl, rfl, rfl⟩
  case round =>
    obtain ⟨k, hk, rfl, rfl, rfl, rfl⟩ := hrel
    by_cases hlt : k < s.size
    · have hn := HNO.out k hlt
      go_wp2_with fail
      go_round
      case rel => exact ⟨k + 1, by omega, by go_num, rfl, rfl, rfl⟩
      case measure => simp [intOf]; omega
    · have hes : (s.extract 1 s.size).size < 4294967281 := by rw [ByteArray.size_extract]; omega
      have HEX := hid (ext_drop s 1)
      generalize s.extract 1 s.size = C at *
      have HB0 := hid ((Below.refl w.heap.size w).alloc (Nat.le_refl _) (.cells #[.int .i64 0, .int .i64 0, .int .i64 0, .slice none 0 0] 142))
      go_wp2_with fail
      refine (rcut46 C _ hes).mono ?_
      rintro e w2 ⟨v, X, rfl, hX, hown, hb⟩
      have hXc : bl X = coreOf s.data.toList := by rw [hX, HEX.out, HCO.out]
      have HXC := hid hXc
      have HB2 := hid (show Below (w.heap.size + 1) (w.alloc (.cells #[.int .i64 0, .int .i64 0, .int .i64 0, .slice none 0 0] 142)) w2 from hb.mono (by simp))
      have HXN := hid (show X ≠ [] from fun h => by subst h; exact cutAt_ne _ _ hX.symm)
      have hXl : X.length = (coreOf s.data.toList).length := by rw [← hXc, bl_len]
      have HXZ := hid (show ∀ x, x ∈ X → x.size ≤ maxLen from fun x hx => by have := piece_le hX hx; unfold maxLen; omega)
      obtain ⟨g, cap, rfl, hg, hgz, hcells⟩ := owned_cells hown HXN.out
      have HG := hid hg
      have HGZ := hid hgz
      have HCE := hid hcells
      have HXL := hid hXl
      have hXle := many_le hX
      clear hX hXc hown hb hXl hg hgz hcells
      have h3b : ((X.length : Int) == 3) = false := beq_eq_false_iff_ne.2 (by have := H3.out; have := HXL.out; omega)
      obtain ⟨⟨r0, r1, r2, r3⟩, rf, rz⟩ := res4 HB2.out
      have HBF := hid (HB0.out.trans (HB2.out.mono (by omega)))
      go_wp2_with fail
      refine bodyPost_ret (v := .tuple #[.agg #[.int .i64 0, .int .i64 0, .int .i64 0, .slice none 0 0], .int .i64 1]) (by simp [results, Tryz.results88, go_sem, r0, r1, r2, r3]) rfl ⟨rfl, ?_⟩
      exact (((HBF.out.setCell (Nat.le_refl _) _).setCell (Nat.le_refl _) _).setCell (Nat.le_refl _) _).setCell (Nat.le_refl _) _
end Ve
end Go.Proofs.YtpafkniapacfdaaGreatDoor


namespace Go.Proofs.YtpafkniapacfdaaGreatDoor
open Go.RowKit
namespace Ve
end Ve
end Go.Proofs.YtpafkniapacfdaaGreatDoor
