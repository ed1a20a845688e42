/-
  What Text of package ver answers where there is a pre.
-/
import Derived.Test.YtmgpbejekglipabGreatDoorJn5
import Derived.Test.YtmgpbejekglipabGreatDoorJn4
namespace Go.Proofs.YtmgpbejekglipabGreatDoor
open Go.RowKit Go.Sort
namespace Ve

theorem join_any (bk cp : Nat) (X : List ByteArray) (w : World) (hX : X.length ≤ 1000) (hcp : X.length ≤ cp) (hbk : bk < w.heap.size) (hcell : ∀ j (h : j < X.length), w.cell? ⟨bk, 0 + j, none⟩ = some (.string X[j])) (hlen : (Lib.join (bl X) [46]).length ≤ 1000000) :
    Calls Tryz.prog 150 #[.slice (some ⟨bk, 0, none⟩) X.length cp, .string ⟨#[46]⟩] w fun e w' => ∃ J : ByteArray, e = .returned (.string J) ∧ J.data.toList = Lib.join (bl X) [46] ∧ J.size ≤ 1000000 ∧ Below w.heap.size w w' :=
  (Tryz.strings_Join bk 0 cp X ⟨#[46]⟩ w (fun j x hx => by
      obtain ⟨hj, e⟩ := List.getElem?_eq_some_iff.1 hx
      rw [← e]
      exact hcell j hj) hbk (by omega) hcp (Nat.le_trans hlen (by omega))).mono fun e w' ⟨h1, h2⟩ =>
    ⟨⟨(Lib.join (bl X) [46]).toArray⟩, h1, by simp, by show (Lib.join (bl X) [46]).toArray.size ≤ _; simpa using hlen, h2⟩

set_option maxHeartbeats 1000000 in
theorem text_some (a b c : Int) (bk cp : Nat) (X : List ByteArray) (w : World) (hX : X.length ≤ 1000) (hcp : X.length ≤ cp) (hXn : X ≠ []) (hbk : bk < w.heap.size) (hcell : ∀ j (h : j < X.length), w.cell? ⟨bk, 0 + j, none⟩ = some (.string X[j])) (hlen : (Lib.join (bl X) [46]).length ≤ 1000000) (ha : inBB a = true) (hb : inBB b = true) (hc : inBB c = true) (htab : Lib.TabIs Tryz.prog w powName .u64 Lib.pow10Tab)
    (hpre : ∀ W, Below w.heap.size w W → Calls Tryz.prog 79 #[.slice (some ⟨bk, 0, none⟩) X.length cp] W fun e w' => e = .returned .nilIface ∧ Below W.heap.size W w') :
    Calls Tryz.prog 167 #[.agg #[.int .i64 a, .int .i64 b, .int .i64 c, .slice (some ⟨bk, 0, none⟩) X.length cp]] w fun e w' => ∃ T : ByteArray, e = .returned (.string T) ∧ T.data.toList = core3 a b c ++ [45] ++ Lib.join (bl X) [46] ∧ Below w.heap.size w w' := by
  have HCE := hid hcell
  have HXN := hid hXn
  have HLE := hid hlen
  have hx0 : ((X.length : Int) == 0) = false := by
    have := List.length_pos_iff.2 hXn
    simp; omega
  clear hcell hXn hlen
  have HA := hid (fun W => inB_any a W)
  have HB := hid (fun W => inB_any b W)
  have HC := hid (fun W => inB_any c W)
  rw [ha] at HA
  rw [hb] at HB
  rw [hc] at HC
  simp only [inBB, decide_eq_true_eq] at ha hb hc
  obtain ⟨a0, a1⟩ := ha
  obtain ⟨b0, b1⟩ := hb
  obtain ⟨d0, d1⟩ := hc
  have HT := hid (Tx.start (a := .int .i64 a) (b := .int .i64 b) (c := .int .i64 c) (v := .slice (some ⟨bk, 0, none⟩) X.length cp) (T := 62) htab)
  have HP := hid hpre
  clear htab hpre
  go_enter Tryz.func167, Tryz.ntmps167
  go_wp2_with fail
  refine (HA.out _).mono ?_
  rintro e w' ⟨rfl, rfl⟩
  go_wp2_with fail
  refine (HB.out _).mono ?_
  rintro e w' ⟨rfl, rfl⟩
  go_wp2_with fail
  refine (HC.out _).mono ?_
  rintro e w' ⟨rfl, rfl⟩
  go_wp2_with fail
  refine (HP.out _ HT.out.bl).mono ?_
  rintro e w1 ⟨rfl, hb1⟩
  have HT := hid (HT.out.below hb1)
  clear hb1
  have c0 := HT.out.c0
  have c1 := HT.out.c1
  have c2 := HT.out.c2
  have c3 := HT.out.c3
  go_wp2_with fail
  go_region_held (fun W => W.cell? ⟨w.heap.size, 0, none⟩ = some (.int .i64 a) ∧ W.cell? ⟨w.heap.size, 1, none⟩ = some (.int .i64 b) ∧ W.cell? ⟨w.heap.size, 2, none⟩ = some (.int .i64 c) ∧ W.cell? ⟨w.heap.size, 3, none⟩ = some (.slice (some ⟨bk, 0, none⟩) X.length cp) ∧ Hid (Tx w W w.heap.size (.int .i64 a) (.int .i64 b) (.int .i64 c) (.slice (some ⟨bk, 0, none⟩) X.length cp))) (first | exact HTc.out.held | exact HTb.out.held | exact HTa.out.held | exact HT.out.drew.held) (first
    | (go_at_call_of 197 (Value.int IntKind.i64 a); refine (itoa_any a _ a0 a1 ?_).mono ?_; exact HT.out.drew.tab; rintro e w' ⟨Sa, rfl, hS, hZa, hb⟩; have HSa := hid hS; have HTa := hid (HT.out.drew.below hb); clear hS hb)
    | (go_at_call_of 197 (Value.int IntKind.i64 b); refine (itoa_any b _ b0 b1 ?_).mono ?_; exact HTa.out.tab; rintro e w' ⟨Sb, rfl, hS, hZb, hb⟩; have HSb := hid hS; have HTb := hid (HTa.out.below hb); clear hS hb)
    | (go_at_call_of 197 (Value.int IntKind.i64 c); refine (itoa_any c _ d0 d1 ?_).mono ?_; exact HTb.out.tab; rintro e w' ⟨Sc, rfl, hS, hZc, hb⟩; have HSc := hid hS; have HTc := hid (HTb.out.below hb); clear hS hb))
  all_goals
    have c3 := HTc.out.c3
    have HJ := hid (join_any bk cp X w' hX hcp (Nat.lt_of_lt_of_le hbk HTc.out.bl.size) (fun j hj => cell_below HTc.out.bl (HCE.out j hj)) HLE.out)
    go_wp2_with fail
    refine HJ.out.mono ?_
    rintro e w2 ⟨J, rfl, hJ, hJs, hb2⟩
    have HJe := hid hJ
    have HB2 := hid (HTc.out.bl.trans (hb2.mono HTc.out.bl.size))
    clear hb2 HJ hJ
    go_wp2_with fail
    go_ret
    refine ⟨_, rfl, ?_, HB2.out⟩
    unfold core3
    rw [← HSa.out, ← HSb.out, ← HSc.out, ← HJe.out]
    simp
end Ve
end Go.Proofs.YtmgpbejekglipabGreatDoor

/-
  The text of a pre, and the digits of a number (plain). No Go here.
-/
namespace Go.Proofs.YtmgpbejekglipabGreatDoor
open Go.RowKit
namespace Ve

theorem size_of' {s : ByteArray} {l : List UInt8} (h : s.data.toList = l) : s.size = l.length := by rw [← h]; simp
theorem dec_big {u : Nat} (h : ¬ u < 10) : Lib.decDigits u = Lib.decDigits (u / 10) ++ [UInt8.ofNat (48 + u % 10)] := by rw [Lib.decDigits, dif_neg h]
/-- What is written behind the numbers. -/
def preText : List (List UInt8) → List UInt8
  | [] => []
  | p :: r => [45] ++ Lib.join (p :: r) [46]
theorem preText_one (p : List UInt8) : preText [p] = [45] ++ p := by simp [preText, Lib.join_one]
theorem preText_snoc (ps : List (List UInt8)) (h : ps ≠ []) (q : List UInt8) : preText (ps ++ [q]) = preText ps ++ ([46] ++ q) := by
  cases ps with
  | nil => exact absurd rfl h
  | cons p r =>
    simp only [List.cons_append, preText, Lib.join_cons, Lib.joinTail]
    simp
theorem preText_app (qs : List (List UInt8)) : ∀ ps : List (List UInt8), (preText ps).length ≤ (preText (ps ++ qs)).length := by
  induction qs with
  | nil => intro ps; simp
  | cons q r ih =>
    intro ps
    have h1 : (preText ps).length ≤ (preText (ps ++ [q])).length := by
      by_cases h : ps = []
      · subst h; simp [preText]
      · rw [preText_snoc ps h q]; simp
    have h2 := ih (ps ++ [q])
    rw [List.append_assoc] at h2
    exact Nat.le_trans h1 h2
theorem preText_take (X : List ByteArray) (k : Nat) : (preText (bl (X.take k))).length ≤ (preText (bl X)).length := by
  have h := preText_app (bl (X.drop k)) (bl (X.take k))
  have e : bl (X.take k) ++ bl (X.drop k) = bl X := by unfold bl; rw [← List.map_append, List.take_append_drop]
  rw [e] at h
  exact h
theorem bl_inj {X Y : List ByteArray} (h : bl X = bl Y) : X = Y := by
  induction X generalizing Y with
  | nil => cases Y with
    | nil => rfl
    | cons y r => simp [bl] at h
  | cons x r ih => cases Y with
    | nil => simp [bl] at h
    | cons y s =>
      simp only [bl, List.map_cons, List.cons.injEq] at h
      rw [str_ext h.1, ih h.2]
end Ve
end Go.Proofs.YtmgpbejekglipabGreatDoor

/-
  What compare of package ver answers for two versions of the same numbers of which one has a pre: the one with a pre is less.
-/
namespace Go.Proofs.YtmgpbejekglipabGreatDoor
open Go.RowKit
namespace Ve

set_option maxHeartbeats 400000 in
theorem preC_none (a b : Option Addr) (n c d : Nat) (w : World) (hn : 0 < n) (hn2 : n ≤ 1000000) :
    Calls Tryz.prog 134 #[.slice a n c, .slice b 0 d] w fun e w' => e = .returned (.int .i64 (-1)) ∧ w' = w := by
  have h0 : ((n : Int) == 0) = false := beq_eq_false_iff_ne.2 (by omega)
  have HC := hid (fun W => Tryz.cmp_Compare_int 0 (n : Int) W)
  rw [show Lib.compareInt 0 (n : Int) = -1 by unfold Lib.compareInt; rw [if_pos (by omega)]] at HC
  go_enter Tryz.func134, Tryz.ntmps134
  go_wp2_with fail
  refine (HC.out _).mono ?_
  rintro e w' ⟨rfl, rfl⟩
  go_wp2_with fail
  go_ret
  exact ⟨rfl, rfl⟩

/-- One number, compared with itself. -/
theorem cmp_self (x : Int) (w : World) : Calls Tryz.prog 130 #[.int .i64 x, .int .i64 x] w fun e w' => e = .returned (.int .i64 0) ∧ w' = w := by
  have h := Tryz.cmp_Compare_int x x w
  rw [show Lib.compareInt x x = 0 by unfold Lib.compareInt; rw [if_neg (by omega), if_neg (by omega)]] at h
  exact h

theorem c1_self (v : Int) (A B : Nat) (w : World) (a0 : w.cell? ⟨A, 0, none⟩ = some (.int .i64 v)) (b0 : w.cell? ⟨B, 0, none⟩ = some (.int .i64 v)) :
    Calls Tryz.prog 129 #[.pointer (some ⟨A, 0, none⟩), .pointer (some ⟨B, 0, none⟩)] w fun e w' => e = .returned (.int .i64 0) ∧ w' = w := by
  have HC := hid (cmp_self v w)
  go_enter Tryz.func129, Tryz.ntmps129
  go_wp2_with fail
  refine HC.out.mono ?_
  rintro e w' ⟨rfl, rfl⟩
  go_wp2_with fail
  go_ret
  exact ⟨rfl, rfl⟩
theorem c2_self (v : Int) (A B : Nat) (w : World) (a0 : w.cell? ⟨A, 1, none⟩ = some (.int .i64 v)) (b0 : w.cell? ⟨B, 1, none⟩ = some (.int .i64 v)) :
    Calls Tryz.prog 131 #[.pointer (some ⟨A, 0, none⟩), .pointer (some ⟨B, 0, none⟩)] w fun e w' => e = .returned (.int .i64 0) ∧ w' = w := by
  have HC := hid (cmp_self v w)
  go_enter Tryz.func131, Tryz.ntmps131
  go_wp2_with fail
  refine HC.out.mono ?_
  rintro e w' ⟨rfl, rfl⟩
  go_wp2_with fail
  go_ret
  exact ⟨rfl, rfl⟩
theorem c3_self (v : Int) (A B : Nat) (w : World) (a0 : w.cell? ⟨A, 2, none⟩ = some (.int .i64 v)) (b0 : w.cell? ⟨B, 2, none⟩ = some (.int .i64 v)) :
    Calls Tryz.prog 132 #[.pointer (some ⟨A, 0, none⟩), .pointer (some ⟨B, 0, none⟩)] w fun e w' => e = .returned (.int .i64 0) ∧ w' = w := by
  have HC := hid (cmp_self v w)
  go_enter Tryz.func132, Tryz.ntmps132
  go_wp2_with fail
  refine HC.out.mono ?_
  rintro e w' ⟨rfl, rfl⟩
  go_wp2_with fail
  go_ret
  exact ⟨rfl, rfl⟩
theorem c4_pre (a : Option Addr) (n c A B : Nat) (w : World) (hn : 0 < n) (hn2 : n ≤ 1000000) (a0 : w.cell? ⟨A, 3, none⟩ = some (.slice a n c)) (b0 : w.cell? ⟨B, 3, none⟩ = some (.slice none 0 0)) :
    Calls Tryz.prog 133 #[.pointer (some ⟨A, 0, none⟩), .pointer (some ⟨B, 0, none⟩)] w fun e w' => e = .returned (.int .i64 (-1)) ∧ w' = w := by
  have HC := hid (preC_none a none n c 0 w hn hn2)
  go_enter Tryz.func133, Tryz.ntmps133
  go_wp2_with fail
  refine HC.out.mono ?_
  rintro e w' ⟨rfl, rfl⟩
  go_wp2_with fail
  go_ret
  exact ⟨rfl, rfl⟩

set_option maxHeartbeats 2000000 in
theorem first_pre (x y z : Int) (a : Option Addr) (n c A B F : Nat) (w : World) (hn : 0 < n) (hn2 : n ≤ 1000000)
    (f0 : w.cell? ⟨F, 0, none⟩ = some (.func (.func 129) #[] #[.pointer (some ⟨A, 0, none⟩), .pointer (some ⟨B, 0, none⟩)])) (f1 : w.cell? ⟨F, 1, none⟩ = some (.func (.func 131) #[] #[.pointer (some ⟨A, 0, none⟩), .pointer (some ⟨B, 0, none⟩)]))
    (f2 : w.cell? ⟨F, 2, none⟩ = some (.func (.func 132) #[] #[.pointer (some ⟨A, 0, none⟩), .pointer (some ⟨B, 0, none⟩)])) (f3 : w.cell? ⟨F, 3, none⟩ = some (.func (.func 133) #[] #[.pointer (some ⟨A, 0, none⟩), .pointer (some ⟨B, 0, none⟩)]))
    (a0 : w.cell? ⟨A, 0, none⟩ = some (.int .i64 x)) (a1 : w.cell? ⟨A, 1, none⟩ = some (.int .i64 y)) (a2 : w.cell? ⟨A, 2, none⟩ = some (.int .i64 z)) (a3 : w.cell? ⟨A, 3, none⟩ = some (.slice a n c))
    (b0 : w.cell? ⟨B, 0, none⟩ = some (.int .i64 x)) (b1 : w.cell? ⟨B, 1, none⟩ = some (.int .i64 y)) (b2 : w.cell? ⟨B, 2, none⟩ = some (.int .i64 z)) (b3 : w.cell? ⟨B, 3, none⟩ = some (.slice none 0 0)) :
    Calls Tryz.prog 128 #[.slice (some ⟨F, 0, none⟩) 4 4] w fun e w' => e = .returned (.int .i64 (-1)) ∧ w' = w := by
  have HX := hid (c1_self x A B w a0 b0)
  have HY := hid (c2_self y A B w a1 b1)
  have HZ := hid (c3_self z A B w a2 b2)
  have HP := hid (c4_pre a n c A B w hn hn2 a3 b3)
  clear a0 a1 a2 a3 b0 b1 b2 b3
  go_enter Tryz.func128, Tryz.ntmps128
  go_wp2_with fail
  refine wp_loop_rounds 4 ?_
  rw [rounds_succ]
  go_wp2_with fail
  refine HX.out.mono ?_
  rintro e w' ⟨rfl, rfl⟩
  go_wp2_with fail
  rw [rounds_succ]
  go_wp2_with fail
  refine HY.out.mono ?_
  rintro e w' ⟨rfl, rfl⟩
  go_wp2_with fail
  rw [rounds_succ]
  go_wp2_with fail
  refine HZ.out.mono ?_
  rintro e w' ⟨rfl, rfl⟩
  go_wp2_with fail
  rw [rounds_succ]
  go_wp2_with fail
  refine HP.out.mono ?_
  rintro e w' ⟨rfl, rfl⟩
  go_wp2_with fail
  go_ret
  exact ⟨rfl, rfl⟩

theorem three (w : World) (A B C : Array Value) (T U : TypeId) (j : Nat) :
    (((w.alloc (.cells A T)).alloc (.cells B T)).alloc (.cells C U)).cell? ⟨w.heap.size, j, none⟩ = A[j]? ∧ (((w.alloc (.cells A T)).alloc (.cells B T)).alloc (.cells C U)).cell? ⟨w.heap.size + 1, j, none⟩ = B[j]? ∧
    (((w.alloc (.cells A T)).alloc (.cells B T)).alloc (.cells C U)).cell? ⟨w.heap.size + 1 + 1, j, none⟩ = C[j]? := by
  refine ⟨?_, ?_, ?_⟩
  · rw [World.cell?_alloc_lt _ _ _ (by simp; omega), World.cell?_alloc_lt _ _ _ (by simp), World.cell?_alloc_at _ _ _ _ rfl]
  · rw [World.cell?_alloc_lt _ _ _ (by simp), World.cell?_alloc_at _ _ _ _ (by simp)]
  · rw [World.cell?_alloc_at _ _ _ _ (by simp)]

set_option maxHeartbeats 2000000 in
theorem compare_pre (x y z : Int) (a : Option Addr) (n c : Nat) (w : World) (hn : 0 < n) (hn2 : n ≤ 1000000) :
    Calls Tryz.prog 80 #[.agg #[.int .i64 x, .int .i64 y, .int .i64 z, .slice a n c], .agg #[.int .i64 x, .int .i64 y, .int .i64 z, .slice none 0 0]] w fun e w' => e = .returned (.int .i64 (-1)) ∧ Below w.heap.size w w' := by
  have hmf : ∀ (fn : Fn) (first cap : Array Value) (w : World), (Instr.makeFunc fn first cap).run Tryz.prog w = .ok (.func fn first cap) w := fun _ _ _ _ => rfl
  go_enter Tryz.func80, Tryz.ntmps80
  go_wp2_with fail
  refine (first_pre x y z a n c w.heap.size (w.heap.size + 1) (w.heap.size + 1 + 1) _ hn hn2 ?_ ?_ ?_ ?_ ?_ ?_ ?_ ?_ ?_ ?_ ?_ ?_).mono ?_
  · exact (three w _ _ _ _ _ 0).2.2.trans rfl
  · exact (three w _ _ _ _ _ 1).2.2.trans rfl
  · exact (three w _ _ _ _ _ 2).2.2.trans rfl
  · exact (three w _ _ _ _ _ 3).2.2.trans rfl
  · exact (three w _ _ _ _ _ 0).1.trans rfl
  · exact (three w _ _ _ _ _ 1).1.trans rfl
  · exact (three w _ _ _ _ _ 2).1.trans rfl
  · exact (three w _ _ _ _ _ 3).1.trans rfl
  · exact (three w _ _ _ _ _ 0).2.1.trans rfl
  · exact (three w _ _ _ _ _ 1).2.1.trans rfl
  · exact (three w _ _ _ _ _ 2).2.1.trans rfl
  · exact (three w _ _ _ _ _ 3).2.1.trans rfl
  rintro e w' ⟨rfl, rfl⟩
  go_wp2_with fail
  go_ret
  exact ⟨rfl, (((Below.refl _ _).alloc (Nat.le_refl _) _).alloc (by simp) _).alloc (by simp; omega) _⟩

/-- Less of two versions of the same numbers of which the first has a pre. -/
theorem less_pre (s t : ByteArray) (aT aB : Addr) (m : Int) (w : World) (hs : s.size < 999998) (ht : t.size < 4294967281) (S : Vs w aT aB m) (h1 : verErr s.data.toList = 0) (h2 : verErr t.data.toList = 0)
    (h3 : ∀ i, i < 3 → nAt s.data.toList i = nAt t.data.toList i) (h4 : preOf s.data.toList ≠ []) (h5 : preOf t.data.toList = []) :
    Calls Tryz.prog 33 #[.string s, .string t] w fun e w' => e = .returned (.bool true) ∧ Below w.heap.size w w' := by
  have HS := hid S
  have HA := hid (vsplit_good s aT aB m w (by omega) S h1)
  have hX : ∀ X : List ByteArray, bl X = preOf t.data.toList → X = [] := fun X h => by
    rw [h5] at h
    exact List.length_eq_zero_iff.1 (by rw [← bl_len, h]; rfl)
  have HX := hid hX
  have H3 := hid h3
  have H4 := hid h4
  have HT := hid (fun W (SW : Vs W aT aB m) => vsplit_good t aT aB m W ht SW h2)
  clear S hX h3 h4 h5 h1 h2
  go_enter Tryz.func33, Tryz.ntmps33
  go_wp2_with fail
  refine HA.out.mono ?_
  rintro e w1 ⟨v, X, rfl, hX1, hst, hb1⟩
  have hXn : X ≠ [] := fun h => H4.out (by rw [← hX1, h]; rfl)
  obtain ⟨b, rfl⟩ : ∃ b, v = .slice (some ⟨b, 0, none⟩) X.length X.length := by
    rcases hst with ⟨h, _⟩ | ⟨_, b, h, _⟩
    · exact absurd h hXn
    · exact ⟨b, h⟩
  have hXl : X.length ≤ s.size + 2 := by
    have h1 : (preOf s.data.toList).length ≤ s.size + 2 := by
      unfold preOf
      split
      · have := cutAt_many 46 (one 45 (restOf s.data.toList)).2.1
        have h2 := (one_le 45 (restOf s.data.toList)).2
        have h3 := restOf_le s.data.toList
        rw [len_eq] at h3
        omega
      · simp
    rw [← hX1, bl_len] at h1; exact h1
  have hXp : 0 < X.length := List.length_pos_iff.2 hXn
  have HB1 := hid hb1
  have HS1 := hid ((HS.out.below hb1).below ((Below.refl _ _).alloc (Nat.le_refl _) (.cells #[.int .i64 (nAt s.data.toList 0), .int .i64 (nAt s.data.toList 1), .int .i64 (nAt s.data.toList 2), .slice (some ⟨b, 0, none⟩) X.length X.length] 62)))
  have HB2 := hid ((Below.refl w1.heap.size w1).alloc (Nat.le_refl _) (.cells #[.int .i64 (nAt s.data.toList 0), .int .i64 (nAt s.data.toList 1), .int .i64 (nAt s.data.toList 2), .slice (some ⟨b, 0, none⟩) X.length X.length] 62))
  clear hst hb1 hX1 hXn
  go_wp2_with fail
  refine (HT.out _ HS1.out).mono ?_
  rintro e w2 ⟨v2, X2, rfl, hX2, hst2, hb2⟩
  have hX20 := HX.out X2 hX2
  subst hX20
  obtain rfl : v2 = .slice none 0 0 := by
    rcases hst2 with ⟨_, h⟩ | ⟨h, _⟩
    · exact h
    · exact absurd rfl h
  rw [← H3.out 0 (by omega), ← H3.out 1 (by omega), ← H3.out 2 (by omega)]
  have hb2' : Below (w1.heap.size + 1) (w1.alloc (.cells #[.int .i64 (nAt s.data.toList 0), .int .i64 (nAt s.data.toList 1), .int .i64 (nAt s.data.toList 2), .slice (some ⟨b, 0, none⟩) X.length X.length] 62)) w2 := hb2.mono (by simp)
  obtain ⟨⟨r0, r1, r2, r3⟩, rf, rz⟩ := res4 hb2'
  have HB3 := hid (HB1.out.trans ((HB2.out.trans (hb2.mono (by simp))).mono HB1.out.size))
  generalize nAt s.data.toList 0 = x at *
  generalize nAt s.data.toList 1 = y at *
  generalize nAt s.data.toList 2 = z at *
  clear hst2 hb2 hb2' hX2
  go_wp2_with fail
  refine (compare_pre x y z _ X.length X.length _ hXp (by omega)).mono ?_
  rintro e w3 ⟨rfl, hb3⟩
  have HBF := hid ((HB3.out.alloc HB3.out.size _).trans (hb3.mono (by simp; exact Nat.le_succ_of_le HB3.out.size)))
  clear hb3
  go_wp2_with fail
  go_ret
  exact ⟨rfl, HBF.out⟩
end Ve
end Go.Proofs.YtmgpbejekglipabGreatDoor

/-
  What Text of package ver answers, all its ways together; and the texts that the closed fact of the statements names.
-/
namespace Go.Proofs.YtmgpbejekglipabGreatDoor
open Go.RowKit
namespace Ve

theorem textOf_pre (a b c : Int) (ps : List (List UInt8)) : textOf a b c ps = if inBB a && inBB b && inBB c && pre ps == 0 then core3 a b c ++ preText ps else [] := by
  unfold textOf
  cases ps with
  | nil => simp [preText]
  | cons p r => simp [preText]

set_option maxHeartbeats 400000 in
/-- Text where the numbers are right and the pre is not. -/
theorem text_pbad (a b c : Int) (v : Value) (q : Nat) (aT aB : Addr) (w : World) (ha : inBB a = true) (hb : inBB b = true) (hc : inBB c = true) (hq : q = 1 ∨ q = 2)
    (hpre : ∀ W, Below w.heap.size w W → Calls Tryz.prog 79 #[v] W fun e w' => e = .returned (errV aT aB q) ∧ Below W.heap.size W w') :
    Calls Tryz.prog 167 #[.agg #[.int .i64 a, .int .i64 b, .int .i64 c, v]] w fun e w' => e = .returned (.string ⟨#[]⟩) ∧ Below w.heap.size w w' := by
  have HA := hid (fun W => inB_any a W)
  have HB := hid (fun W => inB_any b W)
  have HC := hid (fun W => inB_any c W)
  rw [ha] at HA
  rw [hb] at HB
  rw [hc] at HC
  have HP := hid hpre
  have HB0 := hid ((Below.refl w.heap.size w).alloc (Nat.le_refl _) (.cells #[.int .i64 a, .int .i64 b, .int .i64 c, v] 62))
  clear ha hb hc hpre
  go_enter Tryz.func167, Tryz.ntmps167
  go_wp2_with fail
  refine (HA.out _).mono ?_
  rintro e w' ⟨rfl, rfl⟩
  go_wp2_with fail
  refine (HB.out _).mono ?_
  rintro e w' ⟨rfl, rfl⟩
  go_wp2_with fail
  refine (HC.out _).mono ?_
  rintro e w' ⟨rfl, rfl⟩
  go_wp2_with fail
  refine (HP.out _ HB0.out).mono ?_
  rintro e w1 ⟨rfl, hb1⟩
  have HB1 := hid (HB0.out.trans (hb1.mono (by simp)))
  clear hb1
  rcases hq with rfl | rfl
  · rw [errV1]
    go_wp2_with fail
    go_ret
    exact ⟨rfl, HB1.out⟩
  · rw [errV2]
    go_wp2_with fail
    go_ret
    exact ⟨rfl, HB1.out⟩

/-- Text, whatever the parts: texts at the head of a row, or none. -/
theorem text_any (a b c : Int) (X : List ByteArray) (v : Value) (aT aB : Addr) (m : Int) (w : World) (S : Vs w aT aB m) (htab : Lib.TabIs Tryz.prog w powName .u64 Lib.pow10Tab) (hX : X.length ≤ 1000) (hXz : ∀ x, x ∈ X → x.size ≤ maxLen)
    (hlen : (preText (bl X)).length ≤ 1000000)
    (hv : (X = [] ∧ v = .slice none 0 0) ∨ (X ≠ [] ∧ ∃ bk cp, v = .slice (some ⟨bk, 0, none⟩) X.length cp ∧ X.length ≤ cp ∧ bk < w.heap.size ∧ ∀ j (h : j < X.length), w.cell? ⟨bk, 0 + j, none⟩ = some (.string X[j]))) :
    Calls Tryz.prog 167 #[.agg #[.int .i64 a, .int .i64 b, .int .i64 c, v]] w fun e w' => ∃ T : ByteArray, e = .returned (.string T) ∧ T.data.toList = textOf a b c (bl X) ∧ Below w.heap.size w w' := by
  have hpre : ∀ W, Below w.heap.size w W → Calls Tryz.prog 79 #[v] W fun e w' => e = .returned (errV aT aB (pre (bl X))) ∧ Below W.heap.size W w' := by
    intro W hW
    rcases hv with ⟨h1, h2⟩ | ⟨h1, bk, cp, h2, h3, h4, h5⟩
    · subst h1; subst h2
      exact pre_nil none 0 aT aB W
    · subst h2
      exact pre_some bk 0 cp X aT aB m W (S.below hW) (by omega) hXz (fun j h => cell_below hW (h5 j h))
  cases hn : (inBB a && inBB b && inBB c)
  · refine (text_nums a b c v w hn).mono fun e w' ⟨h1, h2⟩ => ⟨_, h1, ?_, h2⟩
    rw [textOf_pre, hn]; rfl
  · simp only [Bool.and_eq_true] at hn
    obtain ⟨⟨ha, hb⟩, hc⟩ := hn
    rcases pre_err (bl X) with h0 | h0
    · rw [h0] at hpre
      have hT : textOf a b c (bl X) = core3 a b c ++ preText (bl X) := by rw [textOf_pre, ha, hb, hc, h0]; rfl
      rw [hT]
      rcases hv with ⟨h1, h2⟩ | ⟨h1, bk, cp, h2, h3, h4, h5⟩
      · subst h1; subst h2
        refine (text_none a b c w ha hb hc htab hpre).mono fun e w' ⟨T, e1, e2, e3⟩ => ⟨T, e1, ?_, e3⟩
        rw [e2]; simp [bl, preText]
      · subst h2
        have hj : preText (bl X) = [45] ++ Lib.join (bl X) [46] := by
          cases X with
          | nil => exact absurd rfl h1
          | cons x r => rfl
        refine (text_some a b c bk cp X w hX h3 h1 h4 h5 (by rw [hj] at hlen; simp at hlen; omega) ha hb hc htab hpre).mono fun e w' ⟨T, e1, e2, e3⟩ => ⟨T, e1, ?_, e3⟩
        rw [e2, hj, List.append_assoc]
    · refine (text_pbad a b c v (pre (bl X)) aT aB w ha hb hc h0 hpre).mono fun e w' ⟨h1, h2⟩ => ⟨_, h1, ?_, h2⟩
      rw [textOf_pre]
      rcases h0 with h | h <;> rw [h] <;> simp
end Ve
end Go.Proofs.YtmgpbejekglipabGreatDoor
