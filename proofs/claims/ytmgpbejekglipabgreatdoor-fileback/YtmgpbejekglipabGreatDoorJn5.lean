/-
  What Text of package ver answers, for any parts: the text, or the empty one; nothing old in memory turns.
-/
import Derived.Test.YtmgpbejekglipabGreatDoorJn4
import Derived.WalkSmall
import Derived.Deep.RegionHeld
import Derived.Test.YtmgpbejekglipabGreatDoorJn1
namespace Go.Proofs.YtmgpbejekglipabGreatDoor
open Go.RowKit Go.Sort
namespace Ve

/-- The name of the library's table of powers of ten. -/
def powName : String := "internal/strconv.uint64pow10"
theorem below_grow (w : World) (k : Nat) (os : Array Obj) : Below w.heap.size w (grow (w.drewN k) os) :=
  ⟨rfl, rfl, rfl, by show w.heap.size ≤ (w.heap ++ os).size; simp, fun i hi => by show (w.heap ++ os)[i]? = _; rw [Array.getElem?_append_left hi]⟩
theorem nDigits_le : ∀ (k u : Nat), u < 10 ^ (k + 1) → Lib.nDigits u ≤ k + 1
  | 0, u, h => by rw [Lib.nDigits_small (by simpa using h)]; omega
  | k + 1, u, h => by
    by_cases h0 : u < 10
    · rw [Lib.nDigits_small h0]; omega
    · rw [Lib.nDigits_big h0]
      have := nDigits_le k (u / 10) (by rw [Nat.pow_succ] at h; omega)
      omega
theorem itoa_le (n : Int) (h0 : 0 ≤ n) (h1 : n ≤ 999999) : (Lib.itoa n).length ≤ 6 := by
  unfold Lib.itoa
  rw [if_neg (by omega), Lib.decDigits_length]
  exact nDigits_le 5 n.toNat (by omega)
theorem itoa_any (n : Int) (w : World) (h0 : 0 ≤ n) (h1 : n ≤ 999999) (htab : Lib.TabIs Tryz.prog w powName .u64 Lib.pow10Tab) :
    Calls Tryz.prog 197 #[.int .i64 n] w fun e w' => ∃ S : ByteArray, e = .returned (.string S) ∧ S.data.toList = Lib.itoa n ∧ S.size ≤ 6 ∧ Below w.heap.size w w' :=
  (Tryz.strconv_Itoa n (by omega) (by omega) w htab).mono fun e w' ⟨e1, k, os, e2⟩ => ⟨_, e1, by simp, by show (Lib.itoa n).toArray.size ≤ 6; simpa using itoa_le n h0 h1, by rw [e2]; exact below_grow w k os⟩
theorem powAt : Tryz.prog.globalNamed powName = some 14 := by kernel_rfl
theorem tab_below {w w' : World} (h : Lib.TabIs Tryz.prog w powName .u64 Lib.pow10Tab) (hb : Below w.heap.size w w') : Lib.TabIs Tryz.prog w' powName .u64 Lib.pow10Tab := by
  have hlt : 14 < w.heap.size := by
    have h1 : w.var? Tryz.prog powName = some _ := h
    unfold World.var? at h1
    rw [powAt] at h1
    simp only [Option.bind_some] at h1
    rcases Nat.lt_or_ge 14 w.heap.size with hh | hh
    · exact hh
    · rw [Array.getElem?_eq_none hh] at h1; cases h1
  exact var?_below hb powAt hlt h

/-- A boxed struct of four, and the table, while memory grows. -/
structure Tx (w0 w : World) (N : Nat) (a b c v : Value) : Prop where
  c0 : w.cell? ⟨N, 0, none⟩ = some a
  c1 : w.cell? ⟨N, 1, none⟩ = some b
  c2 : w.cell? ⟨N, 2, none⟩ = some c
  c3 : w.cell? ⟨N, 3, none⟩ = some v
  tab : Lib.TabIs Tryz.prog w powName .u64 Lib.pow10Tab
  bl : Below w0.heap.size w0 w
theorem Tx.below {w0 w w' : World} {N : Nat} {a b c v : Value} (h : Tx w0 w N a b c v) (hb : Below w.heap.size w w') : Tx w0 w' N a b c v :=
  ⟨cell_below hb h.c0, cell_below hb h.c1, cell_below hb h.c2, cell_below hb h.c3, tab_below h.tab hb, h.bl.trans (hb.mono h.bl.size)⟩
theorem Tx.start {w : World} {a b c v : Value} {T : TypeId} (h : Lib.TabIs Tryz.prog w powName .u64 Lib.pow10Tab) : Tx w (w.alloc (.cells #[a, b, c, v] T)) w.heap.size a b c v :=
  ⟨by simp, by simp, by simp, by simp, tab_below h ((Below.refl _ _).alloc (Nat.le_refl _) _), (Below.refl _ _).alloc (Nat.le_refl _) _⟩

theorem Tx.drew {w0 w : World} {N : Nat} {a b c v : Value} (h : Tx w0 w N a b c v) : Tx w0 w.drew N a b c v := h.below (below_drawn w 1)
theorem Tx.held {w0 w : World} {N : Nat} {a b c v : Value} (h : Tx w0 w N a b c v) : w.cell? ⟨N, 0, none⟩ = some a ∧ w.cell? ⟨N, 1, none⟩ = some b ∧ w.cell? ⟨N, 2, none⟩ = some c ∧ w.cell? ⟨N, 3, none⟩ = some v ∧ Hid (Tx w0 w N a b c v) :=
  ⟨h.c0, h.c1, h.c2, h.c3, h⟩

/-- A text of three numbers. -/
def core3 (a b c : Int) : List UInt8 := [118] ++ Lib.itoa a ++ [46] ++ Lib.itoa b ++ [46] ++ Lib.itoa c
/-- What Text answers. -/
def textOf (a b c : Int) (ps : List (List UInt8)) : List UInt8 :=
  if inBB a && inBB b && inBB c && pre ps == 0 then (if ps.isEmpty then core3 a b c else core3 a b c ++ [45] ++ Lib.join ps [46]) else []

set_option maxHeartbeats 1000000 in
theorem text_nums (a b c : Int) (v : Value) (w : World) (h : (inBB a && inBB b && inBB c) = false) :
    Calls Tryz.prog 167 #[.agg #[.int .i64 a, .int .i64 b, .int .i64 c, v]] w fun e w' => e = .returned (.string ⟨#[]⟩) ∧ Below w.heap.size w w' := by
  have HA := hid (fun W => inB_any a W)
  have HB := hid (fun W => inB_any b W)
  have HC := hid (fun W => inB_any c W)
  cases ha : inBB a
  · rw [ha] at HA
    clear h ha
    go_enter Tryz.func167, Tryz.ntmps167
    go_wp2_with fail
    refine (HA.out _).mono ?_
    rintro e w' ⟨rfl, rfl⟩
    go_wp2_with fail
    go_ret
    exact ⟨rfl, (Below.refl _ _).alloc (Nat.le_refl _) _⟩
  · cases hb : inBB b
    · rw [ha] at HA
      rw [hb] at HB
      clear h ha hb
      go_enter Tryz.func167, Tryz.ntmps167
      go_wp2_with fail
      refine (HA.out _).mono ?_
      rintro e w' ⟨rfl, rfl⟩
      go_wp2_with fail
      refine (HB.out _).mono ?_
      rintro e w' ⟨rfl, rfl⟩
      go_wp2_with fail
      go_ret
      exact ⟨rfl, (Below.refl _ _).alloc (Nat.le_refl _) _⟩
    · have hc : inBB c = false := by rw [ha, hb] at h; simpa using h
      rw [ha] at HA
      rw [hb] at HB
      rw [hc] at HC
      clear h ha hb hc
      go_enter Tryz.func167, Tryz.ntmps167
      go_wp2_with fail
      refine (HA.out _).mono ?_
      rintro e w' ⟨rfl, rfl⟩
      go_wp2_with fail
      refine (HB.out _).mono ?_
      rintro e w' ⟨rfl, rfl⟩
      go_wp2_with fail
      refine (HC.out _).mono ?_
      rintro e w' ⟨rfl, rfl⟩
      go_wp2_with fail
      go_ret
      exact ⟨rfl, (Below.refl _ _).alloc (Nat.le_refl _) _⟩

set_option maxHeartbeats 1000000 in
theorem text_none (a b c : Int) (w : World) (ha : inBB a = true) (hb : inBB b = true) (hc : inBB c = true) (htab : Lib.TabIs Tryz.prog w powName .u64 Lib.pow10Tab)
    (hpre : ∀ W, Below w.heap.size w W → Calls Tryz.prog 79 #[.slice none 0 0] W fun e w' => e = .returned .nilIface ∧ Below W.heap.size W w') :
    Calls Tryz.prog 167 #[.agg #[.int .i64 a, .int .i64 b, .int .i64 c, .slice none 0 0]] w fun e w' => ∃ T : ByteArray, e = .returned (.string T) ∧ T.data.toList = core3 a b c ∧ Below w.heap.size w w' := by
  have HA := hid (fun W => inB_any a W)
  have HB := hid (fun W => inB_any b W)
  have HC := hid (fun W => inB_any c W)
  rw [ha] at HA
  rw [hb] at HB
  rw [hc] at HC
  simp only [inBB, decide_eq_true_eq] at ha hb hc
  obtain ⟨a0, a1⟩ := ha
  obtain ⟨b0, b1⟩ := hb
  obtain ⟨d0, d1⟩ := hc
  have HT := hid (Tx.start (a := .int .i64 a) (b := .int .i64 b) (c := .int .i64 c) (v := .slice none 0 0) (T := 62) htab)
  have HP := hid hpre
  clear htab hpre
  go_enter Tryz.func167, Tryz.ntmps167
  go_wp2_with fail
  refine (HA.out _).mono ?_
  rintro e w' ⟨rfl, rfl⟩
  go_wp2_with fail
  refine (HB.out _).mono ?_
  rintro e w' ⟨rfl, rfl⟩
  go_wp2_with fail
  refine (HC.out _).mono ?_
  rintro e w' ⟨rfl, rfl⟩
  go_wp2_with fail
  refine (HP.out _ HT.out.bl).mono ?_
  rintro e w1 ⟨rfl, hb1⟩
  have HT := hid (HT.out.below hb1)
  clear hb1
  have c0 := HT.out.c0
  have c1 := HT.out.c1
  have c2 := HT.out.c2
  have c3 := HT.out.c3
  go_wp2_with fail
  go_region_held (fun W => W.cell? ⟨w.heap.size, 0, none⟩ = some (.int .i64 a) ∧ W.cell? ⟨w.heap.size, 1, none⟩ = some (.int .i64 b) ∧ W.cell? ⟨w.heap.size, 2, none⟩ = some (.int .i64 c) ∧ W.cell? ⟨w.heap.size, 3, none⟩ = some (.slice none 0 0) ∧ Hid (Tx w W w.heap.size (.int .i64 a) (.int .i64 b) (.int .i64 c) (.slice none 0 0))) (first | exact HTc.out.held | exact HTb.out.held | exact HTa.out.held | exact HT.out.drew.held) (first
    | (go_at_call_of 197 (Value.int IntKind.i64 a); refine (itoa_any a _ a0 a1 ?_).mono ?_; exact HT.out.drew.tab; rintro e w' ⟨Sa, rfl, hS, hZa, hb⟩; have HSa := hid hS; have HTa := hid (HT.out.drew.below hb); clear hS hb)
    | (go_at_call_of 197 (Value.int IntKind.i64 b); refine (itoa_any b _ b0 b1 ?_).mono ?_; exact HTa.out.tab; rintro e w' ⟨Sb, rfl, hS, hZb, hb⟩; have HSb := hid hS; have HTb := hid (HTa.out.below hb); clear hS hb)
    | (go_at_call_of 197 (Value.int IntKind.i64 c); refine (itoa_any c _ d0 d1 ?_).mono ?_; exact HTb.out.tab; rintro e w' ⟨Sc, rfl, hS, hZc, hb⟩; have HSc := hid hS; have HTc := hid (HTb.out.below hb); clear hS hb))
  all_goals
    have c3 := HTc.out.c3
    go_wp2_with fail
    go_ret
    refine ⟨_, rfl, ?_, HTc.out.bl⟩
    unfold core3
    rw [← HSa.out, ← HSb.out, ← HSc.out]
    simp

end Ve
end Go.Proofs.YtmgpbejekglipabGreatDoor

/-
  What the walks ask of a world: eight errors, the handle of the type error, the library's bound; an error by its number.
-/
namespace Go.Proofs.YtmgpbejekglipabGreatDoor
open Go.RowKit
namespace Ve

/-- The eight errors, and the handle. -/
structure Sn (w : World) (A : Nat → Addr) : Prop where
  g0 : w.cell? ⟨3, 0, none⟩ = some (.iface 279 (.pointer (some (A 0))))
  g1 : w.cell? ⟨1, 0, none⟩ = some (.iface 279 (.pointer (some (A 1))))
  g2 : w.cell? ⟨4, 0, none⟩ = some (.iface 279 (.pointer (some (A 2))))
  g3 : w.cell? ⟨5, 0, none⟩ = some (.iface 279 (.pointer (some (A 3))))
  g4 : w.cell? ⟨2, 0, none⟩ = some (.iface 279 (.pointer (some (A 4))))
  g6 : w.cell? ⟨0, 0, none⟩ = some (.iface 279 (.pointer (some (A 6))))
  g7 : w.cell? ⟨7, 0, none⟩ = some (.iface 279 (.pointer (some (A 7))))
  g8 : w.cell? ⟨8, 0, none⟩ = some (.iface 279 (.pointer (some (A 8))))
  et : w.cell? ⟨10, 0, none⟩ = some (.iface 198 (.agg #[.pointer (some ⟨17, 32, none⟩)]))
/-- The eight errors, the handle and the library's bound. -/
structure Te (w : World) (A : Nat → Addr) (m : Int) : Prop where
  sen : Sn w A
  vs : Vs w (A 0) (A 1) m
theorem Te.ml {w : World} {A : Nat → Addr} {m : Int} (h : Te w A m) : w.cell? ⟨11, 0, none⟩ = some (.int .i64 m) := h.vs.ml
theorem Te.below {w w' : World} {A : Nat → Addr} {m : Int} (h : Te w A m) (hb : Below w.heap.size w w') : Te w' A m :=
  ⟨⟨cell_below hb h.sen.g0, cell_below hb h.sen.g1, cell_below hb h.sen.g2, cell_below hb h.sen.g3, cell_below hb h.sen.g4, cell_below hb h.sen.g6, cell_below hb h.sen.g7, cell_below hb h.sen.g8, cell_below hb h.sen.et⟩, h.vs.below hb⟩
/-- An error by its number: 0 none. -/
def errA (A : Nat → Addr) (c : Nat) : Value := if c = 0 then .nilIface else .iface 279 (.pointer (some (A (c - 1))))
theorem errA0 (A : Nat → Addr) : errA A 0 = .nilIface := rfl
theorem errA1 (A : Nat → Addr) : errA A 1 = .iface 279 (.pointer (some (A 0))) := rfl
theorem errA2 (A : Nat → Addr) : errA A 2 = .iface 279 (.pointer (some (A 1))) := rfl
theorem errA4 (A : Nat → Addr) : errA A 4 = .iface 279 (.pointer (some (A 3))) := rfl
theorem errA_V (A : Nat → Addr) (c : Nat) (h : c = 0 ∨ c = 1 ∨ c = 2) : errV (A 0) (A 1) c = errA A c := by
  rcases h with rfl | rfl | rfl <;> rfl
theorem errA_ne (A : Nat → Addr) {c : Nat} (h : c ≠ 0) : ∃ a, errA A c = .iface 279 (.pointer (some a)) := ⟨_, by unfold errA; rw [if_neg h]⟩
end Ve
end Go.Proofs.YtmgpbejekglipabGreatDoor

/-
  What readSuffix and readPath of package mod answer for any text: what is ahead of the suffix, its number, the error; nothing old in memory turns.
-/
namespace Go.Proofs.YtmgpbejekglipabGreatDoor
open Go.RowKit
namespace Ve

/-- A suffix that is right. -/
def sufOk (l : List UInt8) : Bool := decide ((num (restOf l)).2 = 0) && decide (2 ≤ (num (restOf l)).1)
theorem trimV_any (s : ByteArray) (w : World) : Calls Tryz.prog 187 #[.string s, .string ⟨#[118]⟩] w fun e w' => ∃ R : ByteArray, e = .returned (.string R) ∧ R.data.toList = restOf s.data.toList ∧ w' = w :=
  (Tryz.strings_TrimPrefix s ⟨#[118]⟩ w).mono fun e w' ⟨h1, h2⟩ => ⟨_, h1, by
    have e0 : (⟨#[118]⟩ : ByteArray).data.toList = [118] := rfl
    rw [e0, trimPrefix_v], h2⟩

set_option maxHeartbeats 1000000 in
theorem suffix_any (s : ByteArray) (A : Nat → Addr) (m : Int) (w : World) (hs : s.size < 4294967281) (S : Te w A m) :
    Calls Tryz.prog 149 #[.string s] w fun e w' => e = .returned (.tuple #[.int .i64 (if sufOk s.data.toList then (num (restOf s.data.toList)).1 else 0), if sufOk s.data.toList then .nilIface else .iface 279 (.pointer (some (A 3)))]) ∧ Below w.heap.size w w' := by
  have HO := hid (show sufOk s.data.toList = (decide ((num (restOf s.data.toList)).2 = 0) && decide (2 ≤ (num (restOf s.data.toList)).1)) from rfl)
  have HS := hid S
  have HT := hid (trimV_any s w)
  have HN := hid (fun (R : ByteArray) (h : R.data.toList = restOf s.data.toList) W (SW : Te W A m) => num_any R (A 0) (A 1) m W (by
      have h1 := size_of h
      have h2 := restOf_le s.data.toList
      simp at h2; unfold maxLen; omega) SW.vs)
  have HE := hid (num_err (restOf s.data.toList))
  clear S
  by_cases h1 : (num (restOf s.data.toList)).2 = 0
  · by_cases h2 : 2 ≤ (num (restOf s.data.toList)).1
    · have HK := hid (show sufOk s.data.toList = true by rw [HO.out, decide_eq_true h1, decide_eq_true h2]; rfl)
      have H1 := hid h1
      rw [HK.out]
      clear h1
      go_enter Tryz.func149, Tryz.ntmps149
      go_wp2_with fail
      refine HT.out.mono ?_
      rintro e w' ⟨R, rfl, hR, rfl⟩
      have HR := hid hR
      clear hR
      go_wp2_with fail
      refine (HN.out R HR.out _ HS.out).mono ?_
      rintro e w1 ⟨rfl, hb1⟩
      rw [HR.out, H1.out, errV0]
      have HB := hid hb1
      clear hb1
      generalize hn : (num (restOf s.data.toList)).1 = n at *
      have HNN := hid hn
      clear hn
      go_wp2_with fail
      go_ret2
      exact ⟨by rw [← HNN.out]; rfl, HB.out⟩
    · have HK := hid (show sufOk s.data.toList = false by rw [HO.out, decide_eq_false h2]; simp)
      have H1 := hid h1
      rw [HK.out]
      clear h1
      go_enter Tryz.func149, Tryz.ntmps149
      go_wp2_with fail
      refine HT.out.mono ?_
      rintro e w' ⟨R, rfl, hR, rfl⟩
      have HR := hid hR
      clear hR
      go_wp2_with fail
      refine (HN.out R HR.out _ HS.out).mono ?_
      rintro e w1 ⟨rfl, hb1⟩
      rw [HR.out, H1.out, errV0]
      have HB := hid hb1
      have g3 := (HS.out.below hb1).sen.g3
      clear hb1
      generalize (num (restOf s.data.toList)).1 = n at *
      go_wp2_with fail
      go_quiet (fail)
      go_wp2_with fail
      go_ret2
      exact ⟨rfl, HB.out.trans ((below_drawn _ _).mono HB.out.size)⟩
  · have HK := hid (show sufOk s.data.toList = false by rw [HO.out, decide_eq_false h1]; rfl)
    have H1 := hid h1
    rw [HK.out]
    clear h1
    go_enter Tryz.func149, Tryz.ntmps149
    go_wp2_with fail
    refine HT.out.mono ?_
    rintro e w' ⟨R, rfl, hR, rfl⟩
    have HR := hid hR
    clear hR
    go_wp2_with fail
    refine (HN.out R HR.out _ HS.out).mono ?_
    rintro e w1 ⟨rfl, hb1⟩
    rw [HR.out]
    have HB := hid hb1
    have g3 := (HS.out.below hb1).sen.g3
    clear hb1
    obtain ⟨a9, ha9⟩ : ∃ a, errV (A 0) (A 1) (num (restOf s.data.toList)).2 = .iface 279 (.pointer (some a)) := by
      rcases HE.out with h | h | h
      · exact absurd h H1.out
      · exact ⟨_, by rw [h]; rfl⟩
      · exact ⟨_, by rw [h]; rfl⟩
    rw [ha9]
    clear ha9
    generalize (num (restOf s.data.toList)).1 = n at *
    go_wp2_with fail
    go_quiet (fail)
    go_wp2_with fail
    go_ret2
    exact ⟨rfl, HB.out.trans ((below_drawn _ _).mono HB.out.size)⟩
end Ve
end Go.Proofs.YtmgpbejekglipabGreatDoor

/-
  What the document's answer computes for digits and numbers (AreDigits, NumberOf), and whether two lists of texts are the same (SameTexts), in the words of the plain functions.
-/
namespace Go.Proofs.YtmgpbejekglipabGreatDoor
open Go.RowKit
namespace Ve

set_option maxHeartbeats 400000 in
theorem areDigits_any (s : ByteArray) (w : World) (hs : s.size ≤ maxLen) :
    Calls Tryz.prog 153 #[.string s] w fun e w' => e = .returned (.bool (digs s.data.toList)) ∧ w' = w := by
  have HD := hid (show digs s.data.toList = (decide (0 < s.size) && allDig s.data.toList) by unfold digs; rw [len_eq])
  unfold maxLen at hs
  go_enter Tryz.func153, Tryz.ntmps153
  go_wp2_with fail
  go_loop [3] (fun i => ∃ k : Nat, k ≤ s.size ∧ i = .int .i64 k ∧ Hid ((s.data.toList.take k).all dig = true)) (fun i => s.size - (intOf i).toNat)
  case atStart => exact ⟨0, Nat.zero_le _, rfl, hid rfl⟩
  case round =>
    obtain ⟨k, hk, rfl, HA⟩ := hrel
    by_cases hlt : k < s.size
    · have HS := hid (all_snoc dig (s.data.toList.take k) s[k])
      rw [← take_snoc s k hlt, HA.out, Bool.true_and] at HS
      by_cases h1 : (s[k].toNat : Int) < 48
      · have HX := hid (show digs s.data.toList = false by
          have h2 : allDig s.data.toList = ((s.data.toList.take (k + 1)).all dig && (s.data.toList.drop (k + 1)).all dig) := by rw [← List.all_append, List.take_append_drop]; rfl
          rw [HD.out, h2, HS.out, show dig s[k] = false by simp [dig, digB]; omega]; simp)
        go_wp2_with fail
        go_ret
        exact ⟨ret_bool HX.out.symm, rfl⟩
      · by_cases h2 : 57 < (s[k].toNat : Int)
        · have HX := hid (show digs s.data.toList = false by
            have h2 : allDig s.data.toList = ((s.data.toList.take (k + 1)).all dig && (s.data.toList.drop (k + 1)).all dig) := by rw [← List.all_append, List.take_append_drop]; rfl
            rw [HD.out, h2, HS.out, show dig s[k] = false by simp [dig, digB]; omega]; simp)
          go_wp2_with fail
          go_ret
          exact ⟨ret_bool HX.out.symm, rfl⟩
        · have HY := hid (show (s.data.toList.take (k + 1)).all dig = true by rw [HS.out]; simp [dig, digB]; omega)
          go_wp2_with fail
          go_round
          case rel => exact ⟨k + 1, by omega, by go_num, HY⟩
          case measure => simp [intOf]; omega
    · have HX := hid (show digs s.data.toList = decide (0 < s.size) by
        have h2 : s.data.toList.take k = s.data.toList := List.take_of_length_le (by simp; omega)
        have := HA.out; rw [h2] at this
        rw [HD.out, show allDig s.data.toList = true from this, Bool.and_true])
      go_wp2_with fail
      go_ret
      exact ⟨ret_bool (by rw [HX.out]), rfl⟩

/-- The number, unbounded. -/
def valTo (n : Int) (l : List UInt8) : Int := l.foldl (fun n c => 10 * n + ((c.toNat : Int) - 48)) n
theorem valTo_snoc (n : Int) (l : List UInt8) (c : UInt8) : valTo n (l ++ [c]) = 10 * valTo n l + ((c.toNat : Int) - 48) := by simp [valTo, List.foldl_append]
theorem dig_bd {c : UInt8} (h : dig c = true) : 48 ≤ (c.toNat : Int) ∧ (c.toNat : Int) ≤ 57 := by simpa [dig, digB] using h
theorem valTo_bd : ∀ (l : List UInt8) (n : Int), l.all dig = true → 0 ≤ n → n * 10 ^ l.length ≤ valTo n l ∧ valTo n l < (n + 1) * 10 ^ l.length := by
  intro l
  induction l with
  | nil => intro n _ h; simp [valTo]; omega
  | cons c r ih =>
    intro n ha h0
    simp only [List.all_cons, Bool.and_eq_true] at ha
    have hc := dig_bd ha.1
    have := ih (10 * n + ((c.toNat : Int) - 48)) ha.2 (by omega)
    show n * 10 ^ (r.length + 1) ≤ valTo (10 * n + ((c.toNat : Int) - 48)) r ∧ valTo (10 * n + ((c.toNat : Int) - 48)) r < (n + 1) * 10 ^ (r.length + 1)
    have hp : (0 : Int) < 10 ^ r.length := Int.pow_pos (by decide)
    have e1 : n * 10 ^ (r.length + 1) = (10 * n) * 10 ^ r.length := by rw [Int.pow_succ]; rw [Int.mul_comm (10 ^ r.length) 10, ← Int.mul_assoc, Int.mul_comm n 10]
    have e2 : (n + 1) * 10 ^ (r.length + 1) = (10 * (n + 1)) * 10 ^ r.length := by rw [Int.pow_succ]; rw [Int.mul_comm (10 ^ r.length) 10, ← Int.mul_assoc, Int.mul_comm (n + 1) 10]
    rw [e1, e2]
    constructor
    · exact Int.le_trans (Int.mul_le_mul_of_nonneg_right (by omega) (Int.le_of_lt hp)) this.1
    · exact Int.lt_of_lt_of_le this.2 (Int.mul_le_mul_of_nonneg_right (by omega) (Int.le_of_lt hp))
theorem numTo_val : ∀ (l : List UInt8) (n : Int), l.all dig = true → 0 ≤ n → numTo (min n 1000000) l = min (valTo n l) 1000000 := by
  intro l
  induction l with
  | nil => intro n _ _; rfl
  | cons c r ih =>
    intro n ha h0
    simp only [List.all_cons, Bool.and_eq_true] at ha
    have hc := dig_bd ha.1
    have := ih (10 * n + ((c.toNat : Int) - 48)) ha.2 (by omega)
    show numTo (min (min n 1000000 * 10 + ((c.toNat : Int) - 48)) 1000000) r = min (valTo (10 * n + ((c.toNat : Int) - 48)) r) 1000000
    rw [← this]
    congr 1
    omega
/-- Of digits without a needless zero: too great a number is one of more than six. -/
theorem num_six (l : List UInt8) (h : digs l = true) (h0 : zero l = false) : num l = if 6 < l.length then (0, 2) else (valTo 0 l, 0) := by
  have had : l.all dig = true := by unfold digs at h; simp at h; exact h.2
  have hpos : 0 < l.length := by unfold digs at h; simp at h; exact h.1
  have e := numTo_val l 0 had (by omega)
  rw [show min (0 : Int) 1000000 = 0 by omega] at e
  have hb := valTo_bd l 0 had (by omega)
  unfold num
  rw [h, h0, e]
  simp only [Bool.not_true, Bool.or_false, Bool.false_eq_true, if_false]
  by_cases h6 : 6 < l.length
  · rw [if_pos h6]
    have hbig : 999999 < valTo 0 l := by
      cases l with
      | nil => simp at hpos
      | cons c r =>
        simp only [List.all_cons, Bool.and_eq_true] at had
        have hc := dig_bd had.1
        have hc48 : (c.toNat : Int) ≠ 48 := by
          intro hh
          have : c = 48 := by apply UInt8.toNat_inj.1; show c.toNat = 48; omega
          subst this
          simp [zero] at h0
          have : r.length + 1 > 6 := h6
          have h7 : r ≠ [] := by intro hr; subst hr; simp at this
          exact h7 h0
        have hv := (valTo_bd r (10 * 0 + ((c.toNat : Int) - 48)) had.2 (by omega)).1
        have hr : 6 ≤ r.length := by simp at h6; omega
        have hp : (1000000 : Int) ≤ 10 ^ r.length := by
          have := Nat.pow_le_pow_right (n := 10) (by omega) hr
          have h8 : ((10 ^ 6 : Nat) : Int) ≤ ((10 ^ r.length : Nat) : Int) := by exact_mod_cast this
          simpa using h8
        have h9 : (10 : Int) ^ r.length ≤ (10 * 0 + ((c.toNat : Int) - 48)) * 10 ^ r.length := by
          have := Int.mul_le_mul_of_nonneg_right (a := 1) (b := 10 * 0 + ((c.toNat : Int) - 48)) (c := 10 ^ r.length) (by omega) (by omega)
          simpa using this
        show 999999 < valTo (10 * 0 + ((c.toNat : Int) - 48)) r
        omega
    rw [if_neg (by omega)]
  · rw [if_neg h6]
    have hp : (10 : Int) ^ l.length ≤ 1000000 := by
      have := Nat.pow_le_pow_right (n := 10) (by omega) (show l.length ≤ 6 by omega)
      have h8 : ((10 ^ l.length : Nat) : Int) ≤ ((10 ^ 6 : Nat) : Int) := by exact_mod_cast this
      simpa using h8
    have : valTo 0 l < 1000000 := by have := hb.2; simp at this; omega
    rw [if_pos (by omega), show min (valTo 0 l) 1000000 = valTo 0 l by omega]

theorem val_le (l : List UInt8) (h : l.all dig = true) (h6 : l.length ≤ 6) : 0 ≤ valTo 0 l ∧ valTo 0 l < 1000000 := by
  have hb := valTo_bd l 0 h (by omega)
  have hp : (10 : Int) ^ l.length ≤ 1000000 := by
    have := Nat.pow_le_pow_right (n := 10) (by omega) h6
    have h8 : ((10 ^ l.length : Nat) : Int) ≤ ((10 ^ 6 : Nat) : Int) := by exact_mod_cast this
    simpa using h8
  have h1 := hb.1
  have h2 := hb.2
  simp at h1 h2
  omega

set_option maxHeartbeats 1000000 in
theorem numberOf_any (s : ByteArray) (w : World) (hs : s.size ≤ maxLen) :
    Calls Tryz.prog 154 #[.string s] w fun e w' => e = .returned (.tuple #[.int .i64 (num s.data.toList).1, .int .i64 ((num s.data.toList).2 : Nat)]) ∧ w' = w := by
  have HC := hid (areDigits_any s w hs)
  unfold maxLen at hs
  cases hz : digs s.data.toList
  · have HN := hid (show num s.data.toList = (0, 1) by simp [num, hz])
    rw [hz] at HC
    clear hz
    go_enter Tryz.func154, Tryz.ntmps154
    go_wp2_with fail
    refine HC.out.mono ?_
    rintro e w' ⟨rfl, rfl⟩
    go_wp2_with fail
    go_ret2
    exact ⟨by rw [HN.out]; rfl, rfl⟩
  have had : allDig s.data.toList = true := by unfold digs at hz; simp at hz; exact hz.2
  cases h0 : zero s.data.toList
  · have HN := hid (num_six s.data.toList hz h0)
    have HZ : Hid (¬ ∃ h : 1 < s.size, ((s[0].toNat : Int) == 48) = true) := fun h => by have := (zero_eq s).2 h; rw [h0] at this; cases this
    rw [len_eq] at HN
    rw [hz] at HC
    clear hz h0
    by_cases h1 : 1 < s.size
    · have h2 : ((s[0].toNat : Int) == 48) = false := by
        cases h : ((s[0].toNat : Int) == 48)
        · rfl
        · exact absurd ⟨h1, h⟩ HZ.out
      clear HZ
      by_cases h6 : 6 < s.size
      · rw [if_pos h6] at HN
        go_enter Tryz.func154, Tryz.ntmps154
        go_wp2_with fail
        refine HC.out.mono ?_
        rintro e w' ⟨rfl, rfl⟩
        go_wp2_with fail
        go_ret2
        exact ⟨by rw [HN.out]; rfl, rfl⟩
      · rw [if_neg h6] at HN
        have hl6 : s.data.toList.length ≤ 6 := by rw [len_eq]; omega
        have h6b : decide (6 < (s.size : Int)) = false := by simp; omega
        go_enter Tryz.func154, Tryz.ntmps154
        go_wp2_with fail
        refine HC.out.mono ?_
        rintro e w' ⟨rfl, rfl⟩
        go_wp2_with fail
        go_loop [5, 6] (fun n i => ∃ k : Nat, k ≤ s.size ∧ i = .int .i64 k ∧ n = .int .i64 (valTo 0 (s.data.toList.take k))) (fun _ i => s.size - (intOf i).toNat)
        case atStart => exact ⟨0, Nat.zero_le _, rfl, rfl⟩
        case round =>
          obtain ⟨k, hk, rfl, rfl⟩ := hrel
          obtain ⟨q0, q1⟩ := val_le _ (dig_take s had k) (show (s.data.toList.take k).length ≤ 6 by have := List.length_take_le k s.data.toList; omega)
          by_cases hlt : k < s.size
          · obtain ⟨d0, d1⟩ := dig_at s had k hlt
            have HS := hid (valTo_snoc 0 (s.data.toList.take k) s[k])
            rw [← take_snoc s k hlt] at HS
            generalize hn : valTo 0 (s.data.toList.take k) = n at *
            clear hn
            go_wp2_with fail
            go_round
            case rel => exact ⟨k + 1, by omega, by go_num, by rw [HS.out]⟩
            case measure => simp [intOf]; omega
          · have hk2 : s.data.toList.take k = s.data.toList := List.take_of_length_le (by simp; omega)
            rw [hk2]
            clear hk2 q0 q1
            go_wp2_with fail
            go_ret2
            exact ⟨by rw [HN.out]; rfl, rfl⟩
    · clear HZ
      have h6 : ¬ 6 < s.size := by omega
      rw [if_neg h6] at HN
      have hl6 : s.data.toList.length ≤ 6 := by rw [len_eq]; omega
      have h6b : decide (6 < (s.size : Int)) = false := by simp; omega
      have h1b : decide (1 < (s.size : Int)) = false := by simp; omega
      go_enter Tryz.func154, Tryz.ntmps154
      go_wp2_with fail
      refine HC.out.mono ?_
      rintro e w' ⟨rfl, rfl⟩
      go_wp2_with fail
      go_loop [5, 6] (fun n i => ∃ k : Nat, k ≤ s.size ∧ i = .int .i64 k ∧ n = .int .i64 (valTo 0 (s.data.toList.take k))) (fun _ i => s.size - (intOf i).toNat)
      case atStart => exact ⟨0, Nat.zero_le _, rfl, rfl⟩
      case round =>
        obtain ⟨k, hk, rfl, rfl⟩ := hrel
        obtain ⟨q0, q1⟩ := val_le _ (dig_take s had k) (show (s.data.toList.take k).length ≤ 6 by have := List.length_take_le k s.data.toList; omega)
        by_cases hlt : k < s.size
        · obtain ⟨d0, d1⟩ := dig_at s had k hlt
          have HS := hid (valTo_snoc 0 (s.data.toList.take k) s[k])
          rw [← take_snoc s k hlt] at HS
          generalize hn : valTo 0 (s.data.toList.take k) = n at *
          clear hn
          go_wp2_with fail
          go_round
          case rel => exact ⟨k + 1, by omega, by go_num, by rw [HS.out]⟩
          case measure => simp [intOf]; omega
        · have hk2 : s.data.toList.take k = s.data.toList := List.take_of_length_le (by simp; omega)
          rw [hk2]
          clear hk2 q0 q1
          go_wp2_with fail
          go_ret2
          exact ⟨by rw [HN.out]; rfl, rfl⟩
  · have HN := hid (show num s.data.toList = (0, 1) by simp [num, h0])
    obtain ⟨h1, h2⟩ := (zero_eq s).1 h0
    rw [hz] at HC
    clear hz h0
    go_enter Tryz.func154, Tryz.ntmps154
    go_wp2_with fail
    refine HC.out.mono ?_
    rintro e w' ⟨rfl, rfl⟩
    go_wp2_with fail
    go_ret2
    exact ⟨by rw [HN.out]; rfl, rfl⟩

theorem str_ext {a b : ByteArray} (h : a.data.toList = b.data.toList) : a = b := by
  cases a; cases b; congr 1; exact Array.toList_inj.1 h
theorem str_ne {a b : ByteArray} (h : ¬ a = b) : (a.toList == b.toList) = false := by
  rw [beq_eq_false_iff_ne, ByteArray.toList_eq, ByteArray.toList_eq]
  intro e; exact h (str_ext e)

/-- SameTexts of lists of unlike lengths. -/
theorem same_len (a b : Option Addr) (n c m d : Nat) (w : World) (h : ((n : Int) == (m : Int)) = false) :
    Calls Tryz.prog 36 #[.slice a n c, .slice b m d] w fun e w' => e = .returned (.bool false) ∧ w' = w := by
  go_enter Tryz.func36, Tryz.ntmps36
  go_wp2_with fail
  go_ret
  exact ⟨rfl, rfl⟩
/-- SameTexts of two empty lists. -/
theorem same_none (a b : Option Addr) (c d : Nat) (w : World) :
    Calls Tryz.prog 36 #[.slice a 0 c, .slice b 0 d] w fun e w' => e = .returned (.bool true) ∧ w' = w := by
  go_enter Tryz.func36, Tryz.ntmps36
  go_wp2_with fail
  refine wp_loop_rounds 1 ?_
  rw [rounds_succ]
  go_wp2_with fail
  go_ret
  exact ⟨rfl, rfl⟩

set_option maxHeartbeats 1000000 in
/-- SameTexts of two lists of one length. -/
theorem same_some (b0 o0 c0 b1 o1 c1 : Nat) (X Y : List ByteArray) (w : World) (hl : X.length = Y.length) (hn : X.length ≤ 1000000)
    (h0 : ∀ j (h : j < X.length), w.cell? ⟨b0, o0 + j, none⟩ = some (.string X[j])) (h1 : ∀ j (h : j < Y.length), w.cell? ⟨b1, o1 + j, none⟩ = some (.string Y[j])) :
    Calls Tryz.prog 36 #[.slice (some ⟨b0, o0, none⟩) X.length c0, .slice (some ⟨b1, o1, none⟩) X.length c1] w fun e w' => e = .returned (.bool (decide (X = Y))) ∧ Below w.heap.size w w' := by
  have H0 := hid h0
  have H1 := hid h1
  have HL := hid hl
  clear h0 h1 hl
  go_enter Tryz.func36, Tryz.ntmps36
  go_wp2_with fail
  go_loopw [5] (fun i wr => ∃ k d : Nat, k ≤ X.length ∧ i = .int .i64 k ∧ Hid (X.take k = Y.take k) ∧ wr = w.drewN d) (fun i _ => X.length - (intOf i).toNat)
  case atStart => exact ⟨0, 0, Nat.zero_le _, rfl, hid rfl, rfl⟩
  case round =>
    obtain ⟨k, d, hk, rfl, HE, rfl⟩ := hrel
    by_cases hlt : k < X.length
    · have hlt' : k < Y.length := HL.out ▸ hlt
      have q0 := H0.out k hlt
      have q1 := H1.out k hlt'
      by_cases heq : X[k] = Y[k]
      · have HS := hid (show X.take (k + 1) = Y.take (k + 1) by rw [List.take_succ_eq_append_getElem hlt, List.take_succ_eq_append_getElem hlt', HE.out, heq])
        rw [← heq] at q1
        clear heq hlt'
        generalize X[k] = x at *
        go_wp2_with fail
        go_quiet (fail)
        go_wp2_with fail
        go_roundw
        case rel => exact ⟨k + 1, _, by omega, by go_num, HS, rfl⟩
        case measure => simp [intOf]; omega
      · have HF := hid (show decide (X = Y) = false by
          rw [decide_eq_false_iff_not]; intro h; subst h; exact heq rfl)
        have hb : (X[k].toList == Y[k].toList) = false := str_ne heq
        clear heq
        go_wp2_with fail
        go_quiet (fail)
        go_wp2_with fail
        go_ret
        exact ⟨ret_bool HF.out.symm, (below_drawn w d).trans (show Below w.heap.size (w.drewN d) _ from below_drawn (w.drewN d) _)⟩
    · have HT := hid (show decide (X = Y) = true by
        have e1 : X.take k = X := List.take_of_length_le (by omega)
        have e2 : Y.take k = Y := List.take_of_length_le (by have := HL.out; omega)
        have := HE.out
        rw [e1, e2] at this
        simp [this])
      go_wp2_with fail
      go_ret
      exact ⟨ret_bool HT.out.symm, below_drawn _ _⟩
end Ve
end Go.Proofs.YtmgpbejekglipabGreatDoor
