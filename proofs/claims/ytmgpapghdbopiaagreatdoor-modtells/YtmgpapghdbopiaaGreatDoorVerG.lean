/-
  What Text of package ver answers, for any parts: the text, or the empty one; nothing old in memory turns.
-/
import Derived.Test.YtmgpapghdbopiaaGreatDoorVerF
import Derived.WalkSmall
import Derived.Shelf.Strconv.Itoa3
import Derived.Deep.RegionHeld
namespace Go.Proofs.YtmgpapghdbopiaaGreatDoor
open Go.RowKit Go.Sort
namespace Ve

/-- The name of the library's table of powers of ten. -/
def powName : String := "internal/strconv.uint64pow10"
theorem below_grow (w : World) (k : Nat) (os : Array Obj) : Below w.heap.size w (grow (w.drewN k) os) :=
  ⟨rfl, rfl, rfl, by show w.heap.size ≤ (w.heap ++ os).size; simp, fun i hi => by show (w.heap ++ os)[i]? = _; rw [Array.getElem?_append_left hi]⟩
theorem nDigits_le : ∀ (k u : Nat), u < 10 ^ (k + 1) → Lib.nDigits u ≤ k + 1
  | 0, u, h => by rw [Lib.nDigits_small (by simpa using h)]; omega
  | k + 1, u, h => by
    by_cases h0 : u < 10
    · rw [Lib.nDigits_small h0]; omega
    · rw [Lib.nDigits_big h0]
      have := nDigits_le k (u / 10) (by rw [Nat.pow_succ] at h; omega)
      omega
theorem itoa_le (n : Int) (h0 : 0 ≤ n) (h1 : n ≤ 999999) : (Lib.itoa n).length ≤ 6 := by
  unfold Lib.itoa
  rw [if_neg (by omega), Lib.decDigits_length]
  exact nDigits_le 5 n.toNat (by omega)
theorem itoa_any (n : Int) (w : World) (h0 : 0 ≤ n) (h1 : n ≤ 999999) (htab : Lib.TabIs Tryz.prog w powName .u64 Lib.pow10Tab) :
    Calls Tryz.prog 45 #[.int .i64 n] w fun e w' => ∃ S : ByteArray, e = .returned (.string S) ∧ S.data.toList = Lib.itoa n ∧ S.size ≤ 6 ∧ Below w.heap.size w w' :=
  (Tryz.strconv_Itoa n (by omega) (by omega) w htab).mono fun e w' ⟨e1, k, os, e2⟩ => ⟨_, e1, by simp, by show (Lib.itoa n).toArray.size ≤ 6; simpa using itoa_le n h0 h1, by rw [e2]; exact below_grow w k os⟩
theorem powAt : Tryz.prog.globalNamed powName = some 12 := by kernel_rfl
theorem tab_below {w w' : World} (h : Lib.TabIs Tryz.prog w powName .u64 Lib.pow10Tab) (hb : Below w.heap.size w w') : Lib.TabIs Tryz.prog w' powName .u64 Lib.pow10Tab := by
  have hlt : 12 < w.heap.size := by
    have h1 : w.var? Tryz.prog powName = some _ := h
    unfold World.var? at h1
    rw [powAt] at h1
    simp only [Option.bind_some] at h1
    rcases Nat.lt_or_ge 12 w.heap.size with hh | hh
    · exact hh
    · rw [Array.getElem?_eq_none hh] at h1; cases h1
  exact var?_below hb powAt hlt h

/-- A boxed struct of four, and the table, while memory grows. -/
structure Tx (w0 w : World) (N : Nat) (a b c v : Value) : Prop where
  c0 : w.cell? ⟨N, 0, none⟩ = some a
  c1 : w.cell? ⟨N, 1, none⟩ = some b
  c2 : w.cell? ⟨N, 2, none⟩ = some c
  c3 : w.cell? ⟨N, 3, none⟩ = some v
  tab : Lib.TabIs Tryz.prog w powName .u64 Lib.pow10Tab
  bl : Below w0.heap.size w0 w
theorem Tx.below {w0 w w' : World} {N : Nat} {a b c v : Value} (h : Tx w0 w N a b c v) (hb : Below w.heap.size w w') : Tx w0 w' N a b c v :=
  ⟨cell_below hb h.c0, cell_below hb h.c1, cell_below hb h.c2, cell_below hb h.c3, tab_below h.tab hb, h.bl.trans (hb.mono h.bl.size)⟩
theorem Tx.start {w : World} {a b c v : Value} {T : TypeId} (h : Lib.TabIs Tryz.prog w powName .u64 Lib.pow10Tab) : Tx w (w.alloc (.cells #[a, b, c, v] T)) w.heap.size a b c v :=
  ⟨by simp, by simp, by simp, by simp, tab_below h ((Below.refl _ _).alloc (Nat.le_refl _) _), (Below.refl _ _).alloc (Nat.le_refl _) _⟩

theorem Tx.drew {w0 w : World} {N : Nat} {a b c v : Value} (h : Tx w0 w N a b c v) : Tx w0 w.drew N a b c v := h.below (below_drawn w 1)
theorem Tx.held {w0 w : World} {N : Nat} {a b c v : Value} (h : Tx w0 w N a b c v) : w.cell? ⟨N, 0, none⟩ = some a ∧ w.cell? ⟨N, 1, none⟩ = some b ∧ w.cell? ⟨N, 2, none⟩ = some c ∧ w.cell? ⟨N, 3, none⟩ = some v ∧ Hid (Tx w0 w N a b c v) :=
  ⟨h.c0, h.c1, h.c2, h.c3, h⟩

/-- A text of three numbers. -/
def core3 (a b c : Int) : List UInt8 := [118] ++ Lib.itoa a ++ [46] ++ Lib.itoa b ++ [46] ++ Lib.itoa c
/-- What Text answers. -/
def textOf (a b c : Int) (ps : List (List UInt8)) : List UInt8 :=
  if inBB a && inBB b && inBB c && pre ps == 0 then (if ps.isEmpty then core3 a b c else core3 a b c ++ [45] ++ Lib.join ps [46]) else []

set_option maxHeartbeats 1000000 in
theorem text_nums (a b c : Int) (v : Value) (w : World) (h : (inBB a && inBB b && inBB c) = false) :
    Calls Tryz.prog 12 #[.agg #[.int .i64 a, .int .i64 b, .int .i64 c, v]] w fun e w' => e = .returned (.string ⟨#[]⟩) ∧ Below w.heap.size w w' := by
  have HA := hid (fun W => inB_any a W)
  have HB := hid (fun W => inB_any b W)
  have HC := hid (fun W => inB_any c W)
  cases ha : inBB a
  · rw [ha] at HA
    clear h ha
    go_enter Tryz.func12, Tryz.ntmps12
    go_wp2_with fail
    refine (HA.out _).mono ?_
    rintro e w' ⟨rfl, rfl⟩
    go_wp2_with fail
    go_ret
    exact ⟨rfl, (Below.refl _ _).alloc (Nat.le_refl _) _⟩
  · cases hb : inBB b
    · rw [ha] at HA
      rw [hb] at HB
      clear h ha hb
      go_enter Tryz.func12, Tryz.ntmps12
      go_wp2_with fail
      refine (HA.out _).mono ?_
      rintro e w' ⟨rfl, rfl⟩
      go_wp2_with fail
      refine (HB.out _).mono ?_
      rintro e w' ⟨rfl, rfl⟩
      go_wp2_with fail
      go_ret
      exact ⟨rfl, (Below.refl _ _).alloc (Nat.le_refl _) _⟩
    · have hc : inBB c = false := by rw [ha, hb] at h; simpa using h
      rw [ha] at HA
      rw [hb] at HB
      rw [hc] at HC
      clear h ha hb hc
      go_enter Tryz.func12, Tryz.ntmps12
      go_wp2_with fail
      refine (HA.out _).mono ?_
      rintro e w' ⟨rfl, rfl⟩
      go_wp2_with fail
      refine (HB.out _).mono ?_
      rintro e w' ⟨rfl, rfl⟩
      go_wp2_with fail
      refine (HC.out _).mono ?_
      rintro e w' ⟨rfl, rfl⟩
      go_wp2_with fail
      go_ret
      exact ⟨rfl, (Below.refl _ _).alloc (Nat.le_refl _) _⟩

set_option maxHeartbeats 1000000 in
theorem text_none (a b c : Int) (w : World) (ha : inBB a = true) (hb : inBB b = true) (hc : inBB c = true) (htab : Lib.TabIs Tryz.prog w powName .u64 Lib.pow10Tab)
    (hpre : ∀ W, Below w.heap.size w W → Calls Tryz.prog 42 #[.slice none 0 0] W fun e w' => e = .returned .nilIface ∧ Below W.heap.size W w') :
    Calls Tryz.prog 12 #[.agg #[.int .i64 a, .int .i64 b, .int .i64 c, .slice none 0 0]] w fun e w' => ∃ T : ByteArray, e = .returned (.string T) ∧ T.data.toList = core3 a b c ∧ Below w.heap.size w w' := by
  have HA := hid (fun W => inB_any a W)
  have HB := hid (fun W => inB_any b W)
  have HC := hid (fun W => inB_any c W)
  rw [ha] at HA
  rw [hb] at HB
  rw [hc] at HC
  simp only [inBB, decide_eq_true_eq] at ha hb hc
  obtain ⟨a0, a1⟩ := ha
  obtain ⟨b0, b1⟩ := hb
  obtain ⟨d0, d1⟩ := hc
  have HT := hid (Tx.start (a := .int .i64 a) (b := .int .i64 b) (c := .int .i64 c) (v := .slice none 0 0) (T := 30) htab)
  have HP := hid hpre
  clear htab hpre
  go_enter Tryz.func12, Tryz.ntmps12
  go_wp2_with fail
  refine (HA.out _).mono ?_
  rintro e w' ⟨rfl, rfl⟩
  go_wp2_with fail
  refine (HB.out _).mono ?_
  rintro e w' ⟨rfl, rfl⟩
  go_wp2_with fail
  refine (HC.out _).mono ?_
  rintro e w' ⟨rfl, rfl⟩
  go_wp2_with fail
  refine (HP.out _ HT.out.bl).mono ?_
  rintro e w1 ⟨rfl, hb1⟩
  have HT := hid (HT.out.below hb1)
  clear hb1
  have c0 := HT.out.c0
  have c1 := HT.out.c1
  have c2 := HT.out.c2
  have c3 := HT.out.c3
  go_wp2_with fail
  go_region_held (fun W => W.cell? ⟨w.heap.size, 0, none⟩ = some (.int .i64 a) ∧ W.cell? ⟨w.heap.size, 1, none⟩ = some (.int .i64 b) ∧ W.cell? ⟨w.heap.size, 2, none⟩ = some (.int .i64 c) ∧ W.cell? ⟨w.heap.size, 3, none⟩ = some (.slice none 0 0) ∧ Hid (Tx w W w.heap.size (.int .i64 a) (.int .i64 b) (.int .i64 c) (.slice none 0 0))) (first | exact HTc.out.held | exact HTb.out.held | exact HTa.out.held | exact HT.out.drew.held) (first
    | (go_at_call_of 45 (Value.int IntKind.i64 a); refine (itoa_any a _ a0 a1 ?_).mono ?_; exact HT.out.drew.tab; rintro e w' ⟨Sa, rfl, hS, hZa, hb⟩; have HSa := hid hS; have HTa := hid (HT.out.drew.below hb); clear hS hb)
    | (go_at_call_of 45 (Value.int IntKind.i64 b); refine (itoa_any b _ b0 b1 ?_).mono ?_; exact HTa.out.tab; rintro e w' ⟨Sb, rfl, hS, hZb, hb⟩; have HSb := hid hS; have HTb := hid (HTa.out.below hb); clear hS hb)
    | (go_at_call_of 45 (Value.int IntKind.i64 c); refine (itoa_any c _ d0 d1 ?_).mono ?_; exact HTb.out.tab; rintro e w' ⟨Sc, rfl, hS, hZc, hb⟩; have HSc := hid hS; have HTc := hid (HTb.out.below hb); clear hS hb))
  all_goals
    have c3 := HTc.out.c3
    go_wp2_with fail
    go_ret
    refine ⟨_, rfl, ?_, HTc.out.bl⟩
    unfold core3
    rw [← HSa.out, ← HSb.out, ← HSc.out]
    simp

end Ve
end Go.Proofs.YtmgpapghdbopiaaGreatDoor
