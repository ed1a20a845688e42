/-
  What CheckReqs of package mod and checkExclude of package file answer; nothing old in memory turns.
-/
import Derived.Test.YtmgpbejekglipabGreatDoorJn12
import Derived.Deep.RegionHeld
import Derived.Test.YtmgpbejekglipabGreatDoorJn11
import Derived.Laws.StructEq
namespace Go.Proofs.YtmgpbejekglipabGreatDoor
open Go.RowKit
namespace Ve

theorem exW_bad {o : Option Bm} {m : Bm} (h : mErr m ≠ 0) : exW o m = mErr m := by unfold exW; rw [if_neg h]
theorem exW_none {m : Bm} (h : mErr m = 0) : exW none m = 0 := by unfold exW; rw [if_pos h]
theorem exW_some {p m : Bm} (h : mErr m = 0) : exW (some p) m = if mAhead p m then 0 else 8 := by unfold exW; rw [if_pos h]

set_option maxHeartbeats 1000000 in
theorem exK_bad (i : Int) (p v : ByteArray) (x : Value) (pr : Option Bm) (A : Nat → Addr) (m : Int) (W : World) (hp : p.size < 999999) (hv : v.size < 999999) (S : Te W A m) (h : mErr (p, v) ≠ 0) :
    Calls Tryz.prog 90 #[.int .i64 i, .agg #[.string p, .string v], x] W fun e w' => e = .returned (errA A (exW pr (p, v))) ∧ Below W.heap.size W w' := by
  rw [exW_bad h, errA_if A h]
  have HB0 := hid ((Below.refl W.heap.size W).alloc (Nat.le_refl _) (.cells #[.string p, .string v] 26))
  have HC := hid (mcheck_any p v A m _ (by omega) (by omega) (S.below HB0.out))
  rw [show modErr p.data.toList v.data.toList = mErr (p, v) from rfl, errA_if A h] at HC
  clear S h
  go_enter Tryz.func90, Tryz.ntmps90
  go_wp2_with fail
  refine HC.out.mono ?_
  rintro e w1 ⟨rfl, hb⟩
  have HB := hid (HB0.out.trans (hb.mono HB0.out.size))
  clear hb
  go_wp2_with fail
  go_ret
  exact ⟨rfl, HB.out⟩
set_option maxHeartbeats 1000000 in
theorem exK_0 (p v : ByteArray) (x : Value) (A : Nat → Addr) (m : Int) (W : World) (hp : p.size < 999999) (hv : v.size < 999999) (S : Te W A m) (h : mErr (p, v) = 0) :
    Calls Tryz.prog 90 #[.int .i64 0, .agg #[.string p, .string v], x] W fun e w' => e = .returned (errA A (exW none (p, v))) ∧ Below W.heap.size W w' := by
  rw [exW_none h, errA0]
  have HB0 := hid ((Below.refl W.heap.size W).alloc (Nat.le_refl _) (.cells #[.string p, .string v] 26))
  have HC := hid (mcheck_any p v A m _ (by omega) (by omega) (S.below HB0.out))
  rw [show modErr p.data.toList v.data.toList = mErr (p, v) from rfl, h, errA0] at HC
  clear S h
  go_enter Tryz.func90, Tryz.ntmps90
  go_wp2_with fail
  refine HC.out.mono ?_
  rintro e w1 ⟨rfl, hb⟩
  obtain ⟨⟨r0, r1⟩, rz⟩ := res2 (hb.mono (by simp))
  have HB := hid (HB0.out.trans (hb.mono HB0.out.size))
  clear hb
  go_wp2_with fail
  go_quiet (fail)
  go_wp2_with fail
  go_ret
  exact ⟨rfl, below_drawn_of HB.out _⟩

set_option maxHeartbeats 1000000 in
theorem exK_1 (k : Nat) (p v q u : ByteArray) (b2 b o n c : Nat) (A : Nat → Addr) (m : Int) (W : World) (hp : p.size < 999999) (hv : v.size < 999999) (hu : u.size < 999999) (S : Te W A m) (h : mErr (p, v) = 0)
    (h2 : W.cell? ⟨b2, 0, none⟩ = some (.slice (some ⟨b, o, none⟩) n c)) (hk : k < n) (hn : n ≤ 1000000) (h3 : W.cell? ⟨b, o + k * 2, none⟩ = some (.string q)) (h4 : W.cell? ⟨b, o + k * 2 + 1, none⟩ = some (.string u)) :
    Calls Tryz.prog 90 #[.int .i64 ((k : Int) + 1), .agg #[.string p, .string v], .pointer (some ⟨b2, 0, none⟩)] W fun e w' => e = .returned (errA A (exW (some (q, u)) (p, v))) ∧ Below W.heap.size W w' := by
  rw [exW_some h]
  have HB0 := hid ((Below.refl W.heap.size W).alloc (Nat.le_refl _) (.cells #[.string p, .string v] 26))
  have HS := hid (S.below HB0.out)
  have HC := hid (mcheck_any p v A m _ (by omega) (by omega) HS.out)
  rw [show modErr p.data.toList v.data.toList = mErr (p, v) from rfl, h, errA0] at HC
  have HA := hid (fun W (SW : Te W A m) => ahead_any q u p v A m W hu hv SW)
  rw [show aheadB q.data.toList u.data.toList p.data.toList v.data.toList = mAhead (q, u) (p, v) from rfl] at HA
  have H2 := hid h2
  have H3 := hid h3
  have H4 := hid h4
  clear S h h2 h3 h4
  have g1 : (0 : Int) ≤ (k : Int) := by omega
  have g2 : (k : Int) < (n : Int) := by omega
  have g3 : (k : Int) + 1 - 1 = (k : Int) := by omega
  have g4 : (0 : Int) < (k : Int) + 1 := by omega
  have gw : IntKind.i64.wrap (k : Int) = (k : Int) := by rw [IntKind.wrap_i64]; omega
  generalize hz : mAhead (q, u) (p, v) = z at *
  clear hz
  cases z
  · rw [if_neg (by simp), errA_if A (by omega)]
    go_enter Tryz.func90, Tryz.ntmps90
    go_wp2_with fail
    refine HC.out.mono ?_
    rintro e w1 ⟨rfl, hb⟩
    obtain ⟨⟨r0, r1⟩, rz⟩ := res2 (hb.mono (by simp))
    have HB := hid (HB0.out.trans (hb.mono HB0.out.size))
    have HS1 := hid (HS.out.below hb)
    have c2 := cell_below HB.out H2.out
    have c3 := cell_below HB.out H3.out
    have c4 := cell_below HB.out H4.out
    clear hb
    go_wp2_with fail
    go_region_with (go_at_call 91; refine (HA.out _ (HS1.out.below (below_drawn _ 1))).mono ?_; rintro e w2 ⟨rfl, hb⟩; have HB2 := hid ((HB.out.trans ((below_drawn _ 1).mono HB.out.size)).trans (hb.mono HB.out.size)); have gg := ((HS1.out.below (below_drawn _ 1)).below hb).sen.g7; clear hb)
    all_goals
      go_wp2_with fail
      go_ret
      exact ⟨rfl, HB2.out⟩
  · rw [if_pos rfl, errA0]
    go_enter Tryz.func90, Tryz.ntmps90
    go_wp2_with fail
    refine HC.out.mono ?_
    rintro e w1 ⟨rfl, hb⟩
    obtain ⟨⟨r0, r1⟩, rz⟩ := res2 (hb.mono (by simp))
    have HB := hid (HB0.out.trans (hb.mono HB0.out.size))
    have HS1 := hid (HS.out.below hb)
    have c2 := cell_below HB.out H2.out
    have c3 := cell_below HB.out H3.out
    have c4 := cell_below HB.out H4.out
    clear hb
    go_wp2_with fail
    go_region_with (go_at_call 91; refine (HA.out _ (HS1.out.below (below_drawn _ 1))).mono ?_; rintro e w2 ⟨rfl, hb⟩; have HB2 := hid ((HB.out.trans ((below_drawn _ 1).mono HB.out.size)).trans (hb.mono HB.out.size)); clear hb)
    all_goals
      go_wp2_with fail
      go_ret
      exact ⟨rfl, HB2.out⟩

/-- All modules are short. -/
def shortL (L : List Bm) : Prop := ∀ m, m ∈ L → m.1.size < 999999 ∧ m.2.size < 999999

theorem reqE_0 {own : ByteArray} {L : List Bm} (h : 0 < L.length) : reqE own L 0 = reqW own none L[0] := by
  unfold reqE prevOf; rw [List.getElem?_eq_getElem h]; rfl
theorem reqE_1 {own : ByteArray} {L : List Bm} {k : Nat} (h : k + 1 < L.length) : reqE own L (k + 1) = reqW own (some (L[k]'(by omega))) L[k + 1] := by
  unfold reqE prevOf; rw [List.getElem?_eq_getElem h, if_neg (by omega)]; simp only [Nat.add_sub_cancel]; rw [List.getElem?_eq_getElem (show k < L.length by omega)]
theorem exE_0 {L : List Bm} (h : 0 < L.length) : exE L 0 = exW none L[0] := by
  unfold exE prevOf; rw [List.getElem?_eq_getElem h]; rfl
theorem exE_1 {L : List Bm} {k : Nat} (h : k + 1 < L.length) : exE L (k + 1) = exW (some (L[k]'(by omega))) L[k + 1] := by
  unfold exE prevOf; rw [List.getElem?_eq_getElem h, if_neg (by omega)]; simp only [Nat.add_sub_cancel]; rw [List.getElem?_eq_getElem (show k < L.length by omega)]

/-- The closure of CheckReqs at any place. -/
theorem reqK_any (own : ByteArray) (L : List Bm) (b1 b2 : Nat) (v : Value) (A : Nat → Addr) (m : Int) (W : World) (hL : L.length ≤ 1000000) (hs : shortL L) (S : Te W A m) (h1 : W.cell? ⟨b1, 0, none⟩ = some (.string own)) (h2 : W.cell? ⟨b2, 0, none⟩ = some v) (hv : MsAt W v L) (i : Nat) (hi : i < L.length) :
    Calls Tryz.prog 88 (#[.int .i64 (i : Int), .agg #[.string L[i].1, .string L[i].2]] ++ #[.pointer (some ⟨b1, 0, none⟩), .pointer (some ⟨b2, 0, none⟩)]) W fun e w' => e = .returned (errA A (reqE own L i)) ∧ Below W.heap.size W w' := by
  obtain ⟨a, c, rfl, _, h⟩ := hv
  obtain ⟨b, o, rfl, hc⟩ := h (by intro e; rw [e] at hi; simp at hi)
  have hz := hs L[i] (List.getElem_mem hi)
  cases i with
  | zero =>
    rw [reqE_0 hi]
    by_cases e0 : mErr L[0] = 0
    · by_cases e1 : L[0].1 = own
      · exact reqK_own 0 L[0].1 L[0].2 own b1 _ none A m W hz.1 hz.2 S h1 e0 e1
      · exact reqK_0 L[0].1 L[0].2 own b1 _ A m W hz.1 hz.2 S h1 e0 e1
    · exact reqK_bad 0 L[0].1 L[0].2 own b1 _ none A m W hz.1 hz.2 S e0
  | succ k =>
    rw [reqE_1 hi]
    by_cases e0 : mErr L[k + 1] = 0
    · by_cases e1 : L[k + 1].1 = own
      · exact reqK_own _ L[k + 1].1 L[k + 1].2 own b1 _ _ A m W hz.1 hz.2 S h1 e0 e1
      · exact reqK_1 k L[k + 1].1 L[k + 1].2 L[k].1 L[k].2 own b1 b2 b o L.length c A m W hz.1 hz.2 S h1 e0 e1 h2 (by omega) hL (hc k (by omega)).1
    · exact reqK_bad _ L[k + 1].1 L[k + 1].2 own b1 _ _ A m W hz.1 hz.2 S e0
theorem exK_any (L : List Bm) (b2 : Nat) (v : Value) (A : Nat → Addr) (m : Int) (W : World) (hL : L.length ≤ 1000000) (hs : shortL L) (S : Te W A m) (h2 : W.cell? ⟨b2, 0, none⟩ = some v) (hv : MsAt W v L) (i : Nat) (hi : i < L.length) :
    Calls Tryz.prog 90 (#[.int .i64 (i : Int), .agg #[.string L[i].1, .string L[i].2]] ++ #[.pointer (some ⟨b2, 0, none⟩)]) W fun e w' => e = .returned (errA A (exE L i)) ∧ Below W.heap.size W w' := by
  obtain ⟨a, c, rfl, _, h⟩ := hv
  obtain ⟨b, o, rfl, hc⟩ := h (by intro e; rw [e] at hi; simp at hi)
  have hz := hs L[i] (List.getElem_mem hi)
  cases i with
  | zero =>
    rw [exE_0 hi]
    by_cases e0 : mErr L[0] = 0
    · exact exK_0 L[0].1 L[0].2 _ A m W hz.1 hz.2 S e0
    · exact exK_bad 0 L[0].1 L[0].2 _ none A m W hz.1 hz.2 S e0
  | succ k =>
    rw [exE_1 hi]
    by_cases e0 : mErr L[k + 1] = 0
    · exact exK_1 k L[k + 1].1 L[k + 1].2 L[k].1 L[k].2 b2 b o L.length c A m W hz.1 hz.2 (hs L[k] (List.getElem_mem (by omega))).2 S e0 h2 (by omega) hL (hc k (by omega)).1 (hc k (by omega)).2
    · exact exK_bad _ L[k + 1].1 L[k + 1].2 _ _ A m W hz.1 hz.2 S e0

theorem MsAt.slice {w : World} {v : Value} {L : List Bm} (h : MsAt w v L) : ∃ p n c, v = .slice p n c := by
  obtain ⟨a, c, e, _⟩ := h
  exact ⟨a, _, c, e⟩
set_option maxHeartbeats 1000000 in
/-- mod.CheckReqs. -/
theorem reqs_any (own : ByteArray) (L : List Bm) (v : Value) (A : Nat → Addr) (m : Int) (w : World) (hL : L.length ≤ 1000000) (hs : shortL L) (S : Te w A m) (hv : MsAt w v L) :
    Calls Tryz.prog 43 #[.string own, v] w fun e w' => ∃ u, e = .returned u ∧ ErrAt w' A u (codeE (reqE own L) L.length) (fstE (reqE own L) L.length) ∧ Below w.heap.size w w' := by
  obtain ⟨vp, vn, vc, rfl⟩ := hv.slice
  have HB0 := hid (((Below.refl w.heap.size w).alloc (Nat.le_refl _) (.cells #[.string own] 9)).alloc (by simp) (.cells #[.slice vp vn vc] 22))
  have eg : ∀ args w, (callFunc 88 args).run Tryz.prog w = .ok (.enter 88 args) w := enters_of Tryz.func88 (by kernel_rfl) rfl
  have HF := hid (first_any 88 #[.pointer (some ⟨w.heap.size, 0, none⟩), .pointer (some ⟨w.heap.size + 1, 0, none⟩)] (reqE own L) L _ A ((w.alloc (.cells #[.string own] 9)).alloc (.cells #[.slice vp vn vc] 22)) eg hL (hv.below HB0.out) (fun i hi W hW =>
    reqK_any own L w.heap.size (w.heap.size + 1) _ A m W hL hs ((S.below HB0.out).below hW) (cell_below hW (by rw [World.cell?_alloc_lt _ _ _ (by simp)]; simp)) (cell_below hW (by rw [World.cell?_alloc_at _ _ _ _ (by simp)]; rfl)) ((hv.below HB0.out).below hW) i hi))
  clear S hv eg
  go_enter Tryz.func43, Tryz.ntmps43
  go_wp2_with fail
  refine HF.out.mono ?_
  rintro e w1 ⟨u, rfl, he, hb⟩
  have HB := hid (HB0.out.trans (hb.mono HB0.out.size))
  have HE := hid he
  clear hb he
  go_wp2_with fail
  go_ret
  exact ⟨_, rfl, HE.out, HB.out⟩
set_option maxHeartbeats 1000000 in
/-- file.checkExclude. -/
theorem ex_any (L : List Bm) (v : Value) (A : Nat → Addr) (m : Int) (w : World) (hL : L.length ≤ 1000000) (hs : shortL L) (S : Te w A m) (hv : MsAt w v L) :
    Calls Tryz.prog 44 #[v] w fun e w' => ∃ u, e = .returned u ∧ ErrAt w' A u (codeE (exE L) L.length) (fstE (exE L) L.length) ∧ Below w.heap.size w w' := by
  obtain ⟨vp, vn, vc, rfl⟩ := hv.slice
  have HB0 := hid ((Below.refl w.heap.size w).alloc (Nat.le_refl _) (.cells #[.slice vp vn vc] 22))
  have eg : ∀ args w, (callFunc 90 args).run Tryz.prog w = .ok (.enter 90 args) w := enters_of Tryz.func90 (by kernel_rfl) rfl
  have HF := hid (first_any 90 #[.pointer (some ⟨w.heap.size, 0, none⟩)] (exE L) L _ A (w.alloc (.cells #[.slice vp vn vc] 22)) eg hL (hv.below HB0.out) (fun i hi W hW =>
    exK_any L w.heap.size _ A m W hL hs ((S.below HB0.out).below hW) (cell_below hW (by simp)) ((hv.below HB0.out).below hW) i hi))
  clear S hv eg
  go_enter Tryz.func44, Tryz.ntmps44
  go_wp2_with fail
  refine HF.out.mono ?_
  rintro e w1 ⟨u, rfl, he, hb⟩
  have HB := hid (HB0.out.trans (hb.mono HB0.out.size))
  have HE := hid he
  clear hb he
  go_wp2_with fail
  go_ret
  exact ⟨_, rfl, HE.out, HB.out⟩
end Ve
end Go.Proofs.YtmgpbejekglipabGreatDoor

/-
  What == and != say of two modules.
-/
namespace Go.Proofs.YtmgpbejekglipabGreatDoor
open Go.RowKit
namespace Ve

theorem modSame (p v q u : ByteArray) (w : World) : (Op.equalIn 10000 26 (.agg #[.string p, .string v]) (.agg #[.string q, .string u])).run Tryz.prog w = .ok (decide (p = q ∧ v = u)) w := by
  have u3 := Tryz.underlying9
  have a3 := Tryz.isAgg9
  have z3 := Tryz.sizeOf9
  have hS : Tryz.prog.underlying 26 = some (.struct (Tryz.prog.fieldsOf 26)) := by kernel_rfl
  have hp : Tryz.prog.stoodInHeld 26 = false := by kernel_rfl
  rw [show (10000 : Nat) = 9999 + 1 from rfl, run_equalIn_agg w 9999 26 _ _ hS hp]
  simp only [Program.fieldsOf, Tryz.underlying26]
  by_cases h1 : p = q
  · subst h1
    by_cases h2 : v = u
    · subst h2
      have e1 := str_refl p
      have e2 := str_refl v
      go_simp
    · have e1 := str_refl p
      have e2 := str_ne h2
      go_simp
  · have e1 := str_ne h1
    go_simp
theorem modEql (p v q u : ByteArray) (w : World) : (binOp .eql 26 (.agg #[.string p, .string v]) (.agg #[.string q, .string u])).run Tryz.prog w = .ok (.bool (decide (p = q ∧ v = u))) w := by
  rw [run_eql_struct, modSame]; rfl
theorem modNeq (p v q u : ByteArray) (w : World) : (binOp .neq 26 (.agg #[.string p, .string v]) (.agg #[.string q, .string u])).run Tryz.prog w = .ok (.bool (!decide (p = q ∧ v = u))) w := by
  rw [run_neq_struct, modSame]; rfl
theorem modGuard : Tryz.prog.eqGuardType Tryz.prog.depth 26 = false := by kernel_rfl
end Ve
end Go.Proofs.YtmgpbejekglipabGreatDoor

/-
  What Path of package mod, checkClash and Check of package file answer; nothing old in memory turns.
-/
namespace Go.Proofs.YtmgpbejekglipabGreatDoor
open Go.RowKit
namespace Ve

theorem mpath_is (s : ByteArray) (A : Nat → Addr) (m : Int) (w : World) (hs : s.size < 4294967281) (S : Te w A m) :
    Calls Tryz.prog 42 #[.string s] w fun e w' => e = .returned (errA A (pathErr s.data.toList)) ∧ Below w.heap.size w w' := by
  have HP := hid (readPath_any s A m w hs S)
  clear S
  go_enter Tryz.func42, Tryz.ntmps42
  go_wp2_with fail
  refine HP.out.mono ?_
  rintro e w1 ⟨⟨H, n, v, rfl, hv, _, _⟩, hb⟩
  have HV := hid hv
  have HB := hid hb
  clear hb hv
  go_wp2_with fail
  go_ret
  exact ⟨by rw [← HV.out]; rfl, HB.out⟩

theorem mem_of_not {L : List Bm} {x : Bm} (h : ∀ j (hj : j < L.length), L[j] ≠ x) : x ∉ L := fun hm => by
  obtain ⟨j, hj, e⟩ := List.getElem_of_mem hm
  exact h j hj e
set_option maxHeartbeats 1000000 in
theorem index_mods (p v : ByteArray) (L : List Bm) (b o c : Nat) (w : World) (hL : L.length ≤ 1000000)
    (hc : ∀ j (h : j < L.length), w.cell? ⟨b, o + j * 2, none⟩ = some (.string L[j].1) ∧ w.cell? ⟨b, o + j * 2 + 1, none⟩ = some (.string L[j].2)) :
    Calls Tryz.prog 152 #[.slice (some ⟨b, o, none⟩) L.length c, .agg #[.string p, .string v]] w fun e w' => ∃ r : Int, e = .returned (.int .i64 r) ∧ decide (0 ≤ r) = hasB L (p, v) ∧ Below w.heap.size w w' := by
  have HC := hid hc
  have hgd := modGuard
  have HB0 := hid ((Below.refl w.heap.size w).alloc (Nat.le_refl _) (.cells #[.string p, .string v] 26))
  clear hc
  go_enter Tryz.func152, Tryz.ntmps152
  go_wp2_with fail
  go_loopw [8] (fun i wr => ∃ k : Nat, k ≤ L.length ∧ i = .int .i64 k ∧ Hid (∀ j (hj : j < L.length), j < k → L[j] ≠ (p, v)) ∧ Hid (Below (w.heap.size + 1) (w.alloc (.cells #[.string p, .string v] 26)) wr)) (fun i _ => L.length - (intOf i).toNat)
  case atStart => exact ⟨0, Nat.zero_le _, rfl, hid (fun j _ hj => absurd hj (by omega)), hid (Below.refl _ _)⟩
  case round =>
    obtain ⟨k, hk, rfl, HE, HB⟩ := hrel
    obtain ⟨⟨r0, r1⟩, rz⟩ := res2 HB.out
    have HBW := hid (HB0.out.trans (HB.out.mono (by omega)))
    by_cases hlt : k < L.length
    · have hx := cell_below HBW.out (HC.out k hlt).1
      have hy := cell_below HBW.out (HC.out k hlt).2
      have heq := fun W => modEql p v L[k].1 L[k].2 W
      by_cases h0 : p = L[k].1 ∧ v = L[k].2
      · have HM := hid (show (p, v) ∈ L from by rw [h0.1, h0.2]; exact List.getElem_mem hlt)
        rw [decide_eq_true h0] at heq
        clear h0
        go_wp2_with fail
        go_quiet (fail)
        go_wp2_with fail
        go_ret
        exact ⟨_, rfl, by rw [hasB_iff.2 HM.out]; exact decide_eq_true (by omega), below_drawn_of HBW.out _⟩
      · have HM := hid (show L[k] ≠ (p, v) from fun e => h0 (by rw [e]; exact ⟨rfl, rfl⟩))
        rw [decide_eq_false h0] at heq
        clear h0
        go_wp2_with fail
        go_quiet (fail)
        go_wp2_with fail
        go_roundw
        case rel => exact ⟨k + 1, by omega, by go_num, hid (fun j hj hjk => by
          rcases Nat.lt_or_ge j k with h | h
          · exact HE.out j hj h
          · have : j = k := by omega
            subst this; exact HM.out), hid (below_drawn_of HB.out _)⟩
        case measure => simp [intOf]; omega
    · have HM := hid (mem_of_not (fun j hj => HE.out j hj (by omega)))
      go_wp2_with fail
      go_ret
      exact ⟨_, rfl, by rw [hasB_not HM.out]; rfl, HBW.out⟩
theorem index_none (p v : ByteArray) (a : Option Addr) (c : Nat) (w : World) :
    Calls Tryz.prog 152 #[.slice a 0 c, .agg #[.string p, .string v]] w fun e w' => ∃ r : Int, e = .returned (.int .i64 r) ∧ decide (0 ≤ r) = false ∧ Below w.heap.size w w' := by
  have HB0 := hid ((Below.refl w.heap.size w).alloc (Nat.le_refl _) (.cells #[.string p, .string v] 26))
  go_enter Tryz.func152, Tryz.ntmps152
  go_wp2_with fail
  go_loopw [8] (fun i wr => i = .int .i64 0 ∧ Hid (Below w.heap.size w wr)) (fun i _ => 0)
  case atStart => exact ⟨rfl, HB0⟩
  case round =>
    obtain ⟨rfl, HB⟩ := hrel
    go_wp2_with fail
    go_ret
    exact ⟨_, rfl, rfl, HB.out⟩
theorem indexM_any (p v : ByteArray) (L : List Bm) (u : Value) (w : World) (hL : L.length ≤ 1000000) (hu : MsAt w u L) :
    Calls Tryz.prog 152 #[u, .agg #[.string p, .string v]] w fun e w' => ∃ r : Int, e = .returned (.int .i64 r) ∧ decide (0 ≤ r) = hasB L (p, v) ∧ Below w.heap.size w w' := by
  obtain ⟨a, c, rfl, _, h⟩ := hu
  cases L with
  | nil => exact (index_none p v a c w).mono fun e w' ⟨r, h1, h2, h3⟩ => ⟨r, h1, by rw [h2]; rfl, h3⟩
  | cons x r =>
    obtain ⟨b, o, rfl, h2⟩ := h (by simp)
    exact index_mods p v (x :: r) b o c w hL h2
set_option maxHeartbeats 1000000 in
theorem hasM_any (p v : ByteArray) (L : List Bm) (u : Value) (w : World) (hL : L.length ≤ 1000000) (hu : MsAt w u L) :
    Calls Tryz.prog 93 #[u, .agg #[.string p, .string v]] w fun e w' => e = .returned (.bool (hasB L (p, v))) ∧ Below w.heap.size w w' := by
  obtain ⟨up, un, uc, rfl⟩ := hu.slice
  have HB0 := hid ((Below.refl w.heap.size w).alloc (Nat.le_refl _) (.cells #[.string p, .string v] 26))
  have HI := hid (indexM_any p v L _ _ hL (hu.below HB0.out))
  clear hu
  go_enter Tryz.func93, Tryz.ntmps93
  go_wp2_with fail
  refine HI.out.mono ?_
  rintro e w1 ⟨r, rfl, hr, hb⟩
  have HR := hid hr
  have HB := hid (HB0.out.trans (hb.mono HB0.out.size))
  clear hb hr
  go_wp2_with fail
  go_ret
  exact ⟨ret_bool HR.out, HB.out⟩

theorem res3 {w w3 : World} {a b c : Value} {T : TypeId} (hb : Below (w.heap.size + 1) (w.alloc (.cells #[a, b, c] T)) w3) :
    (w3.cell? ⟨w.heap.size, 0, none⟩ = some a ∧ w3.cell? ⟨w.heap.size, 1, none⟩ = some b ∧ w3.cell? ⟨w.heap.size, 2, none⟩ = some c) ∧ w.heap.size < w3.heap.size := by
  refine ⟨⟨?_, ?_, ?_⟩, ?_⟩
  · rw [hb.cell (by simp)]; simp
  · rw [hb.cell (by simp)]; simp
  · rw [hb.cell (by simp)]; simp
  · have := hb.size; simp at this; omega
theorem clE_at {X L : List Bm} {i : Nat} (h : i < L.length) : clE X L i = if hasB X L[i] then 9 else 0 := by unfold clE; rw [List.getElem?_eq_getElem h]
set_option maxHeartbeats 1000000 in
theorem clK_any (X L : List Bm) (b1 : Nat) (u : Value) (A : Nat → Addr) (m : Int) (W : World) (hX : X.length ≤ 1000000) (S : Te W A m) (h1 : W.cell? ⟨b1, 2, none⟩ = some u) (hu : MsAt W u X) (i : Nat) (hi : i < L.length) :
    Calls Tryz.prog 92 (#[.int .i64 (i : Int), .agg #[.string L[i].1, .string L[i].2]] ++ #[.pointer (some ⟨b1, 0, none⟩)]) W fun e w' => e = .returned (errA A (clE X L i)) ∧ Below W.heap.size W w' := by
  rw [clE_at hi]
  show Calls Tryz.prog 92 #[.int .i64 (i : Int), .agg #[.string L[i].1, .string L[i].2], .pointer (some ⟨b1, 0, none⟩)] W _
  obtain ⟨up, un, uc, rfl⟩ := hu.slice
  generalize hp : L[i].1 = p
  generalize hv : L[i].2 = v
  have hm : L[i] = (p, v) := by rw [← hp, ← hv]
  rw [hm]
  clear hp hv hm
  have HB0 := hid ((Below.refl W.heap.size W).alloc (Nat.le_refl _) (.cells #[.string p, .string v] 26))
  have HH := hid (hasM_any p v X _ _ hX (hu.below HB0.out))
  have HS := hid (S.below HB0.out)
  have c1 := cell_below HB0.out h1
  have hlt := lt_of_cell h1
  clear hu h1 S
  cases h : hasB X (p, v)
  rotate_left
  · rw [if_pos rfl, errA_if A (by omega)]
    rw [h] at HH
    clear h
    go_enter Tryz.func92, Tryz.ntmps92
    go_wp2_with fail
    refine HH.out.mono ?_
    rintro e w1 ⟨rfl, hb⟩
    have HB := hid (HB0.out.trans (hb.mono HB0.out.size))
    have gg := (HS.out.below hb).sen.g8
    clear hb
    go_wp2_with fail
    go_ret
    exact ⟨rfl, HB.out⟩
  · rw [if_neg (by simp), errA0]
    rw [h] at HH
    clear h
    go_enter Tryz.func92, Tryz.ntmps92
    go_wp2_with fail
    refine HH.out.mono ?_
    rintro e w1 ⟨rfl, hb⟩
    have HB := hid (HB0.out.trans (hb.mono HB0.out.size))
    clear hb
    go_wp2_with fail
    go_ret
    exact ⟨rfl, HB.out⟩
set_option maxHeartbeats 1000000 in
/-- file.checkClash. -/
theorem clash_any (p : ByteArray) (L X : List Bm) (v u : Value) (A : Nat → Addr) (m : Int) (w : World) (hL : L.length ≤ 1000000) (hX : X.length ≤ 1000000) (S : Te w A m) (hv : MsAt w v L) (hu : MsAt w u X) :
    Calls Tryz.prog 45 #[.agg #[.string p, v, u]] w fun e w' => ∃ x, e = .returned x ∧ ErrAt w' A x (codeE (clE X L) L.length) (fstE (clE X L) L.length) ∧ Below w.heap.size w w' := by
  obtain ⟨vp, vn, vc, rfl⟩ := hv.slice
  obtain ⟨up, un, uc, rfl⟩ := hu.slice
  have HB0 := hid ((Below.refl w.heap.size w).alloc (Nat.le_refl _) (.cells #[.string p, .slice vp vn vc, .slice up un uc] 24))
  have eg : ∀ args w, (callFunc 92 args).run Tryz.prog w = .ok (.enter 92 args) w := enters_of Tryz.func92 (by kernel_rfl) rfl
  have HF := hid (first_any 92 #[.pointer (some ⟨w.heap.size, 0, none⟩)] (clE X L) L _ A (w.alloc (.cells #[.string p, .slice vp vn vc, .slice up un uc] 24)) eg hL (hv.below HB0.out) (fun i hi W hW =>
    clK_any X L w.heap.size _ A m W hX ((S.below HB0.out).below hW) (cell_below hW (by simp)) ((hu.below HB0.out).below hW) i hi))
  clear S hv hu eg
  go_enter Tryz.func45, Tryz.ntmps45
  go_wp2_with fail
  refine HF.out.mono ?_
  rintro e w1 ⟨x, rfl, he, hb⟩
  have HB := hid (HB0.out.trans (hb.mono HB0.out.size))
  have HE := hid he
  clear hb he
  go_wp2_with fail
  go_ret
  exact ⟨_, rfl, HE.out, HB.out⟩
end Ve
end Go.Proofs.YtmgpbejekglipabGreatDoor

/-
  What Check of package file answers: what is wrong with a file, and where; nothing old in memory turns.
-/
namespace Go.Proofs.YtmgpbejekglipabGreatDoor
open Go.RowKit
namespace Ve

/-- What the walks ask of a file. -/
structure Fl (w : World) (R X : List Bm) (v u : Value) : Prop where
  r : MsAt w v R
  x : MsAt w u X
  rs : shortL R
  xs : shortL X
  rn : R.length ≤ 1000000
  xn : X.length ≤ 1000000
theorem Fl.below {w w' : World} {R X : List Bm} {v u : Value} (h : Fl w R X v u) (hb : Below w.heap.size w w') : Fl w' R X v u := ⟨h.r.below hb, h.x.below hb, h.rs, h.xs, h.rn, h.xn⟩
theorem Fl.slices {w : World} {R X : List Bm} {v u : Value} (h : Fl w R X v u) : (∃ a c, v = .slice a R.length c) ∧ ∃ a c, u = .slice a X.length c := by
  obtain ⟨a, c, e, _⟩ := h.r
  obtain ⟨a2, c2, e2, _⟩ := h.x
  exact ⟨⟨a, c, e⟩, a2, c2, e2⟩

theorem fileF_path {p : ByteArray} {R X : List Bm} (h : pathErr p.data.toList ≠ 0) : fileF p R X = (pathErr p.data.toList, none) := by unfold fileF; rw [if_neg h]
theorem fileF_full {p : ByteArray} {R X : List Bm} (h : pathErr p.data.toList = 0) (h2 : 20 < R.length ∨ 20 < X.length) : fileF p R X = (7, none) := by unfold fileF; rw [if_pos h, if_pos h2]
theorem fileF_req {p : ByteArray} {R X : List Bm} {i : Nat} (h : pathErr p.data.toList = 0) (h2 : ¬ (20 < R.length ∨ 20 < X.length)) (h3 : fstE (reqE p R) R.length = some i) : fileF p R X = (reqE p R i, some i) := by unfold fileF; rw [if_pos h, if_neg h2, h3]
theorem fileF_ex {p : ByteArray} {R X : List Bm} {i : Nat} (h : pathErr p.data.toList = 0) (h2 : ¬ (20 < R.length ∨ 20 < X.length)) (h3 : fstE (reqE p R) R.length = none) (h4 : fstE (exE X) X.length = some i) : fileF p R X = (exE X i, some i) := by unfold fileF; rw [if_pos h, if_neg h2, h3]; simp only; rw [h4]
theorem fileF_cl {p : ByteArray} {R X : List Bm} (h : pathErr p.data.toList = 0) (h2 : ¬ (20 < R.length ∨ 20 < X.length)) (h3 : fstE (reqE p R) R.length = none) (h4 : fstE (exE X) X.length = none) : fileF p R X = (codeE (clE X R) R.length, fstE (clE X R) R.length) := by
  unfold fileF; rw [if_pos h, if_neg h2, h3]; simp only; rw [h4]; simp only
  cases h5 : fstE (clE X R) R.length with
  | none => rw [codeE_none h5]
  | some i =>
    rw [codeE_some h5]
    obtain ⟨h6, h7, _⟩ := fstE_of_some h5
    rw [clE_at h6] at h7 ⊢
    simp only
    by_cases h8 : hasB X R[i] = true
    · rw [if_pos h8]
    · rw [if_neg h8] at h7; exact absurd rfl h7

set_option maxHeartbeats 1000000 in
theorem check_path (p : ByteArray) (R X : List Bm) (v u : Value) (A : Nat → Addr) (m : Int) (w : World) (hp : p.size < 999999) (S : Te w A m) (F : Fl w R X v u) (h : pathErr p.data.toList ≠ 0) :
    Calls Tryz.prog 11 #[.agg #[.string p, v, u]] w fun e w' => ∃ x, e = .returned x ∧ ErrAt w' A x (fileF p R X).1 (fileF p R X).2 ∧ Below w.heap.size w w' := by
  rw [fileF_path h]
  obtain ⟨⟨vp, vc, rfl⟩, up, uc, rfl⟩ := F.slices
  have HB0 := hid ((Below.refl w.heap.size w).alloc (Nat.le_refl _) (.cells #[.string p, .slice vp R.length vc, .slice up X.length uc] 24))
  have HP := hid (mpath_is p A m _ (by omega) (S.below HB0.out))
  have HE := hid (errA_if A h)
  rw [HE.out] at HP
  clear S F h
  go_enter Tryz.func11, Tryz.ntmps11
  go_wp2_with fail
  refine HP.out.mono ?_
  rintro e w1 ⟨rfl, hb⟩
  have HB := hid (HB0.out.trans (hb.mono HB0.out.size))
  clear hb
  go_wp2_with fail
  go_ret
  exact ⟨_, rfl, HE.out.symm, HB.out⟩
set_option maxHeartbeats 1000000 in
theorem check_full (p : ByteArray) (R X : List Bm) (v u : Value) (A : Nat → Addr) (m : Int) (w : World) (hp : p.size < 999999) (S : Te w A m) (F : Fl w R X v u) (h : pathErr p.data.toList = 0) (h2 : 20 < R.length ∨ 20 < X.length) :
    Calls Tryz.prog 11 #[.agg #[.string p, v, u]] w fun e w' => ∃ x, e = .returned x ∧ ErrAt w' A x (fileF p R X).1 (fileF p R X).2 ∧ Below w.heap.size w w' := by
  rw [fileF_full h h2]
  obtain ⟨⟨vp, vc, rfl⟩, up, uc, rfl⟩ := F.slices
  have HB0 := hid ((Below.refl w.heap.size w).alloc (Nat.le_refl _) (.cells #[.string p, .slice vp R.length vc, .slice up X.length uc] 24))
  have HS := hid (S.below HB0.out)
  have HP := hid (mpath_is p A m _ (by omega) HS.out)
  rw [h, errA0] at HP
  clear S F h
  by_cases h3 : 20 < R.length
  · have h4 : (20 : Int) < (R.length : Int) := by omega
    go_enter Tryz.func11, Tryz.ntmps11
    go_wp2_with fail
    refine HP.out.mono ?_
    rintro e w1 ⟨rfl, hb⟩
    obtain ⟨⟨r0, r1, r2⟩, rz⟩ := res3 (hb.mono (by simp))
    have HB := hid (HB0.out.trans (hb.mono HB0.out.size))
    have gg := (HS.out.below hb).sen.g6
    clear hb
    go_wp2_with fail
    go_ret
    exact ⟨_, rfl, rfl, HB.out⟩
  · have h3' : ¬ (20 : Int) < (R.length : Int) := by omega
    have h4 : (20 : Int) < (X.length : Int) := by omega
    clear h2 h3
    go_enter Tryz.func11, Tryz.ntmps11
    go_wp2_with fail
    refine HP.out.mono ?_
    rintro e w1 ⟨rfl, hb⟩
    obtain ⟨⟨r0, r1, r2⟩, rz⟩ := res3 (hb.mono (by simp))
    have HB := hid (HB0.out.trans (hb.mono HB0.out.size))
    have gg := (HS.out.below hb).sen.g6
    clear hb
    go_wp2_with fail
    go_ret
    exact ⟨_, rfl, rfl, HB.out⟩
set_option maxHeartbeats 1000000 in
theorem check_req (p : ByteArray) (R X : List Bm) (v u : Value) (i : Nat) (A : Nat → Addr) (m : Int) (w : World) (hp : p.size < 999999) (S : Te w A m) (F : Fl w R X v u) (h : pathErr p.data.toList = 0) (h2 : ¬ (20 < R.length ∨ 20 < X.length)) (h3 : fstE (reqE p R) R.length = some i) :
    Calls Tryz.prog 11 #[.agg #[.string p, v, u]] w fun e w' => ∃ x, e = .returned x ∧ ErrAt w' A x (fileF p R X).1 (fileF p R X).2 ∧ Below w.heap.size w w' := by
  rw [fileF_req h h2 h3]
  obtain ⟨⟨vp, vc, rfl⟩, up, uc, rfl⟩ := F.slices
  have HB0 := hid ((Below.refl w.heap.size w).alloc (Nat.le_refl _) (.cells #[.string p, .slice vp R.length vc, .slice up X.length uc] 24))
  have HS := hid (S.below HB0.out)
  have HP := hid (mpath_is p A m _ (by omega) HS.out)
  rw [h, errA0] at HP
  have HF := hid (F.below HB0.out)
  have H3 := hid h3
  have h4 : ¬ (20 : Int) < (R.length : Int) := by omega
  have h5 : ¬ (20 : Int) < (X.length : Int) := by omega
  clear S F h h2 h3
  go_enter Tryz.func11, Tryz.ntmps11
  go_wp2_with fail
  refine HP.out.mono ?_
  rintro e w1 ⟨rfl, hb⟩
  obtain ⟨⟨r0, r1, r2⟩, rz⟩ := res3 (hb.mono (by simp))
  have HB := hid (HB0.out.trans (hb.mono HB0.out.size))
  have HS1 := hid (HS.out.below hb)
  have HF1 := hid (HF.out.below hb)
  clear hb
  go_wp2_with fail
  refine (reqs_any p R _ A m _ HF1.out.rn HF1.out.rs HS1.out HF1.out.r).mono ?_
  rintro e w2 ⟨x, rfl, he, hb⟩
  rw [codeE_some H3.out, H3.out] at he
  obtain ⟨h0, b, rfl, hx, hy⟩ := he
  have HX := hid (show ErrAt w2 A (.iface 120 (.pointer (some ⟨b, 0, none⟩))) (reqE p R i) (some i) from ⟨h0, b, rfl, hx, hy⟩)
  have HB2 := hid (HB.out.trans (hb.mono HB.out.size))
  clear hb hx hy h0
  go_wp2_with fail
  go_ret
  exact ⟨_, rfl, HX.out, HB2.out⟩
set_option maxHeartbeats 1000000 in
theorem check_ex (p : ByteArray) (R X : List Bm) (v u : Value) (i : Nat) (A : Nat → Addr) (m : Int) (w : World) (hp : p.size < 999999) (S : Te w A m) (F : Fl w R X v u) (h : pathErr p.data.toList = 0) (h2 : ¬ (20 < R.length ∨ 20 < X.length)) (h3 : fstE (reqE p R) R.length = none) (h4 : fstE (exE X) X.length = some i) :
    Calls Tryz.prog 11 #[.agg #[.string p, v, u]] w fun e w' => ∃ x, e = .returned x ∧ ErrAt w' A x (fileF p R X).1 (fileF p R X).2 ∧ Below w.heap.size w w' := by
  rw [fileF_ex h h2 h3 h4]
  obtain ⟨⟨vp, vc, rfl⟩, up, uc, rfl⟩ := F.slices
  have HB0 := hid ((Below.refl w.heap.size w).alloc (Nat.le_refl _) (.cells #[.string p, .slice vp R.length vc, .slice up X.length uc] 24))
  have HS := hid (S.below HB0.out)
  have HP := hid (mpath_is p A m _ (by omega) HS.out)
  rw [h, errA0] at HP
  have HF := hid (F.below HB0.out)
  have H3 := hid h3
  have H4 := hid h4
  have h5 : ¬ (20 : Int) < (R.length : Int) := by omega
  have h6 : ¬ (20 : Int) < (X.length : Int) := by omega
  clear S F h h2 h3 h4
  go_enter Tryz.func11, Tryz.ntmps11
  go_wp2_with fail
  refine HP.out.mono ?_
  rintro e w1 ⟨rfl, hb⟩
  have HBa := hid (hb.mono (show w.heap.size + 1 ≤ _ by simp))
  obtain ⟨⟨r0, r1, r2⟩, rz⟩ := res3 HBa.out
  have HB := hid (HB0.out.trans (hb.mono HB0.out.size))
  have HS1 := hid (HS.out.below hb)
  have HF1 := hid (HF.out.below hb)
  clear hb
  go_wp2_with fail
  refine (reqs_any p R _ A m _ HF1.out.rn HF1.out.rs HS1.out HF1.out.r).mono ?_
  rintro e w2 ⟨x, rfl, he, hb⟩
  rw [codeE_none H3.out, H3.out] at he
  have he : x = .nilIface := he
  subst he
  have HBb := hid (HBa.out.trans (hb.mono (by omega)))
  obtain ⟨⟨s0, s1, s2⟩, sz⟩ := res3 HBb.out
  have HB2 := hid (HB.out.trans (hb.mono HB.out.size))
  have HS2 := hid (HS1.out.below hb)
  have HF2 := hid (HF1.out.below hb)
  clear hb r0 r1 r2
  go_wp2_with fail
  refine (ex_any X _ A m _ HF2.out.xn HF2.out.xs HS2.out HF2.out.x).mono ?_
  rintro e w3 ⟨x, rfl, he, hb⟩
  rw [codeE_some H4.out, H4.out] at he
  obtain ⟨h0, b, rfl, hx, hy⟩ := he
  have HX := hid (show ErrAt w3 A (.iface 120 (.pointer (some ⟨b, 0, none⟩))) (exE X i) (some i) from ⟨h0, b, rfl, hx, hy⟩)
  have HB3 := hid (HB2.out.trans (hb.mono HB2.out.size))
  clear hb hx hy h0
  go_wp2_with fail
  go_ret
  exact ⟨_, rfl, HX.out, HB3.out⟩
set_option maxHeartbeats 1000000 in
theorem check_cl (p : ByteArray) (R X : List Bm) (v u : Value) (A : Nat → Addr) (m : Int) (w : World) (hp : p.size < 999999) (S : Te w A m) (F : Fl w R X v u) (h : pathErr p.data.toList = 0) (h2 : ¬ (20 < R.length ∨ 20 < X.length)) (h3 : fstE (reqE p R) R.length = none) (h4 : fstE (exE X) X.length = none) :
    Calls Tryz.prog 11 #[.agg #[.string p, v, u]] w fun e w' => ∃ x, e = .returned x ∧ ErrAt w' A x (fileF p R X).1 (fileF p R X).2 ∧ Below w.heap.size w w' := by
  rw [fileF_cl h h2 h3 h4]
  obtain ⟨⟨vp, vc, rfl⟩, up, uc, rfl⟩ := F.slices
  have HB0 := hid ((Below.refl w.heap.size w).alloc (Nat.le_refl _) (.cells #[.string p, .slice vp R.length vc, .slice up X.length uc] 24))
  have HS := hid (S.below HB0.out)
  have HP := hid (mpath_is p A m _ (by omega) HS.out)
  rw [h, errA0] at HP
  have HF := hid (F.below HB0.out)
  have H3 := hid h3
  have H4 := hid h4
  have h5 : ¬ (20 : Int) < (R.length : Int) := by omega
  have h6 : ¬ (20 : Int) < (X.length : Int) := by omega
  clear S F h h2 h3 h4
  go_enter Tryz.func11, Tryz.ntmps11
  go_wp2_with fail
  refine HP.out.mono ?_
  rintro e w1 ⟨rfl, hb⟩
  have HBa := hid (hb.mono (show w.heap.size + 1 ≤ _ by simp))
  obtain ⟨⟨r0, r1, r2⟩, rz⟩ := res3 HBa.out
  have HB := hid (HB0.out.trans (hb.mono HB0.out.size))
  have HS1 := hid (HS.out.below hb)
  have HF1 := hid (HF.out.below hb)
  clear hb
  go_wp2_with fail
  refine (reqs_any p R _ A m _ HF1.out.rn HF1.out.rs HS1.out HF1.out.r).mono ?_
  rintro e w2 ⟨x, rfl, he, hb⟩
  rw [codeE_none H3.out, H3.out] at he
  have he : x = .nilIface := he
  subst he
  have HBb := hid (HBa.out.trans (hb.mono (by omega)))
  obtain ⟨⟨s0, s1, s2⟩, sz⟩ := res3 HBb.out
  have HB2 := hid (HB.out.trans (hb.mono HB.out.size))
  have HS2 := hid (HS1.out.below hb)
  have HF2 := hid (HF1.out.below hb)
  clear hb r0 r1 r2
  go_wp2_with fail
  refine (ex_any X _ A m _ HF2.out.xn HF2.out.xs HS2.out HF2.out.x).mono ?_
  rintro e w3 ⟨x, rfl, he, hb⟩
  rw [codeE_none H4.out, H4.out] at he
  have he : x = .nilIface := he
  subst he
  have HBc := hid (HBb.out.trans (hb.mono (by omega)))
  obtain ⟨⟨q0, q1, q2⟩, qz⟩ := res3 HBc.out
  have HB3 := hid (HB2.out.trans (hb.mono HB2.out.size))
  have HS3 := hid (HS2.out.below hb)
  have HF3 := hid (HF2.out.below hb)
  clear hb s0 s1 s2
  go_wp2_with fail
  refine (clash_any p R X _ _ A m _ HF3.out.rn HF3.out.xn HS3.out HF3.out.r HF3.out.x).mono ?_
  rintro e w4 ⟨x, rfl, he, hb⟩
  have HX := hid he
  have HB4 := hid (HB3.out.trans (hb.mono HB3.out.size))
  clear hb he
  go_wp2_with fail
  go_ret
  exact ⟨_, rfl, HX.out, HB4.out⟩
/-- file.Check. -/
theorem fcheck_any (p : ByteArray) (R X : List Bm) (v u : Value) (A : Nat → Addr) (m : Int) (w : World) (hp : p.size < 999999) (S : Te w A m) (F : Fl w R X v u) :
    Calls Tryz.prog 11 #[.agg #[.string p, v, u]] w fun e w' => ∃ x, e = .returned x ∧ ErrAt w' A x (fileF p R X).1 (fileF p R X).2 ∧ Below w.heap.size w w' := by
  by_cases h : pathErr p.data.toList = 0
  · by_cases h2 : 20 < R.length ∨ 20 < X.length
    · exact check_full p R X v u A m w hp S F h h2
    · cases h3 : fstE (reqE p R) R.length with
      | some i => exact check_req p R X v u i A m w hp S F h h2 h3
      | none =>
        cases h4 : fstE (exE X) X.length with
        | some i => exact check_ex p R X v u i A m w hp S F h h2 h3 h4
        | none => exact check_cl p R X v u A m w hp S F h h2 h3 h4
  · exact check_path p R X v u A m w hp S F h
end Ve
end Go.Proofs.YtmgpbejekglipabGreatDoor
