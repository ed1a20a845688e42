/-
  FileC
-/
import Derived.Test.YtiebgeamfblbdaaGreatDoorFb24
import Derived.Deep.RegionHeld
namespace Go.Proofs.YtiebgeamfblbdaaGreatDoor
open Go.RowKit
namespace Ve
theorem exW_bad {o : Option Bm} {m : Bm} (h : mErr m ≠ 0) : exW o m = mErr m := by unfold exW; rw [if_neg h]
theorem exW_none {m : Bm} (h : mErr m = 0) : exW none m = 0 := by unfold exW; rw [if_pos h]
theorem exW_some {p m : Bm} (h : mErr m = 0) : exW (some p) m = if mAhead p m then 0 else 8 := by unfold exW; rw [if_pos h]
set_option maxHeartbeats 1000000 in
theorem exK_bad (i : Int) (p v : ByteArray) (x : Value) (pr : Option Bm) (A : Nat → Addr) (m : Int) (W : World) (hp : p.size < 999999) (hv : v.size < 999999) (S : Te W A m) (h : mErr (p, v) ≠ 0) :
    Calls Tryz.prog 33 #[.int .i64 i, .agg #[.string p, .string v], x] W fun e w' => e = .returned (errA A (exW pr (p, v))) ∧ Below W.heap.size W w' := by
  rw [exW_bad h, errA_if A h]
  have HB0 := hid ((Below.refl W.heap.size W).alloc (Nat.le_refl _) (.cells #[.string p, .string v] 26))
  have HC := hid (mcheck_any p v A m _ (by omega) (by omega) (S.below HB0.out))
  rw [show modErr p.data.toList v.data.toList = mErr (p, v) from rfl, errA_if A h] at HC
  clear S h
  go_enter Tryz.func33, Tryz.ntmps33
  go_wp2_with fail
  refine HC.out.mono ?_
  rintro e w1 ⟨rfl, hb⟩
  have HB := hid (HB0.out.trans (hb.mono HB0.out.size))
  clear hb
  go_wp2_with fail
  go_ret
  exact ⟨rfl, HB.out⟩
set_option maxHeartbeats 1000000 in
theorem exK_0 (p v : ByteArray) (x : Value) (A : Nat → Addr) (m : Int) (W : World) (hp : p.size < 999999) (hv : v.size < 999999) (S : Te W A m) (h : mErr (p, v) = 0) :
    Calls Tryz.prog 33 #[.int .i64 0, .agg #[.string p, .string v], x] W fun e w' => e = .returned (errA A (exW none (p, v))) ∧ Below W.heap.size W w' := by
  rw [exW_none h, errA0]
  have HB0 := hid ((Below.refl W.heap.size W).alloc (Nat.le_refl _) (.cells #[.string p, .string v] 26))
  have HC := hid (mcheck_any p v A m _ (by omega) (by omega) (S.below HB0.out))
  rw [show modErr p.data.toList v.data.toList = mErr (p, v) from rfl, h, errA0] at HC
  clear S h
  go_enter Tryz.func33, Tryz.ntmps33
  go_wp2_with fail
  refine HC.out.mono ?_
  rintro e w1 ⟨rfl, hb⟩
  obtain ⟨⟨r0, r1⟩, rz⟩ := res2 (hb.mono (by simp))
  have HB := hid (HB0.out.trans (hb.mono HB0.out.size))
  clear hb
  go_wp2_with fail
  go_quiet (fail)
  go_wp2_with fail
  go_ret
  exact ⟨rfl, below_drawn_of HB.out _⟩
set_option maxHeartbeats 1000000 in
theorem exK_1 (k : Nat) (p v q u : ByteArray) (b2 b o n c : Nat) (A : Nat → Addr) (m : Int) (W : World) (hp : p.size < 999999) (hv : v.size < 999999) (hu : u.size < 999999) (S : Te W A m) (h : mErr (p, v) = 0)
    (h2 : W.cell? ⟨b2, 0, none⟩ = some (.slice (some ⟨b, o, none⟩) n c)) (hk : k < n) (hn : n ≤ 1000000) (h3 : W.cell? ⟨b, o + k * 2, none⟩ = some (.string q)) (h4 : W.cell? ⟨b, o + k * 2 + 1, none⟩ = some (.string u)) :
    Calls Tryz.prog 33 #[.int .i64 ((k : Int) + 1), .agg #[.string p, .string v], .pointer (some ⟨b2, 0, none⟩)] W fun e w' => e = .returned (errA A (exW (some (q, u)) (p, v))) ∧ Below W.heap.size W w' := by
  rw [exW_some h]
  have HB0 := hid ((Below.refl W.heap.size W).alloc (Nat.le_refl _) (.cells #[.string p, .string v] 26))
  have HS := hid (S.below HB0.out)
  have HC := hid (mcheck_any p v A m _ (by omega) (by omega) HS.out)
  rw [show modErr p.data.toList v.data.toList = mErr (p, v) from rfl, h, errA0] at HC
  have HA := hid (fun W (SW : Te W A m) => ahead_any q u p v A m W hu hv SW)
  rw [show aheadB q.data.toList u.data.toList p.data.toList v.data.toList = mAhead (q, u) (p, v) from rfl] at HA
  have H2 := hid h2
  have H3 := hid h3
  have H4 := hid h4
  clear S h h2 h3 h4
  have g1 : (0 : Int) ≤ (k : Int) := by omega
  have g2 : (k : Int) < (n : Int) := by omega
  have g3 : (k : Int) + 1 - 1 = (k : Int) := by omega
  have g4 : (0 : Int) < (k : Int) + 1 := by omega
  have gw : IntKind.i64.wrap (k : Int) = (k : Int) := by rw [IntKind.wrap_i64]; omega
  generalize hz : mAhead (q, u) (p, v) = z at *
  clear hz
  cases z
  · rw [if_neg (by simp), errA_if A (by omega)]
    go_enter Tryz.func33, Tryz.ntmps33
    go_wp2_with fail
    refine HC.out.mono ?_
    rintro e w1 ⟨rfl, hb⟩
    obtain ⟨⟨r0, r1⟩, rz⟩ := res2 (hb.mono (by simp))
    have HB := hid (HB0.out.trans (hb.mono HB0.out.size))
    have HS1 := hid (HS.out.below hb)
    have c2 := cell_below HB.out H2.out
    have c3 := cell_below HB.out H3.out
    have c4 := cell_below HB.out H4.out
    clear hb
    go_wp2_with fail
    go_region_with (go_at_call 34; refine (HA.out _ (HS1.out.below (below_drawn _ 1))).mono ?_; rintro e w2 ⟨rfl, hb⟩; have HB2 := hid ((HB.out.trans ((below_drawn _ 1).mono HB.out.size)).trans (hb.mono HB.out.size)); have gg := ((HS1.out.below (below_drawn _ 1)).below hb).sen.g7; clear hb)
    all_goals
      go_wp2_with fail
      go_ret
      exact ⟨rfl, HB2.out⟩
  · rw [if_pos rfl, errA0]
    go_enter Tryz.func33, Tryz.ntmps33
    go_wp2_with fail
    refine HC.out.mono ?_
    rintro e w1 ⟨rfl, hb⟩
    obtain ⟨⟨r0, r1⟩, rz⟩ := res2 (hb.mono (by simp))
    have HB := hid (HB0.out.trans (hb.mono HB0.out.size))
    have HS1 := hid (HS.out.below hb)
    have c2 := cell_below HB.out H2.out
    have c3 := cell_below HB.out H3.out
    have c4 := cell_below HB.out H4.out
    clear hb
    go_wp2_with fail
    go_region_with (go_at_call 34; refine (HA.out _ (HS1.out.below (below_drawn _ 1))).mono ?_; rintro e w2 ⟨rfl, hb⟩; have HB2 := hid ((HB.out.trans ((below_drawn _ 1).mono HB.out.size)).trans (hb.mono HB.out.size)); clear hb)
    all_goals
      go_wp2_with fail
      go_ret
      exact ⟨rfl, HB2.out⟩
def shortL (L : List Bm) : Prop := ∀ m, m ∈ L → m.1.size < 999999 ∧ m.2.size < 999999
theorem reqE_0 {own : ByteArray} {L : List Bm} (h : 0 < L.length) : reqE own L 0 = reqW own none L[0] := by
  unfold reqE prevOf; rw [List.getElem?_eq_getElem h]; rfl
theorem reqE_1 {own : ByteArray} {L : List Bm} {k : Nat} (h : k + 1 < L.length) : reqE own L (k + 1) = reqW own (some (L[k]'(by omega))) L[k + 1] := by
  unfold reqE prevOf; rw [List.getElem?_eq_getElem h, if_neg (by omega)]; simp only [Nat.add_sub_cancel]; rw [List.getElem?_eq_getElem (show k < L.length by omega)]
theorem exE_0 {L : List Bm} (h : 0 < L.length) : exE L 0 = exW none L[0] := by
  unfold exE prevOf; rw [List.getElem?_eq_getElem h]; rfl
theorem exE_1 {L : List Bm} {k : Nat} (h : k + 1 < L.length) : exE L (k + 1) = exW (some (L[k]'(by omega))) L[k + 1] := by
  unfold exE prevOf; rw [List.getElem?_eq_getElem h, if_neg (by omega)]; simp only [Nat.add_sub_cancel]; rw [List.getElem?_eq_getElem (show k < L.length by omega)]
theorem reqK_any (own : ByteArray) (L : List Bm) (b1 b2 : Nat) (v : Value) (A : Nat → Addr) (m : Int) (W : World) (hL : L.length ≤ 1000000) (hs : shortL L) (S : Te W A m) (h1 : W.cell? ⟨b1, 0, none⟩ = some (.string own)) (h2 : W.cell? ⟨b2, 0, none⟩ = some v) (hv : MsAt W v L) (i : Nat) (hi : i < L.length) :
    Calls Tryz.prog 31 (#[.int .i64 (i : Int), .agg #[.string L[i].1, .string L[i].2]] ++ #[.pointer (some ⟨b1, 0, none⟩), .pointer (some ⟨b2, 0, none⟩)]) W fun e w' => e = .returned (errA A (reqE own L i)) ∧ Below W.heap.size W w' := by
  obtain ⟨a, c, rfl, _, h⟩ := hv
  obtain ⟨b, o, rfl, hc⟩ := h (by intro e; rw [e] at hi; simp at hi)
  have hz := hs L[i] (List.getElem_mem hi)
  cases i with
  | zero =>
    rw [reqE_0 hi]
    by_cases e0 : mErr L[0] = 0
    · by_cases e1 : L[0].1 = own
      · exact reqK_own 0 L[0].1 L[0].2 own b1 _ none A m W hz.1 hz.2 S h1 e0 e1
      · exact reqK_0 L[0].1 L[0].2 own b1 _ A m W hz.1 hz.2 S h1 e0 e1
    · exact reqK_bad 0 L[0].1 L[0].2 own b1 _ none A m W hz.1 hz.2 S e0
  | succ k =>
    rw [reqE_1 hi]
    by_cases e0 : mErr L[k + 1] = 0
    · by_cases e1 : L[k + 1].1 = own
      · exact reqK_own _ L[k + 1].1 L[k + 1].2 own b1 _ _ A m W hz.1 hz.2 S h1 e0 e1
      · exact reqK_1 k L[k + 1].1 L[k + 1].2 L[k].1 L[k].2 own b1 b2 b o L.length c A m W hz.1 hz.2 S h1 e0 e1 h2 (by omega) hL (hc k (by omega)).1
    · exact reqK_bad _ L[k + 1].1 L[k + 1].2 own b1 _ _ A m W hz.1 hz.2 S e0
theorem exK_any (L : List Bm) (b2 : Nat) (v : Value) (A : Nat → Addr) (m : Int) (W : World) (hL : L.length ≤ 1000000) (hs : shortL L) (S : Te W A m) (h2 : W.cell? ⟨b2, 0, none⟩ = some v) (hv : MsAt W v L) (i : Nat) (hi : i < L.length) :
    Calls Tryz.prog 33 (#[.int .i64 (i : Int), .agg #[.string L[i].1, .string L[i].2]] ++ #[.pointer (some ⟨b2, 0, none⟩)]) W fun e w' => e = .returned (errA A (exE L i)) ∧ Below W.heap.size W w' := by
  obtain ⟨a, c, rfl, _, h⟩ := hv
  obtain ⟨b, o, rfl, hc⟩ := h (by intro e; rw [e] at hi; simp at hi)
  have hz := hs L[i] (List.getElem_mem hi)
  cases i with
  | zero =>
    rw [exE_0 hi]
    by_cases e0 : mErr L[0] = 0
    · exact exK_0 L[0].1 L[0].2 _ A m W hz.1 hz.2 S e0
    · exact exK_bad 0 L[0].1 L[0].2 _ none A m W hz.1 hz.2 S e0
  | succ k =>
    rw [exE_1 hi]
    by_cases e0 : mErr L[k + 1] = 0
    · exact exK_1 k L[k + 1].1 L[k + 1].2 L[k].1 L[k].2 b2 b o L.length c A m W hz.1 hz.2 (hs L[k] (List.getElem_mem (by omega))).2 S e0 h2 (by omega) hL (hc k (by omega)).1 (hc k (by omega)).2
    · exact exK_bad _ L[k + 1].1 L[k + 1].2 _ _ A m W hz.1 hz.2 S e0
theorem MsAt.slice {w : World} {v : Value} {L : List Bm} (h : MsAt w v L) : ∃ p n c, v = .slice p n c := by
  obtain ⟨a, c, e, _⟩ := h
  exact ⟨a, _, c, e⟩
set_option maxHeartbeats 1000000 in
theorem reqs_any (own : ByteArray) (L : List Bm) (v : Value) (A : Nat → Addr) (m : Int) (w : World) (hL : L.length ≤ 1000000) (hs : shortL L) (S : Te w A m) (hv : MsAt w v L) :
    Calls Tryz.prog 16 #[.string own, v] w fun e w' => ∃ u, e = .returned u ∧ ErrAt w' A u (codeE (reqE own L) L.length) (fstE (reqE own L) L.length) ∧ Below w.heap.size w w' := by
  obtain ⟨vp, vn, vc, rfl⟩ := hv.slice
  have HB0 := hid (((Below.refl w.heap.size w).alloc (Nat.le_refl _) (.cells #[.string own] 9)).alloc (by simp) (.cells #[.slice vp vn vc] 22))
  have eg : ∀ args w, (callFunc 31 args).run Tryz.prog w = .ok (.enter 31 args) w := enters_of Tryz.func31 (by kernel_rfl) rfl
  have HF := hid (first_any 31 #[.pointer (some ⟨w.heap.size, 0, none⟩), .pointer (some ⟨w.heap.size + 1, 0, none⟩)] (reqE own L) L _ A ((w.alloc (.cells #[.string own] 9)).alloc (.cells #[.slice vp vn vc] 22)) eg hL (hv.below HB0.out) (fun i hi W hW =>
    reqK_any own L w.heap.size (w.heap.size + 1) _ A m W hL hs ((S.below HB0.out).below hW) (cell_below hW (by rw [World.cell?_alloc_lt _ _ _ (by simp)]; simp)) (cell_below hW (by rw [World.cell?_alloc_at _ _ _ _ (by simp)]; rfl)) ((hv.below HB0.out).below hW) i hi))
  clear S hv eg
  go_enter Tryz.func16, Tryz.ntmps16
  go_wp2_with fail
  refine HF.out.mono ?_
  rintro e w1 ⟨u, rfl, he, hb⟩
  have HB := hid (HB0.out.trans (hb.mono HB0.out.size))
  have HE := hid he
  clear hb he
  go_wp2_with fail
  go_ret
  exact ⟨_, rfl, HE.out, HB.out⟩
set_option maxHeartbeats 1000000 in
theorem ex_any (L : List Bm) (v : Value) (A : Nat → Addr) (m : Int) (w : World) (hL : L.length ≤ 1000000) (hs : shortL L) (S : Te w A m) (hv : MsAt w v L) :
    Calls Tryz.prog 17 #[v] w fun e w' => ∃ u, e = .returned u ∧ ErrAt w' A u (codeE (exE L) L.length) (fstE (exE L) L.length) ∧ Below w.heap.size w w' := by
  obtain ⟨vp, vn, vc, rfl⟩ := hv.slice
  have HB0 := hid ((Below.refl w.heap.size w).alloc (Nat.le_refl _) (.cells #[.slice vp vn vc] 22))
  have eg : ∀ args w, (callFunc 33 args).run Tryz.prog w = .ok (.enter 33 args) w := enters_of Tryz.func33 (by kernel_rfl) rfl
  have HF := hid (first_any 33 #[.pointer (some ⟨w.heap.size, 0, none⟩)] (exE L) L _ A (w.alloc (.cells #[.slice vp vn vc] 22)) eg hL (hv.below HB0.out) (fun i hi W hW =>
    exK_any L w.heap.size _ A m W hL hs ((S.below HB0.out).below hW) (cell_below hW (by simp)) ((hv.below HB0.out).below hW) i hi))
  clear S hv eg
  go_enter Tryz.func17, Tryz.ntmps17
  go_wp2_with fail
  refine HF.out.mono ?_
  rintro e w1 ⟨u, rfl, he, hb⟩
  have HB := hid (HB0.out.trans (hb.mono HB0.out.size))
  have HE := hid he
  clear hb he
  go_wp2_with fail
  go_ret
  exact ⟨_, rfl, HE.out, HB.out⟩
end Ve
end Go.Proofs.YtiebgeamfblbdaaGreatDoor
