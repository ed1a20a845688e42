/-
  What CheckReqs of package mod and checkExclude of package file answer; nothing old in memory turns.
-/
import Derived.Test.YtanponneancajaaGreatDoorFileB
import Derived.Deep.RegionHeld
namespace Go.Proofs.YtanponneancajaaGreatDoor
open Go.RowKit
namespace Ve

theorem exW_bad {o : Option Bm} {m : Bm} (h : mErr m ≠ 0) : exW o m = mErr m := by unfold exW; rw [if_neg h]
theorem exW_none {m : Bm} (h : mErr m = 0) : exW none m = 0 := by unfold exW; rw [if_pos h]
theorem exW_some {p m : Bm} (h : mErr m = 0) : exW (some p) m = if mAhead p m then 0 else 8 := by unfold exW; rw [if_pos h]

/-- All modules are short. -/
def shortL (L : List Bm) : Prop := ∀ m, m ∈ L → m.1.size < 999999 ∧ m.2.size < 999999

theorem reqE_0 {own : ByteArray} {L : List Bm} (h : 0 < L.length) : reqE own L 0 = reqW own none L[0] := by
  unfold reqE prevOf; rw [List.getElem?_eq_getElem h]; rfl
theorem reqE_1 {own : ByteArray} {L : List Bm} {k : Nat} (h : k + 1 < L.length) : reqE own L (k + 1) = reqW own (some (L[k]'(by omega))) L[k + 1] := by
  unfold reqE prevOf; rw [List.getElem?_eq_getElem h, if_neg (by omega)]; simp only [Nat.add_sub_cancel]; rw [List.getElem?_eq_getElem (show k < L.length by omega)]
theorem exE_0 {L : List Bm} (h : 0 < L.length) : exE L 0 = exW none L[0] := by
  unfold exE prevOf; rw [List.getElem?_eq_getElem h]; rfl
theorem exE_1 {L : List Bm} {k : Nat} (h : k + 1 < L.length) : exE L (k + 1) = exW (some (L[k]'(by omega))) L[k + 1] := by
  unfold exE prevOf; rw [List.getElem?_eq_getElem h, if_neg (by omega)]; simp only [Nat.add_sub_cancel]; rw [List.getElem?_eq_getElem (show k < L.length by omega)]

/-- The closure of CheckReqs at any place. -/
theorem reqK_any (own : ByteArray) (L : List Bm) (b1 b2 : Nat) (v : Value) (A : Nat → Addr) (m : Int) (W : World) (hL : L.length ≤ 1000000) (hs : shortL L) (S : Te W A m) (h1 : W.cell? ⟨b1, 0, none⟩ = some (.string own)) (h2 : W.cell? ⟨b2, 0, none⟩ = some v) (hv : MsAt W v L) (i : Nat) (hi : i < L.length) :
    Calls Tryz.prog 153 (#[.int .i64 (i : Int), .agg #[.string L[i].1, .string L[i].2]] ++ #[.pointer (some ⟨b1, 0, none⟩), .pointer (some ⟨b2, 0, none⟩)]) W fun e w' => e = .returned (errA A (reqE own L i)) ∧ Below W.heap.size W w' := by
  obtain ⟨a, c, rfl, _, h⟩ := hv
  obtain ⟨b, o, rfl, hc⟩ := h (by intro e; rw [e] at hi; simp at hi)
  have hz := hs L[i] (List.getElem_mem hi)
  cases i with
  | zero =>
    rw [reqE_0 hi]
    by_cases e0 : mErr L[0] = 0
    · by_cases e1 : L[0].1 = own
      · exact reqK_own 0 L[0].1 L[0].2 own b1 _ none A m W hz.1 hz.2 S h1 e0 e1
      · exact reqK_0 L[0].1 L[0].2 own b1 _ A m W hz.1 hz.2 S h1 e0 e1
    · exact reqK_bad 0 L[0].1 L[0].2 own b1 _ none A m W hz.1 hz.2 S e0
  | succ k =>
    rw [reqE_1 hi]
    by_cases e0 : mErr L[k + 1] = 0
    · by_cases e1 : L[k + 1].1 = own
      · exact reqK_own _ L[k + 1].1 L[k + 1].2 own b1 _ _ A m W hz.1 hz.2 S h1 e0 e1
      · exact reqK_1 k L[k + 1].1 L[k + 1].2 L[k].1 L[k].2 own b1 b2 b o L.length c A m W hz.1 hz.2 S h1 e0 e1 h2 (by omega) hL (hc k (by omega)).1
    · exact reqK_bad _ L[k + 1].1 L[k + 1].2 own b1 _ _ A m W hz.1 hz.2 S e0
theorem MsAt.slice {w : World} {v : Value} {L : List Bm} (h : MsAt w v L) : ∃ p n c, v = .slice p n c := by
  obtain ⟨a, c, e, _⟩ := h
  exact ⟨a, _, c, e⟩
set_option maxHeartbeats 1000000 in
/-- mod.CheckReqs. -/
theorem reqs_any (own : ByteArray) (L : List Bm) (v : Value) (A : Nat → Addr) (m : Int) (w : World) (hL : L.length ≤ 1000000) (hs : shortL L) (S : Te w A m) (hv : MsAt w v L) :
    Calls Tryz.prog 112 #[.string own, v] w fun e w' => ∃ u, e = .returned u ∧ ErrAt w' A u (codeE (reqE own L) L.length) (fstE (reqE own L) L.length) ∧ Below w.heap.size w w' := by
  obtain ⟨vp, vn, vc, rfl⟩ := hv.slice
  have HB0 := hid (((Below.refl w.heap.size w).alloc (Nat.le_refl _) (.cells #[.string own] 9)).alloc (by simp) (.cells #[.slice vp vn vc] 52))
  have eg : ∀ args w, (callFunc 153 args).run Tryz.prog w = .ok (.enter 153 args) w := enters_of Tryz.func153 (by kernel_rfl) rfl
  have HF := hid (first_any 153 #[.pointer (some ⟨w.heap.size, 0, none⟩), .pointer (some ⟨w.heap.size + 1, 0, none⟩)] (reqE own L) L _ A ((w.alloc (.cells #[.string own] 9)).alloc (.cells #[.slice vp vn vc] 52)) eg hL (hv.below HB0.out) (fun i hi W hW =>
    reqK_any own L w.heap.size (w.heap.size + 1) _ A m W hL hs ((S.below HB0.out).below hW) (cell_below hW (by rw [World.cell?_alloc_lt _ _ _ (by simp)]; simp)) (cell_below hW (by rw [World.cell?_alloc_at _ _ _ _ (by simp)]; rfl)) ((hv.below HB0.out).below hW) i hi))
  clear S hv eg
  go_enter Tryz.func112, Tryz.ntmps112
  go_wp2_with fail
  refine HF.out.mono ?_
  rintro e w1 ⟨u, rfl, he, hb⟩
  have HB := hid (HB0.out.trans (hb.mono HB0.out.size))
  have HE := hid he
  clear hb he
  go_wp2_with fail
  go_ret
  exact ⟨_, rfl, HE.out, HB.out⟩
end Ve
end Go.Proofs.YtanponneancajaaGreatDoor
