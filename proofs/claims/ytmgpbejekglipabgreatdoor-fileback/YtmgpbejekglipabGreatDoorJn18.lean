/-
  What slices.Insert answers at modules, in a row of the call's own, of one module.
-/
import Derived.Test.YtmgpbejekglipabGreatDoorJn17
import Derived.Laws.CopyRow
import Derived.Lib.AppendZerosOnto
import Derived.Lib.Overlaps
import Derived.Deep.RegionLaw
import Derived.Shelf.Spec.SlicesInsert
import Derived.Shelf.Spec.SlicesInsertGrow
import Derived.Test.YtmgpbejekglipabGreatDoorJn12
namespace Go.Proofs.YtmgpbejekglipabGreatDoor
open Go.RowKit
namespace Ve

/-- copy at modules, into a row that is known whole. -/
theorem copy_row2 (w : World) (ty : TypeId) (g o dLen dCap : Nat) (a : Addr) (sLen sCap k : Nat) (cur : Array Value) (t : TypeId) (cs : List Value) (hk : Nat.min sLen dLen = k)
    (hg : w.heap[g]? = some (.cells cur t (0, 0))) (hn : cs.length = k * 2) (hsrc : ∀ j v, cs[j]? = some v → w.cell? (a.add j) = some v) (hfit : o + cs.length ≤ cur.size) (h1 : ∀ v ∈ cs, v.oneCell' = true) :
    (Builtin.copy_ #[22, 22] ty #[.slice (some ⟨g, o, none⟩) dLen dCap, .slice (some a) sLen sCap]).run Tryz.prog w =
      .ok (goInt k) (w.setRow g (cur.toList.take o ++ cs ++ cur.toList.drop (o + cs.length)).toArray) := by
  have hl := run_loadCells_list (P := Tryz.prog) w a cs hsrc
  have hst := run_storeCells_at Tryz.prog g o t cs 0 cur w hg (by simpa using hfit) h1
  obtain ⟨i0, hi, hz0, hz1, hz2⟩ := info_parts infoMod
  simp [Builtin.copy_, run_underlying Tryz.underlying22, Builtin.lenOf, Builtin.firstCells, Go.sizeOf, typeInfo, hi, hz1, hk, ← hn, hl, hst]
theorem setRow_at {w : World} {g : Nat} {cur x : Array Value} {t : TypeId} {fr : Nat × Nat} (h : w.heap[g]? = some (.cells cur t fr)) : (w.setRow g x).heap[g]? = some (.cells x t fr) := setRow_heap w g cur x t fr h
theorem setRow_far {w : World} {g k : Nat} {x : Array Value} (h : k ≠ g) : (w.setRow g x).heap[k]? = w.heap[k]? := by
  unfold World.setRow
  simp only [Array.getElem?_modify]
  rw [if_neg (fun e => h e.symm)]
theorem setRow_size (w : World) (g : Nat) (x : Array Value) : (w.setRow g x).heap.size = w.heap.size := by
  unfold World.setRow; simp
/-- What an insertion leaves behind it. -/
structure Insd (B : Nat) (W w' : World) (v v' : Value) (R : List Bm) : Prop where
  own : w'.ownsRow B 26 2 v' R.length (flatM R)
  gr : W.grownBy w' v.ownBlock
  at_ : v'.ownBlock = v.ownBlock ∨ ∀ g, v'.ownBlock = some g → W.heap.size ≤ g
theorem flat_cons (m : Bm) (L : List Bm) : flatM (m :: L) = [Value.string m.1, .string m.2] ++ flatM L := rfl
theorem flat_take (L : List Bm) (i : Nat) (h : i ≤ L.length) : (flatM L).take (i * 2) = flatM (L.take i) := by
  have e : flatM L = flatM (L.take i) ++ flatM (L.drop i) := by rw [← flatM_app, List.take_append_drop]
  have hl : (flatM (L.take i)).length = i * 2 := by rw [flatM_len]; simp; omega
  rw [e, ← hl, List.take_left]
theorem flat_drop (L : List Bm) (i : Nat) (h : i ≤ L.length) : (flatM L).drop (i * 2) = flatM (L.drop i) := by
  have e : flatM L = flatM (L.take i) ++ flatM (L.drop i) := by rw [← flatM_app, List.take_append_drop]
  have hl : (flatM (L.take i)).length = i * 2 := by rw [flatM_len]; simp; omega
  rw [e, ← hl, List.drop_left]

theorem ins_done {B g cap : Nat} {W w' : World} {v : Value} {R : List Bm} {m : Bm} (hown : w'.ownsRow B 26 2 (.slice (some ⟨g, 0, none⟩) (R.length + 1) cap) (R.length + 1) (flatM R ++ [.string m.1, .string m.2])) (hg : W.grownBy w' v.ownBlock) (hat : v.ownBlock = some g ∨ g = W.heap.size) :
    Insd B W w' v (.slice (some ⟨g, 0, none⟩) (R.length + 1) cap) (R ++ [m]) := by
  refine ⟨?_, hg, ?_⟩
  · rw [List.length_append, flatM_app]; exact hown
  · rcases hat with h | h
    · exact Or.inl h.symm
    · refine Or.inr (fun k hk => ?_)
      have : g = k := by simpa [Value.ownBlock] using hk
      omega
set_option maxHeartbeats 2000000 in
set_option maxRecDepth 100000 in
/-- At the end. -/
theorem ins_end (R : List Bm) (m : Bm) (v : Value) (B vb : Nat) (w : World) (hn : R.length ≤ 1000000) (hB : B ≤ w.heap.size) (ho : w.ownsRow B 26 2 v R.length (flatM R)) (hv : w.heap[vb]? = some (.cells #[.string m.1, .string m.2] 26 (0, 0))) :
    Calls Tryz.prog 61 #[v, .int .i64 R.length, .slice (some ⟨vb, 0, none⟩) 1 1] w fun e w' => ∃ v', e = .returned v' ∧ Insd B w w' v v' (R ++ [m]) := by
  obtain ⟨i0, hi, hz0, hz1, hz2⟩ := info_parts infoMod
  obtain ⟨a, cap, rfl⟩ : ∃ a c, v = .slice a R.length c := by
    obtain ⟨a, c, e, _⟩ := own_ms ho
    exact ⟨a, c, e⟩
  have HCP := hid (show R.length ≤ cap from by
    obtain ⟨a, c, e, h, _⟩ := own_ms ho
    injection e with _ _ e3
    omega)
  have HO := hid ho
  have HV := hid hv
  have HB := hid hB
  clear ho hv hB
  have hcc : (R.length : Int) ≤ (cap : Int) := by have := HCP.out; omega
  by_cases hce : cap = R.length
  · subst hce
    go_enter Tryz.func61, Tryz.ntmps61
    go_wp2_with (at_builtin; refine wpList_append_lies _ rfl _ _ 22 rfl B 26 i0 _ 2 32 Tryz.underlying22 hi hz0 hz1 hz2 rfl (by decide) _ _ _ rfl HO.out ⟨vb, 0, none⟩ 1 1 [.string m.1, .string m.2] rfl rfl (World.news_of_block (cs := #[.string m.1, .string m.2]) HV.out) (by simp [Value.oneCell']) (by omega) (by unfold maxLen; omega) (by omega) HB.out w.heap.size rfl ?_)
    intro g cap2 w2 hown hgrow hat hlt
    have HQ := hid (ins_done (m := m) hown hgrow hat)
    clear hown hgrow hat hlt
    go_wp2_with fail
    go_ret
    exact ⟨_, rfl, HQ.out⟩
  · have hcn : ¬ R.length = cap := fun e => hce e.symm
    cases a with
    | none =>
      have h0 : R = [] ∧ cap = 0 := by
        obtain ⟨_, ⟨h1, h2⟩ | ⟨g, c, cur, h1, _⟩⟩ := HO.out
        · injection h1 with _ _ h3
          exact ⟨List.length_eq_zero_iff.1 h2, h3⟩
        · cases h1
      exact absurd (by rw [h0.1, h0.2]; rfl) hce
    | some a =>
      obtain ⟨ab, ao, asp⟩ := a
      go_enter Tryz.func61, Tryz.ntmps61
      go_wp2_with (at_builtin; refine wpList_append_lies _ rfl _ _ 22 rfl B 26 i0 _ 2 32 Tryz.underlying22 hi hz0 hz1 hz2 rfl (by decide) _ _ _ rfl HO.out ⟨vb, 0, none⟩ 1 1 [.string m.1, .string m.2] rfl rfl (World.news_of_block (cs := #[.string m.1, .string m.2]) HV.out) (by simp [Value.oneCell']) (by omega) (by unfold maxLen; omega) (by omega) HB.out w.heap.size rfl ?_)
      intro g cap2 w2 hown hgrow hat hlt
      have HQ := hid (ins_done (m := m) hown hgrow hat)
      clear hown hgrow hat hlt
      go_wp2_with fail
      go_ret
      exact ⟨_, rfl, HQ.out⟩
end Ve
end Go.Proofs.YtmgpbejekglipabGreatDoor

/-
  What slices.Insert answers at modules ahead of the end: where there is room, and where there is none.
-/
namespace Go.Proofs.YtmgpbejekglipabGreatDoor
open Go.RowKit
namespace Ve

theorem row_shift {cur : List Value} {R : List Bm} {m : Bm} {i n : Nat} (hn : R.length = n) (hi : i ≤ n) (hl : (n + 1) * 2 ≤ cur.length) (ht : cur.take (n * 2) = flatM R) :
    let c1 := cur.take ((i + 1) * 2) ++ flatM (R.drop i) ++ cur.drop ((i + 1) * 2 + (flatM (R.drop i)).length)
    let c2 := c1.take (i * 2) ++ [Value.string m.1, .string m.2] ++ c1.drop (i * 2 + 2)
    c1.length = cur.length ∧ c2.length = cur.length ∧ c2.take ((n + 1) * 2) = flatM (R.take i ++ m :: R.drop i) := by
  intro c1 c2
  have hdl : (flatM (R.drop i)).length = (n - i) * 2 := by rw [flatM_len, List.length_drop, hn]
  have h1 : c1.length = cur.length := by
    show (cur.take ((i + 1) * 2) ++ flatM (R.drop i) ++ cur.drop ((i + 1) * 2 + (flatM (R.drop i)).length)).length = _
    simp only [List.length_append, List.length_take, List.length_drop, hdl]
    omega
  have h2 : c2.length = cur.length := by
    show (c1.take (i * 2) ++ [Value.string m.1, .string m.2] ++ c1.drop (i * 2 + 2)).length = _
    simp only [List.length_append, List.length_take, List.length_drop, List.length_cons, List.length_nil]
    omega
  refine ⟨h1, h2, ?_⟩
  have ht1 : c1.take (i * 2) = flatM (R.take i) := by
    show (cur.take ((i + 1) * 2) ++ flatM (R.drop i) ++ cur.drop _).take (i * 2) = _
    rw [List.append_assoc, List.take_append_of_le_length (by simp; omega), List.take_take, show min (i * 2) ((i + 1) * 2) = i * 2 by omega, ← flat_take R i (by omega), ← ht, List.take_take, show min (i * 2) (n * 2) = i * 2 by omega]
  have hd1 : c1.drop (i * 2 + 2) = flatM (R.drop i) ++ cur.drop ((i + 1) * 2 + (flatM (R.drop i)).length) := by
    show (cur.take ((i + 1) * 2) ++ flatM (R.drop i) ++ cur.drop _).drop (i * 2 + 2) = _
    have e : (cur.take ((i + 1) * 2)).length = i * 2 + 2 := by simp; omega
    rw [List.append_assoc, ← e, List.drop_left]
  show (c1.take (i * 2) ++ [Value.string m.1, .string m.2] ++ c1.drop (i * 2 + 2)).take ((n + 1) * 2) = _
  rw [ht1, hd1, flatM_app, flat_cons]
  have hasc : flatM (R.take i) ++ [Value.string m.1, .string m.2] ++ (flatM (R.drop i) ++ cur.drop ((i + 1) * 2 + (flatM (R.drop i)).length)) = (flatM (R.take i) ++ ([Value.string m.1, .string m.2] ++ flatM (R.drop i))) ++ cur.drop ((i + 1) * 2 + (flatM (R.drop i)).length) := by simp
  rw [hasc]
  have hlen : (flatM (R.take i) ++ ([Value.string m.1, .string m.2] ++ flatM (R.drop i))).length = (n + 1) * 2 := by
    simp only [List.length_append, hdl, flatM_len, List.length_take, List.length_cons, List.length_nil]
    omega
  rw [← hlen, List.take_left]
theorem own_of_row {W : World} {B g n cap : Nat} {cur : Array Value} {R : List Bm} (hg : W.heap[g]? = some (.cells cur 26 (0, 0))) (hB : B ≤ g) (hn : R.length = n) (hc : n ≤ cap) (hm : cap ≤ maxLen) (hs : cur.size = cap * 2) (ht : cur.toList.take (n * 2) = flatM R) :
    W.ownsRow B 26 2 (.slice (some ⟨g, 0, none⟩) n cap) n (flatM R) := ⟨by rw [flatM_len, hn], Or.inr ⟨g, cap, cur, rfl, hB, hg, hc, hm, hs, ht⟩⟩

set_option maxHeartbeats 4000000 in
set_option maxRecDepth 100000 in
/-- There is room. -/
theorem ins_room (R : List Bm) (m : Bm) (B g cap vb i : Nat) (cur : Array Value) (w : World) (hn : R.length ≤ 1000000) (hB : B ≤ g) (hg : w.heap[g]? = some (.cells cur 26 (0, 0))) (hcm : cap ≤ maxLen) (hcs : cur.size = cap * 2) (hct : cur.toList.take (R.length * 2) = flatM R)
    (hv : w.heap[vb]? = some (.cells #[.string m.1, .string m.2] 26 (0, 0))) (hvg : vb ≠ g) (hi : i < R.length) (hroom : R.length + 1 ≤ cap) :
    Calls Tryz.prog 61 #[.slice (some ⟨g, 0, none⟩) R.length cap, .int .i64 i, .slice (some ⟨vb, 0, none⟩) 1 1] w fun e w' => ∃ v', e = .returned v' ∧ Insd B w w' (.slice (some ⟨g, 0, none⟩) R.length cap) v' (R.take i ++ m :: R.drop i) := by
  have HRS := hid (row_shift (cur := cur.toList) (R := R) (m := m) (i := i) (n := R.length) rfl (by omega) (by simp; omega) hct)
  have hz2 : ¬ ((i : Int) = (R.length : Int)) := by omega
  have hz3 : ¬ ((cap : Int) < (R.length : Int) + 1) := by omega
  have hov : ∀ lb cb, (callFunc 108 #[.slice (some ⟨vb, 0, none⟩) 1 1, .slice (some ⟨g, (i + 1) * 2, none⟩) lb cb]).run Tryz.prog w = .ok (.value (.bool false)) w := fun lb cb => by
    rw [run_callFunc_extern Tryz.func108 (by kernel_rfl) (by kernel_rfl) (by kernel_rfl) (e := Extern.SlicesOverlaps.overlaps #[22, 22] #[4]) (by kernel_rfl),
      Lib.run_overlaps_apart w 22 4 26 Tryz.underlying22 2 Tryz.sizeOf26 ⟨vb, 0, none⟩ ⟨g, (i + 1) * 2, none⟩ 1 1 lb cb hvg 26 26 2 (cap * 2) (by simp [World.shape?, hv]) (by simp [World.shape?, hg, hcs]) (by omega) (Lib.frozen_of_heap hv 0) (Lib.frozen_of_heap hv 2)]
    rfl
  have hdl : (flatM (R.drop i)).length = (R.length - i) * 2 := by rw [flatM_len, List.length_drop]
  have hcp1 : ∀ ty dl dc sl sc, Nat.min sl dl = R.length - i → (Builtin.copy_ #[22, 22] ty #[.slice (some ⟨g, (i + 1) * 2, none⟩) dl dc, .slice (some ⟨g, i * 2, none⟩) sl sc]).run Tryz.prog w.drew = .ok (goInt ((R.length - i : Nat) : Int)) (w.drew.setRow g (cur.toList.take ((i + 1) * 2) ++ flatM (R.drop i) ++ cur.toList.drop ((i + 1) * 2 + (flatM (R.drop i)).length)).toArray) := fun ty dl dc sl sc hmin =>
    copy_row2 w.drew ty g ((i + 1) * 2) dl dc ⟨g, i * 2, none⟩ sl sc (R.length - i) cur 26 (flatM (R.drop i)) hmin hg (by rw [hdl]) (fun j u hj => by
      rw [Addr.add_lit]
      have h1 : w.drew.cell? ⟨g, i * 2 + j, none⟩ = cur[i * 2 + j]? := Lib.cell_of_heap (w := w.drew) hg _
      rw [h1]
      have hjl : j < (R.length - i) * 2 := by rw [← hdl]; exact (List.getElem?_eq_some_iff.1 hj).1
      rw [← flat_drop R i (by omega), List.getElem?_drop, ← hct, List.getElem?_take, if_pos (by omega)] at hj
      simpa using hj) (by rw [hdl]; omega) (flat_one _)
  obtain ⟨C1, hC1⟩ : ∃ C1, C1 = cur.toList.take ((i + 1) * 2) ++ flatM (R.drop i) ++ cur.toList.drop ((i + 1) * 2 + (flatM (R.drop i)).length) := ⟨_, rfl⟩
  rw [← hC1] at hcp1 HRS
  have hg1 : (w.drew.setRow g C1.toArray).heap[g]? = some (.cells C1.toArray 26 (0, 0)) := setRow_at (w := w.drew) hg
  have hv1 : (w.drew.setRow g C1.toArray).heap[vb]? = some (.cells #[.string m.1, .string m.2] 26 (0, 0)) := by rw [setRow_far hvg]; exact hv
  obtain ⟨C2, hC2⟩ : ∃ C2 : Array Value, C2 = (C1.take (i * 2) ++ [Value.string m.1, .string m.2] ++ C1.drop (i * 2 + 2)).toArray := ⟨_, rfl⟩
  have hcp2 : ∀ (W : World), W.heap = (w.drew.setRow g C1.toArray).heap → ∀ ty dc, (Builtin.copy_ #[22, 22] ty #[.slice (some ⟨g, i * 2, none⟩) (R.length + 1 - i) dc, .slice (some ⟨vb, 0, none⟩) 1 1]).run Tryz.prog W = .ok (goInt 1) (W.setRow g C2) := fun W hW ty dc => by
    rw [hC2]
    have := copy_row2 W ty g (i * 2) (R.length + 1 - i) dc ⟨vb, 0, none⟩ 1 1 1 C1.toArray 26 [Value.string m.1, .string m.2] (by simp only [Nat.min_def]; split <;> omega) (by rw [hW]; exact hg1) rfl (World.news_of_block (cs := #[.string m.1, .string m.2]) (by rw [hW]; exact hv1)) (by have := HRS.out.1; simp at this ⊢; omega) (by simp [Value.oneCell'])
    simpa using this
  have hw1 : IntKind.i64.wrap ((i : Int) + 1) = (i : Int) + 1 := by rw [IntKind.wrap_i64]; omega
  have hb1 : (0 : Int) ≤ (i : Int) + 1 := by omega
  have hin : i ≤ R.length := by omega
  have htn : ((i : Int) + 1).toNat = i + 1 := by omega
  have hb2 : ¬ (cap = i + 1) := by omega
  have hb3 : (i : Int) ≤ (R.length : Int) + 1 := by omega
  have hb4 : ¬ (cap = i) := by omega
  have hb5 : (i : Int) + 1 ≤ (R.length : Int) + 1 := by omega
  have hb6 : (R.length : Int) + 1 ≤ (cap : Int) := by omega
  have HFI := hid (show Insd B w ((w.drew.setRow g C1.toArray).setRow g C2) (.slice (some ⟨g, 0, none⟩) R.length cap) (.slice (some ⟨g, 0, none⟩) (R.length + 1) cap) (R.take i ++ m :: R.drop i) from by
    have hl : (R.take i ++ m :: R.drop i).length = R.length + 1 := by simp; omega
    rw [hC2]
    refine ⟨?_, ⟨rfl, rfl, rfl, by rw [setRow_size, setRow_size]; exact Nat.le_refl _, fun k hk hne => ?_⟩, Or.inl rfl⟩
    · rw [hl]
      exact own_of_row (setRow_at hg1) hB hl (by omega) hcm (by have := HRS.out.2.1; simp at this ⊢; omega) (by have := HRS.out.2.2; simpa using this)
    · have : k ≠ g := fun e => hne (by rw [e]; rfl)
      rw [setRow_far this, setRow_far this]; rfl)
  have HCP1 := hid (hcp1 3 (R.length - i) (cap - (i + 1)) (R.length + 1 - i) (cap - i) (by simp only [Nat.min_def]; split <;> omega))
  clear hC1 hC2 hdl hct hcs hg hv hg1 hv1 HRS hcp1
  go_enter Tryz.func61, Tryz.ntmps61
  go_wp2_with (simp only [hov])
  go_region_law (refine step_copy_runI rfl _ _ 22 22 rfl (.slice (some ⟨g, (i + 1) * 2, none⟩) (R.length - i) (cap - (i + 1))) (.slice (some ⟨g, i * 2, none⟩) (R.length + 1 - i) (cap - i)) (by simp [Act.eval, Act.put]) (by simp [Act.eval, Act.put]) HCP1.out ?_)
  go_wp2_with (at_builtin; refine wpList_copy_runI _ rfl _ _ 22 22 rfl _ _ rfl rfl (hcp2 _ rfl _ _) ?_)
  go_ret
  exact ⟨_, rfl, HFI.out⟩
end Ve
end Go.Proofs.YtmgpbejekglipabGreatDoor

/-
  What slices.Insert answers at modules where there is no room; at any place.
-/
namespace Go.Proofs.YtmgpbejekglipabGreatDoor
open Go.RowKit
namespace Ve

theorem row_new {row : List Value} {R : List Bm} {m : Bm} {i n : Nat} (hn : R.length = n) (hi : i ≤ n) (hl : (n + 1) * 2 ≤ row.length) (ht : row.take (i * 2) = flatM (R.take i)) :
    let c1 := row.take (i * 2) ++ [Value.string m.1, .string m.2] ++ row.drop (i * 2 + 2)
    let c2 := c1.take ((i + 1) * 2) ++ flatM (R.drop i) ++ c1.drop ((i + 1) * 2 + (flatM (R.drop i)).length)
    c1.length = row.length ∧ c2.length = row.length ∧ c2.take ((n + 1) * 2) = flatM (R.take i ++ m :: R.drop i) := by
  intro c1 c2
  have hdl : (flatM (R.drop i)).length = (n - i) * 2 := by rw [flatM_len, List.length_drop, hn]
  have h1 : c1.length = row.length := by
    show (row.take (i * 2) ++ [Value.string m.1, .string m.2] ++ row.drop (i * 2 + 2)).length = _
    simp only [List.length_append, List.length_take, List.length_drop, List.length_cons, List.length_nil]
    omega
  have h2 : c2.length = row.length := by
    show (c1.take ((i + 1) * 2) ++ flatM (R.drop i) ++ c1.drop ((i + 1) * 2 + (flatM (R.drop i)).length)).length = _
    simp only [List.length_append, List.length_take, List.length_drop, hdl]
    omega
  refine ⟨h1, h2, ?_⟩
  have hc : c1.take ((i + 1) * 2) = flatM (R.take i) ++ [Value.string m.1, .string m.2] := by
    show (row.take (i * 2) ++ [Value.string m.1, .string m.2] ++ row.drop (i * 2 + 2)).take ((i + 1) * 2) = _
    have e : (row.take (i * 2) ++ [Value.string m.1, .string m.2]).length = (i + 1) * 2 := by simp; omega
    rw [← e, List.take_left, ht]
  show (c1.take ((i + 1) * 2) ++ flatM (R.drop i) ++ c1.drop ((i + 1) * 2 + (flatM (R.drop i)).length)).take ((n + 1) * 2) = _
  rw [hc, flatM_app, flat_cons]
  have hlen : (flatM (R.take i) ++ [Value.string m.1, .string m.2] ++ flatM (R.drop i)).length = (n + 1) * 2 := by
    simp only [List.length_append, hdl, flatM_len, List.length_take, List.length_cons, List.length_nil]
    omega
  rw [← hlen, List.take_left, List.append_assoc]
set_option maxHeartbeats 4000000 in
set_option maxRecDepth 100000 in
/-- There is no room. -/
theorem ins_grow (R : List Bm) (m : Bm) (B g cap vb i : Nat) (cur : Array Value) (w : World) (hn : R.length ≤ 1000000) (hB : B ≤ g) (hg : w.heap[g]? = some (.cells cur 26 (0, 0))) (hcap : R.length ≤ cap) (hct : cur.toList.take (R.length * 2) = flatM R)
    (hv : w.heap[vb]? = some (.cells #[.string m.1, .string m.2] 26 (0, 0))) (hi : i < R.length) (hroom : cap < R.length + 1) :
    Calls Tryz.prog 61 #[.slice (some ⟨g, 0, none⟩) R.length cap, .int .i64 i, .slice (some ⟨vb, 0, none⟩) 1 1] w fun e w' => ∃ v', e = .returned v' ∧ Insd B w w' (.slice (some ⟨g, 0, none⟩) R.length cap) v' (R.take i ++ m :: R.drop i) := by
  obtain ⟨i0, hi0, hz0, hzs, hzb⟩ := info_parts infoMod
  have hcur : ∀ W : World, W.heap[g]? = some (.cells cur 26 (0, 0)) → ∀ (L : List Value) (k : Nat), (∀ j u, L[j]? = some u → (flatM R)[k + j]? = some u) → ∀ j u, L[j]? = some u → W.cell? ((⟨g, k, none⟩ : Addr).add j) = some u := fun W hW L k hL j u hj => by
    rw [Addr.add_lit, Lib.cell_of_heap hW]
    have h1 := hL j u hj
    rw [← hct, List.getElem?_take] at h1
    split at h1
    · simpa using h1
    · cases h1
  have hgw : g < w.heap.size := lt_of_blk hg
  have hvw : vb < w.heap.size := lt_of_blk hv
  have hz2 : ¬ ((i : Int) = (R.length : Int)) := by omega
  have hz3 : (cap : Int) < (R.length : Int) + 1 := by omega
  have hkk : (R.length : Int) + 1 - (i : Int) = ((R.length + 1 - i : Nat) : Int) := by omega
  have hik : i + (R.length + 1 - i) = R.length + 1 := by omega
  have hold : (Builtin.firstCells i0.size i (.slice (some ⟨g, 0, none⟩) i cap)).run Tryz.prog w.drew = .ok (flatM (R.take i)).toArray w.drew := by
    rw [hzs]
    exact run_firstCells_some w.drew 2 i ⟨g, 0, none⟩ i cap (flatM (R.take i)) (by rw [flatM_len]; simp; omega) (hcur w.drew hg _ 0 (fun j u hj => by
      rw [← flat_take R i (by omega), List.getElem?_take] at hj
      split at hj
      · rw [Nat.zero_add]; exact hj
      · cases hj))
  have hrz : ∀ ty, (Builtin.append_ #[22, 3] ty #[.slice (some ⟨g, 0, none⟩) i cap, .int .i64 ((R.length : Int) + 1 - (i : Int))]).run Tryz.prog w =
      .ok (.slice (some ⟨w.heap.size, 0, none⟩) (R.length + 1) (grownCap w (R.length + 1) cap 26)) (w.drew.alloc (.cells ((flatM (R.take i)).toArray ++ Builtin.zeroCells (Value.agg #[.string ⟨#[]⟩, .string ⟨#[]⟩]).cells (R.length + 1 - i) ++ Builtin.zeroCells (Value.agg #[.string ⟨#[]⟩, .string ⟨#[]⟩]).cells (grownCap w (R.length + 1) cap 26 - (R.length + 1))) 26)) := fun ty => by
    have h := Lib.run_append_grow_zeros w 22 3 ty 26 i0 _ .i64 .i64 Tryz.underlying22 Tryz.underlying3 hi0 hz0 (some ⟨g, 0, none⟩) i cap (flatM (R.take i)) hold (R.length + 1 - i) (by omega) (by omega) (by omega) (by omega) (by rw [hzb]; omega) (by rw [hzb, hik]; exact growslice_fits hroom (by omega))
    rw [hik] at h
    rw [hkk]
    exact h
  obtain ⟨G, hG⟩ : ∃ G, G = grownCap w (R.length + 1) cap 26 := ⟨_, rfl⟩
  obtain ⟨ROW, hROW⟩ : ∃ ROW : Array Value, ROW = (flatM (R.take i)).toArray ++ Builtin.zeroCells (Value.agg #[.string ⟨#[]⟩, .string ⟨#[]⟩]).cells (R.length + 1 - i) ++ Builtin.zeroCells (Value.agg #[.string ⟨#[]⟩, .string ⟨#[]⟩]).cells (G - (R.length + 1)) := ⟨_, rfl⟩
  rw [← hG, ← hROW] at hrz
  have hGn : R.length + 1 ≤ G := by rw [hG]; exact grownCap_ge w _ _ _
  have hGm : G ≤ maxLen := by rw [hG]; exact grownCap_le_maxLen w (R.length + 1) cap 26 (by unfold maxLen; omega)
  have hRl : ROW.size = G * 2 := by
    rw [hROW]
    have e : (flatM (R.take i)).length = i * 2 := by rw [flatM_len]; simp; omega
    simp [Builtin.zeroCells, Value.cells, e]
    omega
  have hRt : ROW.toList.take (i * 2) = flatM (R.take i) := by
    have e : (flatM (R.take i)).length = i * 2 := by rw [flatM_len]; simp; omega
    rw [hROW, Array.toList_append, Array.toList_append, List.append_assoc, List.take_append_of_le_length (by simp [e])]
    rw [← e]; simp
  have h9 := row_new (row := ROW.toList) (R := R) (m := m) (i := i) (n := R.length) rfl (by omega) (by simp [hRl]; omega) hRt
  dsimp only at h9
  obtain ⟨C1, hC1⟩ : ∃ C1, C1 = ROW.toList.take (i * 2) ++ [Value.string m.1, .string m.2] ++ ROW.toList.drop (i * 2 + 2) := ⟨_, rfl⟩
  rw [← hC1] at h9
  obtain ⟨C2, hC2⟩ : ∃ C2, C2 = C1.take ((i + 1) * 2) ++ flatM (R.drop i) ++ C1.drop ((i + 1) * 2 + (flatM (R.drop i)).length) := ⟨_, rfl⟩
  rw [← hC2] at h9
  have HRN := hid h9
  clear h9
  have hdl : (flatM (R.drop i)).length = (R.length - i) * 2 := by rw [flatM_len, List.length_drop]
  have hnew : (w.alloc (.cells ROW 26)).heap[w.heap.size]? = some (.cells ROW 26 (0, 0)) := heap_new w _
  have hcpA : ∀ (W : World), W.heap = (w.alloc (.cells ROW 26)).heap → ∀ ty dc, (Builtin.copy_ #[22, 22] ty #[.slice (some ⟨w.heap.size, i * 2, none⟩) (R.length + 1 - i) dc, .slice (some ⟨vb, 0, none⟩) 1 1]).run Tryz.prog W = .ok (goInt 1) (W.setRow w.heap.size C1.toArray) := fun W hW ty dc => by
    rw [hC1]
    have := copy_row2 W ty w.heap.size (i * 2) (R.length + 1 - i) dc ⟨vb, 0, none⟩ 1 1 1 ROW 26 [Value.string m.1, .string m.2] (by simp only [Nat.min_def]; split <;> omega) (by rw [hW]; exact hnew) rfl (World.news_of_block (cs := #[.string m.1, .string m.2]) (by rw [hW]; exact heap_old w _ hv)) (by simp [hRl]; omega) (by simp [Value.oneCell'])
    simpa using this
  have hn1 : ((w.alloc (.cells ROW 26)).setRow w.heap.size C1.toArray).heap[w.heap.size]? = some (.cells C1.toArray 26 (0, 0)) := setRow_at hnew
  have hg1 : ((w.alloc (.cells ROW 26)).setRow w.heap.size C1.toArray).heap[g]? = some (.cells cur 26 (0, 0)) := by rw [setRow_far (by omega)]; exact heap_old w _ hg
  have hcpB : ∀ (W : World), W.heap = ((w.alloc (.cells ROW 26)).setRow w.heap.size C1.toArray).heap → ∀ ty dc sc, (Builtin.copy_ #[22, 22] ty #[.slice (some ⟨w.heap.size, (i + 1) * 2, none⟩) (R.length - i) dc, .slice (some ⟨g, i * 2, none⟩) (R.length - i) sc]).run Tryz.prog W = .ok (goInt ((R.length - i : Nat) : Int)) (W.setRow w.heap.size C2.toArray) := fun W hW ty dc sc => by
    rw [hC2]
    exact copy_row2 W ty w.heap.size ((i + 1) * 2) (R.length - i) dc ⟨g, i * 2, none⟩ (R.length - i) sc (R.length - i) C1.toArray 26 (flatM (R.drop i)) (by simp only [Nat.min_def]; split <;> omega) (by rw [hW]; exact hn1) hdl (hcur W (by rw [hW]; exact hg1) _ (i * 2) (fun j u hj => by
      rw [← flat_drop R i (by omega), List.getElem?_drop] at hj; exact hj)) (by have := HRN.out.1; simp at this ⊢; rw [hdl]; omega) (flat_one _)
  have hGi : ¬ (G = i) := by omega
  have hGim : ¬ (G = i + 1) := by omega
  have hci : ¬ (cap = i) := by omega
  have hw1 : IntKind.i64.wrap ((i : Int) + 1) = (i : Int) + 1 := by rw [IntKind.wrap_i64]; omega
  have hb1 : (0 : Int) ≤ (i : Int) + 1 := by omega
  have hin : i ≤ R.length := by omega
  have htn : ((i : Int) + 1).toNat = i + 1 := by omega
  have hb3 : (i : Int) ≤ (R.length : Int) := by omega
  have hb5 : (i : Int) + 1 ≤ (R.length : Int) + 1 := by omega
  have hb6 : (i : Int) ≤ (R.length : Int) + 1 := by omega
  have hb7 : (i : Int) ≤ (cap : Int) := by omega
  have HFI := hid (show Insd B w ((((w.alloc (.cells ROW 26)).drew.setRow w.heap.size C1.toArray).drew).setRow w.heap.size C2.toArray) (.slice (some ⟨g, 0, none⟩) R.length cap) (.slice (some ⟨w.heap.size, 0, none⟩) (R.length + 1) G) (R.take i ++ m :: R.drop i) from by
    have hl : (R.take i ++ m :: R.drop i).length = R.length + 1 := by simp; omega
    refine ⟨?_, ⟨rfl, rfl, rfl, ?_, fun k hk hne => ?_⟩, Or.inr (fun k hk => ?_)⟩
    · rw [hl]
      exact own_of_row (setRow_at (w := ((w.alloc (.cells ROW 26)).drew.setRow w.heap.size C1.toArray).drew) hn1) (by omega) hl hGn hGm (by have := HRN.out.2.1; simp [hRl] at this ⊢; omega) (by have := HRN.out.2.2; simpa using this)
    · rw [setRow_size]
      show w.heap.size ≤ ((w.alloc (.cells ROW 26)).drew.setRow w.heap.size C1.toArray).heap.size
      rw [setRow_size]
      show w.heap.size ≤ (w.alloc (.cells ROW 26)).heap.size
      simp
    · have : k ≠ w.heap.size := by omega
      rw [setRow_far this]
      show ((w.alloc (.cells ROW 26)).drew.setRow w.heap.size C1.toArray).heap[k]? = _
      rw [setRow_far this]
      show (w.alloc (.cells ROW 26)).heap[k]? = _
      exact ((Below.refl w.heap.size w).alloc (Nat.le_refl _) _).block k hk
    · have : w.heap.size = k := by simpa [Value.ownBlock] using hk
      omega)
  have HCB := hid (hcpB ((w.alloc (.cells ROW 26)).drew.setRow w.heap.size C1.toArray).drew rfl 3 (G - (i + 1)) (cap - i))
  clear hC1 hC2 hROW hG hdl hct hcur hold hg hv hg1 hn1 HRN hRl hRt hnew hkk hik hcpB
  go_enter Tryz.func61, Tryz.ntmps61
  go_wp2_with (at_builtin; refine Lib.wpList_append_run _ rfl _ _ _ _ rfl _ _ rfl rfl _ _ (hrz _) ?_)
  rw [hcpA (w.alloc (.cells ROW 26)).drew rfl]
  simp only [Result.andThen]
  rw [Oper.upon_value]
  go_wp2_with fail
  go_region_law (refine step_copy_runI rfl _ _ 22 22 rfl (.slice (some ⟨w.heap.size, (i + 1) * 2, none⟩) (R.length - i) (G - (i + 1))) (.slice (some ⟨g, i * 2, none⟩) (R.length - i) (cap - i)) (by simp [Act.eval, Act.put]) (by simp [Act.eval, Act.put]) HCB.out ?_)
  go_wp2_with fail
  go_ret
  exact ⟨_, rfl, HFI.out⟩
/-- slices.Insert of one module. -/
theorem ins_any (R : List Bm) (m : Bm) (v : Value) (B vb i : Nat) (w : World) (hn : R.length ≤ 1000000) (hB : B ≤ w.heap.size) (ho : w.ownsRow B 26 2 v R.length (flatM R)) (hv : w.heap[vb]? = some (.cells #[.string m.1, .string m.2] 26 (0, 0))) (hvg : v.ownBlock ≠ some vb) (hi : i ≤ R.length) :
    Calls Tryz.prog 61 #[v, .int .i64 i, .slice (some ⟨vb, 0, none⟩) 1 1] w fun e w' => ∃ v', e = .returned v' ∧ Insd B w w' v v' (R.take i ++ m :: R.drop i) := by
  by_cases he : i = R.length
  · subst he
    rw [List.take_length, List.drop_length]
    exact ins_end R m v B vb w hn hB ho hv
  · obtain ⟨_, ⟨_, h0⟩ | ⟨g, cap, cur, rfl, hBg, hg, hcap, hcm, hcs, hct⟩⟩ := ho
    · omega
    · by_cases hr : R.length + 1 ≤ cap
      · exact ins_room R m B g cap vb i cur w hn hBg hg hcm hcs hct hv (fun e => hvg (by rw [e]; rfl)) (by omega) hr
      · exact ins_grow R m B g cap vb i cur w hn hBg hg hcap hct hv (by omega) (by omega)
end Ve
end Go.Proofs.YtmgpbejekglipabGreatDoor

/-
  Modules whose paths rise, plain: what is ahead of a path, what is behind it, and what is at it.
-/
namespace Go.Proofs.YtmgpbejekglipabGreatDoor
open Go.RowKit
namespace Ve

theorem cbt : ∀ (a b c : List UInt8), Lib.compareBytes a b < 0 → Lib.compareBytes b c < 0 → Lib.compareBytes a c < 0 := by
  intro a
  induction a with
  | nil =>
    intro b c h1 h2
    cases c with
    | nil => cases b <;> simp [Lib.compareBytes] at h2
    | cons z c => simp [Lib.compareBytes]
  | cons x a ih =>
    intro b c h1 h2
    cases b with
    | nil => simp [Lib.compareBytes] at h1
    | cons y b =>
      cases c with
      | nil => simp [Lib.compareBytes] at h2
      | cons z c =>
        simp only [Lib.compareBytes] at h1 h2 ⊢
        by_cases e1 : x < y
        · by_cases e2 : y < z
          · rw [if_pos (UInt8.lt_trans e1 e2)]; omega
          · rw [if_neg e2] at h2
            by_cases e3 : z < y
            · rw [if_pos e3] at h2; omega
            · have : y = z := UInt8.le_antisymm (UInt8.not_lt.1 e3) (UInt8.not_lt.1 e2)
              subst this
              rw [if_pos e1]; omega
        · rw [if_neg e1] at h1
          by_cases e2 : y < x
          · rw [if_pos e2] at h1; omega
          · have : x = y := UInt8.le_antisymm (UInt8.not_lt.1 e2) (UInt8.not_lt.1 e1)
            subst this
            rw [if_neg e2] at h1
            by_cases e3 : x < z
            · rw [if_pos e3]; omega
            · rw [if_neg e3] at h2 ⊢
              by_cases e4 : z < x
              · rw [if_pos e4] at h2; omega
              · rw [if_neg e4] at h2 ⊢
                exact ih b c h1 h2
/-- Less, by bytes. -/
def lt (a b : ByteArray) : Bool := decide (Lib.compareBytes a.data.toList b.data.toList < 0)
theorem lt_trans {a b c : ByteArray} (h1 : lt a b = true) (h2 : lt b c = true) : lt a c = true := decide_eq_true (cbt _ _ _ (of_decide_eq_true h1) (of_decide_eq_true h2))
theorem lt_irrefl (a : ByteArray) : lt a a = false := by
  unfold lt; rw [(cb_zero _ _).2 rfl]; rfl
theorem lt_asymm {a b : ByteArray} (h : lt a b = true) : lt b a = false := by
  cases h2 : lt b a
  · rfl
  · have := lt_trans h h2
    rw [lt_irrefl] at this; cases this
theorem lt_three (a b : ByteArray) : lt a b = true ∨ a = b ∨ lt b a = true := by
  rcases cb_range a.data.toList b.data.toList with h | h | h
  · exact Or.inl (decide_eq_true (by omega))
  · exact Or.inr (Or.inl (str_ext ((cb_zero _ _).1 h)))
  · refine Or.inr (Or.inr (decide_eq_true ?_))
    rw [cb_swap]; omega
theorem noLess_lt (a b : ByteArray) : noLess a b = !lt a b := rfl
/-- Paths rise. -/
def rising (R : List Bm) : Prop := R.Pairwise (fun a b => lt a.1 b.1 = true)
theorem rising_of {own : ByteArray} {R : List Bm} (h : ∀ j, j < R.length → reqE own R j = 0) : rising R := by
  have hc : ∀ j, (hj : j + 1 < R.length) → lt R[j].1 R[j + 1].1 = true := by
    intro j hj
    have h1 := h (j + 1) hj
    unfold reqE prevOf at h1
    rw [List.getElem?_eq_getElem hj, if_neg (by omega)] at h1
    simp only [Nat.add_sub_cancel] at h1
    rw [List.getElem?_eq_getElem (show j < R.length by omega)] at h1
    unfold reqW at h1
    simp only at h1
    by_cases e1 : mErr R[j + 1] = 0
    · rw [if_pos e1] at h1
      by_cases e2 : R[j + 1].1 = own
      · rw [if_pos e2] at h1; omega
      · rw [if_neg e2] at h1
        rw [noLess_lt] at h1
        cases e3 : lt R[j].1 R[j + 1].1
        · rw [e3] at h1; simp at h1
        · rfl
    · rw [if_neg e1] at h1; exact absurd h1 e1
  unfold rising
  rw [List.pairwise_iff_getElem]
  intro i j hi hj hij
  induction j with
  | zero => omega
  | succ j ih =>
    rcases Nat.lt_or_ge i j with hh | hh
    · exact lt_trans (ih (by omega) hh) (hc j hj)
    · have : i = j := by omega
      subst this
      exact hc i hj
def loR (R : List Bm) (p : ByteArray) : List Bm := R.filter (fun m => lt m.1 p)
def hiR (R : List Bm) (p : ByteArray) : List Bm := R.filter (fun m => lt p m.1)
def eqR (R : List Bm) (p : ByteArray) : List Bm := R.filter (fun m => decide (m.1 = p))
theorem three_R {R : List Bm} (h : rising R) (p : ByteArray) : R = loR R p ++ (eqR R p ++ hiR R p) ∧ ((eqR R p = [] ∧ ∀ m, m ∈ R → m.1 ≠ p) ∨ ∃ q, eqR R p = [q] ∧ q.1 = p) := by
  induction R with
  | nil => exact ⟨rfl, Or.inl ⟨rfl, fun m hm => by cases hm⟩⟩
  | cons a r ih =>
    have hr : rising r := (List.pairwise_cons.1 h).2
    have ha : ∀ m, m ∈ r → lt a.1 m.1 = true := (List.pairwise_cons.1 h).1
    obtain ⟨e, hq⟩ := ih hr
    rcases lt_three a.1 p with h1 | h1 | h1
    · have h2 := lt_asymm h1
      have h3 : a.1 ≠ p := fun e => by rw [e, lt_irrefl] at h1; cases h1
      have e1 : loR (a :: r) p = a :: loR r p := by unfold loR; rw [List.filter_cons_of_pos (by simpa using h1)]
      have e2 : hiR (a :: r) p = hiR r p := by unfold hiR; rw [List.filter_cons_of_neg (by simp [h2])]
      have e3 : eqR (a :: r) p = eqR r p := by unfold eqR; rw [List.filter_cons_of_neg (by simp [h3])]
      rw [e1, e2, e3]
      refine ⟨by rw [List.cons_append, ← e], ?_⟩
      rcases hq with ⟨q1, q2⟩ | hq
      · refine Or.inl ⟨q1, fun m hm => ?_⟩
        rcases List.mem_cons.1 hm with rfl | hm
        · exact h3
        · exact q2 m hm
      · exact Or.inr hq
    · have hl : loR r p = [] := by
        unfold loR; rw [List.filter_eq_nil_iff]; intro m hm
        have := lt_asymm (ha m hm); rw [h1] at this; simp [this]
      have he : eqR r p = [] := by
        unfold eqR; rw [List.filter_eq_nil_iff]; intro m hm
        have := ha m hm
        simp only [decide_eq_true_eq]
        intro e; rw [h1, e, lt_irrefl] at this; cases this
      have e1 : loR (a :: r) p = [] := by unfold loR; rw [List.filter_cons_of_neg (by rw [h1, lt_irrefl]; simp)]; exact hl
      have e2 : hiR (a :: r) p = hiR r p := by unfold hiR; rw [List.filter_cons_of_neg (by rw [h1, lt_irrefl]; simp)]
      have e3 : eqR (a :: r) p = [a] := by unfold eqR; rw [List.filter_cons_of_pos (by simp [h1])]; exact congrArg (a :: ·) he
      rw [e1, e2, e3]
      rw [hl, he] at e
      exact ⟨by rw [List.nil_append, List.singleton_append]; exact congrArg (a :: ·) e, Or.inr ⟨a, rfl, h1⟩⟩
    · have hg : ∀ m, m ∈ a :: r → lt p m.1 = true := fun m hm => by
        rcases List.mem_cons.1 hm with rfl | hm
        · exact h1
        · exact lt_trans h1 (ha m hm)
      have e1 : loR (a :: r) p = [] := by
        unfold loR; rw [List.filter_eq_nil_iff]; intro m hm; rw [lt_asymm (hg m hm)]; simp
      have e3 : eqR (a :: r) p = [] := by
        unfold eqR; rw [List.filter_eq_nil_iff]; intro m hm
        have := hg m hm
        simp only [decide_eq_true_eq]
        intro e; rw [e, lt_irrefl] at this; cases this
      have e2 : hiR (a :: r) p = a :: r := by unfold hiR; rw [List.filter_eq_self]; exact hg
      rw [e1, e2, e3]
      refine ⟨rfl, Or.inl ⟨rfl, fun m hm e => ?_⟩⟩
      have := hg m hm
      rw [e, lt_irrefl] at this; cases this
/-- What is required once m is set; once a path is dropped. -/
def setR (R : List Bm) (m : Bm) : List Bm := loR R m.1 ++ m :: hiR R m.1
def dropR (R : List Bm) (p : ByteArray) : List Bm := loR R p ++ hiR R p
theorem loR_mem {R : List Bm} {p : ByteArray} {m : Bm} : m ∈ loR R p ↔ m ∈ R ∧ lt m.1 p = true := List.mem_filter
theorem hiR_mem {R : List Bm} {p : ByteArray} {m : Bm} : m ∈ hiR R p ↔ m ∈ R ∧ lt p m.1 = true := List.mem_filter
theorem loR_set (R : List Bm) (m : Bm) : loR (setR R m) m.1 = loR R m.1 := by
  unfold setR loR
  rw [List.filter_append, List.filter_filter, List.filter_cons_of_neg (by rw [lt_irrefl]; simp)]
  have e1 : (hiR R m.1).filter (fun x => lt x.1 m.1) = [] := by
    rw [List.filter_eq_nil_iff]; intro x hx; rw [lt_asymm (hiR_mem.1 hx).2]; simp
  rw [e1, List.append_nil]
  simp
theorem hiR_set (R : List Bm) (m : Bm) : hiR (setR R m) m.1 = hiR R m.1 := by
  unfold setR
  have e0 : ∀ (a b : List Bm), hiR (a ++ b) m.1 = hiR a m.1 ++ hiR b m.1 := fun a b => List.filter_append _ _
  rw [e0]
  have e1 : hiR (loR R m.1) m.1 = [] := by
    unfold hiR; rw [List.filter_eq_nil_iff]; intro x hx; rw [lt_asymm (loR_mem.1 hx).2]; simp
  have e2 : hiR (m :: hiR R m.1) m.1 = hiR R m.1 := by
    unfold hiR; rw [List.filter_cons_of_neg (by rw [lt_irrefl]; simp), List.filter_filter]; simp
  rw [e1, e2, List.nil_append]
theorem drop_set (R : List Bm) (m : Bm) : dropR (setR R m) m.1 = dropR R m.1 := by unfold dropR; rw [loR_set, hiR_set]
theorem drop_mem {R : List Bm} {p : ByteArray} {m : Bm} : m ∈ dropR R p ↔ m ∈ R ∧ m.1 ≠ p := by
  unfold dropR
  rw [List.mem_append, loR_mem, hiR_mem]
  constructor
  · rintro (⟨h1, h2⟩ | ⟨h1, h2⟩)
    · exact ⟨h1, fun e => by rw [e, lt_irrefl] at h2; cases h2⟩
    · exact ⟨h1, fun e => by rw [e, lt_irrefl] at h2; cases h2⟩
  · rintro ⟨h1, h2⟩
    rcases lt_three m.1 p with h | h | h
    · exact Or.inl ⟨h1, h⟩
    · exact absurd h h2
    · exact Or.inr ⟨h1, h⟩
theorem rising_drop {R : List Bm} (h : rising R) (p : ByteArray) : dropR R p = R.filter (fun m => decide (m.1 ≠ p)) := by
  obtain ⟨e, hq⟩ := three_R h p
  have e0 : ∀ (a b : List Bm), (a ++ b).filter (fun m => decide (m.1 ≠ p)) = a.filter (fun m => decide (m.1 ≠ p)) ++ b.filter (fun m => decide (m.1 ≠ p)) := fun a b => List.filter_append _ _
  have e1 : (loR R p).filter (fun m => decide (m.1 ≠ p)) = loR R p := by
    rw [List.filter_eq_self]; intro x hx
    have := (loR_mem.1 hx).2
    exact decide_eq_true (fun e => by rw [e, lt_irrefl] at this; cases this)
  have e2 : (hiR R p).filter (fun m => decide (m.1 ≠ p)) = hiR R p := by
    rw [List.filter_eq_self]; intro x hx
    have := (hiR_mem.1 hx).2
    exact decide_eq_true (fun e => by rw [e, lt_irrefl] at this; cases this)
  have e3 : (eqR R p).filter (fun m => decide (m.1 ≠ p)) = [] := by
    rw [List.filter_eq_nil_iff]; intro x hx
    have : x.1 = p := of_decide_eq_true (List.mem_filter.1 hx).2
    simp [this]
  conv => rhs; rw [e, e0, e0, e1, e2, e3]
  rfl
end Ve
end Go.Proofs.YtmgpbejekglipabGreatDoor
