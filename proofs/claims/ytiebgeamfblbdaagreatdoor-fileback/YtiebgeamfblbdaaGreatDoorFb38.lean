/-
  FileU
-/
import Derived.Test.YtiebgeamfblbdaaGreatDoorFb37
namespace Go.Proofs.YtiebgeamfblbdaaGreatDoor
open Go.RowKit
namespace Ve
theorem row_shift {cur : List Value} {R : List Bm} {m : Bm} {i n : Nat} (hn : R.length = n) (hi : i ≤ n) (hl : (n + 1) * 2 ≤ cur.length) (ht : cur.take (n * 2) = flatM R) :
    let c1 := cur.take ((i + 1) * 2) ++ flatM (R.drop i) ++ cur.drop ((i + 1) * 2 + (flatM (R.drop i)).length)
    let c2 := c1.take (i * 2) ++ [Value.string m.1, .string m.2] ++ c1.drop (i * 2 + 2)
    c1.length = cur.length ∧ c2.length = cur.length ∧ c2.take ((n + 1) * 2) = flatM (R.take i ++ m :: R.drop i) := by
  intro c1 c2
  have hdl : (flatM (R.drop i)).length = (n - i) * 2 := by rw [flatM_len, List.length_drop, hn]
  have h1 : c1.length = cur.length := by
    show (cur.take ((i + 1) * 2) ++ flatM (R.drop i) ++ cur.drop ((i + 1) * 2 + (flatM (R.drop i)).length)).length = _
    simp only [List.length_append, List.length_take, List.length_drop, hdl]
    omega
  have h2 : c2.length = cur.length := by
    show (c1.take (i * 2) ++ [Value.string m.1, .string m.2] ++ c1.drop (i * 2 + 2)).length = _
    simp only [List.length_append, List.length_take, List.length_drop, List.length_cons, List.length_nil]
    omega
  refine ⟨h1, h2, ?_⟩
  have ht1 : c1.take (i * 2) = flatM (R.take i) := by
    show (cur.take ((i + 1) * 2) ++ flatM (R.drop i) ++ cur.drop _).take (i * 2) = _
    rw [List.append_assoc, List.take_append_of_le_length (by simp; omega), List.take_take, show min (i * 2) ((i + 1) * 2) = i * 2 by omega, ← flat_take R i (by omega), ← ht, List.take_take, show min (i * 2) (n * 2) = i * 2 by omega]
  have hd1 : c1.drop (i * 2 + 2) = flatM (R.drop i) ++ cur.drop ((i + 1) * 2 + (flatM (R.drop i)).length) := by
    show (cur.take ((i + 1) * 2) ++ flatM (R.drop i) ++ cur.drop _).drop (i * 2 + 2) = _
    have e : (cur.take ((i + 1) * 2)).length = i * 2 + 2 := by simp; omega
    rw [List.append_assoc, ← e, List.drop_left]
  show (c1.take (i * 2) ++ [Value.string m.1, .string m.2] ++ c1.drop (i * 2 + 2)).take ((n + 1) * 2) = _
  rw [ht1, hd1, flatM_app, flat_cons]
  have hasc : flatM (R.take i) ++ [Value.string m.1, .string m.2] ++ (flatM (R.drop i) ++ cur.drop ((i + 1) * 2 + (flatM (R.drop i)).length)) = (flatM (R.take i) ++ ([Value.string m.1, .string m.2] ++ flatM (R.drop i))) ++ cur.drop ((i + 1) * 2 + (flatM (R.drop i)).length) := by simp
  rw [hasc]
  have hlen : (flatM (R.take i) ++ ([Value.string m.1, .string m.2] ++ flatM (R.drop i))).length = (n + 1) * 2 := by
    simp only [List.length_append, hdl, flatM_len, List.length_take, List.length_cons, List.length_nil]
    omega
  rw [← hlen, List.take_left]
theorem own_of_row {W : World} {B g n cap : Nat} {cur : Array Value} {R : List Bm} (hg : W.heap[g]? = some (.cells cur 26 (0, 0))) (hB : B ≤ g) (hn : R.length = n) (hc : n ≤ cap) (hm : cap ≤ maxLen) (hs : cur.size = cap * 2) (ht : cur.toList.take (n * 2) = flatM R) :
    W.ownsRow B 26 2 (.slice (some ⟨g, 0, none⟩) n cap) n (flatM R) := ⟨by rw [flatM_len, hn], Or.inr ⟨g, cap, cur, rfl, hB, hg, hc, hm, hs, ht⟩⟩
set_option maxHeartbeats 4000000 in
set_option maxRecDepth 100000 in
theorem ins_room (R : List Bm) (m : Bm) (B g cap vb i : Nat) (cur : Array Value) (w : World) (hn : R.length ≤ 1000000) (hB : B ≤ g) (hg : w.heap[g]? = some (.cells cur 26 (0, 0))) (hcm : cap ≤ maxLen) (hcs : cur.size = cap * 2) (hct : cur.toList.take (R.length * 2) = flatM R)
    (hv : w.heap[vb]? = some (.cells #[.string m.1, .string m.2] 26 (0, 0))) (hvg : vb ≠ g) (hi : i < R.length) (hroom : R.length + 1 ≤ cap) :
    Calls Tryz.prog 27 #[.slice (some ⟨g, 0, none⟩) R.length cap, .int .i64 i, .slice (some ⟨vb, 0, none⟩) 1 1] w fun e w' => ∃ v', e = .returned v' ∧ Insd B w w' (.slice (some ⟨g, 0, none⟩) R.length cap) v' (R.take i ++ m :: R.drop i) := by
  have HRS := hid (row_shift (cur := cur.toList) (R := R) (m := m) (i := i) (n := R.length) rfl (by omega) (by simp; omega) hct)
  have hz2 : ¬ ((i : Int) = (R.length : Int)) := by omega
  have hz3 : ¬ ((cap : Int) < (R.length : Int) + 1) := by omega
  have hov : ∀ lb cb, (callFunc 47 #[.slice (some ⟨vb, 0, none⟩) 1 1, .slice (some ⟨g, (i + 1) * 2, none⟩) lb cb]).run Tryz.prog w = .ok (.value (.bool false)) w := fun lb cb => by
    rw [run_callFunc_extern Tryz.func47 (by kernel_rfl) (by kernel_rfl) (by kernel_rfl) (e := Extern.SlicesOverlaps.overlaps #[22, 22] #[4]) (by kernel_rfl),
      Lib.run_overlaps_apart w 22 4 26 Tryz.underlying22 2 Tryz.sizeOf26 ⟨vb, 0, none⟩ ⟨g, (i + 1) * 2, none⟩ 1 1 lb cb hvg 26 26 2 (cap * 2) (by simp [World.shape?, hv]) (by simp [World.shape?, hg, hcs]) (by omega) (Lib.frozen_of_heap hv 0) (Lib.frozen_of_heap hv 2)]
    rfl
  have hdl : (flatM (R.drop i)).length = (R.length - i) * 2 := by rw [flatM_len, List.length_drop]
  have hcp1 : ∀ ty dl dc sl sc, Nat.min sl dl = R.length - i → (Builtin.copy_ #[22, 22] ty #[.slice (some ⟨g, (i + 1) * 2, none⟩) dl dc, .slice (some ⟨g, i * 2, none⟩) sl sc]).run Tryz.prog w.drew = .ok (goInt ((R.length - i : Nat) : Int)) (w.drew.setRow g (cur.toList.take ((i + 1) * 2) ++ flatM (R.drop i) ++ cur.toList.drop ((i + 1) * 2 + (flatM (R.drop i)).length)).toArray) := fun ty dl dc sl sc hmin =>
    copy_row2 w.drew ty g ((i + 1) * 2) dl dc ⟨g, i * 2, none⟩ sl sc (R.length - i) cur 26 (flatM (R.drop i)) hmin hg (by rw [hdl]) (fun j u hj => by
      rw [Addr.add_lit]
      have h1 : w.drew.cell? ⟨g, i * 2 + j, none⟩ = cur[i * 2 + j]? := Lib.cell_of_heap (w := w.drew) hg _
      rw [h1]
      have hjl : j < (R.length - i) * 2 := by rw [← hdl]; exact (List.getElem?_eq_some_iff.1 hj).1
      rw [← flat_drop R i (by omega), List.getElem?_drop, ← hct, List.getElem?_take, if_pos (by omega)] at hj
      simpa using hj) (by rw [hdl]; omega) (flat_one _)
  obtain ⟨C1, hC1⟩ : ∃ C1, C1 = cur.toList.take ((i + 1) * 2) ++ flatM (R.drop i) ++ cur.toList.drop ((i + 1) * 2 + (flatM (R.drop i)).length) := ⟨_, rfl⟩
  rw [← hC1] at hcp1 HRS
  have hg1 : (w.drew.setRow g C1.toArray).heap[g]? = some (.cells C1.toArray 26 (0, 0)) := setRow_at (w := w.drew) hg
  have hv1 : (w.drew.setRow g C1.toArray).heap[vb]? = some (.cells #[.string m.1, .string m.2] 26 (0, 0)) := by rw [setRow_far hvg]; exact hv
  obtain ⟨C2, hC2⟩ : ∃ C2 : Array Value, C2 = (C1.take (i * 2) ++ [Value.string m.1, .string m.2] ++ C1.drop (i * 2 + 2)).toArray := ⟨_, rfl⟩
  have hcp2 : ∀ (W : World), W.heap = (w.drew.setRow g C1.toArray).heap → ∀ ty dc, (Builtin.copy_ #[22, 22] ty #[.slice (some ⟨g, i * 2, none⟩) (R.length + 1 - i) dc, .slice (some ⟨vb, 0, none⟩) 1 1]).run Tryz.prog W = .ok (goInt 1) (W.setRow g C2) := fun W hW ty dc => by
    rw [hC2]
    have := copy_row2 W ty g (i * 2) (R.length + 1 - i) dc ⟨vb, 0, none⟩ 1 1 1 C1.toArray 26 [Value.string m.1, .string m.2] (by simp only [Nat.min_def]; split <;> omega) (by rw [hW]; exact hg1) rfl (World.news_of_block (cs := #[.string m.1, .string m.2]) (by rw [hW]; exact hv1)) (by have := HRS.out.1; simp at this ⊢; omega) (by simp [Value.oneCell'])
    simpa using this
  have hw1 : IntKind.i64.wrap ((i : Int) + 1) = (i : Int) + 1 := by rw [IntKind.wrap_i64]; omega
  have hb1 : (0 : Int) ≤ (i : Int) + 1 := by omega
  have hin : i ≤ R.length := by omega
  have htn : ((i : Int) + 1).toNat = i + 1 := by omega
  have hb2 : ¬ (cap = i + 1) := by omega
  have hb3 : (i : Int) ≤ (R.length : Int) + 1 := by omega
  have hb4 : ¬ (cap = i) := by omega
  have hb5 : (i : Int) + 1 ≤ (R.length : Int) + 1 := by omega
  have hb6 : (R.length : Int) + 1 ≤ (cap : Int) := by omega
  have HFI := hid (show Insd B w ((w.drew.setRow g C1.toArray).setRow g C2) (.slice (some ⟨g, 0, none⟩) R.length cap) (.slice (some ⟨g, 0, none⟩) (R.length + 1) cap) (R.take i ++ m :: R.drop i) from by
    have hl : (R.take i ++ m :: R.drop i).length = R.length + 1 := by simp; omega
    rw [hC2]
    refine ⟨?_, ⟨rfl, rfl, rfl, by rw [setRow_size, setRow_size]; exact Nat.le_refl _, fun k hk hne => ?_⟩, Or.inl rfl⟩
    · rw [hl]
      exact own_of_row (setRow_at hg1) hB hl (by omega) hcm (by have := HRS.out.2.1; simp at this ⊢; omega) (by have := HRS.out.2.2; simpa using this)
    · have : k ≠ g := fun e => hne (by rw [e]; rfl)
      rw [setRow_far this, setRow_far this]; rfl)
  have HCP1 := hid (hcp1 3 (R.length - i) (cap - (i + 1)) (R.length + 1 - i) (cap - i) (by simp only [Nat.min_def]; split <;> omega))
  clear hC1 hC2 hdl hct hcs hg hv hg1 hv1 HRS hcp1
  go_enter Tryz.func27, Tryz.ntmps27
  go_wp2_with (simp only [hov])
  go_region_law (refine step_copy_runI rfl _ _ 22 22 rfl (.slice (some ⟨g, (i + 1) * 2, none⟩) (R.length - i) (cap - (i + 1))) (.slice (some ⟨g, i * 2, none⟩) (R.length + 1 - i) (cap - i)) (by simp [Act.eval, Act.put]) (by simp [Act.eval, Act.put]) HCP1.out ?_)
  go_wp2_with (at_builtin; refine wpList_copy_runI _ rfl _ _ 22 22 rfl _ _ rfl rfl (hcp2 _ rfl _ _) ?_)
  go_ret
  exact ⟨_, rfl, HFI.out⟩
end Ve
end Go.Proofs.YtiebgeamfblbdaaGreatDoor
