/-
  FileV
-/
import Derived.Test.YtiebgeamfblbdaaGreatDoorFb38
import Derived.Shelf.Spec.SlicesInsertGrow
namespace Go.Proofs.YtiebgeamfblbdaaGreatDoor
open Go.RowKit
namespace Ve
theorem row_new {row : List Value} {R : List Bm} {m : Bm} {i n : Nat} (hn : R.length = n) (hi : i ≤ n) (hl : (n + 1) * 2 ≤ row.length) (ht : row.take (i * 2) = flatM (R.take i)) :
    let c1 := row.take (i * 2) ++ [Value.string m.1, .string m.2] ++ row.drop (i * 2 + 2)
    let c2 := c1.take ((i + 1) * 2) ++ flatM (R.drop i) ++ c1.drop ((i + 1) * 2 + (flatM (R.drop i)).length)
    c1.length = row.length ∧ c2.length = row.length ∧ c2.take ((n + 1) * 2) = flatM (R.take i ++ m :: R.drop i) := by
  intro c1 c2
  have hdl : (flatM (R.drop i)).length = (n - i) * 2 := by rw [flatM_len, List.length_drop, hn]
  have h1 : c1.length = row.length := by
    show (row.take (i * 2) ++ [Value.string m.1, .string m.2] ++ row.drop (i * 2 + 2)).length = _
    simp only [List.length_append, List.length_take, List.length_drop, List.length_cons, List.length_nil]
    omega
  have h2 : c2.length = row.length := by
    show (c1.take ((i + 1) * 2) ++ flatM (R.drop i) ++ c1.drop ((i + 1) * 2 + (flatM (R.drop i)).length)).length = _
    simp only [List.length_append, List.length_take, List.length_drop, hdl]
    omega
  refine ⟨h1, h2, ?_⟩
  have hc : c1.take ((i + 1) * 2) = flatM (R.take i) ++ [Value.string m.1, .string m.2] := by
    show (row.take (i * 2) ++ [Value.string m.1, .string m.2] ++ row.drop (i * 2 + 2)).take ((i + 1) * 2) = _
    have e : (row.take (i * 2) ++ [Value.string m.1, .string m.2]).length = (i + 1) * 2 := by simp; omega
    rw [← e, List.take_left, ht]
  show (c1.take ((i + 1) * 2) ++ flatM (R.drop i) ++ c1.drop ((i + 1) * 2 + (flatM (R.drop i)).length)).take ((n + 1) * 2) = _
  rw [hc, flatM_app, flat_cons]
  have hlen : (flatM (R.take i) ++ [Value.string m.1, .string m.2] ++ flatM (R.drop i)).length = (n + 1) * 2 := by
    simp only [List.length_append, hdl, flatM_len, List.length_take, List.length_cons, List.length_nil]
    omega
  rw [← hlen, List.take_left, List.append_assoc]
set_option maxHeartbeats 4000000 in
set_option maxRecDepth 100000 in
theorem ins_grow (R : List Bm) (m : Bm) (B g cap vb i : Nat) (cur : Array Value) (w : World) (hn : R.length ≤ 1000000) (hB : B ≤ g) (hg : w.heap[g]? = some (.cells cur 26 (0, 0))) (hcap : R.length ≤ cap) (hct : cur.toList.take (R.length * 2) = flatM R)
    (hv : w.heap[vb]? = some (.cells #[.string m.1, .string m.2] 26 (0, 0))) (hi : i < R.length) (hroom : cap < R.length + 1) :
    Calls Tryz.prog 27 #[.slice (some ⟨g, 0, none⟩) R.length cap, .int .i64 i, .slice (some ⟨vb, 0, none⟩) 1 1] w fun e w' => ∃ v', e = .returned v' ∧ Insd B w w' (.slice (some ⟨g, 0, none⟩) R.length cap) v' (R.take i ++ m :: R.drop i) := by
  obtain ⟨i0, hi0, hz0, hzs, hzb⟩ := info_parts infoMod
  have hcur : ∀ W : World, W.heap[g]? = some (.cells cur 26 (0, 0)) → ∀ (L : List Value) (k : Nat), (∀ j u, L[j]? = some u → (flatM R)[k + j]? = some u) → ∀ j u, L[j]? = some u → W.cell? ((⟨g, k, none⟩ : Addr).add j) = some u := fun W hW L k hL j u hj => by
    rw [Addr.add_lit, Lib.cell_of_heap hW]
    have h1 := hL j u hj
    rw [← hct, List.getElem?_take] at h1
    split at h1
    · simpa using h1
    · cases h1
  have hgw : g < w.heap.size := lt_of_blk hg
  have hvw : vb < w.heap.size := lt_of_blk hv
  have hz2 : ¬ ((i : Int) = (R.length : Int)) := by omega
  have hz3 : (cap : Int) < (R.length : Int) + 1 := by omega
  have hkk : (R.length : Int) + 1 - (i : Int) = ((R.length + 1 - i : Nat) : Int) := by omega
  have hik : i + (R.length + 1 - i) = R.length + 1 := by omega
  have hold : (Builtin.firstCells i0.size i (.slice (some ⟨g, 0, none⟩) i cap)).run Tryz.prog w.drew = .ok (flatM (R.take i)).toArray w.drew := by
    rw [hzs]
    exact run_firstCells_some w.drew 2 i ⟨g, 0, none⟩ i cap (flatM (R.take i)) (by rw [flatM_len]; simp; omega) (hcur w.drew hg _ 0 (fun j u hj => by
      rw [← flat_take R i (by omega), List.getElem?_take] at hj
      split at hj
      · rw [Nat.zero_add]; exact hj
      · cases hj))
  have hrz : ∀ ty, (Builtin.append_ #[22, 3] ty #[.slice (some ⟨g, 0, none⟩) i cap, .int .i64 ((R.length : Int) + 1 - (i : Int))]).run Tryz.prog w =
      .ok (.slice (some ⟨w.heap.size, 0, none⟩) (R.length + 1) (grownCap w (R.length + 1) cap 26)) (w.drew.alloc (.cells ((flatM (R.take i)).toArray ++ Builtin.zeroCells (Value.agg #[.string ⟨#[]⟩, .string ⟨#[]⟩]).cells (R.length + 1 - i) ++ Builtin.zeroCells (Value.agg #[.string ⟨#[]⟩, .string ⟨#[]⟩]).cells (grownCap w (R.length + 1) cap 26 - (R.length + 1))) 26)) := fun ty => by
    have h := Lib.run_append_grow_zeros w 22 3 ty 26 i0 _ .i64 .i64 Tryz.underlying22 Tryz.underlying3 hi0 hz0 (some ⟨g, 0, none⟩) i cap (flatM (R.take i)) hold (R.length + 1 - i) (by omega) (by omega) (by omega) (by omega) (by rw [hzb]; omega) (by rw [hzb, hik]; exact growslice_fits hroom (by omega))
    rw [hik] at h
    rw [hkk]
    exact h
  obtain ⟨G, hG⟩ : ∃ G, G = grownCap w (R.length + 1) cap 26 := ⟨_, rfl⟩
  obtain ⟨ROW, hROW⟩ : ∃ ROW : Array Value, ROW = (flatM (R.take i)).toArray ++ Builtin.zeroCells (Value.agg #[.string ⟨#[]⟩, .string ⟨#[]⟩]).cells (R.length + 1 - i) ++ Builtin.zeroCells (Value.agg #[.string ⟨#[]⟩, .string ⟨#[]⟩]).cells (G - (R.length + 1)) := ⟨_, rfl⟩
  rw [← hG, ← hROW] at hrz
  have hGn : R.length + 1 ≤ G := by rw [hG]; exact grownCap_ge w _ _ _
  have hGm : G ≤ maxLen := by rw [hG]; exact grownCap_le_maxLen w (R.length + 1) cap 26 (by unfold maxLen; omega)
  have hRl : ROW.size = G * 2 := by
    rw [hROW]
    have e : (flatM (R.take i)).length = i * 2 := by rw [flatM_len]; simp; omega
    simp [Builtin.zeroCells, Value.cells, e]
    omega
  have hRt : ROW.toList.take (i * 2) = flatM (R.take i) := by
    have e : (flatM (R.take i)).length = i * 2 := by rw [flatM_len]; simp; omega
    rw [hROW, Array.toList_append, Array.toList_append, List.append_assoc, List.take_append_of_le_length (by simp [e])]
    rw [← e]; simp
  have h9 := row_new (row := ROW.toList) (R := R) (m := m) (i := i) (n := R.length) rfl (by omega) (by simp [hRl]; omega) hRt
  dsimp only at h9
  obtain ⟨C1, hC1⟩ : ∃ C1, C1 = ROW.toList.take (i * 2) ++ [Value.string m.1, .string m.2] ++ ROW.toList.drop (i * 2 + 2) := ⟨_, rfl⟩
  rw [← hC1] at h9
  obtain ⟨C2, hC2⟩ : ∃ C2, C2 = C1.take ((i + 1) * 2) ++ flatM (R.drop i) ++ C1.drop ((i + 1) * 2 + (flatM (R.drop i)).length) := ⟨_, rfl⟩
  rw [← hC2] at h9
  have HRN := hid h9
  clear h9
  have hdl : (flatM (R.drop i)).length = (R.length - i) * 2 := by rw [flatM_len, List.length_drop]
  have hnew : (w.alloc (.cells ROW 26)).heap[w.heap.size]? = some (.cells ROW 26 (0, 0)) := heap_new w _
  have hcpA : ∀ (W : World), W.heap = (w.alloc (.cells ROW 26)).heap → ∀ ty dc, (Builtin.copy_ #[22, 22] ty #[.slice (some ⟨w.heap.size, i * 2, none⟩) (R.length + 1 - i) dc, .slice (some ⟨vb, 0, none⟩) 1 1]).run Tryz.prog W = .ok (goInt 1) (W.setRow w.heap.size C1.toArray) := fun W hW ty dc => by
    rw [hC1]
    have := copy_row2 W ty w.heap.size (i * 2) (R.length + 1 - i) dc ⟨vb, 0, none⟩ 1 1 1 ROW 26 [Value.string m.1, .string m.2] (by simp only [Nat.min_def]; split <;> omega) (by rw [hW]; exact hnew) rfl (World.news_of_block (cs := #[.string m.1, .string m.2]) (by rw [hW]; exact heap_old w _ hv)) (by simp [hRl]; omega) (by simp [Value.oneCell'])
    simpa using this
  have hn1 : ((w.alloc (.cells ROW 26)).setRow w.heap.size C1.toArray).heap[w.heap.size]? = some (.cells C1.toArray 26 (0, 0)) := setRow_at hnew
  have hg1 : ((w.alloc (.cells ROW 26)).setRow w.heap.size C1.toArray).heap[g]? = some (.cells cur 26 (0, 0)) := by rw [setRow_far (by omega)]; exact heap_old w _ hg
  have hcpB : ∀ (W : World), W.heap = ((w.alloc (.cells ROW 26)).setRow w.heap.size C1.toArray).heap → ∀ ty dc sc, (Builtin.copy_ #[22, 22] ty #[.slice (some ⟨w.heap.size, (i + 1) * 2, none⟩) (R.length - i) dc, .slice (some ⟨g, i * 2, none⟩) (R.length - i) sc]).run Tryz.prog W = .ok (goInt ((R.length - i : Nat) : Int)) (W.setRow w.heap.size C2.toArray) := fun W hW ty dc sc => by
    rw [hC2]
    exact copy_row2 W ty w.heap.size ((i + 1) * 2) (R.length - i) dc ⟨g, i * 2, none⟩ (R.length - i) sc (R.length - i) C1.toArray 26 (flatM (R.drop i)) (by simp only [Nat.min_def]; split <;> omega) (by rw [hW]; exact hn1) hdl (hcur W (by rw [hW]; exact hg1) _ (i * 2) (fun j u hj => by
      rw [← flat_drop R i (by omega), List.getElem?_drop] at hj; exact hj)) (by have := HRN.out.1; simp at this ⊢; rw [hdl]; omega) (flat_one _)
  have hGi : ¬ (G = i) := by omega
  have hGim : ¬ (G = i + 1) := by omega
  have hci : ¬ (cap = i) := by omega
  have hw1 : IntKind.i64.wrap ((i : Int) + 1) = (i : Int) + 1 := by rw [IntKind.wrap_i64]; omega
  have hb1 : (0 : Int) ≤ (i : Int) + 1 := by omega
  have hin : i ≤ R.length := by omega
  have htn : ((i : Int) + 1).toNat = i + 1 := by omega
  have hb3 : (i : Int) ≤ (R.length : Int) := by omega
  have hb5 : (i : Int) + 1 ≤ (R.length : Int) + 1 := by omega
  have hb6 : (i : Int) ≤ (R.length : Int) + 1 := by omega
  have hb7 : (i : Int) ≤ (cap : Int) := by omega
  have HFI := hid (show Insd B w ((((w.alloc (.cells ROW 26)).drew.setRow w.heap.size C1.toArray).drew).setRow w.heap.size C2.toArray) (.slice (some ⟨g, 0, none⟩) R.length cap) (.slice (some ⟨w.heap.size, 0, none⟩) (R.length + 1) G) (R.take i ++ m :: R.drop i) from by
    have hl : (R.take i ++ m :: R.drop i).length = R.length + 1 := by simp; omega
    refine ⟨?_, ⟨rfl, rfl, rfl, ?_, fun k hk hne => ?_⟩, Or.inr (fun k hk => ?_)⟩
    · rw [hl]
      exact own_of_row (setRow_at (w := ((w.alloc (.cells ROW 26)).drew.setRow w.heap.size C1.toArray).drew) hn1) (by omega) hl hGn hGm (by have := HRN.out.2.1; simp [hRl] at this ⊢; omega) (by have := HRN.out.2.2; simpa using this)
    · rw [setRow_size]
      show w.heap.size ≤ ((w.alloc (.cells ROW 26)).drew.setRow w.heap.size C1.toArray).heap.size
      rw [setRow_size]
      show w.heap.size ≤ (w.alloc (.cells ROW 26)).heap.size
      simp
    · have : k ≠ w.heap.size := by omega
      rw [setRow_far this]
      show ((w.alloc (.cells ROW 26)).drew.setRow w.heap.size C1.toArray).heap[k]? = _
      rw [setRow_far this]
      show (w.alloc (.cells ROW 26)).heap[k]? = _
      exact ((Below.refl w.heap.size w).alloc (Nat.le_refl _) _).block k hk
    · have : w.heap.size = k := by simpa [Value.ownBlock] using hk
      omega)
  have HCB := hid (hcpB ((w.alloc (.cells ROW 26)).drew.setRow w.heap.size C1.toArray).drew rfl 3 (G - (i + 1)) (cap - i))
  clear hC1 hC2 hROW hG hdl hct hcur hold hg hv hg1 hn1 HRN hRl hRt hnew hkk hik hcpB
  go_enter Tryz.func27, Tryz.ntmps27
  go_wp2_with (at_builtin; refine Lib.wpList_append_run _ rfl _ _ _ _ rfl _ _ rfl rfl _ _ (hrz _) ?_)
  rw [hcpA (w.alloc (.cells ROW 26)).drew rfl]
  simp only [Result.andThen]
  rw [Oper.upon_value]
  go_wp2_with fail
  go_region_law (refine step_copy_runI rfl _ _ 22 22 rfl (.slice (some ⟨w.heap.size, (i + 1) * 2, none⟩) (R.length - i) (G - (i + 1))) (.slice (some ⟨g, i * 2, none⟩) (R.length - i) (cap - i)) (by simp [Act.eval, Act.put]) (by simp [Act.eval, Act.put]) HCB.out ?_)
  go_wp2_with fail
  go_ret
  exact ⟨_, rfl, HFI.out⟩
theorem ins_any (R : List Bm) (m : Bm) (v : Value) (B vb i : Nat) (w : World) (hn : R.length ≤ 1000000) (hB : B ≤ w.heap.size) (ho : w.ownsRow B 26 2 v R.length (flatM R)) (hv : w.heap[vb]? = some (.cells #[.string m.1, .string m.2] 26 (0, 0))) (hvg : v.ownBlock ≠ some vb) (hi : i ≤ R.length) :
    Calls Tryz.prog 27 #[v, .int .i64 i, .slice (some ⟨vb, 0, none⟩) 1 1] w fun e w' => ∃ v', e = .returned v' ∧ Insd B w w' v v' (R.take i ++ m :: R.drop i) := by
  by_cases he : i = R.length
  · subst he
    rw [List.take_length, List.drop_length]
    exact ins_end R m v B vb w hn hB ho hv
  · obtain ⟨_, ⟨_, h0⟩ | ⟨g, cap, cur, rfl, hBg, hg, hcap, hcm, hcs, hct⟩⟩ := ho
    · omega
    · by_cases hr : R.length + 1 ≤ cap
      · exact ins_room R m B g cap vb i cur w hn hBg hg hcm hcs hct hv (fun e => hvg (by rw [e]; rfl)) (by omega) hr
      · exact ins_grow R m B g cap vb i cur w hn hBg hg hcap hct hv (by omega) (by omega)
end Ve
end Go.Proofs.YtiebgeamfblbdaaGreatDoor
