/-
  What slices.Insert answers at modules where there is no room; at any place.
-/
import Derived.Test.YtjphlclhkaoipaaGreatDoorJn6
import Derived.Shelf.Spec.SlicesInsertGrow
import Derived.Test.YtjphlclhkaoipaaGreatDoorJn2
import Derived.Test.YtjphlclhkaoipaaGreatDoorJn3
import Derived.Deep.LoopGhost
namespace Go.Proofs.YtjphlclhkaoipaaGreatDoor
open Go.RowKit
namespace Ve

theorem row_new {row : List Value} {R : List Bm} {m : Bm} {i n : Nat} (hn : R.length = n) (hi : i ≤ n) (hl : (n + 1) * 2 ≤ row.length) (ht : row.take (i * 2) = flatM (R.take i)) :
    let c1 := row.take (i * 2) ++ [Value.string m.1, .string m.2] ++ row.drop (i * 2 + 2)
    let c2 := c1.take ((i + 1) * 2) ++ flatM (R.drop i) ++ c1.drop ((i + 1) * 2 + (flatM (R.drop i)).length)
    c1.length = row.length ∧ c2.length = row.length ∧ c2.take ((n + 1) * 2) = flatM (R.take i ++ m :: R.drop i) := by
  intro c1 c2
  have hdl : (flatM (R.drop i)).length = (n - i) * 2 := by rw [flatM_len, List.length_drop, hn]
  have h1 : c1.length = row.length := by
    show (row.take (i * 2) ++ [Value.string m.1, .string m.2] ++ row.drop (i * 2 + 2)).length = _
    simp only [List.length_append, List.length_take, List.length_drop, List.length_cons, List.length_nil]
    omega
  have h2 : c2.length = row.length := by
    show (c1.take ((i + 1) * 2) ++ flatM (R.drop i) ++ c1.drop ((i + 1) * 2 + (flatM (R.drop i)).length)).length = _
    simp only [List.length_append, List.length_take, List.length_drop, hdl]
    omega
  refine ⟨h1, h2, ?_⟩
  have hc : c1.take ((i + 1) * 2) = flatM (R.take i) ++ [Value.string m.1, .string m.2] := by
    show (row.take (i * 2) ++ [Value.string m.1, .string m.2] ++ row.drop (i * 2 + 2)).take ((i + 1) * 2) = _
    have e : (row.take (i * 2) ++ [Value.string m.1, .string m.2]).length = (i + 1) * 2 := by simp; omega
    rw [← e, List.take_left, ht]
  show (c1.take ((i + 1) * 2) ++ flatM (R.drop i) ++ c1.drop ((i + 1) * 2 + (flatM (R.drop i)).length)).take ((n + 1) * 2) = _
  rw [hc, flatM_app, flat_cons]
  have hlen : (flatM (R.take i) ++ [Value.string m.1, .string m.2] ++ flatM (R.drop i)).length = (n + 1) * 2 := by
    simp only [List.length_append, hdl, flatM_len, List.length_take, List.length_cons, List.length_nil]
    omega
  rw [← hlen, List.take_left, List.append_assoc]
set_option maxHeartbeats 4000000 in
set_option maxRecDepth 100000 in
/-- There is no room. -/
theorem ins_grow (R : List Bm) (m : Bm) (B g cap vb i : Nat) (cur : Array Value) (w : World) (hn : R.length ≤ 1000000) (hB : B ≤ g) (hg : w.heap[g]? = some (.cells cur 26 (0, 0))) (hcap : R.length ≤ cap) (hct : cur.toList.take (R.length * 2) = flatM R)
    (hv : w.heap[vb]? = some (.cells #[.string m.1, .string m.2] 26 (0, 0))) (hi : i < R.length) (hroom : cap < R.length + 1) :
    Calls Tryz.prog 41 #[.slice (some ⟨g, 0, none⟩) R.length cap, .int .i64 i, .slice (some ⟨vb, 0, none⟩) 1 1] w fun e w' => ∃ v', e = .returned v' ∧ Insd B w w' (.slice (some ⟨g, 0, none⟩) R.length cap) v' (R.take i ++ m :: R.drop i) := by
  obtain ⟨i0, hi0, hz0, hzs, hzb⟩ := info_parts infoMod
  have hcur : ∀ W : World, W.heap[g]? = some (.cells cur 26 (0, 0)) → ∀ (L : List Value) (k : Nat), (∀ j u, L[j]? = some u → (flatM R)[k + j]? = some u) → ∀ j u, L[j]? = some u → W.cell? ((⟨g, k, none⟩ : Addr).add j) = some u := fun W hW L k hL j u hj => by
    rw [Addr.add_lit, Lib.cell_of_heap hW]
    have h1 := hL j u hj
    rw [← hct, List.getElem?_take] at h1
    split at h1
    · simpa using h1
    · cases h1
  have hgw : g < w.heap.size := lt_of_blk hg
  have hvw : vb < w.heap.size := lt_of_blk hv
  have hz2 : ¬ ((i : Int) = (R.length : Int)) := by omega
  have hz3 : (cap : Int) < (R.length : Int) + 1 := by omega
  have hkk : (R.length : Int) + 1 - (i : Int) = ((R.length + 1 - i : Nat) : Int) := by omega
  have hik : i + (R.length + 1 - i) = R.length + 1 := by omega
  have hold : (Builtin.firstCells i0.size i (.slice (some ⟨g, 0, none⟩) i cap)).run Tryz.prog w.drew = .ok (flatM (R.take i)).toArray w.drew := by
    rw [hzs]
    exact run_firstCells_some w.drew 2 i ⟨g, 0, none⟩ i cap (flatM (R.take i)) (by rw [flatM_len]; simp; omega) (hcur w.drew hg _ 0 (fun j u hj => by
      rw [← flat_take R i (by omega), List.getElem?_take] at hj
      split at hj
      · rw [Nat.zero_add]; exact hj
      · cases hj))
  have hrz : ∀ ty, (Builtin.append_ #[22, 3] ty #[.slice (some ⟨g, 0, none⟩) i cap, .int .i64 ((R.length : Int) + 1 - (i : Int))]).run Tryz.prog w =
      .ok (.slice (some ⟨w.heap.size, 0, none⟩) (R.length + 1) (grownCap w (R.length + 1) cap 26)) (w.drew.alloc (.cells ((flatM (R.take i)).toArray ++ Builtin.zeroCells (Value.agg #[.string ⟨#[]⟩, .string ⟨#[]⟩]).cells (R.length + 1 - i) ++ Builtin.zeroCells (Value.agg #[.string ⟨#[]⟩, .string ⟨#[]⟩]).cells (grownCap w (R.length + 1) cap 26 - (R.length + 1))) 26)) := fun ty => by
    have h := Lib.run_append_grow_zeros w 22 3 ty 26 i0 _ .i64 .i64 Tryz.underlying22 Tryz.underlying3 hi0 hz0 (some ⟨g, 0, none⟩) i cap (flatM (R.take i)) hold (R.length + 1 - i) (by omega) (by omega) (by omega) (by omega) (by rw [hzb]; omega) (by rw [hzb, hik]; exact growslice_fits hroom (by omega))
    rw [hik] at h
    rw [hkk]
    exact h
  obtain ⟨G, hG⟩ : ∃ G, G = grownCap w (R.length + 1) cap 26 := ⟨_, rfl⟩
  obtain ⟨ROW, hROW⟩ : ∃ ROW : Array Value, ROW = (flatM (R.take i)).toArray ++ Builtin.zeroCells (Value.agg #[.string ⟨#[]⟩, .string ⟨#[]⟩]).cells (R.length + 1 - i) ++ Builtin.zeroCells (Value.agg #[.string ⟨#[]⟩, .string ⟨#[]⟩]).cells (G - (R.length + 1)) := ⟨_, rfl⟩
  rw [← hG, ← hROW] at hrz
  have hGn : R.length + 1 ≤ G := by rw [hG]; exact grownCap_ge w _ _ _
  have hGm : G ≤ maxLen := by rw [hG]; exact grownCap_le_maxLen w (R.length + 1) cap 26 (by unfold maxLen; omega)
  have hRl : ROW.size = G * 2 := by
    rw [hROW]
    have e : (flatM (R.take i)).length = i * 2 := by rw [flatM_len]; simp; omega
    simp [Builtin.zeroCells, Value.cells, e]
    omega
  have hRt : ROW.toList.take (i * 2) = flatM (R.take i) := by
    have e : (flatM (R.take i)).length = i * 2 := by rw [flatM_len]; simp; omega
    rw [hROW, Array.toList_append, Array.toList_append, List.append_assoc, List.take_append_of_le_length (by simp [e])]
    rw [← e]; simp
  have h9 := row_new (row := ROW.toList) (R := R) (m := m) (i := i) (n := R.length) rfl (by omega) (by simp [hRl]; omega) hRt
  dsimp only at h9
  obtain ⟨C1, hC1⟩ : ∃ C1, C1 = ROW.toList.take (i * 2) ++ [Value.string m.1, .string m.2] ++ ROW.toList.drop (i * 2 + 2) := ⟨_, rfl⟩
  rw [← hC1] at h9
  obtain ⟨C2, hC2⟩ : ∃ C2, C2 = C1.take ((i + 1) * 2) ++ flatM (R.drop i) ++ C1.drop ((i + 1) * 2 + (flatM (R.drop i)).length) := ⟨_, rfl⟩
  rw [← hC2] at h9
  have HRN := hid h9
  clear h9
  have hdl : (flatM (R.drop i)).length = (R.length - i) * 2 := by rw [flatM_len, List.length_drop]
  have hnew : (w.alloc (.cells ROW 26)).heap[w.heap.size]? = some (.cells ROW 26 (0, 0)) := heap_new w _
  have hcpA : ∀ (W : World), W.heap = (w.alloc (.cells ROW 26)).heap → ∀ ty dc, (Builtin.copy_ #[22, 22] ty #[.slice (some ⟨w.heap.size, i * 2, none⟩) (R.length + 1 - i) dc, .slice (some ⟨vb, 0, none⟩) 1 1]).run Tryz.prog W = .ok (goInt 1) (W.setRow w.heap.size C1.toArray) := fun W hW ty dc => by
    rw [hC1]
    have := copy_row2 W ty w.heap.size (i * 2) (R.length + 1 - i) dc ⟨vb, 0, none⟩ 1 1 1 ROW 26 [Value.string m.1, .string m.2] (by simp only [Nat.min_def]; split <;> omega) (by rw [hW]; exact hnew) rfl (World.news_of_block (cs := #[.string m.1, .string m.2]) (by rw [hW]; exact heap_old w _ hv)) (by simp [hRl]; omega) (by simp [Value.oneCell'])
    simpa using this
  have hn1 : ((w.alloc (.cells ROW 26)).setRow w.heap.size C1.toArray).heap[w.heap.size]? = some (.cells C1.toArray 26 (0, 0)) := setRow_at hnew
  have hg1 : ((w.alloc (.cells ROW 26)).setRow w.heap.size C1.toArray).heap[g]? = some (.cells cur 26 (0, 0)) := by rw [setRow_far (by omega)]; exact heap_old w _ hg
  have hcpB : ∀ (W : World), W.heap = ((w.alloc (.cells ROW 26)).setRow w.heap.size C1.toArray).heap → ∀ ty dc sc, (Builtin.copy_ #[22, 22] ty #[.slice (some ⟨w.heap.size, (i + 1) * 2, none⟩) (R.length - i) dc, .slice (some ⟨g, i * 2, none⟩) (R.length - i) sc]).run Tryz.prog W = .ok (goInt ((R.length - i : Nat) : Int)) (W.setRow w.heap.size C2.toArray) := fun W hW ty dc sc => by
    rw [hC2]
    exact copy_row2 W ty w.heap.size ((i + 1) * 2) (R.length - i) dc ⟨g, i * 2, none⟩ (R.length - i) sc (R.length - i) C1.toArray 26 (flatM (R.drop i)) (by simp only [Nat.min_def]; split <;> omega) (by rw [hW]; exact hn1) hdl (hcur W (by rw [hW]; exact hg1) _ (i * 2) (fun j u hj => by
      rw [← flat_drop R i (by omega), List.getElem?_drop] at hj; exact hj)) (by have := HRN.out.1; simp at this ⊢; rw [hdl]; omega) (flat_one _)
  have hGi : ¬ (G = i) := by omega
  have hGim : ¬ (G = i + 1) := by omega
  have hci : ¬ (cap = i) := by omega
  have hw1 : IntKind.i64.wrap ((i : Int) + 1) = (i : Int) + 1 := by rw [IntKind.wrap_i64]; omega
  have hb1 : (0 : Int) ≤ (i : Int) + 1 := by omega
  have hin : i ≤ R.length := by omega
  have htn : ((i : Int) + 1).toNat = i + 1 := by omega
  have hb3 : (i : Int) ≤ (R.length : Int) := by omega
  have hb5 : (i : Int) + 1 ≤ (R.length : Int) + 1 := by omega
  have hb6 : (i : Int) ≤ (R.length : Int) + 1 := by omega
  have hb7 : (i : Int) ≤ (cap : Int) := by omega
  have HFI := hid (show Insd B w ((((w.alloc (.cells ROW 26)).drew.setRow w.heap.size C1.toArray).drew).setRow w.heap.size C2.toArray) (.slice (some ⟨g, 0, none⟩) R.length cap) (.slice (some ⟨w.heap.size, 0, none⟩) (R.length + 1) G) (R.take i ++ m :: R.drop i) from by
    have hl : (R.take i ++ m :: R.drop i).length = R.length + 1 := by simp; omega
    refine ⟨?_, ⟨rfl, rfl, rfl, ?_, fun k hk hne => ?_⟩, Or.inr (fun k hk => ?_)⟩
    · rw [hl]
      exact own_of_row (setRow_at (w := ((w.alloc (.cells ROW 26)).drew.setRow w.heap.size C1.toArray).drew) hn1) (by omega) hl hGn hGm (by have := HRN.out.2.1; simp [hRl] at this ⊢; omega) (by have := HRN.out.2.2; simpa using this)
    · rw [setRow_size]
      show w.heap.size ≤ ((w.alloc (.cells ROW 26)).drew.setRow w.heap.size C1.toArray).heap.size
      rw [setRow_size]
      show w.heap.size ≤ (w.alloc (.cells ROW 26)).heap.size
      simp
    · have : k ≠ w.heap.size := by omega
      rw [setRow_far this]
      show ((w.alloc (.cells ROW 26)).drew.setRow w.heap.size C1.toArray).heap[k]? = _
      rw [setRow_far this]
      show (w.alloc (.cells ROW 26)).heap[k]? = _
      exact ((Below.refl w.heap.size w).alloc (Nat.le_refl _) _).block k hk
    · have : w.heap.size = k := by simpa [Value.ownBlock] using hk
      omega)
  have HCB := hid (hcpB ((w.alloc (.cells ROW 26)).drew.setRow w.heap.size C1.toArray).drew rfl 3 (G - (i + 1)) (cap - i))
  clear hC1 hC2 hROW hG hdl hct hcur hold hg hv hg1 hn1 HRN hRl hRt hnew hkk hik hcpB
  go_enter Tryz.func41, Tryz.ntmps41
  go_wp2_with (at_builtin; refine Lib.wpList_append_run _ rfl _ _ _ _ rfl _ _ rfl rfl _ _ (hrz _) ?_)
  rw [hcpA (w.alloc (.cells ROW 26)).drew rfl]
  simp only [Result.andThen]
  rw [Oper.upon_value]
  go_wp2_with fail
  go_region_law (refine step_copy_runI rfl _ _ 22 22 rfl (.slice (some ⟨w.heap.size, (i + 1) * 2, none⟩) (R.length - i) (G - (i + 1))) (.slice (some ⟨g, i * 2, none⟩) (R.length - i) (cap - i)) (by simp [Act.eval, Act.put]) (by simp [Act.eval, Act.put]) HCB.out ?_)
  go_wp2_with fail
  go_ret
  exact ⟨_, rfl, HFI.out⟩
/-- slices.Insert of one module. -/
theorem ins_any (R : List Bm) (m : Bm) (v : Value) (B vb i : Nat) (w : World) (hn : R.length ≤ 1000000) (hB : B ≤ w.heap.size) (ho : w.ownsRow B 26 2 v R.length (flatM R)) (hv : w.heap[vb]? = some (.cells #[.string m.1, .string m.2] 26 (0, 0))) (hvg : v.ownBlock ≠ some vb) (hi : i ≤ R.length) :
    Calls Tryz.prog 41 #[v, .int .i64 i, .slice (some ⟨vb, 0, none⟩) 1 1] w fun e w' => ∃ v', e = .returned v' ∧ Insd B w w' v v' (R.take i ++ m :: R.drop i) := by
  by_cases he : i = R.length
  · subst he
    rw [List.take_length, List.drop_length]
    exact ins_end R m v B vb w hn hB ho hv
  · obtain ⟨_, ⟨_, h0⟩ | ⟨g, cap, cur, rfl, hBg, hg, hcap, hcm, hcs, hct⟩⟩ := ho
    · omega
    · by_cases hr : R.length + 1 ≤ cap
      · exact ins_room R m B g cap vb i cur w hn hBg hg hcm hcs hct hv (fun e => hvg (by rw [e]; rfl)) (by omega) hr
      · exact ins_grow R m B g cap vb i cur w hn hBg hg hcap hct hv (by omega) (by omega)
end Ve
end Go.Proofs.YtjphlclhkaoipaaGreatDoor

/-
  Modules whose paths rise, plain: what is ahead of a path, what is behind it, and what is at it.
-/
namespace Go.Proofs.YtjphlclhkaoipaaGreatDoor
open Go.RowKit
namespace Ve

theorem cbt : ∀ (a b c : List UInt8), Lib.compareBytes a b < 0 → Lib.compareBytes b c < 0 → Lib.compareBytes a c < 0 := by
  intro a
  induction a with
  | nil =>
    intro b c h1 h2
    cases c with
    | nil => cases b <;> simp [Lib.compareBytes] at h2
    | cons z c => simp [Lib.compareBytes]
  | cons x a ih =>
    intro b c h1 h2
    cases b with
    | nil => simp [Lib.compareBytes] at h1
    | cons y b =>
      cases c with
      | nil => simp [Lib.compareBytes] at h2
      | cons z c =>
        simp only [Lib.compareBytes] at h1 h2 ⊢
        by_cases e1 : x < y
        · by_cases e2 : y < z
          · rw [if_pos (UInt8.lt_trans e1 e2)]; omega
          · rw [if_neg e2] at h2
            by_cases e3 : z < y
            · rw [if_pos e3] at h2; omega
            · have : y = z := UInt8.le_antisymm (UInt8.not_lt.1 e3) (UInt8.not_lt.1 e2)
              subst this
              rw [if_pos e1]; omega
        · rw [if_neg e1] at h1
          by_cases e2 : y < x
          · rw [if_pos e2] at h1; omega
          · have : x = y := UInt8.le_antisymm (UInt8.not_lt.1 e2) (UInt8.not_lt.1 e1)
            subst this
            rw [if_neg e2] at h1
            by_cases e3 : x < z
            · rw [if_pos e3]; omega
            · rw [if_neg e3] at h2 ⊢
              by_cases e4 : z < x
              · rw [if_pos e4] at h2; omega
              · rw [if_neg e4] at h2 ⊢
                exact ih b c h1 h2
/-- Less, by bytes. -/
def lt (a b : ByteArray) : Bool := decide (Lib.compareBytes a.data.toList b.data.toList < 0)
theorem lt_trans {a b c : ByteArray} (h1 : lt a b = true) (h2 : lt b c = true) : lt a c = true := decide_eq_true (cbt _ _ _ (of_decide_eq_true h1) (of_decide_eq_true h2))
theorem lt_irrefl (a : ByteArray) : lt a a = false := by
  unfold lt; rw [(cb_zero _ _).2 rfl]; rfl
theorem lt_asymm {a b : ByteArray} (h : lt a b = true) : lt b a = false := by
  cases h2 : lt b a
  · rfl
  · have := lt_trans h h2
    rw [lt_irrefl] at this; cases this
theorem lt_three (a b : ByteArray) : lt a b = true ∨ a = b ∨ lt b a = true := by
  rcases cb_range a.data.toList b.data.toList with h | h | h
  · exact Or.inl (decide_eq_true (by omega))
  · exact Or.inr (Or.inl (str_ext ((cb_zero _ _).1 h)))
  · refine Or.inr (Or.inr (decide_eq_true ?_))
    rw [cb_swap]; omega
theorem noLess_lt (a b : ByteArray) : noLess a b = !lt a b := rfl
/-- Paths rise. -/
def rising (R : List Bm) : Prop := R.Pairwise (fun a b => lt a.1 b.1 = true)
theorem rising_of {own : ByteArray} {R : List Bm} (h : ∀ j, j < R.length → reqE own R j = 0) : rising R := by
  have hc : ∀ j, (hj : j + 1 < R.length) → lt R[j].1 R[j + 1].1 = true := by
    intro j hj
    have h1 := h (j + 1) hj
    unfold reqE prevOf at h1
    rw [List.getElem?_eq_getElem hj, if_neg (by omega)] at h1
    simp only [Nat.add_sub_cancel] at h1
    rw [List.getElem?_eq_getElem (show j < R.length by omega)] at h1
    unfold reqW at h1
    simp only at h1
    by_cases e1 : mErr R[j + 1] = 0
    · rw [if_pos e1] at h1
      by_cases e2 : R[j + 1].1 = own
      · rw [if_pos e2] at h1; omega
      · rw [if_neg e2] at h1
        rw [noLess_lt] at h1
        cases e3 : lt R[j].1 R[j + 1].1
        · rw [e3] at h1; simp at h1
        · rfl
    · rw [if_neg e1] at h1; exact absurd h1 e1
  unfold rising
  rw [List.pairwise_iff_getElem]
  intro i j hi hj hij
  induction j with
  | zero => omega
  | succ j ih =>
    rcases Nat.lt_or_ge i j with hh | hh
    · exact lt_trans (ih (by omega) hh) (hc j hj)
    · have : i = j := by omega
      subst this
      exact hc i hj
def loR (R : List Bm) (p : ByteArray) : List Bm := R.filter (fun m => lt m.1 p)
def hiR (R : List Bm) (p : ByteArray) : List Bm := R.filter (fun m => lt p m.1)
def eqR (R : List Bm) (p : ByteArray) : List Bm := R.filter (fun m => decide (m.1 = p))
theorem three_R {R : List Bm} (h : rising R) (p : ByteArray) : R = loR R p ++ (eqR R p ++ hiR R p) ∧ ((eqR R p = [] ∧ ∀ m, m ∈ R → m.1 ≠ p) ∨ ∃ q, eqR R p = [q] ∧ q.1 = p) := by
  induction R with
  | nil => exact ⟨rfl, Or.inl ⟨rfl, fun m hm => by cases hm⟩⟩
  | cons a r ih =>
    have hr : rising r := (List.pairwise_cons.1 h).2
    have ha : ∀ m, m ∈ r → lt a.1 m.1 = true := (List.pairwise_cons.1 h).1
    obtain ⟨e, hq⟩ := ih hr
    rcases lt_three a.1 p with h1 | h1 | h1
    · have h2 := lt_asymm h1
      have h3 : a.1 ≠ p := fun e => by rw [e, lt_irrefl] at h1; cases h1
      have e1 : loR (a :: r) p = a :: loR r p := by unfold loR; rw [List.filter_cons_of_pos (by simpa using h1)]
      have e2 : hiR (a :: r) p = hiR r p := by unfold hiR; rw [List.filter_cons_of_neg (by simp [h2])]
      have e3 : eqR (a :: r) p = eqR r p := by unfold eqR; rw [List.filter_cons_of_neg (by simp [h3])]
      rw [e1, e2, e3]
      refine ⟨by rw [List.cons_append, ← e], ?_⟩
      rcases hq with ⟨q1, q2⟩ | hq
      · refine Or.inl ⟨q1, fun m hm => ?_⟩
        rcases List.mem_cons.1 hm with rfl | hm
        · exact h3
        · exact q2 m hm
      · exact Or.inr hq
    · have hl : loR r p = [] := by
        unfold loR; rw [List.filter_eq_nil_iff]; intro m hm
        have := lt_asymm (ha m hm); rw [h1] at this; simp [this]
      have he : eqR r p = [] := by
        unfold eqR; rw [List.filter_eq_nil_iff]; intro m hm
        have := ha m hm
        simp only [decide_eq_true_eq]
        intro e; rw [h1, e, lt_irrefl] at this; cases this
      have e1 : loR (a :: r) p = [] := by unfold loR; rw [List.filter_cons_of_neg (by rw [h1, lt_irrefl]; simp)]; exact hl
      have e2 : hiR (a :: r) p = hiR r p := by unfold hiR; rw [List.filter_cons_of_neg (by rw [h1, lt_irrefl]; simp)]
      have e3 : eqR (a :: r) p = [a] := by unfold eqR; rw [List.filter_cons_of_pos (by simp [h1])]; exact congrArg (a :: ·) he
      rw [e1, e2, e3]
      rw [hl, he] at e
      exact ⟨by rw [List.nil_append, List.singleton_append]; exact congrArg (a :: ·) e, Or.inr ⟨a, rfl, h1⟩⟩
    · have hg : ∀ m, m ∈ a :: r → lt p m.1 = true := fun m hm => by
        rcases List.mem_cons.1 hm with rfl | hm
        · exact h1
        · exact lt_trans h1 (ha m hm)
      have e1 : loR (a :: r) p = [] := by
        unfold loR; rw [List.filter_eq_nil_iff]; intro m hm; rw [lt_asymm (hg m hm)]; simp
      have e3 : eqR (a :: r) p = [] := by
        unfold eqR; rw [List.filter_eq_nil_iff]; intro m hm
        have := hg m hm
        simp only [decide_eq_true_eq]
        intro e; rw [e, lt_irrefl] at this; cases this
      have e2 : hiR (a :: r) p = a :: r := by unfold hiR; rw [List.filter_eq_self]; exact hg
      rw [e1, e2, e3]
      refine ⟨rfl, Or.inl ⟨rfl, fun m hm e => ?_⟩⟩
      have := hg m hm
      rw [e, lt_irrefl] at this; cases this
/-- What is required once m is set; once a path is dropped. -/
def setR (R : List Bm) (m : Bm) : List Bm := loR R m.1 ++ m :: hiR R m.1
def dropR (R : List Bm) (p : ByteArray) : List Bm := loR R p ++ hiR R p
theorem loR_mem {R : List Bm} {p : ByteArray} {m : Bm} : m ∈ loR R p ↔ m ∈ R ∧ lt m.1 p = true := List.mem_filter
theorem hiR_mem {R : List Bm} {p : ByteArray} {m : Bm} : m ∈ hiR R p ↔ m ∈ R ∧ lt p m.1 = true := List.mem_filter
theorem loR_set (R : List Bm) (m : Bm) : loR (setR R m) m.1 = loR R m.1 := by
  unfold setR loR
  rw [List.filter_append, List.filter_filter, List.filter_cons_of_neg (by rw [lt_irrefl]; simp)]
  have e1 : (hiR R m.1).filter (fun x => lt x.1 m.1) = [] := by
    rw [List.filter_eq_nil_iff]; intro x hx; rw [lt_asymm (hiR_mem.1 hx).2]; simp
  rw [e1, List.append_nil]
  simp
theorem hiR_set (R : List Bm) (m : Bm) : hiR (setR R m) m.1 = hiR R m.1 := by
  unfold setR
  have e0 : ∀ (a b : List Bm), hiR (a ++ b) m.1 = hiR a m.1 ++ hiR b m.1 := fun a b => List.filter_append _ _
  rw [e0]
  have e1 : hiR (loR R m.1) m.1 = [] := by
    unfold hiR; rw [List.filter_eq_nil_iff]; intro x hx; rw [lt_asymm (loR_mem.1 hx).2]; simp
  have e2 : hiR (m :: hiR R m.1) m.1 = hiR R m.1 := by
    unfold hiR; rw [List.filter_cons_of_neg (by rw [lt_irrefl]; simp), List.filter_filter]; simp
  rw [e1, e2, List.nil_append]
theorem drop_set (R : List Bm) (m : Bm) : dropR (setR R m) m.1 = dropR R m.1 := by unfold dropR; rw [loR_set, hiR_set]
theorem drop_mem {R : List Bm} {p : ByteArray} {m : Bm} : m ∈ dropR R p ↔ m ∈ R ∧ m.1 ≠ p := by
  unfold dropR
  rw [List.mem_append, loR_mem, hiR_mem]
  constructor
  · rintro (⟨h1, h2⟩ | ⟨h1, h2⟩)
    · exact ⟨h1, fun e => by rw [e, lt_irrefl] at h2; cases h2⟩
    · exact ⟨h1, fun e => by rw [e, lt_irrefl] at h2; cases h2⟩
  · rintro ⟨h1, h2⟩
    rcases lt_three m.1 p with h | h | h
    · exact Or.inl ⟨h1, h⟩
    · exact absurd h h2
    · exact Or.inr ⟨h1, h⟩
theorem rising_drop {R : List Bm} (h : rising R) (p : ByteArray) : dropR R p = R.filter (fun m => decide (m.1 ≠ p)) := by
  obtain ⟨e, hq⟩ := three_R h p
  have e0 : ∀ (a b : List Bm), (a ++ b).filter (fun m => decide (m.1 ≠ p)) = a.filter (fun m => decide (m.1 ≠ p)) ++ b.filter (fun m => decide (m.1 ≠ p)) := fun a b => List.filter_append _ _
  have e1 : (loR R p).filter (fun m => decide (m.1 ≠ p)) = loR R p := by
    rw [List.filter_eq_self]; intro x hx
    have := (loR_mem.1 hx).2
    exact decide_eq_true (fun e => by rw [e, lt_irrefl] at this; cases this)
  have e2 : (hiR R p).filter (fun m => decide (m.1 ≠ p)) = hiR R p := by
    rw [List.filter_eq_self]; intro x hx
    have := (hiR_mem.1 hx).2
    exact decide_eq_true (fun e => by rw [e, lt_irrefl] at this; cases this)
  have e3 : (eqR R p).filter (fun m => decide (m.1 ≠ p)) = [] := by
    rw [List.filter_eq_nil_iff]; intro x hx
    have : x.1 = p := of_decide_eq_true (List.mem_filter.1 hx).2
    simp [this]
  conv => rhs; rw [e, e0, e0, e1, e2, e3]
  rfl
end Ve
end Go.Proofs.YtjphlclhkaoipaaGreatDoor

/-
  What find of package file answers: where a path is, or would come; nothing old in memory turns.
-/
namespace Go.Proofs.YtjphlclhkaoipaaGreatDoor
open Go.RowKit
namespace Ve

set_option maxHeartbeats 1000000 in
theorem findK_any (p v t : ByteArray) (w : World) :
    Calls Tryz.prog 66 #[.agg #[.string p, .string v], .string t] w fun e w' => e = .returned (.int .i64 (Lib.compareBytes p.data.toList t.data.toList)) ∧ Below w.heap.size w w' := by
  have HB0 := hid ((Below.refl w.heap.size w).alloc (Nat.le_refl _) (.cells #[.string p, .string v] 26))
  have HC := hid (Tryz.strings_Compare p t (w.alloc (.cells #[.string p, .string v] 26)))
  go_enter Tryz.func66, Tryz.ntmps66
  go_wp2_with fail
  refine HC.out.mono ?_
  rintro e w1 ⟨rfl, rfl⟩
  go_wp2_with fail
  go_ret
  exact ⟨rfl, HB0.out⟩
/-- Is the path at that place? -/
def thereB (R : List Bm) (p : ByteArray) (k : Nat) : Bool := match R[k]? with
  | some m => decide (m.1 = p)
  | none => false
/-- All ahead of k is less, nothing else. -/
def bound (R : List Bm) (p : ByteArray) (lo hi : Nat) : Prop := (∀ t (h : t < R.length), t < lo → lt R[t].1 p = true) ∧ ∀ t (h : t < R.length), hi ≤ t → lt R[t].1 p = false
theorem bound_up {R : List Bm} {p : ByteArray} {lo hi k : Nat} (hr : rising R) (h : bound R p lo hi) (hk : k < R.length) (hl : lt R[k].1 p = true) : bound R p (k + 1) hi := by
  refine ⟨fun t ht htk => ?_, h.2⟩
  rcases Nat.lt_or_ge t k with hh | hh
  · exact lt_trans ((List.pairwise_iff_getElem.1 hr) t k ht hk hh) hl
  · have : t = k := by omega
    subst this; exact hl
theorem bound_down {R : List Bm} {p : ByteArray} {lo hi k : Nat} (hr : rising R) (h : bound R p lo hi) (hk : k < R.length) (hl : lt R[k].1 p = false) : bound R p lo k := by
  refine ⟨h.1, fun t ht htk => ?_⟩
  rcases Nat.lt_or_ge k t with hh | hh
  · cases e : lt R[t].1 p
    · rfl
    · have := lt_trans ((List.pairwise_iff_getElem.1 hr) k t hk ht hh) e
      rw [hl] at this; cases this
  · have : t = k := by omega
    subst this; exact hl
set_option maxHeartbeats 4000000 in
set_option maxRecDepth 100000 in
theorem search_some (R : List Bm) (p : ByteArray) (b o c : Nat) (w : World) (hr : rising R) (hn : R.length ≤ 1000000)
    (hc : ∀ j (h : j < R.length), w.cell? ⟨b, o + j * 2, none⟩ = some (.string R[j].1) ∧ w.cell? ⟨b, o + j * 2 + 1, none⟩ = some (.string R[j].2)) :
    Calls Tryz.prog 65 #[.slice (some ⟨b, o, none⟩) R.length c, .string p, .func (.func 66) #[] #[]] w fun e w' => ∃ k : Nat, k ≤ R.length ∧ e = .returned (.tuple #[.int .i64 k, .bool (thereB R p k)]) ∧ bound R p k k ∧ Below w.heap.size w w' := by
  have HC := hid hc
  have HR := hid hr
  clear hc hr
  have eg : ∀ args w, (callFunc 66 args).run Tryz.prog w = .ok (.enter 66 args) w := enters_of Tryz.func66 (by kernel_rfl) rfl
  go_enter Tryz.func65, Tryz.ntmps65
  go_wp2_with fail
  go_loopg [9, 10] R.length (fun kx s9 s10 wr => ∃ lo hi : Nat, s9 = .int .i64 lo ∧ s10 = .int .i64 hi ∧ lo ≤ hi ∧ hi ≤ R.length ∧ hi - lo ≤ kx ∧ Hid (Below w.heap.size w wr) ∧ Hid (bound R p lo hi))
  case atStart => exact ⟨0, R.length, rfl, rfl, Nat.zero_le _, Nat.le_refl _, by omega, hid (Below.refl _ _), hid ⟨fun t _ ht => absurd ht (Nat.not_lt_zero _), fun t h1 h2 => by omega⟩⟩
  case round =>
    obtain ⟨lo, hi, rfl, rfl, hlh, hin, hg, HB, HI⟩ := hrel
    by_cases hlt : lo < hi
    · have hm : (lo + hi) / 2 < R.length := by omega
      have hx := cell_below HB.out (HC.out ((lo + hi) / 2) hm).1
      have hy := cell_below HB.out (HC.out ((lo + hi) / 2) hm).2
      have HU := hid (fun h => bound_up HR.out HI.out hm h)
      have HD := hid (fun h => bound_down HR.out HI.out hm h)
      generalize R[(lo + hi) / 2] = y at *
      obtain ⟨q, u⟩ := y
      have HK := hid (findK_any q u p wr)
      by_cases hyx : Lib.compareBytes q.data.toList p.data.toList < 0
      · have HI2 := hid (HU.out (decide_eq_true hyx))
        go_wp2_with fail
        refine HK.out.mono ?_
        rintro e w1 ⟨rfl, hb⟩
        have HB1 := hid (HB.out.trans (hb.mono HB.out.size))
        clear hb
        go_wp2_with fail
        go_roundg (hi - ((lo + hi) / 2 + 1))
        case measure => omega
        case rel => exact ⟨(lo + hi) / 2 + 1, hi, by rw [show ((lo : Int) + (hi : Int)) / 2 + 1 = (((lo + hi) / 2 + 1 : Nat) : Int) by omega], rfl, by omega, hin, Nat.le_refl _, HB1, HI2⟩
      · have HI2 := hid (HD.out (decide_eq_false hyx))
        go_wp2_with fail
        refine HK.out.mono ?_
        rintro e w1 ⟨rfl, hb⟩
        have HB1 := hid (HB.out.trans (hb.mono HB.out.size))
        clear hb
        go_wp2_with fail
        go_roundg ((lo + hi) / 2 - lo)
        case measure => omega
        case rel => exact ⟨lo, (lo + hi) / 2, rfl, by rw [show ((lo : Int) + (hi : Int)) / 2 = (((lo + hi) / 2 : Nat) : Int) by omega], by omega, by omega, Nat.le_refl _, HB1, HI2⟩
    · obtain rfl : hi = lo := by omega
      by_cases hn2 : hi < R.length
      · have hx := cell_below HB.out (HC.out hi hn2).1
        have hy := cell_below HB.out (HC.out hi hn2).2
        have HT := hid (show thereB R p hi = decide (R[hi].1 = p) by unfold thereB; rw [List.getElem?_eq_getElem hn2])
        generalize R[hi] = y at *
        obtain ⟨q, u⟩ := y
        have HK := hid (findK_any q u p wr)
        by_cases hyx : Lib.compareBytes q.data.toList p.data.toList = 0
        · have HE := hid (show thereB R p hi = true by rw [HT.out]; exact decide_eq_true (str_ext ((cb_zero _ _).1 hyx)))
          have hyb : (Lib.compareBytes q.data.toList p.data.toList == 0) = true := by simp [hyx]
          go_wp2_with fail
          refine HK.out.mono ?_
          rintro e w1 ⟨rfl, hb⟩
          have HB1 := hid (HB.out.trans (hb.mono HB.out.size))
          clear hb
          go_wp2_with fail
          go_ret2
          exact ⟨hi, hin, by rw [HE.out]; rfl, HI.out, HB1.out⟩
        · have HE := hid (show thereB R p hi = false by rw [HT.out]; exact decide_eq_false (fun e => hyx ((cb_zero _ _).2 (by rw [show q = p from e]))))
          have hyb : (Lib.compareBytes q.data.toList p.data.toList == 0) = false := by simp [hyx]
          go_wp2_with fail
          refine HK.out.mono ?_
          rintro e w1 ⟨rfl, hb⟩
          have HB1 := hid (HB.out.trans (hb.mono HB.out.size))
          clear hb
          go_wp2_with fail
          go_ret2
          exact ⟨hi, hin, by rw [HE.out]; rfl, HI.out, HB1.out⟩
      · have HE := hid (show thereB R p hi = false by unfold thereB; rw [List.getElem?_eq_none (by omega)])
        go_wp2_with fail
        go_ret2
        exact ⟨hi, hin, by rw [HE.out]; rfl, HI.out, HB.out⟩
set_option maxHeartbeats 1000000 in
set_option maxRecDepth 100000 in
theorem search_none (p : ByteArray) (a : Option Addr) (c : Nat) (w : World) :
    Calls Tryz.prog 65 #[.slice a 0 c, .string p, .func (.func 66) #[] #[]] w fun e w' => e = .returned (.tuple #[.int .i64 0, .bool false]) ∧ w' = w := by
  go_enter Tryz.func65, Tryz.ntmps65
  go_wp2_with fail
  go_loopg [9, 10] 0 (fun kx s9 s10 wr => s9 = .int .i64 0 ∧ s10 = .int .i64 0 ∧ wr = w)
  case atStart => exact ⟨rfl, rfl, rfl⟩
  case round =>
    obtain ⟨rfl, rfl, rfl⟩ := hrel
    go_wp2_with fail
    go_ret2
    exact ⟨rfl, rfl⟩
theorem search_any (R : List Bm) (p : ByteArray) (v : Value) (w : World) (hr : rising R) (hn : R.length ≤ 1000000) (hv : MsAt w v R) :
    Calls Tryz.prog 65 #[v, .string p, .func (.func 66) #[] #[]] w fun e w' => ∃ k : Nat, k ≤ R.length ∧ e = .returned (.tuple #[.int .i64 k, .bool (thereB R p k)]) ∧ bound R p k k ∧ Below w.heap.size w w' := by
  obtain ⟨a, c, rfl, _, h⟩ := hv
  cases R with
  | nil => exact (search_none p a c w).mono fun e w' ⟨h1, h2⟩ => ⟨0, Nat.zero_le _, h1, ⟨fun t h => by simp at h, fun t h => by simp at h⟩, by rw [h2]; exact Below.refl _ _⟩
  | cons x r =>
    obtain ⟨b, o, rfl, h2⟩ := h (by simp)
    exact search_some (x :: r) p b o c w hr hn h2
set_option maxHeartbeats 1000000 in
theorem find_any (R : List Bm) (p : ByteArray) (v : Value) (w : World) (hr : rising R) (hn : R.length ≤ 1000000) (hv : MsAt w v R) :
    Calls Tryz.prog 40 #[v, .string p] w fun e w' => ∃ k : Nat, k ≤ R.length ∧ e = .returned (.tuple #[.int .i64 k, .bool (thereB R p k)]) ∧ bound R p k k ∧ Below w.heap.size w w' := by
  have HS := hid (search_any R p v w hr hn hv)
  obtain ⟨va, vn, vc, rfl⟩ := hv.slice
  clear hr hv
  go_enter Tryz.func40, Tryz.ntmps40
  go_wp2_with fail
  refine HS.out.mono ?_
  rintro e w1 ⟨k, hk, rfl, hb, hw⟩
  have HB := hid hb
  have HW := hid hw
  clear hb hw
  go_wp2_with fail
  go_ret2
  exact ⟨k, hk, rfl, HB.out, HW.out⟩
/-- What the place says of the list. -/
theorem bound_split {R : List Bm} {p : ByteArray} {k : Nat} (hr : rising R) (hk : k ≤ R.length) (h : bound R p k k) : R.take k = loR R p ∧ R.drop k = eqR R p ++ hiR R p := by
  obtain ⟨e, _⟩ := three_R hr p
  have hl : (loR R p).length = k := by
    rcases Nat.lt_trichotomy (loR R p).length k with hh | hh | hh
    · exfalso
      have hlt : (loR R p).length < R.length := by omega
      have h1 := h.1 _ hlt hh
      have h2 : R[(loR R p).length] ∈ eqR R p ++ hiR R p := by
        have : R[(loR R p).length]? = (eqR R p ++ hiR R p)[0]? := by
          have h9 : R[(loR R p).length]? = (loR R p ++ (eqR R p ++ hiR R p))[(loR R p).length]? := congrArg (fun l => l[(loR R p).length]?) e
          rw [List.getElem?_append_right (Nat.le_refl _), Nat.sub_self] at h9
          exact h9
        rw [List.getElem?_eq_getElem hlt] at this
        exact List.mem_of_getElem? this.symm
      rcases List.mem_append.1 h2 with h3 | h3
      · have : R[(loR R p).length].1 = p := of_decide_eq_true (List.mem_filter.1 h3).2
        rw [this, lt_irrefl] at h1; cases h1
      · rw [lt_asymm (hiR_mem.1 h3).2] at h1; cases h1
    · exact hh
    · exfalso
      have hlt : k < R.length := by
        have := congrArg List.length e
        simp only [List.length_append] at this
        omega
      have h1 := h.2 k hlt (Nat.le_refl _)
      have h2 : R[k] ∈ loR R p := by
        have : R[k]? = (loR R p)[k]? := by
          have h9 : R[k]? = (loR R p ++ (eqR R p ++ hiR R p))[k]? := congrArg (fun l => l[k]?) e
          rw [List.getElem?_append_left hh] at h9
          exact h9
        rw [List.getElem?_eq_getElem hlt] at this
        exact List.mem_of_getElem? this.symm
      rw [(loR_mem.1 h2).2] at h1; cases h1
  constructor
  · have h9 : R.take k = (loR R p ++ (eqR R p ++ hiR R p)).take k := congrArg (fun l => l.take k) e
    rw [h9, ← hl, List.take_left]
  · have h9 : R.drop k = (loR R p ++ (eqR R p ++ hiR R p)).drop k := congrArg (fun l => l.drop k) e
    rw [h9, ← hl, List.drop_left]
theorem there_split {R : List Bm} {p : ByteArray} {k : Nat} (hr : rising R) (hk : k ≤ R.length) (h : bound R p k k) :
    (thereB R p k = true ∧ k < R.length ∧ R.drop (k + 1) = hiR R p ∧ ∃ q, eqR R p = [q] ∧ q.1 = p) ∨ (thereB R p k = false ∧ R.drop k = hiR R p ∧ eqR R p = []) := by
  obtain ⟨h1, h2⟩ := bound_split hr hk h
  rcases (three_R hr p).2 with ⟨e1, _⟩ | ⟨q, e1, e2⟩
  · refine Or.inr ⟨?_, by rw [h2, e1, List.nil_append], e1⟩
    unfold thereB
    cases e : R[k]? with
    | none => rfl
    | some m =>
      simp only
      refine decide_eq_false (fun e3 => ?_)
      have : m ∈ eqR R p := List.mem_filter.2 ⟨List.mem_of_getElem? e, decide_eq_true e3⟩
      rw [e1] at this; cases this
  · have hlt : k < R.length := by
      have := congrArg List.length h2
      rw [e1] at this
      simp at this
      omega
    have h3 := List.drop_eq_getElem_cons hlt
    rw [h2, e1] at h3
    simp only [List.singleton_append, List.cons.injEq] at h3
    refine Or.inl ⟨?_, hlt, h3.2.symm, q, e1, e2⟩
    unfold thereB
    rw [List.getElem?_eq_getElem hlt]
    simp only
    rw [← h3.1]
    exact decide_eq_true e2
end Ve
end Go.Proofs.YtjphlclhkaoipaaGreatDoor

/-
  What Set of package file answers; nothing old in memory turns.
-/
namespace Go.Proofs.YtjphlclhkaoipaaGreatDoor
open Go.RowKit
namespace Ve

/-- What right answers. -/
def RightP (p : ByteArray) (R X : List Bm) (v u : Value) (A : Nat → Addr) (P : ByteArray) (v' u' x : Value) : Prop :=
  if (fileF p R X).1 = 0 then P = p ∧ v' = v ∧ u' = u ∧ x = .nilIface else P = ⟨#[]⟩ ∧ v' = .slice none 0 0 ∧ u' = .slice none 0 0 ∧ x = errA A (fileF p R X).1
theorem right_any (p : ByteArray) (R X : List Bm) (v u : Value) (A : Nat → Addr) (m : Int) (w : World) (hp : p.size < 999999) (S : Te w A m) (F : Fl w R X v u) :
    Calls Tryz.prog 36 #[.agg #[.string p, v, u]] w fun e w' => ∃ P a n c a' n' c' x, e = .returned (.tuple #[.agg #[.string P, .slice a n c, .slice a' n' c'], x]) ∧ RightP p R X v u A P (.slice a n c) (.slice a' n' c') x ∧ Below w.heap.size w w' := by
  obtain ⟨⟨vp, vc, hv⟩, up, uc, hu⟩ := F.slices
  by_cases h : (fileF p R X).1 = 0
  · refine (right_ok p R X v u A m w hp S F h).mono fun e w' ⟨h1, h2⟩ => ?_
    subst hv; subst hu
    exact ⟨_, _, _, _, _, _, _, _, h1, by unfold RightP; rw [if_pos h]; exact ⟨rfl, rfl, rfl, rfl⟩, h2⟩
  · refine (right_bad p R X v u A m w hp S F h).mono fun e w' ⟨h1, h2⟩ => ?_
    exact ⟨_, _, _, _, _, _, _, _, h1, by unfold RightP; rw [if_neg h]; exact ⟨rfl, rfl, rfl, rfl⟩, h2⟩
/-- Three blocks that a call lays first. -/
theorem three_a {w w3 : World} {o1 : Obj} {a1 a2 : Value} {T2 : TypeId} {a b c : Value} {T : TypeId} (hb : Below (w.heap.size + 1 + 1 + 1) (((w.alloc o1).alloc (.cells #[a1, a2] T2)).alloc (.cells #[a, b, c] T)) w3) :
    (w3.cell? ⟨w.heap.size + 1 + 1, 0, none⟩ = some a ∧ w3.cell? ⟨w.heap.size + 1 + 1, 1, none⟩ = some b ∧ w3.cell? ⟨w.heap.size + 1 + 1, 2, none⟩ = some c) ∧ (∀ o, w3.frozen? ⟨w.heap.size + 1 + 1, o, none⟩ = false) ∧
    (w3.cell? ⟨w.heap.size + 1, 0, none⟩ = some a1 ∧ w3.cell? ⟨w.heap.size + 1, 1, none⟩ = some a2) ∧ w.heap.size + 1 + 1 < w3.heap.size ∧ w3.heap[w.heap.size + 1 + 1]? = some (.cells #[a, b, c] T (0, 0)) := by
  have hz : ((w.alloc o1).alloc (.cells #[a1, a2] T2)).heap.size = w.heap.size + 1 + 1 := by simp
  have hz1 : (w.alloc o1).heap.size = w.heap.size + 1 := by simp
  have h2 : Below (((w.alloc o1).alloc (.cells #[a1, a2] T2)).heap.size + 1) (((w.alloc o1).alloc (.cells #[a1, a2] T2)).alloc (.cells #[a, b, c] T)) w3 := by rw [hz]; exact hb
  obtain ⟨c2, z2⟩ := res3 h2
  have f2 := res3f h2
  have b2 := res3b h2
  rw [hz] at c2 z2 f2 b2
  refine ⟨c2, f2, ?_, z2, b2⟩
  have go : ∀ o, w3.cell? ⟨w.heap.size + 1, o, none⟩ = ((w.alloc o1).alloc (.cells #[a1, a2] T2)).cell? ⟨w.heap.size + 1, o, none⟩ := fun o => by
    rw [hb.cell (by simp), World.cell?_alloc_lt _ _ _ (by simp)]
  rw [go, go]
  have h3 := res2 (w := w.alloc o1) (a := a1) (b := a2) (T := T2) (Below.refl _ _)
  rw [hz1] at h3
  exact h3.1
/-- What Set answers. -/
def setF (p : ByteArray) (R X : List Bm) (m : Bm) : Except Nat (List Bm) :=
  if (fileF p R X).1 = 0 then (if (fileF p (setR R m) X).1 = 0 then .ok (setR R m) else .error (fileF p (setR R m) X).1) else .error (fileF p R X).1
def SetP (p : ByteArray) (X : List Bm) (r : Except Nat (List Bm)) (A : Nat → Addr) (w w' : World) (e : Ending) : Prop :=
  ∃ (P : ByteArray) (v u x : Value), e = .returned (.tuple #[.agg #[.string P, v, u], x]) ∧ Below w.heap.size w w' ∧ match r with
    | .error c => x = errA A c ∧ c ≠ 0 ∧ P = ⟨#[]⟩ ∧ v = .slice none 0 0 ∧ u = .slice none 0 0
    | .ok R' => x = .nilIface ∧ P = p ∧ MsAt w' v R' ∧ MsAt w' u X ∧ (X = [] → u = .slice none 0 0)
set_option maxHeartbeats 2000000 in
theorem set_bad (p : ByteArray) (R X : List Bm) (v u : Value) (m : Bm) (A : Nat → Addr) (k : Int) (w : World) (hp : p.size < 999999) (S : Te w A k) (F : Fl w R X v u) (hz : R = [] → v = .slice none 0 0) (hx : X = [] → u = .slice none 0 0) (h : (fileF p R X).1 ≠ 0) :
    Calls Tryz.prog 15 #[.agg #[.string p, v, u], .agg #[.string m.1, .string m.2]] w fun e w' => e = .returned (.tuple #[.agg #[.string ⟨#[]⟩, .slice none 0 0, .slice none 0 0], errA A (fileF p R X).1]) ∧ Below w.heap.size w w' := by
  obtain ⟨⟨vp, vc, rfl⟩, up, uc, rfl⟩ := F.slices
  have HB1 := hid ((((Below.refl w.heap.size w).alloc (Nat.le_refl _) (.cells #[.string p, .slice vp R.length vc, .slice up X.length uc] 24)).alloc (by simp) (.cells #[.string m.1, .string m.2] 26)).alloc (by simp; omega) (.cells #[.string ⟨#[]⟩, .slice none 0 0, .slice none 0 0] 24))
  have HS := hid (S.below HB1.out)
  have HF := hid (F.below HB1.out)
  have HC := hid (copy_of p R X _ _ _ HF.out hz hx)
  have HEI := hid (errA_if A h)
  have HN := hid h
  rw [HEI.out]
  clear S F hz hx h
  go_enter Tryz.func15, Tryz.ntmps15
  go_wp2_with fail
  refine HC.out.mono ?_
  rintro e w1 ⟨v1, u1, rfl, hcp⟩
  have HCP := hid hcp
  have HS1 := hid (HS.out.below hcp.bl)
  have HF1 := hid (show Fl w1 R X v1 u1 from ⟨own_ms hcp.ov, own_ms hcp.ou, HF.out.rs, HF.out.xs, HF.out.rn, HF.out.xn⟩)
  obtain ⟨⟨a1, c1, rfl⟩, a2, c2, rfl⟩ := HF1.out.slices
  have HRT := hid (right_bad p R X _ _ A k w1 hp HS1.out HF1.out HN.out)
  rw [HEI.out] at HRT
  have HBa := hid (show Below (w.heap.size + 1 + 1 + 1) _ w1 from hcp.bl.mono (by simp))
  clear hcp
  go_wp2_with fail
  refine HRT.out.mono ?_
  rintro e w2 ⟨rfl, hb⟩
  have HBb := hid (HBa.out.trans (hb.mono (by have := HBa.out.size; simpa using this)))
  have HBc := hid (HBb.out.alloc (by have := HBb.out.size; simpa using this) (.cells #[.string ⟨#[]⟩, .slice none 0 0, .slice none 0 0] 24))
  obtain ⟨⟨r0, r1, r2⟩, rf, _, rz, _⟩ := three_a HBc.out
  have HBd := hid (HB1.out.trans (HBc.out.mono (by omega)))
  clear hb
  go_wp2_with fail
  refine bodyPost_ret (v := .tuple #[.agg #[.string ⟨#[]⟩, .slice none 0 0, .slice none 0 0], .iface 200 (.pointer (some (A ((fileF p R X).1 - 1))))]) (by simp [results, Tryz.results15, go_sem, r0, r1, r2]) rfl ?_
  exact ⟨rfl, put3_below HBd.out (by omega)⟩
end Ve
end Go.Proofs.YtjphlclhkaoipaaGreatDoor

/-
  What slices.Delete of one module answers, in a row of the call's own.
-/
namespace Go.Proofs.YtjphlclhkaoipaaGreatDoor
open Go.RowKit
namespace Ve

/-- Cells stored one by one into a row that is known whole. -/
theorem setCells_row {g : Nat} {t : TypeId} : ∀ (cs : List Value) (o : Nat) (cur : Array Value) (w : World), w.heap[g]? = some (.cells cur t (0, 0)) → o + cs.length ≤ cur.size →
    (w.setCells g o cs).heap[g]? = some (.cells (cur.toList.take o ++ cs ++ cur.toList.drop (o + cs.length)).toArray t (0, 0))
  | [], o, cur, w, h, _ => by
    show w.heap[g]? = _
    rw [h]; simp
  | v :: r, o, cur, w, h, hl => by
    show ((w.setCell ⟨g, o, none⟩ v).setCells g (o + 1) r).heap[g]? = _
    have h1 := set_block (o := o) (x := v) h
    have hl' : o + (r.length + 1) ≤ cur.size := hl
    rw [setCells_row r (o + 1) _ _ h1 (by simp; omega)]
    have := list_seg_step cur.toList o v r (by simpa using hl')
    rw [Array.toList_setIfInBounds, this]; rfl
theorem setCells_far {g k : Nat} : ∀ (cs : List Value) (o : Nat) (w : World), k ≠ g → (w.setCells g o cs).heap[k]? = w.heap[k]?
  | [], _, _, _ => rfl
  | v :: r, o, w, h => by
    show ((w.setCell ⟨g, o, none⟩ v).setCells g (o + 1) r).heap[k]? = _
    rw [setCells_far r (o + 1) _ h, Below.heap_setCell _ _ _ _ h]
theorem setCells_size {g : Nat} : ∀ (cs : List Value) (o : Nat) (w : World), (w.setCells g o cs).heap.size = w.heap.size
  | [], _, _ => rfl
  | v :: r, o, w => by
    show ((w.setCell ⟨g, o, none⟩ v).setCells g (o + 1) r).heap.size = _
    rw [setCells_size r (o + 1) _]; simp [World.setCell]
theorem setCells_rest {g : Nat} : ∀ (cs : List Value) (o : Nat) (w : World), (w.setCells g o cs).os = w.os ∧ (w.setCells g o cs).tape = w.tape ∧ (w.setCells g o cs).output = w.output
  | [], _, _ => ⟨rfl, rfl, rfl⟩
  | v :: r, o, w => by
    have := setCells_rest (g := g) r (o + 1) (w.setCell ⟨g, o, none⟩ v)
    exact this
theorem clear_two (w : World) (g o c : Nat) (cur : Array Value) (h : w.heap[g]? = some (.cells cur 26 (0, 0))) (hl : o + 2 ≤ cur.size) (ty : TypeId) :
    (Builtin.clear_ #[22] ty #[.slice (some ⟨g, o, none⟩) 1 c]).run Tryz.prog w = .ok (.tuple #[]) (w.setCells g o [.string ⟨#[]⟩, .string ⟨#[]⟩]) := by
  have hst := run_storeCells_cells (P := Tryz.prog) g o [Value.string ⟨#[]⟩, .string ⟨#[]⟩] 0 w (fun j hj => by
    have hj2 : j < 2 := hj
    rw [Lib.cell_of_heap h, Array.getElem?_eq_getElem (by omega)]; rfl) (fun j _ => Lib.frozen_of_heap h _) (by simp [Value.oneCell'])
  simp only [Nat.add_zero] at hst
  have hu := Tryz.underlying22
  have hv : ∀ w, (zeroValue 26).run Tryz.prog w = .ok (.agg #[.string ⟨#[]⟩, .string ⟨#[]⟩]) w := fun w => Tryz.zeroValue26 w
  have hzc : Builtin.zeroCells (Value.agg #[.string ⟨#[]⟩, .string ⟨#[]⟩]).cells 1 = #[Value.string ⟨#[]⟩, .string ⟨#[]⟩] := by
    simp only [Builtin.zeroCells, Value.cells]
    apply Array.ext'
    simp [List.range_succ]
  simp [Builtin.clear_, run_underlying hu, hv, hzc, hst]
theorem row_del {cur : List Value} {R : List Bm} {i n : Nat} (hn : R.length = n) (hi : i < n) (hl : n * 2 ≤ cur.length) (ht : cur.take (n * 2) = flatM R) :
    let c1 := cur.take (i * 2) ++ flatM (R.drop (i + 1)) ++ cur.drop (i * 2 + (flatM (R.drop (i + 1))).length)
    let c2 := c1.take ((n - 1) * 2) ++ [Value.string ⟨#[]⟩, .string ⟨#[]⟩] ++ c1.drop ((n - 1) * 2 + 2)
    c1.length = cur.length ∧ c2.length = cur.length ∧ c2.take ((n - 1) * 2) = flatM (R.take i ++ R.drop (i + 1)) := by
  intro c1 c2
  have hdl : (flatM (R.drop (i + 1))).length = (n - (i + 1)) * 2 := by rw [flatM_len, List.length_drop, hn]
  have h1 : c1.length = cur.length := by
    show (cur.take (i * 2) ++ flatM (R.drop (i + 1)) ++ cur.drop (i * 2 + (flatM (R.drop (i + 1))).length)).length = _
    simp only [List.length_append, List.length_take, List.length_drop, hdl]
    omega
  have h2 : c2.length = cur.length := by
    show (c1.take ((n - 1) * 2) ++ [Value.string ⟨#[]⟩, .string ⟨#[]⟩] ++ c1.drop ((n - 1) * 2 + 2)).length = _
    simp only [List.length_append, List.length_take, List.length_drop, List.length_cons, List.length_nil]
    omega
  refine ⟨h1, h2, ?_⟩
  have e1 : (c1.take ((n - 1) * 2)).length = (n - 1) * 2 := by simp; omega
  have ht1 : cur.take (i * 2) = flatM (R.take i) := by
    rw [← flat_take R i (by omega), ← ht, List.take_take, show min (i * 2) (n * 2) = i * 2 by omega]
  have e2 : (flatM (R.take i) ++ flatM (R.drop (i + 1))).length = (n - 1) * 2 := by
    simp only [List.length_append, hdl, flatM_len, List.length_take]
    omega
  show (c1.take ((n - 1) * 2) ++ [Value.string ⟨#[]⟩, .string ⟨#[]⟩] ++ c1.drop ((n - 1) * 2 + 2)).take ((n - 1) * 2) = _
  rw [List.append_assoc, List.take_append_of_le_length (by omega), List.take_take, Nat.min_self]
  show (cur.take (i * 2) ++ flatM (R.drop (i + 1)) ++ cur.drop _).take ((n - 1) * 2) = _
  rw [ht1, ← e2, List.take_left, flatM_app]
set_option maxHeartbeats 4000000 in
set_option maxRecDepth 100000 in
theorem del_some (R : List Bm) (B g cap i : Nat) (cur : Array Value) (w : World) (hn : R.length ≤ 1000000) (hB : B ≤ g) (hg : w.heap[g]? = some (.cells cur 26 (0, 0))) (hcap : R.length ≤ cap) (hcm : cap ≤ maxLen) (hcs : cur.size = cap * 2) (hct : cur.toList.take (R.length * 2) = flatM R) (hi : i < R.length) :
    Calls Tryz.prog 42 #[.slice (some ⟨g, 0, none⟩) R.length cap, .int .i64 i, .int .i64 ((i : Int) + 1)] w fun e w' => ∃ v', e = .returned v' ∧ Insd B w w' (.slice (some ⟨g, 0, none⟩) R.length cap) v' (R.take i ++ R.drop (i + 1)) := by
  obtain ⟨i0, hi0, hz0, hzs, hzb⟩ := info_parts infoMod
  have hdl : (flatM (R.drop (i + 1))).length = (R.length - (i + 1)) * 2 := by rw [flatM_len, List.length_drop]
  have h9 := row_del (cur := cur.toList) (R := R) (i := i) (n := R.length) rfl hi (by simp; omega) hct
  dsimp only at h9
  obtain ⟨C1, hC1⟩ : ∃ C1, C1 = cur.toList.take (i * 2) ++ flatM (R.drop (i + 1)) ++ cur.toList.drop (i * 2 + (flatM (R.drop (i + 1))).length) := ⟨_, rfl⟩
  rw [← hC1] at h9
  have hs1 : (w.drew.setCells g (i * 2) (flatM (R.drop (i + 1)))).heap[g]? = some (.cells C1.toArray 26 (0, 0)) := by
    rw [setCells_row (flatM (R.drop (i + 1))) (i * 2) cur w.drew hg (by rw [hdl]; omega), hC1]
  have hs2 := setCells_row [Value.string ⟨#[]⟩, .string ⟨#[]⟩] ((R.length - 1) * 2) C1.toArray _ hs1 (by have := h9.1; simp at this ⊢; omega)
  obtain ⟨A0, hA0, hnews⟩ : ∃ A0, (if cap = i + 1 then some (⟨g, 0, none⟩ : Addr) else some ⟨g, (i + 1) * 2, none⟩) = some A0 ∧ ∀ j u, (flatM (R.drop (i + 1)))[j]? = some u → w.drew.cell? (A0.add j) = some u := by
    by_cases he : cap = i + 1
    · refine ⟨⟨g, 0, none⟩, by rw [if_pos he], fun j u hj => ?_⟩
      have : R.drop (i + 1) = [] := List.drop_eq_nil_of_le (by omega)
      rw [this] at hj; cases hj
    · refine ⟨⟨g, (i + 1) * 2, none⟩, by rw [if_neg he], fun j u hj => ?_⟩
      rw [Addr.add_lit, Lib.cell_of_heap (w := w.drew) hg]
      have hjl : j < (R.length - (i + 1)) * 2 := by rw [← hdl]; exact (List.getElem?_eq_some_iff.1 hj).1
      rw [← flat_drop R (i + 1) (by omega), List.getElem?_drop, ← hct, List.getElem?_take, if_pos (by omega)] at hj
      simpa using hj
  have HFI := hid (show Insd B w ((w.drew.setCells g (i * 2) (flatM (R.drop (i + 1)))).setCells g ((R.length - 1) * 2) [Value.string ⟨#[]⟩, .string ⟨#[]⟩]) (.slice (some ⟨g, 0, none⟩) R.length cap) (.slice (some ⟨g, 0, none⟩) (R.length - 1) cap) (R.take i ++ R.drop (i + 1)) from by
    have hl : (R.take i ++ R.drop (i + 1)).length = R.length - 1 := by simp; omega
    refine ⟨?_, ?_, Or.inl rfl⟩
    · rw [hl]
      exact own_of_row hs2 hB hl (by omega) hcm (by have := h9.2.1; simp at this ⊢; omega) (by have := h9.2.2; simpa using this)
    · have a1 := setCells_rest (g := g) [Value.string ⟨#[]⟩, .string ⟨#[]⟩] ((R.length - 1) * 2) (w.drew.setCells g (i * 2) (flatM (R.drop (i + 1))))
      have a2 := setCells_rest (g := g) (flatM (R.drop (i + 1))) (i * 2) w.drew
      refine ⟨a1.1.trans a2.1, a1.2.1.trans a2.2.1, a1.2.2.trans a2.2.2, by rw [setCells_size, setCells_size]; exact Nat.le_refl _, fun k hk hne => ?_⟩
      have : k ≠ g := fun e => hne (by rw [e]; rfl)
      rw [setCells_far _ _ _ this, setCells_far _ _ _ this]; rfl)
  have hclr : ∀ ty c, (Builtin.clear_ #[22] ty #[.slice (some ⟨g, (R.length - 1) * 2, none⟩) 1 c]).run Tryz.prog (w.drew.setCells g (i * 2) (flatM (R.drop (i + 1)))) = .ok (.tuple #[]) ((w.drew.setCells g (i * 2) (flatM (R.drop (i + 1)))).setCells g ((R.length - 1) * 2) [Value.string ⟨#[]⟩, .string ⟨#[]⟩]) := fun ty c =>
    clear_two _ g ((R.length - 1) * 2) c C1.toArray hs1 (by have := h9.1; simp at this ⊢; omega) ty
  have hspare : ∀ j, j < (flatM (R.drop (i + 1))).length → (w.drew.cell? ⟨g, 0 + i * 2 + j, none⟩).isSome = true ∧ w.drew.frozen? ⟨g, 0 + i * 2 + j, none⟩ = false := fun j hj => by
    rw [hdl] at hj
    exact ⟨by rw [Lib.cell_of_heap (w := w.drew) hg, Array.getElem?_eq_getElem (by omega)]; rfl, Lib.frozen_of_heap (w := w.drew) hg _⟩
  have g1 : ((i : Int) == (i : Int) + 1) = false := by simp; omega
  have g2 : ¬ ((i : Int) = (i : Int) + 1) := by omega
  have g3 : (i : Int) + 1 ≤ (R.length : Int) := by omega
  have g4 : (0 : Int) ≤ (i : Int) + 1 := by omega
  have g5 : ((i : Int) + 1).toNat = i + 1 := by omega
  have g6 : (i : Int) ≤ (cap : Int) := by omega
  have g7 : (R.length : Int) ≤ (cap : Int) := by omega
  have g8 : (i : Int) ≤ (i : Int) + 1 := by omega
  have g9 : i ≤ cap := by omega
  have g10 : i + (R.length - (i + 1)) = R.length - 1 := by omega
  clear hC1 hct hcs hg hs1 hs2 h9
  go_enter Tryz.func42, Tryz.ntmps42
  have HNW := hid hnews
  have HSP := hid hspare
  clear hnews hspare
  have g11 : ((R.length - 1 : Nat) : Int) ≤ (R.length : Int) := by omega
  have g12 : R.length - (R.length - 1) = 1 := by omega
  have g13 : ¬ (cap = R.length - 1) := by omega
  go_wp2_with fail
  go_region_law (refine step_append_room rfl (.tmp 22) (.tmp 25) 22 rfl 26 i0 2 Tryz.underlying22 hi0 hzs g 0 i cap (by simp [Act.eval, Act.put]) A0 (R.length - (i + 1)) (cap - (i + 1)) (flatM (R.drop (i + 1))) (by simp [Act.eval, Act.put]) hdl HNW.out (flat_one _) (by omega) HSP.out ?_)
  go_wp2_with fail
  go_ret
  exact ⟨_, rfl, HFI.out⟩
/-- slices.Delete of one module. -/
theorem del_any (R : List Bm) (v : Value) (B i : Nat) (w : World) (hn : R.length ≤ 1000000) (ho : w.ownsRow B 26 2 v R.length (flatM R)) (hi : i < R.length) :
    Calls Tryz.prog 42 #[v, .int .i64 i, .int .i64 ((i : Int) + 1)] w fun e w' => ∃ v', e = .returned v' ∧ Insd B w w' v v' (R.take i ++ R.drop (i + 1)) := by
  obtain ⟨_, ⟨_, h0⟩ | ⟨g, cap, cur, rfl, hBg, hg, hcap, hcm, hcs, hct⟩⟩ := ho
  · omega
  · exact del_some R B g cap i cur w hn hBg hg hcap hcm hcs hct hi
end Ve
end Go.Proofs.YtjphlclhkaoipaaGreatDoor
