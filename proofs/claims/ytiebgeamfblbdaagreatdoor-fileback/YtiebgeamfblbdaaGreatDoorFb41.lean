/-
  FileW FileX
-/
import Derived.Test.YtiebgeamfblbdaaGreatDoorFb38
import Derived.Test.YtiebgeamfblbdaaGreatDoorFb39
import Derived.Test.YtiebgeamfblbdaaGreatDoorFb40
namespace Go.Proofs.YtiebgeamfblbdaaGreatDoor
open Go.RowKit
namespace Ve
theorem setCells_row {g : Nat} {t : TypeId} : ∀ (cs : List Value) (o : Nat) (cur : Array Value) (w : World), w.heap[g]? = some (.cells cur t (0, 0)) → o + cs.length ≤ cur.size →
    (w.setCells g o cs).heap[g]? = some (.cells (cur.toList.take o ++ cs ++ cur.toList.drop (o + cs.length)).toArray t (0, 0))
  | [], o, cur, w, h, _ => by
    show w.heap[g]? = _
    rw [h]; simp
  | v :: r, o, cur, w, h, hl => by
    show ((w.setCell ⟨g, o, none⟩ v).setCells g (o + 1) r).heap[g]? = _
    have h1 := set_block (o := o) (x := v) h
    have hl' : o + (r.length + 1) ≤ cur.size := hl
    rw [setCells_row r (o + 1) _ _ h1 (by simp; omega)]
    have := list_seg_step cur.toList o v r (by simpa using hl')
    rw [Array.toList_setIfInBounds, this]; rfl
theorem setCells_far {g k : Nat} : ∀ (cs : List Value) (o : Nat) (w : World), k ≠ g → (w.setCells g o cs).heap[k]? = w.heap[k]?
  | [], _, _, _ => rfl
  | v :: r, o, w, h => by
    show ((w.setCell ⟨g, o, none⟩ v).setCells g (o + 1) r).heap[k]? = _
    rw [setCells_far r (o + 1) _ h, Below.heap_setCell _ _ _ _ h]
theorem setCells_size {g : Nat} : ∀ (cs : List Value) (o : Nat) (w : World), (w.setCells g o cs).heap.size = w.heap.size
  | [], _, _ => rfl
  | v :: r, o, w => by
    show ((w.setCell ⟨g, o, none⟩ v).setCells g (o + 1) r).heap.size = _
    rw [setCells_size r (o + 1) _]; simp [World.setCell]
theorem setCells_rest {g : Nat} : ∀ (cs : List Value) (o : Nat) (w : World), (w.setCells g o cs).os = w.os ∧ (w.setCells g o cs).tape = w.tape ∧ (w.setCells g o cs).output = w.output
  | [], _, _ => ⟨rfl, rfl, rfl⟩
  | v :: r, o, w => by
    have := setCells_rest (g := g) r (o + 1) (w.setCell ⟨g, o, none⟩ v)
    exact this
theorem clear_two (w : World) (g o c : Nat) (cur : Array Value) (h : w.heap[g]? = some (.cells cur 26 (0, 0))) (hl : o + 2 ≤ cur.size) (ty : TypeId) :
    (Builtin.clear_ #[22] ty #[.slice (some ⟨g, o, none⟩) 1 c]).run Tryz.prog w = .ok (.tuple #[]) (w.setCells g o [.string ⟨#[]⟩, .string ⟨#[]⟩]) := by
  have hst := run_storeCells_cells (P := Tryz.prog) g o [Value.string ⟨#[]⟩, .string ⟨#[]⟩] 0 w (fun j hj => by
    have hj2 : j < 2 := hj
    rw [Lib.cell_of_heap h, Array.getElem?_eq_getElem (by omega)]; rfl) (fun j _ => Lib.frozen_of_heap h _) (by simp [Value.oneCell'])
  simp only [Nat.add_zero] at hst
  have hu := Tryz.underlying22
  have hv : ∀ w, (zeroValue 26).run Tryz.prog w = .ok (.agg #[.string ⟨#[]⟩, .string ⟨#[]⟩]) w := fun w => Tryz.zeroValue26 w
  have hzc : Builtin.zeroCells (Value.agg #[.string ⟨#[]⟩, .string ⟨#[]⟩]).cells 1 = #[Value.string ⟨#[]⟩, .string ⟨#[]⟩] := by
    simp only [Builtin.zeroCells, Value.cells]
    apply Array.ext'
    simp [List.range_succ]
  simp [Builtin.clear_, run_underlying hu, hv, hzc, hst]
theorem row_del {cur : List Value} {R : List Bm} {i n : Nat} (hn : R.length = n) (hi : i < n) (hl : n * 2 ≤ cur.length) (ht : cur.take (n * 2) = flatM R) :
    let c1 := cur.take (i * 2) ++ flatM (R.drop (i + 1)) ++ cur.drop (i * 2 + (flatM (R.drop (i + 1))).length)
    let c2 := c1.take ((n - 1) * 2) ++ [Value.string ⟨#[]⟩, .string ⟨#[]⟩] ++ c1.drop ((n - 1) * 2 + 2)
    c1.length = cur.length ∧ c2.length = cur.length ∧ c2.take ((n - 1) * 2) = flatM (R.take i ++ R.drop (i + 1)) := by
  intro c1 c2
  have hdl : (flatM (R.drop (i + 1))).length = (n - (i + 1)) * 2 := by rw [flatM_len, List.length_drop, hn]
  have h1 : c1.length = cur.length := by
    show (cur.take (i * 2) ++ flatM (R.drop (i + 1)) ++ cur.drop (i * 2 + (flatM (R.drop (i + 1))).length)).length = _
    simp only [List.length_append, List.length_take, List.length_drop, hdl]
    omega
  have h2 : c2.length = cur.length := by
    show (c1.take ((n - 1) * 2) ++ [Value.string ⟨#[]⟩, .string ⟨#[]⟩] ++ c1.drop ((n - 1) * 2 + 2)).length = _
    simp only [List.length_append, List.length_take, List.length_drop, List.length_cons, List.length_nil]
    omega
  refine ⟨h1, h2, ?_⟩
  have e1 : (c1.take ((n - 1) * 2)).length = (n - 1) * 2 := by simp; omega
  have ht1 : cur.take (i * 2) = flatM (R.take i) := by
    rw [← flat_take R i (by omega), ← ht, List.take_take, show min (i * 2) (n * 2) = i * 2 by omega]
  have e2 : (flatM (R.take i) ++ flatM (R.drop (i + 1))).length = (n - 1) * 2 := by
    simp only [List.length_append, hdl, flatM_len, List.length_take]
    omega
  show (c1.take ((n - 1) * 2) ++ [Value.string ⟨#[]⟩, .string ⟨#[]⟩] ++ c1.drop ((n - 1) * 2 + 2)).take ((n - 1) * 2) = _
  rw [List.append_assoc, List.take_append_of_le_length (by omega), List.take_take, Nat.min_self]
  show (cur.take (i * 2) ++ flatM (R.drop (i + 1)) ++ cur.drop _).take ((n - 1) * 2) = _
  rw [ht1, ← e2, List.take_left, flatM_app]
set_option maxHeartbeats 4000000 in
set_option maxRecDepth 100000 in
theorem del_some (R : List Bm) (B g cap i : Nat) (cur : Array Value) (w : World) (hn : R.length ≤ 1000000) (hB : B ≤ g) (hg : w.heap[g]? = some (.cells cur 26 (0, 0))) (hcap : R.length ≤ cap) (hcm : cap ≤ maxLen) (hcs : cur.size = cap * 2) (hct : cur.toList.take (R.length * 2) = flatM R) (hi : i < R.length) :
    Calls Tryz.prog 28 #[.slice (some ⟨g, 0, none⟩) R.length cap, .int .i64 i, .int .i64 ((i : Int) + 1)] w fun e w' => ∃ v', e = .returned v' ∧ Insd B w w' (.slice (some ⟨g, 0, none⟩) R.length cap) v' (R.take i ++ R.drop (i + 1)) := by
  obtain ⟨i0, hi0, hz0, hzs, hzb⟩ := info_parts infoMod
  have hdl : (flatM (R.drop (i + 1))).length = (R.length - (i + 1)) * 2 := by rw [flatM_len, List.length_drop]
  have h9 := row_del (cur := cur.toList) (R := R) (i := i) (n := R.length) rfl hi (by simp; omega) hct
  dsimp only at h9
  obtain ⟨C1, hC1⟩ : ∃ C1, C1 = cur.toList.take (i * 2) ++ flatM (R.drop (i + 1)) ++ cur.toList.drop (i * 2 + (flatM (R.drop (i + 1))).length) := ⟨_, rfl⟩
  rw [← hC1] at h9
  have hs1 : (w.drew.setCells g (i * 2) (flatM (R.drop (i + 1)))).heap[g]? = some (.cells C1.toArray 26 (0, 0)) := by
    rw [setCells_row (flatM (R.drop (i + 1))) (i * 2) cur w.drew hg (by rw [hdl]; omega), hC1]
  have hs2 := setCells_row [Value.string ⟨#[]⟩, .string ⟨#[]⟩] ((R.length - 1) * 2) C1.toArray _ hs1 (by have := h9.1; simp at this ⊢; omega)
  obtain ⟨A0, hA0, hnews⟩ : ∃ A0, (if cap = i + 1 then some (⟨g, 0, none⟩ : Addr) else some ⟨g, (i + 1) * 2, none⟩) = some A0 ∧ ∀ j u, (flatM (R.drop (i + 1)))[j]? = some u → w.drew.cell? (A0.add j) = some u := by
    by_cases he : cap = i + 1
    · refine ⟨⟨g, 0, none⟩, by rw [if_pos he], fun j u hj => ?_⟩
      have : R.drop (i + 1) = [] := List.drop_eq_nil_of_le (by omega)
      rw [this] at hj; cases hj
    · refine ⟨⟨g, (i + 1) * 2, none⟩, by rw [if_neg he], fun j u hj => ?_⟩
      rw [Addr.add_lit, Lib.cell_of_heap (w := w.drew) hg]
      have hjl : j < (R.length - (i + 1)) * 2 := by rw [← hdl]; exact (List.getElem?_eq_some_iff.1 hj).1
      rw [← flat_drop R (i + 1) (by omega), List.getElem?_drop, ← hct, List.getElem?_take, if_pos (by omega)] at hj
      simpa using hj
  have HFI := hid (show Insd B w ((w.drew.setCells g (i * 2) (flatM (R.drop (i + 1)))).setCells g ((R.length - 1) * 2) [Value.string ⟨#[]⟩, .string ⟨#[]⟩]) (.slice (some ⟨g, 0, none⟩) R.length cap) (.slice (some ⟨g, 0, none⟩) (R.length - 1) cap) (R.take i ++ R.drop (i + 1)) from by
    have hl : (R.take i ++ R.drop (i + 1)).length = R.length - 1 := by simp; omega
    refine ⟨?_, ?_, Or.inl rfl⟩
    · rw [hl]
      exact own_of_row hs2 hB hl (by omega) hcm (by have := h9.2.1; simp at this ⊢; omega) (by have := h9.2.2; simpa using this)
    · have a1 := setCells_rest (g := g) [Value.string ⟨#[]⟩, .string ⟨#[]⟩] ((R.length - 1) * 2) (w.drew.setCells g (i * 2) (flatM (R.drop (i + 1))))
      have a2 := setCells_rest (g := g) (flatM (R.drop (i + 1))) (i * 2) w.drew
      refine ⟨a1.1.trans a2.1, a1.2.1.trans a2.2.1, a1.2.2.trans a2.2.2, by rw [setCells_size, setCells_size]; exact Nat.le_refl _, fun k hk hne => ?_⟩
      have : k ≠ g := fun e => hne (by rw [e]; rfl)
      rw [setCells_far _ _ _ this, setCells_far _ _ _ this]; rfl)
  have hclr : ∀ ty c, (Builtin.clear_ #[22] ty #[.slice (some ⟨g, (R.length - 1) * 2, none⟩) 1 c]).run Tryz.prog (w.drew.setCells g (i * 2) (flatM (R.drop (i + 1)))) = .ok (.tuple #[]) ((w.drew.setCells g (i * 2) (flatM (R.drop (i + 1)))).setCells g ((R.length - 1) * 2) [Value.string ⟨#[]⟩, .string ⟨#[]⟩]) := fun ty c =>
    clear_two _ g ((R.length - 1) * 2) c C1.toArray hs1 (by have := h9.1; simp at this ⊢; omega) ty
  have hspare : ∀ j, j < (flatM (R.drop (i + 1))).length → (w.drew.cell? ⟨g, 0 + i * 2 + j, none⟩).isSome = true ∧ w.drew.frozen? ⟨g, 0 + i * 2 + j, none⟩ = false := fun j hj => by
    rw [hdl] at hj
    exact ⟨by rw [Lib.cell_of_heap (w := w.drew) hg, Array.getElem?_eq_getElem (by omega)]; rfl, Lib.frozen_of_heap (w := w.drew) hg _⟩
  have g1 : ((i : Int) == (i : Int) + 1) = false := by simp; omega
  have g2 : ¬ ((i : Int) = (i : Int) + 1) := by omega
  have g3 : (i : Int) + 1 ≤ (R.length : Int) := by omega
  have g4 : (0 : Int) ≤ (i : Int) + 1 := by omega
  have g5 : ((i : Int) + 1).toNat = i + 1 := by omega
  have g6 : (i : Int) ≤ (cap : Int) := by omega
  have g7 : (R.length : Int) ≤ (cap : Int) := by omega
  have g8 : (i : Int) ≤ (i : Int) + 1 := by omega
  have g9 : i ≤ cap := by omega
  have g10 : i + (R.length - (i + 1)) = R.length - 1 := by omega
  clear hC1 hct hcs hg hs1 hs2 h9
  go_enter Tryz.func28, Tryz.ntmps28
  have HNW := hid hnews
  have HSP := hid hspare
  clear hnews hspare
  have g11 : ((R.length - 1 : Nat) : Int) ≤ (R.length : Int) := by omega
  have g12 : R.length - (R.length - 1) = 1 := by omega
  have g13 : ¬ (cap = R.length - 1) := by omega
  go_wp2_with fail
  go_region_law (refine step_append_room rfl (.tmp 22) (.tmp 25) 22 rfl 26 i0 2 Tryz.underlying22 hi0 hzs g 0 i cap (by simp [Act.eval, Act.put]) A0 (R.length - (i + 1)) (cap - (i + 1)) (flatM (R.drop (i + 1))) (by simp [Act.eval, Act.put]) hdl HNW.out (flat_one _) (by omega) HSP.out ?_)
  go_wp2_with fail
  go_ret
  exact ⟨_, rfl, HFI.out⟩
theorem del_any (R : List Bm) (v : Value) (B i : Nat) (w : World) (hn : R.length ≤ 1000000) (ho : w.ownsRow B 26 2 v R.length (flatM R)) (hi : i < R.length) :
    Calls Tryz.prog 28 #[v, .int .i64 i, .int .i64 ((i : Int) + 1)] w fun e w' => ∃ v', e = .returned v' ∧ Insd B w w' v v' (R.take i ++ R.drop (i + 1)) := by
  obtain ⟨_, ⟨_, h0⟩ | ⟨g, cap, cur, rfl, hBg, hg, hcap, hcm, hcs, hct⟩⟩ := ho
  · omega
  · exact del_some R B g cap i cur w hn hBg hg hcap hcm hcs hct hi
end Ve
end Go.Proofs.YtiebgeamfblbdaaGreatDoor
namespace Go.Proofs.YtiebgeamfblbdaaGreatDoor
open Go.RowKit
namespace Ve
def RightP (p : ByteArray) (R X : List Bm) (v u : Value) (A : Nat → Addr) (P : ByteArray) (v' u' x : Value) : Prop :=
  if (fileF p R X).1 = 0 then P = p ∧ v' = v ∧ u' = u ∧ x = .nilIface else P = ⟨#[]⟩ ∧ v' = .slice none 0 0 ∧ u' = .slice none 0 0 ∧ x = errA A (fileF p R X).1
theorem right_any (p : ByteArray) (R X : List Bm) (v u : Value) (A : Nat → Addr) (m : Int) (w : World) (hp : p.size < 999999) (S : Te w A m) (F : Fl w R X v u) :
    Calls Tryz.prog 23 #[.agg #[.string p, v, u]] w fun e w' => ∃ P a n c a' n' c' x, e = .returned (.tuple #[.agg #[.string P, .slice a n c, .slice a' n' c'], x]) ∧ RightP p R X v u A P (.slice a n c) (.slice a' n' c') x ∧ Below w.heap.size w w' := by
  obtain ⟨⟨vp, vc, hv⟩, up, uc, hu⟩ := F.slices
  by_cases h : (fileF p R X).1 = 0
  · refine (right_ok p R X v u A m w hp S F h).mono fun e w' ⟨h1, h2⟩ => ?_
    subst hv; subst hu
    exact ⟨_, _, _, _, _, _, _, _, h1, by unfold RightP; rw [if_pos h]; exact ⟨rfl, rfl, rfl, rfl⟩, h2⟩
  · refine (right_bad p R X v u A m w hp S F h).mono fun e w' ⟨h1, h2⟩ => ?_
    exact ⟨_, _, _, _, _, _, _, _, h1, by unfold RightP; rw [if_neg h]; exact ⟨rfl, rfl, rfl, rfl⟩, h2⟩
theorem three_a {w w3 : World} {o1 : Obj} {a1 a2 : Value} {T2 : TypeId} {a b c : Value} {T : TypeId} (hb : Below (w.heap.size + 1 + 1 + 1) (((w.alloc o1).alloc (.cells #[a1, a2] T2)).alloc (.cells #[a, b, c] T)) w3) :
    (w3.cell? ⟨w.heap.size + 1 + 1, 0, none⟩ = some a ∧ w3.cell? ⟨w.heap.size + 1 + 1, 1, none⟩ = some b ∧ w3.cell? ⟨w.heap.size + 1 + 1, 2, none⟩ = some c) ∧ (∀ o, w3.frozen? ⟨w.heap.size + 1 + 1, o, none⟩ = false) ∧
    (w3.cell? ⟨w.heap.size + 1, 0, none⟩ = some a1 ∧ w3.cell? ⟨w.heap.size + 1, 1, none⟩ = some a2) ∧ w.heap.size + 1 + 1 < w3.heap.size ∧ w3.heap[w.heap.size + 1 + 1]? = some (.cells #[a, b, c] T (0, 0)) := by
  have hz : ((w.alloc o1).alloc (.cells #[a1, a2] T2)).heap.size = w.heap.size + 1 + 1 := by simp
  have hz1 : (w.alloc o1).heap.size = w.heap.size + 1 := by simp
  have h2 : Below (((w.alloc o1).alloc (.cells #[a1, a2] T2)).heap.size + 1) (((w.alloc o1).alloc (.cells #[a1, a2] T2)).alloc (.cells #[a, b, c] T)) w3 := by rw [hz]; exact hb
  obtain ⟨c2, z2⟩ := res3 h2
  have f2 := res3f h2
  have b2 := res3b h2
  rw [hz] at c2 z2 f2 b2
  refine ⟨c2, f2, ?_, z2, b2⟩
  have go : ∀ o, w3.cell? ⟨w.heap.size + 1, o, none⟩ = ((w.alloc o1).alloc (.cells #[a1, a2] T2)).cell? ⟨w.heap.size + 1, o, none⟩ := fun o => by
    rw [hb.cell (by simp), World.cell?_alloc_lt _ _ _ (by simp)]
  rw [go, go]
  have h3 := res2 (w := w.alloc o1) (a := a1) (b := a2) (T := T2) (Below.refl _ _)
  rw [hz1] at h3
  exact h3.1
def setF (p : ByteArray) (R X : List Bm) (m : Bm) : Except Nat (List Bm) :=
  if (fileF p R X).1 = 0 then (if (fileF p (setR R m) X).1 = 0 then .ok (setR R m) else .error (fileF p (setR R m) X).1) else .error (fileF p R X).1
def SetP (p : ByteArray) (X : List Bm) (r : Except Nat (List Bm)) (A : Nat → Addr) (w w' : World) (e : Ending) : Prop :=
  ∃ (P : ByteArray) (v u x : Value), e = .returned (.tuple #[.agg #[.string P, v, u], x]) ∧ Below w.heap.size w w' ∧ match r with
    | .error c => x = errA A c ∧ c ≠ 0 ∧ P = ⟨#[]⟩ ∧ v = .slice none 0 0 ∧ u = .slice none 0 0
    | .ok R' => x = .nilIface ∧ P = p ∧ MsAt w' v R' ∧ MsAt w' u X ∧ (X = [] → u = .slice none 0 0)
set_option maxHeartbeats 2000000 in
theorem set_bad (p : ByteArray) (R X : List Bm) (v u : Value) (m : Bm) (A : Nat → Addr) (k : Int) (w : World) (hp : p.size < 999999) (S : Te w A k) (F : Fl w R X v u) (hz : R = [] → v = .slice none 0 0) (hx : X = [] → u = .slice none 0 0) (h : (fileF p R X).1 ≠ 0) :
    Calls Tryz.prog 11 #[.agg #[.string p, v, u], .agg #[.string m.1, .string m.2]] w fun e w' => e = .returned (.tuple #[.agg #[.string ⟨#[]⟩, .slice none 0 0, .slice none 0 0], errA A (fileF p R X).1]) ∧ Below w.heap.size w w' := by
  obtain ⟨⟨vp, vc, rfl⟩, up, uc, rfl⟩ := F.slices
  have HB1 := hid ((((Below.refl w.heap.size w).alloc (Nat.le_refl _) (.cells #[.string p, .slice vp R.length vc, .slice up X.length uc] 24)).alloc (by simp) (.cells #[.string m.1, .string m.2] 26)).alloc (by simp; omega) (.cells #[.string ⟨#[]⟩, .slice none 0 0, .slice none 0 0] 24))
  have HS := hid (S.below HB1.out)
  have HF := hid (F.below HB1.out)
  have HC := hid (copy_of p R X _ _ _ HF.out hz hx)
  have HEI := hid (errA_if A h)
  have HN := hid h
  rw [HEI.out]
  clear S F hz hx h
  go_enter Tryz.func11, Tryz.ntmps11
  go_wp2_with fail
  refine HC.out.mono ?_
  rintro e w1 ⟨v1, u1, rfl, hcp⟩
  have HCP := hid hcp
  have HS1 := hid (HS.out.below hcp.bl)
  have HF1 := hid (show Fl w1 R X v1 u1 from ⟨own_ms hcp.ov, own_ms hcp.ou, HF.out.rs, HF.out.xs, HF.out.rn, HF.out.xn⟩)
  obtain ⟨⟨a1, c1, rfl⟩, a2, c2, rfl⟩ := HF1.out.slices
  have HRT := hid (right_bad p R X _ _ A k w1 hp HS1.out HF1.out HN.out)
  rw [HEI.out] at HRT
  have HBa := hid (show Below (w.heap.size + 1 + 1 + 1) _ w1 from hcp.bl.mono (by simp))
  clear hcp
  go_wp2_with fail
  refine HRT.out.mono ?_
  rintro e w2 ⟨rfl, hb⟩
  have HBb := hid (HBa.out.trans (hb.mono (by have := HBa.out.size; simpa using this)))
  have HBc := hid (HBb.out.alloc (by have := HBb.out.size; simpa using this) (.cells #[.string ⟨#[]⟩, .slice none 0 0, .slice none 0 0] 24))
  obtain ⟨⟨r0, r1, r2⟩, rf, _, rz, _⟩ := three_a HBc.out
  have HBd := hid (HB1.out.trans (HBc.out.mono (by omega)))
  clear hb
  go_wp2_with fail
  refine bodyPost_ret (v := .tuple #[.agg #[.string ⟨#[]⟩, .slice none 0 0, .slice none 0 0], .iface 169 (.pointer (some (A ((fileF p R X).1 - 1))))]) (by simp [results, Tryz.results11, go_sem, r0, r1, r2]) rfl ?_
  exact ⟨rfl, put3_below HBd.out (by omega)⟩
end Ve
end Go.Proofs.YtiebgeamfblbdaaGreatDoor
