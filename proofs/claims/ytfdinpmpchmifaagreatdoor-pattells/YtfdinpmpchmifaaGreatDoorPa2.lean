/-
  Rows of what beginnings are matched, as lists (plain).
-/
import Derived.Test.YtfdinpmpchmifaaGreatDoorPa1
import Derived.Test.YtfdinpmpchmifaaGreatDoorRefB
import Derived.Test.YtfdinpmpchmifaaGreatDoorFileP
import Derived.Deep.AppendLies
import Derived.Laws.MakeOwn
import Derived.Deep.RegionHeld
import Derived.Test.YtfdinpmpchmifaaGreatDoorAhead
import Derived.Test.YtfdinpmpchmifaaGreatDoorRefF
namespace Go.Proofs.YtfdinpmpchmifaaGreatDoor
open Go.RowKit
namespace Ve

/-- A list holds a row. -/
def RowIs (R : List Bool) (row : Nat → Bool) : Prop := ∀ k (h : k < R.length), R[k] = row k
/-- The next row behind any text, up to k. -/
def nxA (R : List Bool) (k : Nat) : List Bool := (List.range R.length).map fun j => decide (j < k) && (R.take (j + 1)).any id
/-- The next row behind a byte, up to k. -/
def nxO (R : List Bool) (s : List UInt8) (c : UInt8) (k : Nat) : List Bool := (List.range R.length).map fun j => (decide (0 < j) && decide (j ≤ k)) && (R.getD (j - 1) false && s[j - 1]? == some c)
theorem nxA_len (R : List Bool) (k : Nat) : (nxA R k).length = R.length := by simp [nxA]
theorem nxO_len (R : List Bool) (s : List UInt8) (c : UInt8) (k : Nat) : (nxO R s c k).length = R.length := by simp [nxO]
theorem nxA_zero (R : List Bool) : nxA R 0 = List.replicate R.length false := by
  apply List.ext_getElem
  · simp [nxA]
  · intro i h1 h2; simp [nxA]
theorem nxO_zero (R : List Bool) (s : List UInt8) (c : UInt8) : nxO R s c 0 = List.replicate R.length false := by
  apply List.ext_getElem
  · simp [nxO]
  · intro i h1 h2
    simp only [nxO, List.getElem_map, List.getElem_range, List.getElem_replicate]
    cases i with
    | zero => rfl
    | succ i => rw [decide_eq_false (show ¬ i + 1 ≤ 0 by omega), Bool.and_false, Bool.false_and]
theorem any_take {R : List Bool} {k : Nat} (hk : k < R.length) : (R.take (k + 1)).any id = ((R.take k).any id || R[k]) := by
  rw [List.take_succ_eq_append_getElem hk, List.any_append]; simp
theorem nxA_next {R : List Bool} {k : Nat} : (nxA R k).set k ((R.take (k + 1)).any id) = nxA R (k + 1) := by
  apply List.ext_getElem
  · simp [nxA]
  · intro i h1 h2
    rw [List.getElem_set]
    simp only [nxA, List.getElem_map, List.getElem_range]
    by_cases e : k = i
    · subst e
      rw [if_pos rfl, decide_eq_true (show k < k + 1 by omega), Bool.true_and]
    · rw [if_neg e]
      congr 1
      exact decide_eq_decide.2 ⟨fun h => by omega, fun h => by omega⟩
theorem nxO_yes {R : List Bool} {s : List UInt8} {c : UInt8} {k : Nat} (hk : k + 1 < R.length) (h1 : R[k]'(by omega) = true) (h2 : s[k]? = some c) : (nxO R s c k).set (k + 1) true = nxO R s c (k + 1) := by
  apply List.ext_getElem
  · simp [nxO]
  · intro i g1 g2
    rw [List.getElem_set]
    simp only [nxO, List.getElem_map, List.getElem_range]
    by_cases e : k + 1 = i
    · subst e
      rw [if_pos rfl, Nat.add_sub_cancel, h2, List.getD_eq_getElem?_getD, List.getElem?_eq_getElem (show k < R.length by omega)]
      simp [h1]
    · rw [if_neg e]
      congr 2
      exact decide_eq_decide.2 ⟨fun h => by omega, fun h => by omega⟩
theorem nxO_no {R : List Bool} {s : List UInt8} {c : UInt8} {k : Nat} (hk : k + 1 < R.length) (h : ¬ (R[k]'(by omega) = true ∧ s[k]? = some c)) : nxO R s c k = nxO R s c (k + 1) := by
  apply List.ext_getElem
  · simp [nxO]
  · intro i g1 g2
    simp only [nxO, List.getElem_map, List.getElem_range]
    by_cases e : k + 1 = i
    · subst e
      have hz : (R.getD (k + 1 - 1) false && s[k + 1 - 1]? == some c) = false := by
        rw [Nat.add_sub_cancel, List.getD_eq_getElem?_getD, List.getElem?_eq_getElem (show k < R.length by omega)]
        cases hb : R[k]'(by omega)
        · rfl
        · cases hc : (s[k]? == some c)
          · rfl
          · exact absurd ⟨hb, by simpa using hc⟩ h
      rw [hz, Bool.and_false, Bool.and_false]
    · congr 2
      exact decide_eq_decide.2 ⟨fun h => by omega, fun h => by omega⟩
theorem rowIs_any {R : List Bool} {s : List UInt8} {row : Nat → Bool} (h : RowIs R row) : RowIs (nxA R R.length) (stpR s row none) := fun k hk => by
  rw [nxA_len] at hk
  simp only [nxA, List.getElem_map, List.getElem_range]
  rw [decide_eq_true hk, Bool.true_and, Bool.eq_iff_iff, stpR_any, List.any_eq_true]
  constructor
  · rintro ⟨x, hx, hb⟩
    obtain ⟨j, hj, e⟩ := List.getElem_of_mem hx
    rw [List.length_take] at hj
    rw [List.getElem_take] at e
    refine ⟨j, by omega, ?_⟩
    rw [← h j (by omega), e]; exact hb
  · rintro ⟨j, hj, hb⟩
    refine ⟨R[j]'(by omega), List.mem_iff_getElem.2 ⟨j, by rw [List.length_take]; omega, by rw [List.getElem_take]⟩, ?_⟩
    rw [h j (by omega)]; exact hb
theorem rowIs_one {R : List Bool} {s : List UInt8} {row : Nat → Bool} {c : UInt8} (hl : R.length = s.length + 1) (h : RowIs R row) : RowIs (nxO R s c s.length) (stpR s row (some c)) := fun k hk => by
  rw [nxO_len] at hk
  simp only [nxO, List.getElem_map, List.getElem_range]
  cases k with
  | zero => rfl
  | succ k =>
    rw [decide_eq_true (show 0 < k + 1 by omega), decide_eq_true (show k + 1 ≤ s.length by omega), Nat.add_sub_cancel, List.getD_eq_getElem?_getD, List.getElem?_eq_getElem (show k < R.length by omega)]
    show (true && true && (R[k] && s[k]? == some c)) = (row k && s[k]? == some c)
    rw [h k (by omega)]; rfl
/-- The pieces that are read, and those that are not. -/
theorem tok_read_any {l : List UInt8} {T : List (Option UInt8)} {i : Nat} (h : tok l = T ++ tok (l.drop i)) (hp : dots.isPrefixOf (l.drop i) = true) : tok l = (T ++ [none]) ++ tok (l.drop (i + 3)) := by
  rw [h, tok_any hp, List.drop_drop, List.append_assoc]; rfl
theorem tok_read_one {l : List UInt8} {T : List (Option UInt8)} {i : Nat} (hi : i < l.length) (h : tok l = T ++ tok (l.drop i)) (hp : dots.isPrefixOf (l.drop i) = false) : tok l = (T ++ [some l[i]]) ++ tok (l.drop (i + 1)) := by
  rw [h, List.drop_eq_getElem_cons hi] at *
  rw [tok_one hp, List.append_assoc]; rfl
theorem rows_snoc (s : List UInt8) (T : List (Option UInt8)) (t : Option UInt8) (row : Nat → Bool) : rowsT s (T ++ [t]) row = stpR s (rowsT s T row) t := by unfold rowsT; rw [List.foldl_append]; rfl
end Ve
end Go.Proofs.YtfdinpmpchmifaaGreatDoor

/-
  What begins of the document's answer says.
-/
namespace Go.Proofs.YtfdinpmpchmifaaGreatDoor
open Go.RowKit
namespace Ve

/-- Does a text begin with another one? -/
def begB (s h : ByteArray) : Bool := Lib.hasPrefix s.data.toList h.data.toList
theorem take_beq (a b : List UInt8) : (a.take b.length == b) = b.isPrefixOf a := by
  rw [Bool.eq_iff_iff, beq_iff_eq, List.isPrefixOf_iff_prefix, List.prefix_iff_eq_take]
  exact eq_comm
theorem begB_long {s h : ByteArray} (hl : ¬ h.size ≤ s.size) : begB s h = false := by
  unfold begB Lib.hasPrefix
  cases e : h.data.toList.isPrefixOf s.data.toList with
  | false => rfl
  | true =>
    have := (List.isPrefixOf_iff_prefix.1 e).length_le
    exact absurd (show h.size ≤ s.size from this) hl
set_option maxHeartbeats 1000000 in
theorem rbeg_any (s h : ByteArray) (w : World) : Calls Tryz.prog 14 #[.string s, .string h] w fun e w' => e = .returned (.bool (begB s h)) ∧ w' = w := by
  by_cases hl : h.size ≤ s.size
  · have h1 : ¬ (s.size : Int) < (h.size : Int) := by omega
    have h2 : (h.size : Int) ≤ (s.size : Int) := by omega
    have h3 : (0 : Int) ≤ (h.size : Int) := by omega
    have HX := hid (show ((s.extract 0 h.size).toList == h.toList) = begB s h by
      rw [ByteArray.toList_eq, ByteArray.toList_eq, extract_list]
      simp only [List.drop_zero, Nat.sub_zero]
      exact take_beq _ _)
    generalize begB s h = z at *
    go_enter Tryz.func14, Tryz.ntmps14
    go_wp2_with fail
    go_ret
    exact ⟨ret_bool HX.out, rfl⟩
  · have h1 : (s.size : Int) < (h.size : Int) := by omega
    have HX := hid (begB_long hl)
    generalize begB s h = z at *
    go_enter Tryz.func14, Tryz.ntmps14
    go_wp2_with fail
    go_ret
    exact ⟨ret_bool HX.out.symm, rfl⟩
end Ve
end Go.Proofs.YtfdinpmpchmifaaGreatDoor

/-
  Rows of modules that a call owns; stores into boxes.
-/
namespace Go.Proofs.YtfdinpmpchmifaaGreatDoor
open Go.RowKit
namespace Ve

def flatM (L : List Bm) : List Value := L.flatMap fun m => [.string m.1, .string m.2]
theorem flatM_len (L : List Bm) : (flatM L).length = L.length * 2 := by
  induction L with
  | nil => rfl
  | cons r R ih =>
    have : flatM (r :: R) = [.string r.1, .string r.2] ++ flatM R := rfl
    rw [this, List.length_append, ih]
    show 2 + R.length * 2 = (R.length + 1) * 2
    omega
theorem flatM_app (D E : List Bm) : flatM (D ++ E) = flatM D ++ flatM E := by simp [flatM]
theorem flatM_get : ∀ (D : List Bm) (j c : Nat) (hj : j < D.length) (_ : c < 2), (flatM D)[j * 2 + c]? = [Value.string D[j].1, Value.string D[j].2][c]?
  | [], _, _, hj, _ => absurd hj (Nat.not_lt_zero _)
  | r :: R, 0, c, _, hc => by
    have : flatM (r :: R) = [.string r.1, .string r.2] ++ flatM R := rfl
    rw [this, List.getElem?_append_left (by show 0 * 2 + c < 2; omega)]
    simp
  | r :: R, j + 1, c, hj, hc => by
    have : flatM (r :: R) = [.string r.1, .string r.2] ++ flatM R := rfl
    rw [this, List.getElem?_append_right (by show 2 ≤ (j + 1) * 2 + c; omega), show (j + 1) * 2 + c - [Value.string r.1, Value.string r.2].length = j * 2 + c by simp; omega]
    exact flatM_get R j c (by simpa using hj) hc
theorem own_ms {w : World} {base : Nat} {e : TypeId} {v : Value} {L : List Bm} (h : w.ownsRow base e 2 v L.length (flatM L)) : MsAt w v L := by
  obtain ⟨_, ⟨hv, hn0⟩ | ⟨g, cap, cur, hv, hg, hblk, hcap, hcm, hcs, hct⟩⟩ := h
  · exact ⟨none, 0, by rw [hv, hn0], by omega, fun hL => absurd (List.length_eq_zero_iff.1 hn0) hL⟩
  · refine ⟨_, cap, hv, hcap, fun _ => ⟨g, 0, rfl, fun j hj => ?_⟩⟩
    have go : ∀ c, c < 2 → w.cell? ⟨g, 0 + j * 2 + c, none⟩ = [Value.string L[j].1, Value.string L[j].2][c]? := fun c hc => by
      have h1 := flatM_get L j c hj hc
      rw [← hct, List.getElem?_take, if_pos (by omega)] at h1
      simp only [World.cell?, hblk]
      rw [← h1]; simp
    exact ⟨by have := go 0 (by omega); simpa using this, by have := go 1 (by omega); simpa using this⟩
theorem own_ne2 {w : World} {B : Nat} {e T : TypeId} {v : Value} {n : Nat} {xs : List Value} {b : Nat} {cs : Array Value} {fr : Nat × Nat} (hown : w.ownsRow B e 2 v n xs) (hb : w.heap[b]? = some (.cells cs T fr)) (hTe : T ≠ e) : v.ownBlock ≠ some b := by
  rcases hown.2 with ⟨rfl, _⟩ | ⟨g, cap, cur, rfl, _, hg, _⟩
  · simp [Value.ownBlock]
  · intro h
    simp only [Value.ownBlock, Option.some.injEq] at h
    subst h
    rw [hg] at hb
    simp only [Option.some.injEq, Obj.cells.injEq] at hb
    exact hTe hb.2.1.symm
theorem keep_set {W : World} {fb o b : Nat} {x : Value} {ob : Obj} (h : W.heap[b]? = some ob) (hne : b ≠ fb) : (W.setCell ⟨fb, o, none⟩ x).heap[b]? = some ob := by
  rw [Below.heap_setCell _ _ _ _ hne]; exact h
/-- A store into the file's own block. -/
theorem set_block {W : World} {fb o : Nat} {cs : Array Value} {T : TypeId} {x : Value} (h : W.heap[fb]? = some (.cells cs T (0, 0))) : (W.setCell ⟨fb, o, none⟩ x).heap[fb]? = some (.cells (cs.setIfInBounds o x) T (0, 0)) := by
  simp [World.setCell, Array.getElem?_modify, h]
theorem owns_set {W : World} {B fb o n : Nat} {e : TypeId} {v x : Value} {xs : List Value} (h : W.ownsRow B e 2 v n xs) (hne : v.ownBlock ≠ some fb) : (W.setCell ⟨fb, o, none⟩ x).ownsRow B e 2 v n xs :=
  h.kept (row := some fb) ⟨rfl, rfl, rfl, by simp [World.setCell], fun k _ hk => Below.heap_setCell _ _ _ _ (fun e => hk (by simp [e]))⟩ (Or.inr hne)
/-- Another row's growth leaves an owned row as it was. -/
theorem owns_far {W W3 : World} {B n : Nat} {e : TypeId} {v : Value} {xs : List Value} {row : Option Nat} (h : W.ownsRow B e 2 v n xs) (hg : W.grownBy W3 row) (hne : ∀ g, v.ownBlock = some g → row ≠ some g) : W3.ownsRow B e 2 v n xs := by
  obtain ⟨hl, h | ⟨g, cap, cur, e1, e2, e3, e4, e5, e6, e7⟩⟩ := h
  · exact ⟨hl, Or.inl h⟩
  · refine ⟨hl, Or.inr ⟨g, cap, cur, e1, e2, ?_, e4, e5, e6, e7⟩⟩
    rw [hg.block g (lt_of_blk e3) (fun h => hne g (by rw [e1]; rfl) h.symm)]; exact e3
theorem own_lt {W : World} {B n g : Nat} {e : TypeId} {v : Value} {xs : List Value} (h : W.ownsRow B e 2 v n xs) (hv : v.ownBlock = some g) : g < W.heap.size ∧ B ≤ g := by
  obtain ⟨hl, ⟨h, _⟩ | ⟨g', cap, cur, e1, e2, e3, _⟩⟩ := h
  · rw [h] at hv; cases hv
  · rw [e1] at hv
    have : g' = g := by simpa [Value.ownBlock] using hv
    subst this
    exact ⟨lt_of_blk e3, e2⟩
theorem heap_new (w : World) (o : Obj) : (w.alloc o).heap[w.heap.size]? = some o := heap_alloc_new w o
theorem heap_old (w : World) (o : Obj) {b : Nat} {x : Obj} (h : w.heap[b]? = some x) : (w.alloc o).heap[b]? = some x := by
  rw [((Below.refl w.heap.size w).alloc (Nat.le_refl _) o).block b (lt_of_blk h)]; exact h
theorem own_base {W : World} {B B' n : Nat} {e : TypeId} {v : Value} {xs : List Value} (h : W.ownsRow B e 2 v n xs) (hB : B' ≤ B) : W.ownsRow B' e 2 v n xs := by
  obtain ⟨hl, h | ⟨g, cap, cur, e1, e2, e3, e4, e5, e6, e7⟩⟩ := h
  · exact ⟨hl, Or.inl h⟩
  · exact ⟨hl, Or.inr ⟨g, cap, cur, e1, Nat.le_trans hB e2, e3, e4, e5, e6, e7⟩⟩
/-- A file's three cells, stored. -/
def put3 (W : World) (b : Nat) (x y z : Value) : World := ((W.setCell ⟨b, 0, none⟩ x).setCell ⟨b, 1, none⟩ y).setCell ⟨b, 2, none⟩ z
theorem put3_below {W w : World} {B b : Nat} {x y z : Value} (h : Below B w W) (hb : B ≤ b) : Below B w (put3 W b x y z) :=
  ((h.setCell (p := ⟨b, 0, none⟩) hb _).setCell (p := ⟨b, 1, none⟩) hb _).setCell (p := ⟨b, 2, none⟩) hb _
theorem put3_cell {W : World} {b b' o : Nat} {x y z : Value} (h : b' ≠ b) : (put3 W b x y z).cell? ⟨b', o, none⟩ = W.cell? ⟨b', o, none⟩ := by
  unfold put3
  have go : ∀ (V : World) (k : Nat) (q : Value), (V.setCell ⟨b, k, none⟩ q).cell? ⟨b', o, none⟩ = V.cell? ⟨b', o, none⟩ := fun V k q => World.cell?_of_block (Below.heap_setCell _ _ _ _ h)
  rw [go, go, go]
theorem put3_owns {W : World} {B b n : Nat} {e : TypeId} {v x y z : Value} {xs : List Value} (h : W.ownsRow B e 2 v n xs) (hne : v.ownBlock ≠ some b) : (put3 W b x y z).ownsRow B e 2 v n xs :=
  owns_set (owns_set (owns_set h hne) hne) hne
theorem res3f {w w3 : World} {a b c : Value} {T : TypeId} (hb : Below (w.heap.size + 1) (w.alloc (.cells #[a, b, c] T)) w3) : ∀ o, w3.frozen? ⟨w.heap.size, o, none⟩ = false := by
  intro o; rw [hb.frozen (by simp)]; simp
theorem res3b {w w3 : World} {a b c : Value} {T : TypeId} (hb : Below (w.heap.size + 1) (w.alloc (.cells #[a, b, c] T)) w3) : w3.heap[w.heap.size]? = some (.cells #[a, b, c] T (0, 0)) := by
  rw [hb.block _ (by simp)]; exact heap_new w _
theorem own_sl {W : World} {B n : Nat} {e : TypeId} {v : Value} {xs : List Value} (h : W.ownsRow B e 2 v n xs) : ∃ a n c, v = .slice a n c := by
  obtain ⟨_, ⟨h, _⟩ | ⟨g, cap, cur, e1, _⟩⟩ := h
  · exact ⟨_, _, _, h⟩
  · exact ⟨_, _, _, e1⟩
theorem ms_flat {w : World} {b o : Nat} {L : List Bm} (hc : ∀ j (h : j < L.length), w.cell? ⟨b, o + j * 2, none⟩ = some (.string L[j].1) ∧ w.cell? ⟨b, o + j * 2 + 1, none⟩ = some (.string L[j].2)) : ∀ j u, (flatM L)[j]? = some u → w.cell? ⟨b, o + j, none⟩ = some u := by
  intro j u hj
  have hl : j < L.length * 2 := by rw [← flatM_len]; exact (List.getElem?_eq_some_iff.1 hj).1
  have h1 := flatM_get L (j / 2) (j % 2) (by omega) (by omega)
  rw [show j / 2 * 2 + j % 2 = j by omega, hj] at h1
  have h2 := hc (j / 2) (by omega)
  rcases Nat.mod_two_eq_zero_or_one j with e | e
  · rw [e] at h1
    have : u = .string L[j / 2].1 := by simpa using h1
    rw [this, ← h2.1]
    congr 2; omega
  · rw [e] at h1
    have : u = .string L[j / 2].2 := by simpa using h1
    rw [this, ← h2.2]
    congr 2; omega
theorem flat_one (L : List Bm) : ∀ u ∈ flatM L, u.oneCell' = true := by
  intro u hu
  obtain ⟨m, _, hm⟩ := List.mem_flatMap.1 hu
  simp at hm
  rcases hm with rfl | rfl <;> rfl
end Ve
end Go.Proofs.YtfdinpmpchmifaaGreatDoor

/-
  Rows of bools in memory.
-/
namespace Go.Proofs.YtfdinpmpchmifaaGreatDoor
open Go.RowKit Go.Maps
namespace Ve

theorem infoBool : (Tryz.prog.info? 4).map (fun i => (i.zero, i.size, i.bytes)) = some (some (.bool false), 1, 1) := by kernel_rfl
/-- Marks in memory. -/
def bwc (O : List Bool) : Array Value := (O.map Value.bool).toArray
theorem bwc_set (O : List Bool) (a : Nat) : (bwc O).setIfInBounds a (.bool true) = bwc (O.set a true) := by
  unfold bwc
  rw [List.setIfInBounds_toArray, List.map_set]
theorem bwc_at {W : World} {g : Nat} {O : List Bool} (h : W.heap[g]? = some (.cells (bwc O) 4 (0, 0))) {a : Nat} (ha : a < O.length) : W.cell? ⟨g, a, none⟩ = some (.bool O[a]) := by
  rw [Lib.cell_of_heap h]
  simp [bwc, ha]
theorem made_bools (n : Nat) : madeCells (Value.bool false).cells n = bwc (List.replicate n false) := by
  unfold madeCells bwc
  simp [Value.cells]
  apply Array.ext
  · simp
  · intro i h1 h2
    simp [Nat.mod_one]
theorem make_bools (n : Nat) (w : World) (hn : n ≤ 1000000) : (Instr.makeSlice 48 (.int .i64 (n : Int)) (.int .i64 (n : Int))).run Tryz.prog w = .ok (.slice (some ⟨w.heap.size, 0, none⟩) n n) (w.alloc (.cells (bwc (List.replicate n false)) 4)) := by
  obtain ⟨i0, hi, hz0, hz1, hz2⟩ := info_parts infoBool
  have h := run_makeSlice (P := Tryz.prog) w 48 4 i0 (.bool false) Tryz.underlying48 hi hz0 .i64 .i64 (n : Int) (n : Int) (by omega) (by omega) (by rw [hz1]; simp; omega) (by rw [hz2]; omega) (by omega)
  rw [hz1] at h
  simp only [Int.toNat_natCast, Nat.mul_one] at h
  rw [made_bools] at h
  exact h
theorem bwc_put (O : List Bool) (a : Nat) (b : Bool) : (bwc O).setIfInBounds a (.bool b) = bwc (O.set a b) := by
  unfold bwc
  rw [List.setIfInBounds_toArray, List.map_set]
end Ve
end Go.Proofs.YtfdinpmpchmifaaGreatDoor

/-
  What matches of the document's answer says.
-/
namespace Go.Proofs.YtfdinpmpchmifaaGreatDoor
open Go.RowKit Go.Maps
namespace Ve

/-- The rows, as far as the pattern is read. -/
structure Pr (w W : World) (p s : List UInt8) (i g : Nat) : Prop where
  bl : Below w.heap.size w W
  ge : w.heap.size ≤ g
  row : ∃ T R, tok p = T ++ tok (p.drop i) ∧ R.length = s.length + 1 ∧ RowIs R (rowsT s T row0) ∧ W.heap[g]? = some (.cells (bwc R) 4 (0, 0))
theorem row_start (n : Nat) : RowIs ((List.replicate (n + 1) false).set 0 true) row0 := fun k hk => by
  rw [List.getElem_set]
  unfold row0
  by_cases h : k = 0
  · subst h; rfl
  · rw [if_neg (fun e => h e.symm), decide_eq_false h, List.getElem_replicate]
theorem pr_start (w : World) (p s : List UInt8) : Pr w (w.alloc (.cells (bwc ((List.replicate (s.length + 1) false).set 0 true)) 4)) p s 0 w.heap.size :=
  ⟨(Below.refl _ _).alloc (Nat.le_refl _) _, Nat.le_refl _, [], _, rfl, by simp, row_start _, heap_new w _⟩
theorem beg_dots (p : ByteArray) (i : Nat) : begB (p.extract i p.size) ⟨#[46, 46, 46]⟩ = dots.isPrefixOf (p.data.toList.drop i) := by
  unfold begB
  rw [extract_list, List.take_of_length_le (by rw [List.length_drop, len_eq]; exact Nat.le_refl _)]; rfl
theorem dots_room {l : List UInt8} {i : Nat} (h : dots.isPrefixOf (l.drop i) = true) : i + 3 ≤ l.length := by
  have := (List.isPrefixOf_iff_prefix.1 h).length_le
  rw [List.length_drop] at this
  unfold dots at this
  simp at this
  omega
set_option maxRecDepth 100000 in
set_option maxHeartbeats 8000000 in
/-- pewholderref3.matches. -/
theorem rmat_any (p s : ByteArray) (w : World) (hp : p.size ≤ 1000) (hs : s.size ≤ 1000) :
    Calls Tryz.prog 20 #[.string p, .string s] w fun e w' => e = .returned (.bool (matB p s)) ∧ Below w.heap.size w w' := by
  have hls : s.data.toList.length = s.size := len_eq s
  have hlp : p.data.toList.length = p.size := len_eq p
  have HLS := hid hls
  have HLP := hid hlp
  have HMK := hid (fun W => show (Instr.makeSlice 48 (.int .i64 ((s.size : Int) + 1)) (.int .i64 ((s.size : Int) + 1))).run Tryz.prog W = .ok (.slice (some ⟨W.heap.size, 0, none⟩) (s.size + 1) (s.size + 1)) (W.alloc (.cells (bwc (List.replicate (s.size + 1) false)) 4)) from make_bools (s.size + 1) W (by omega))
  have HBG := hid (fun x W => rbeg_any x ⟨#[46, 46, 46]⟩ W)
  have HST := hid (pr_start w p.data.toList s.data.toList)
  rw [hls] at HST
  have hw1 : wrap64 ((s.size : Int) + 1) = (s.size : Int) + 1 := IntWalk.wrap64_in _ (by omega)
  have hw2 : IntKind.i64.wrap ((s.size : Int) + 1) = (s.size : Int) + 1 := by rw [IntKind.wrap_i64] <;> omega
  have hmk := HMK.out w
  have c0 : (w.alloc (.cells (bwc (List.replicate (s.size + 1) false)) 4)).cell? ⟨w.heap.size, 0, none⟩ = some (.bool false) := bwc_at (heap_new w _) (a := 0) (by simp)
  have HRE := hid (show ∀ T, tok p.data.toList = T ++ tok (p.data.toList.drop p.size) → T = tok p.data.toList from fun T h => by
    rw [List.drop_eq_nil_of_le (Nat.le_of_eq HLP.out), tok_nil, List.append_nil] at h; exact h.symm)
  clear hls hlp
  go_enter Tryz.func20, Tryz.ntmps20
  go_wp2_with fail
  clear hmk c0
  go_loopw [5, 6] (fun rv iv wr => ∃ i g : Nat, i ≤ p.size ∧ iv = .int .i64 i ∧ rv = .slice (some ⟨g, 0, none⟩) (s.size + 1) (s.size + 1) ∧ Hid (Pr w wr p.data.toList s.data.toList i g)) (fun _ iv _ => p.size - (intOf iv).toNat)
  case atStart => exact ⟨0, w.heap.size, Nat.zero_le _, rfl, rfl, hid (by rw [bwc_put]; exact HST.out)⟩
  case round =>
    obtain ⟨i, g, hi, rfl, rfl, HPR⟩ := hrel
    obtain ⟨wo, hwo⟩ : ∃ wo, wo = wr := ⟨_, rfl⟩
    subst hwo
    obtain ⟨hbl, hge, T, R, hT, hRl, hRr, hhp⟩ := HPR.out
    rw [HLS.out] at hRl
    have HRL := hid hRl
    have HBL := hid hbl
    have HGE := hid hge
    have HTT := hid hT
    have HRR := hid hRr
    have HHP := hid hhp
    have hgz := lt_of_blk hhp
    clear hbl hge hT hRl hRr hhp HPR HST
    by_cases hlt : i < p.size
    · have hiI := ix_lt hlt
      have hi0 := ix_pos i
      have HLT := hid hlt
      have hmk := HMK.out wo
      have HB2 := hid ((Below.refl wo.heap.size wo).alloc (Nat.le_refl _) (.cells (bwc (List.replicate (s.size + 1) false)) 4))
      have HN2 := hid (heap_new wo (.cells (bwc (List.replicate (s.size + 1) false)) 4))
      have HG2 := hid (show (wo.alloc (.cells (bwc (List.replicate (s.size + 1) false)) 4)).heap[g]? = some (.cells (bwc R) 4 (0, 0)) by rw [HB2.out.block _ hgz]; exact HHP.out)
      have HBI := hid (HBG.out (p.extract i p.size))
      rw [beg_dots] at HBI
      cases hd : dots.isPrefixOf (p.data.toList.drop i)
      · rw [hd] at HBI
        have hip : i < p.data.toList.length := by rw [HLP.out]; exact hlt
        have HTN := hid (tok_read_one hip HTT.out hd)
        clear hd hlt
        go_wp2_with fail
        refine (HBI.out _).mono ?_
        rintro e w2 ⟨rfl, rfl⟩
        generalize wo.alloc (.cells (bwc (List.replicate (s.size + 1) false)) 4) = w3 at *
        clear hmk
        go_wp2_with fail
        go_loopw [10] (fun kv wr => ∃ k : Nat, k ≤ s.size ∧ kv = .int .i64 k ∧ Hid (wr.heap[g]? = some (.cells (bwc R) 4 (0, 0))) ∧ Hid (wr.heap[wo.heap.size]? = some (.cells (bwc (nxO R s.data.toList (p.data.toList[i]'hip) k)) 4 (0, 0))) ∧ Hid (Below wo.heap.size wo wr)) (fun kv _ => s.size - (intOf kv).toNat)
        case atStart => exact ⟨0, Nat.zero_le _, rfl, HG2, hid (by rw [nxO_zero, HRL.out]; exact HN2.out), HB2⟩
        case round =>
          obtain ⟨k, hk, rfl, HG, HN, HB⟩ := hrel
          by_cases hkl : k < s.size
          · have hkI := ix_lt hkl
            have hk0 := ix_pos k
            have hkI1 : (k : Int) < (s.size : Int) + 1 := by omega
            have hkI2 : (k : Int) + 1 < (s.size : Int) + 1 := by omega
            have hk1 := ix_pos1 k
            have hkw := ix_w1 hkl (by omega : s.size ≤ 1000000)
            have hkk := ix_k1 hkl (by omega : s.size ≤ 1000000)
            have hkt := ix_nat1 k
            have HKL := hid hkl
            have hRk : k < R.length := by rw [HRL.out]; omega
            have y0 : wr.cell? ⟨g, k, none⟩ = some (.bool R[k]) := bwc_at HG.out hRk
            have hNl : k + 1 < (nxO R s.data.toList (p.data.toList[i]'hip) k).length := by rw [nxO_len, HRL.out]; omega
            have HY1 := hid (fun (W : World) (hh : W.heap = wr.heap) => show W.cell? ⟨wo.heap.size, k + 1, none⟩ = some (.bool ((nxO R s.data.toList (p.data.toList[i]'hip) k)[k + 1]'hNl)) ∧ W.frozen? ⟨wo.heap.size, k + 1, none⟩ = false from ⟨bwc_at (by rw [hh]; exact HN.out) hNl, Lib.frozen_of_heap (by rw [hh]; exact HN.out) _⟩)
            have HGN := hid (show g ≠ wo.heap.size by omega)
            have hsk : s.data.toList[k]? = some s[k] := by rw [List.getElem?_eq_getElem (by rw [HLS.out]; exact hkl)]; rfl
            have hpi : p.data.toList[i]'hip = p[i] := rfl
            cases hb : R[k]
            · have HNX := hid (nxO_no (R := R) (s := s.data.toList) (c := p.data.toList[i]'hip) (k := k) (by rw [HRL.out]; omega) (fun h => by rw [hb] at h; cases h.1))
              rw [hb] at y0
              clear hb hkl HY1 hsk
              go_wp2_with fail
              go_quiet (fail)
              go_wp2_with fail
              go_roundw
              case rel => exact ⟨k + 1, HKL.out, by first | exact nr_idx k | exact nx_idx HKL.out (by omega : s.size ≤ 1000000), hid HG.out, hid (by rw [← HNX.out]; exact HN.out), hid (HB.out.trans ((below_drawn _ _).mono HB.out.size))⟩
              case measure => first | exact nr_meas HKL.out | exact nx_meas HKL.out (by omega : s.size ≤ 1000000)
            · rw [hb] at y0
              by_cases he : s[k] = p[i]
              · have HNX := hid (nxO_yes (R := R) (s := s.data.toList) (c := p.data.toList[i]'hip) (k := k) (by rw [HRL.out]; omega) hb (by rw [hsk, he, hpi]))
                have hq : ((s[k].toNat : Int) == (p[i].toNat : Int)) = true := by rw [he]; exact beq_self_eq_true _
                clear hb hkl hsk he
                go_wp2_with fail
                go_quiet (fail)
                obtain ⟨y1, y2⟩ := HY1.out (wr.drewN nq) rfl
                go_wp2_with fail
                go_roundw
                case rel =>
                  refine ⟨k + 1, HKL.out, by first | exact nr_idx k | exact nx_idx HKL.out (by omega : s.size ≤ 1000000), hid ?_, hid ?_, hid ?_⟩
                  · rw [Below.heap_setCell _ _ _ _ (by show g ≠ wo.heap.size; exact HGN.out)]; exact HG.out
                  · rw [set_block (show (wr.drewN nq).heap[wo.heap.size]? = _ from HN.out), bwc_put, HNX.out]
                  · exact (HB.out.trans ((below_drawn _ _).mono HB.out.size)).setCell (Nat.le_refl _) _
                case measure => first | exact nr_meas HKL.out | exact nx_meas HKL.out (by omega : s.size ≤ 1000000)
              · have HNX := hid (nxO_no (R := R) (s := s.data.toList) (c := p.data.toList[i]'hip) (k := k) (by rw [HRL.out]; omega) (fun h => he (by have := h.2; rw [hsk] at this; exact (Option.some.inj this).trans hpi)))
                have hq : ((s[k].toNat : Int) == (p[i].toNat : Int)) = false := by
                  rw [beq_eq_false_iff_ne]; intro e; exact he (UInt8.toNat_inj.1 (by omega))
                clear hb hkl HY1 hsk he
                go_wp2_with fail
                go_quiet (fail)
                go_wp2_with fail
                go_roundw
                case rel => exact ⟨k + 1, HKL.out, by first | exact nr_idx k | exact nx_idx HKL.out (by omega : s.size ≤ 1000000), hid HG.out, hid (by rw [← HNX.out]; exact HN.out), hid (HB.out.trans ((below_drawn _ _).mono HB.out.size))⟩
                case measure => first | exact nr_meas HKL.out | exact nx_meas HKL.out (by omega : s.size ≤ 1000000)
          · have hkI := ix_nlt hkl
            have hke : k = s.size := by omega
            subst hke
            clear hkl
            go_wp2_with fail
            refine ⟨⟨i + 1, wo.heap.size, HLT.out, by first | exact nr_idx i | exact nx_idx HLT.out (by omega : p.size ≤ 1000000), rfl, hid ⟨HBL.out.trans (HB.out.mono HBL.out.size), HBL.out.size, _, _, HTN.out, by rw [nxO_len, HRL.out, HLS.out], ?_, HN.out⟩⟩, by first | exact nr_meas HLT.out | exact nx_meas HLT.out (by omega : p.size ≤ 1000000)⟩
            rw [rows_snoc]
            have hr := rowIs_one (s := s.data.toList) (c := p.data.toList[i]'hip) (by rw [HRL.out, HLS.out]) HRR.out
            rw [HLS.out] at hr
            exact hr
      · rw [hd] at HBI
        have HTN := hid (tok_read_any HTT.out hd)
        have HRM := hid (dots_room hd)
        clear hd hlt
        go_wp2_with fail
        refine (HBI.out _).mono ?_
        rintro e w2 ⟨rfl, rfl⟩
        generalize wo.alloc (.cells (bwc (List.replicate (s.size + 1) false)) 4) = w3 at *
        clear hmk
        have hi3w : wrap64 ((i : Int) + 3) = (i : Int) + 3 := IntWalk.wrap64_in _ (by omega)
        have hi3k : IntKind.i64.wrap ((i : Int) + 3) = (i : Int) + 3 := by rw [IntKind.wrap_i64] <;> omega
        go_wp2_with fail
        go_loopw [8, 9] (fun ov kv wr => ∃ k : Nat, k ≤ s.size + 1 ∧ kv = .int .i64 k ∧ ov = .bool ((R.take k).any id) ∧ Hid (wr.heap[g]? = some (.cells (bwc R) 4 (0, 0))) ∧ Hid (wr.heap[wo.heap.size]? = some (.cells (bwc (nxA R k)) 4 (0, 0))) ∧ Hid (Below wo.heap.size wo wr)) (fun _ kv _ => s.size + 1 - (intOf kv).toNat)
        case atStart => exact ⟨0, Nat.zero_le _, rfl, rfl, HG2, hid (by rw [nxA_zero, HRL.out]; exact HN2.out), HB2⟩
        case round =>
          obtain ⟨k, hk, rfl, rfl, HG, HN, HB⟩ := hrel
          by_cases hkl : k < s.size + 1
          · have hkI : (k : Int) ≤ (s.size : Int) := by omega
            have hk0 := ix_pos k
            have hkI1 : (k : Int) < (s.size : Int) + 1 := by omega
            have hkw := ix_w1 hkl (by omega : s.size + 1 ≤ 1000000)
            have hkk := ix_k1 hkl (by omega : s.size + 1 ≤ 1000000)
            have HKL := hid hkl
            have hRk : k < R.length := by rw [HRL.out]; omega
            have hNl : k < (nxA R k).length := by rw [nxA_len, HRL.out]; omega
            have y0 : wr.cell? ⟨g, k, none⟩ = some (.bool R[k]) := bwc_at HG.out hRk
            have y1 : wr.cell? ⟨wo.heap.size, k, none⟩ = some (.bool ((nxA R k)[k]'hNl)) := bwc_at HN.out hNl
            have y2 : wr.frozen? ⟨wo.heap.size, k, none⟩ = false := Lib.frozen_of_heap HN.out _
            have HGN := hid (show g ≠ wo.heap.size by omega)
            have HAT := hid (any_take hRk)
            have HNX := hid (nxA_next (R := R) (k := k))
            generalize (nxA R k)[k]'hNl = nb at *
            generalize R[k] = rk at *
            obtain ⟨an, han⟩ : ∃ an, (R.take (k + 1)).any id = an := ⟨_, rfl⟩
            have HAN := hid han
            rw [han] at HAT HNX
            clear han
            cases ha : (R.take k).any id
            · rw [ha, Bool.false_or] at HAT
              have ha2 := HAT.out
              subst ha2
              clear ha hkl
              go_wp2_with fail
              go_roundw
              case rel =>
                refine ⟨k + 1, HKL.out, by first | exact nr_idx k | exact nx_idx HKL.out (by omega : s.size + 1 ≤ 1000000), ?_, hid ?_, hid ?_, hid ?_⟩
                · rw [HAN.out]
                · rw [Below.heap_setCell _ _ _ _ (by show g ≠ wo.heap.size; exact HGN.out)]; exact HG.out
                · rw [set_block HN.out, bwc_put, HNX.out]
                · exact HB.out.setCell (Nat.le_refl _) _
              case measure => first | exact nr_meas HKL.out | exact nx_meas HKL.out (by omega : s.size + 1 ≤ 1000000)
            · rw [ha, Bool.true_or] at HAT
              have ha2 := HAT.out
              subst ha2
              clear ha hkl
              go_wp2_with fail
              go_roundw
              case rel =>
                refine ⟨k + 1, HKL.out, by first | exact nr_idx k | exact nx_idx HKL.out (by omega : s.size + 1 ≤ 1000000), ?_, hid ?_, hid ?_, hid ?_⟩
                · rw [HAN.out]
                · rw [Below.heap_setCell _ _ _ _ (by show g ≠ wo.heap.size; exact HGN.out)]; exact HG.out
                · rw [set_block HN.out, bwc_put, HNX.out]
                · exact HB.out.setCell (Nat.le_refl _) _
              case measure => first | exact nr_meas HKL.out | exact nx_meas HKL.out (by omega : s.size + 1 ≤ 1000000)
          · have hkI : ¬ (k : Int) ≤ (s.size : Int) := by omega
            have hke : k = s.size + 1 := by omega
            subst hke
            clear hkl
            go_wp2_with fail
            refine ⟨⟨i + 3, wo.heap.size, by have := HRM.out; rw [HLP.out] at this; exact this, rfl, rfl, hid ⟨HBL.out.trans (HB.out.mono HBL.out.size), HBL.out.size, _, _, HTN.out, by rw [nxA_len, HRL.out, HLS.out], ?_, HN.out⟩⟩, ?_⟩
            · rw [rows_snoc]
              have hr := rowIs_any (s := s.data.toList) HRR.out
              rw [HRL.out] at hr
              exact hr
            · have := HLT.out
              show p.size - ((i : Int) + 3).toNat < p.size - ((i : Int)).toNat
              omega
    · have hiI := ix_nlt hlt
      have hie : i = p.size := by omega
      subst hie
      have hTT := HRE.out T HTT.out
      subst hTT
      have hcl : wo.cell? ⟨g, s.size, none⟩ = some (.bool (R[s.size]'(by rw [HRL.out]; omega))) := bwc_at HHP.out _
      have HRV := hid (show (R[s.size]'(by rw [HRL.out]; omega)) = matB p s by
        rw [HRR.out s.size _]
        unfold matB
        rw [← rows_end, HLS.out])
      generalize (R[s.size]'(by rw [HRL.out]; omega)) = rb at *
      have hs1 : (s.size : Int) < (s.size : Int) + 1 := by omega
      have hs0 := ix_pos s.size
      clear hlt
      go_wp2_with fail
      go_ret
      exact ⟨by rw [← HRV.out]; rfl, HBL.out⟩
end Ve
end Go.Proofs.YtfdinpmpchmifaaGreatDoor

/-
  Elements, suffixes and slashes (plain): an element told byte by byte; the last slash; the text in two. No Go here.
-/
namespace Go.Proofs.YtfdinpmpchmifaaGreatDoor
namespace Ve

theorem dw_nil (p : UInt8 → Bool) : ∀ l : List UInt8, l.dropWhile p = [] ↔ ∀ x, x ∈ l → p x = true
  | [] => by simp
  | b :: r => by
    rw [List.dropWhile_cons]
    cases hb : p b
    · simp [hb]
    · simp [hb, dw_nil p r]
theorem trim_nil (l : List UInt8) : (Lib.trimB l 46 == []) = l.all (· == 46) := by
  have key : Lib.trimB l 46 = [] ↔ ∀ x, x ∈ l → x = 46 := by
    unfold Lib.trimB Lib.trimLeftB Lib.trimRightB
    constructor
    · intro h x hx
      have h1 : ∀ y, y ∈ (l.reverse.dropWhile (· == 46)).reverse → y = 46 := by
        intro y hy
        have := (dw_nil _ _).1 h y hy
        simpa using this
      have h2 : l.reverse.dropWhile (· == 46) = [] := by
        cases e : l.reverse.dropWhile (· == 46) with
        | nil => rfl
        | cons b r =>
          exfalso
          have hb : b = 46 := h1 b (by rw [e]; simp)
          have := List.head_dropWhile_not (· == 46) (l := l.reverse) (by rw [e]; simp)
          simp [e, hb] at this
      have := (dw_nil _ _).1 h2 x (by simpa using hx)
      simpa using this
    · intro h
      have h2 : l.reverse.dropWhile (· == 46) = [] := (dw_nil _ _).2 (fun x hx => by simpa using h x (by simpa using hx))
      rw [h2]; rfl
  rw [Bool.eq_iff_iff]
  simp only [beq_iff_eq, key, List.all_eq_true]
theorem three_iff (l : List UInt8) : Lib.contains l [46, 46, 46] = true ↔ ∃ k, 2 ≤ k ∧ k < l.length ∧ (l.drop (k - 2)).take 3 = [46, 46, 46] := by
  have hocc : ∀ i, Lib.occAt l [46, 46, 46] i = true ↔ (l.drop i).take 3 = [46, 46, 46] := by
    intro i
    unfold Lib.occAt
    rw [List.isPrefixOf_iff_prefix]
    constructor
    · rintro ⟨t, ht⟩
      rw [← ht]; rfl
    · intro h
      exact ⟨(l.drop i).drop 3, by rw [← h, List.take_append_drop]⟩
  unfold Lib.contains
  rw [decide_eq_true_iff]
  rcases Lib.index_spec l [46, 46, 46] with ⟨h1, h2⟩ | ⟨i, h1, h2, h3, h4⟩
  · constructor
    · intro h; omega
    · rintro ⟨k, hk2, hkl, h⟩
      have := h2 (k - 2) (by omega)
      rw [(hocc (k - 2)).2 h] at this
      cases this
  · constructor
    · intro _
      have h5 := (hocc i).1 h3
      have h6 := congrArg List.length h5
      simp at h6
      exact ⟨i + 2, by omega, by omega, by simpa using h5⟩
    · intro _; omega
/-- What an element's bytes up to k have shown: all may be there, no three dots. -/
def seenOk (l : List UInt8) (k : Nat) : Prop := (l.take k).all el = true ∧ ∀ j, 2 ≤ j → j < k → (l.drop (j - 2)).take 3 ≠ [46, 46, 46]
theorem seen_all {l : List UInt8} (h : seenOk l l.length) : elemOk l = !l.all (· == 46) := by
  unfold elemOk
  rw [trim_nil]
  have h1 : allEl l = true := by have := h.1; rw [List.take_length] at this; exact this
  have h2 : Lib.contains l [46, 46, 46] = false := by
    cases e : Lib.contains l [46, 46, 46]
    · rfl
    · obtain ⟨k, a, b, c⟩ := (three_iff l).1 e
      exact absurd c (h.2 k a b)
  rw [h1, h2]; simp
theorem seen_bad {l : List UInt8} {k : Nat} (hk : k < l.length) (h : el l[k] = false) : elemOk l = false := by
  have : allEl l = false := by
    cases e : allEl l
    · rfl
    · have := List.all_eq_true.1 e l[k] (List.getElem_mem hk)
      rw [h] at this; cases this
  unfold elemOk
  rw [this]; simp
theorem seen_three {l : List UInt8} {k : Nat} (h2 : 2 ≤ k) (hk : k < l.length) (h : (l.drop (k - 2)).take 3 = [46, 46, 46]) : elemOk l = false := by
  have : Lib.contains l [46, 46, 46] = true := (three_iff l).2 ⟨k, h2, hk, h⟩
  unfold elemOk
  rw [this]; simp
theorem seen_next {l : List UInt8} {k : Nat} (hs : seenOk l k) (hk : k < l.length) (h : el l[k] = true) (h3 : 2 ≤ k → (l.drop (k - 2)).take 3 ≠ [46, 46, 46]) : seenOk l (k + 1) := by
  refine ⟨?_, fun j h2 hj => ?_⟩
  · rw [List.take_succ_eq_append_getElem hk, all_snoc, hs.1, h]; rfl
  · by_cases e : j = k
    · subst e; exact h3 h2
    · exact hs.2 j h2 (by omega)
theorem dots_next {l : List UInt8} {k : Nat} (hk : k < l.length) : (l.take (k + 1)).all (· == 46) = ((l.take k).all (· == 46) && l[k] == 46) := by
  rw [List.take_succ_eq_append_getElem hk, all_snoc]

/-- suffixOf: the number of a suffix; nought: none; -1: like one, and none. -/
def sufV (l : List UInt8) : Int := if likeB l then (if sufOk l then (num (restOf l)).1 else -1) else 0
theorem suf_pos {l : List UInt8} (h : sufOk l = true) : 2 ≤ (num (restOf l)).1 := by
  unfold sufOk at h
  simp only [Bool.and_eq_true, decide_eq_true_eq] at h
  exact h.2

theorem cut_app (c : UInt8) (b : List UInt8) (hb : b.contains c = false) : ∀ a : List UInt8, cutAt c (a ++ c :: b) = cutAt c a ++ [b]
  | [] => by
    show cutAt c (c :: b) = [[]] ++ [b]
    rw [cutAt, if_pos rfl, cut_last c b hb]; rfl
  | x :: a => by
    show cutAt c (x :: (a ++ c :: b)) = cutAt c (x :: a) ++ [b]
    rw [cutAt, cutAt, cut_app c b hb a]
    by_cases hx : x = c
    · rw [if_pos hx, if_pos hx]; rfl
    · rw [if_neg hx, if_neg hx]
      cases e : cutAt c a with
      | nil => exact absurd e (cutAt_ne c a)
      | cons y r => rfl
theorem slash_split {l : List UInt8} {k : Nat} (hk : k < l.length) (h : l[k] = 47) (hn : ∀ j (hj : j < l.length), k < j → l[j] ≠ 47) :
    elems l = elems (l.take k) ++ [l.drop (k + 1)] := by
  have hb : (l.drop (k + 1)).contains 47 = false := by
    cases e : (l.drop (k + 1)).contains 47
    · rfl
    · exfalso
      have hm : (47 : UInt8) ∈ l.drop (k + 1) := by simpa using e
      obtain ⟨i, hi, e2⟩ := List.mem_iff_getElem.1 hm
      rw [List.getElem_drop] at e2
      exact hn (k + 1 + i) (by simp at hi; omega) (by omega) e2
  have e1 : l = l.take k ++ 47 :: l.drop (k + 1) := by
    have h2 := List.take_append_drop k l
    rw [← List.getElem_cons_drop (h := hk), h] at h2
    exact h2.symm
  have h3 := cut_app 47 (l.drop (k + 1)) hb (l.take k)
  rw [← e1] at h3
  exact h3
theorem slash_last {l : List UInt8} {k : Nat} (h : elems l = elems (l.take k) ++ [l.drop (k + 1)]) : 1 < (elems l).length ∧ lastOf l = l.drop (k + 1) ∧ Lib.join ((elems l).take ((elems l).length - 1)) [47] = l.take k := by
  have hp := elems_pos (l.take k)
  have hl : (elems l).length = (elems (l.take k)).length + 1 := by rw [h]; simp
  refine ⟨by omega, ?_, ?_⟩
  · unfold lastOf
    rw [hl, h]
    simp
  · rw [hl, h]
    simp only [Nat.add_sub_cancel, List.take_left']
    exact join_cut 47 _
theorem slash_none {l : List UInt8} (hn : ∀ j (hj : j < l.length), l[j] ≠ 47) : elems l = [l] := by
  refine cut_last 47 l ?_
  cases e : l.contains 47
  · rfl
  · exfalso
    have hm : (47 : UInt8) ∈ l := by simpa using e
    obtain ⟨i, hi, e2⟩ := List.mem_iff_getElem.1 hm
    exact hn i hi e2

theorem cut_len (c : UInt8) : ∀ l : List UInt8, (cutAt c l).length = l.count c + 1
  | [] => by simp [cutAt]
  | b :: l => by
    unfold cutAt
    by_cases h : b = c
    · rw [if_pos h, h, List.count_cons_self]; simp [cut_len c l]
    · rw [if_neg h, ahead_len b _ (cutAt_ne c l), cut_len c l, List.count_cons_of_ne (by simpa using h)]
theorem cut_two (c : UInt8) (l : List UInt8) (h : l.count c = 1) : cutAt c l = [(one c l).1, (one c l).2.1] := by
  have hm : c ∈ l := List.count_pos_iff.1 (by omega)
  have h2 : (one c l).2.2 = true := by show l.contains c = true; simpa using hm
  have hb := one_back h2
  have hn : (one c l).1.contains c = false := by
    obtain ⟨j, hj, _, hlt, e1, _⟩ := one_yes (c := c) (l := l) h2
    rw [e1]
    cases e : (l.take j).contains c
    · rfl
    · exfalso
      have hm : c ∈ l.take j := by simpa using e
      obtain ⟨i, hi, e2⟩ := List.mem_iff_getElem.1 hm
      rw [List.getElem_take] at e2
      simp at hi
      exact hlt i (by omega) (by omega) e2
  have hn2 : (one c l).2.1.contains c = false := by
    cases e : (one c l).2.1.contains c
    · rfl
    · exfalso
      have hm : c ∈ (one c l).2.1 := by simpa using e
      have := List.count_pos_iff.2 hm
      rw [hb, List.count_append, List.count_cons_self] at h
      omega
  have h3 : cutAt c ((one c l).1 ++ c :: (one c l).2.1) = [(one c l).1, (one c l).2.1] := by
    rw [cut_step c _ _ hn, cut_last c _ hn2]
  rw [← hb] at h3
  exact h3
end Ve
end Go.Proofs.YtfdinpmpchmifaaGreatDoor

/-
  What the document's answer says of an element's suffix (suffixOf).
-/
namespace Go.Proofs.YtfdinpmpchmifaaGreatDoor
open Go.RowKit
namespace Ve

theorem rcut47 (s : ByteArray) (w : World) (hs : s.size < 4294967281) :
    Calls Tryz.prog 26 #[.string s, .int .u8 47] w fun e w' => ∃ v X, e = .returned v ∧ bl X = elems s.data.toList ∧ w'.ownsRow w.heap.size 9 1 v X.length (X.map Value.string) ∧ Below w.heap.size w w' := rcut_any s 47 w hs
theorem rcut64 (s : ByteArray) (w : World) (hs : s.size < 4294967281) :
    Calls Tryz.prog 26 #[.string s, .int .u8 64] w fun e w' => ∃ v X, e = .returned v ∧ bl X = cutAt 64 s.data.toList ∧ w'.ownsRow w.heap.size 9 1 v X.length (X.map Value.string) ∧ Below w.heap.size w w' := rcut_any s 64 w hs

theorem unmarked {s : ByteArray} (hp : 0 < s.size) (h : marked s.data.toList = false) : ((s[0].toNat : Int) == 118) = false := by
  unfold marked at h
  rw [List.headD_eq_head?_getD, List.head?_eq_getElem?, List.getElem?_eq_getElem (by simpa using hp)] at h
  simp only [Option.getD_some, beq_eq_false_iff_ne] at h
  have h2 : s[0] ≠ 118 := h
  refine beq_eq_false_iff_ne.2 fun e => h2 ?_
  apply UInt8.toNat_inj.1
  have : (118 : UInt8).toNat = 118 := rfl
  omega

set_option maxHeartbeats 1000000 in
theorem suffixOf_any (s : ByteArray) (w : World) (hs : s.size ≤ maxLen) :
    Calls Tryz.prog 27 #[.string s] w fun e w' => e = .returned (.int .i64 (sufV s.data.toList)) ∧ w' = w := by
  have HV := hid (show sufV s.data.toList = if likeB s.data.toList then (if sufOk s.data.toList then (num (restOf s.data.toList)).1 else -1) else 0 from rfl)
  have HO := hid (show sufOk s.data.toList = (decide ((num (restOf s.data.toList)).2 = 0) && decide (2 ≤ (num (restOf s.data.toList)).1)) from rfl)
  have HL := hid (show likeB s.data.toList = (marked s.data.toList && digs (restOf s.data.toList)) from rfl)
  have hsz : s.size ≤ 9223372036854775807 := hs
  by_cases h2 : s.size < 2
  · have hk : likeB s.data.toList = false := by
      rw [HL.out]
      cases hm : marked s.data.toList
      · rfl
      · have hd : restOf s.data.toList = [] := by rw [rest_drop hm]; exact List.length_eq_zero_iff.1 (by simp; omega)
        rw [hd]; rfl
    rw [hk] at HV
    clear hk
    go_enter Tryz.func27, Tryz.ntmps27
    go_wp2_with fail
    go_ret
    exact ⟨by rw [HV.out]; rfl, rfl⟩
  · have hpos : 0 < s.size := by omega
    cases hm : marked s.data.toList
    · have h0 := unmarked hpos hm
      rw [HL.out, hm] at HV
      clear hm
      go_enter Tryz.func27, Tryz.ntmps27
      go_wp2_with fail
      go_ret
      exact ⟨by rw [HV.out]; rfl, rfl⟩
    · obtain ⟨_, h0⟩ := marked_pos hm
      have HT := hid (show (s.extract 1 s.size).data.toList = restOf s.data.toList by rw [ext_drop, rest_drop hm])
      have hTs : (s.extract 1 s.size).size ≤ maxLen := by rw [ByteArray.size_extract]; unfold maxLen; omega
      have HA := hid (areDigits_any (s.extract 1 s.size) w hTs)
      have HN := hid (numberOf_any (s.extract 1 s.size) w hTs)
      rw [HT.out] at HA HN
      rw [hm] at HL
      have h1k : (1 : Int) ≤ (s.size : Int) := by omega
      generalize restOf s.data.toList = r at *
      clear hm
      cases hd : digs r
      · rw [hd] at HA HL
        rw [HL.out] at HV
        clear hd
        go_enter Tryz.func27, Tryz.ntmps27
        go_wp2_with fail
        refine HA.out.mono ?_
        rintro e w' ⟨rfl, rfl⟩
        go_wp2_with fail
        go_ret
        exact ⟨by rw [HV.out]; rfl, rfl⟩
      · rw [hd] at HA HL
        rw [HL.out] at HV
        clear hd
        by_cases he : (num r).2 = 0
        · rw [decide_eq_true he] at HO
          have hz : ((num r).2 : Int) = 0 := by omega
          have hz2 : ¬ (0 : Int) < ((num r).2 : Int) := by omega
          rw [hz] at HN
          clear hz he
          by_cases hn : (num r).1 < 2
          · rw [decide_eq_false (show ¬ 2 ≤ (num r).1 by omega)] at HO
            rw [HO.out] at HV
            generalize (num r).1 = n at *
            go_enter Tryz.func27, Tryz.ntmps27
            go_wp2_with fail
            refine HA.out.mono ?_
            rintro e w' ⟨rfl, rfl⟩
            go_wp2_with fail
            refine HN.out.mono ?_
            rintro e w' ⟨rfl, rfl⟩
            go_wp2_with fail
            go_ret
            exact ⟨by rw [HV.out]; rfl, rfl⟩
          · rw [decide_eq_true (show 2 ≤ (num r).1 by omega)] at HO
            rw [HO.out] at HV
            generalize (num r).1 = n at *
            go_enter Tryz.func27, Tryz.ntmps27
            go_wp2_with fail
            refine HA.out.mono ?_
            rintro e w' ⟨rfl, rfl⟩
            go_wp2_with fail
            refine HN.out.mono ?_
            rintro e w' ⟨rfl, rfl⟩
            go_wp2_with fail
            go_ret
            exact ⟨by rw [HV.out]; rfl, rfl⟩
        · rw [decide_eq_false he, Bool.false_and] at HO
          rw [HO.out] at HV
          have hz : (0 : Int) < ((num r).2 : Int) := by omega
          generalize ((num r).2 : Int) = c at *
          generalize (num r).1 = n at *
          clear he
          go_enter Tryz.func27, Tryz.ntmps27
          go_wp2_with fail
          refine HA.out.mono ?_
          rintro e w' ⟨rfl, rfl⟩
          go_wp2_with fail
          refine HN.out.mono ?_
          rintro e w' ⟨rfl, rfl⟩
          go_wp2_with fail
          go_ret
          exact ⟨by rw [HV.out]; rfl, rfl⟩
end Ve
end Go.Proofs.YtfdinpmpchmifaaGreatDoor

/-
  What the document's answer says of a path (PathError).
-/
namespace Go.Proofs.YtfdinpmpchmifaaGreatDoor
open Go.RowKit
namespace Ve

theorem bad_one {l : List UInt8} {e : List UInt8} (h : e ∈ elems l) (hb : elemOk e = false) : pathErr l = 1 := by
  have : badE l = true := List.any_eq_true.2 ⟨e, h, by rw [hb]; rfl⟩
  unfold pathErr; rw [this]; rfl
theorem bad_none {l : List UInt8} (h : (elems l).all elemOk = true) : badE l = false := by
  unfold badE
  rw [List.any_eq_false]
  intro x hx
  rw [List.all_eq_true.1 h x hx]; decide
theorem path_2 {l : List UInt8} (h : (elems l).all elemOk = true) (h2 : longE l = true) : pathErr l = 2 := by
  unfold pathErr; rw [bad_none h, h2]; rfl
theorem path_4 {l : List UInt8} (h : (elems l).all elemOk = true) (h2 : longE l = false) (h1 : 1 < (elems l).length) (hs : sufV (lastOf l) < 0) : pathErr l = 4 := by
  unfold sufV at hs
  cases hk : likeB (lastOf l)
  · rw [hk] at hs; simp at hs
  · rw [hk] at hs
    cases ho : sufOk (lastOf l)
    · have hu : sufE l = true := by unfold sufE; rw [hk, decide_eq_true h1]; rfl
      unfold pathErr; rw [bad_none h, h2, hu, ho]; rfl
    · rw [ho] at hs
      have := suf_pos ho
      simp at hs; omega
theorem path_0 {l : List UInt8} (h : (elems l).all elemOk = true) (h2 : longE l = false) (h1 : 1 < (elems l).length) (hs : ¬ sufV (lastOf l) < 0) : pathErr l = 0 := by
  unfold sufV at hs
  cases hk : likeB (lastOf l)
  · have hu : sufE l = false := by unfold sufE; rw [hk]; simp
    unfold pathErr; rw [bad_none h, h2, hu]; rfl
  · rw [hk] at hs
    have hu : sufE l = true := by unfold sufE; rw [hk, decide_eq_true h1]; rfl
    cases ho : sufOk (lastOf l)
    · rw [ho] at hs; simp at hs
    · unfold pathErr; rw [bad_none h, h2, hu, ho]; rfl
theorem path_00 {l : List UInt8} (h : (elems l).all elemOk = true) (h2 : longE l = false) (h1 : ¬ 1 < (elems l).length) : pathErr l = 0 := by
  have hu : sufE l = false := by unfold sufE; rw [decide_eq_false h1]; rfl
  unfold pathErr; rw [bad_none h, h2, hu]; rfl
theorem el_is (c : UInt8) : el c = (decide (97 ≤ (c.toNat : Int) ∧ (c.toNat : Int) ≤ 122) || decide (48 ≤ (c.toNat : Int) ∧ (c.toNat : Int) ≤ 57) || (c.toNat : Int) == 46 || (c.toNat : Int) == 45 || (c.toNat : Int) == 95) := rfl
theorem dot_is (c : UInt8) : (c == 46) = ((c.toNat : Int) == 46) := by
  rw [Bool.eq_iff_iff]
  simp only [beq_iff_eq]
  have : (46 : UInt8).toNat = 46 := rfl
  constructor
  · intro h; rw [h]; rfl
  · intro h; exact UInt8.toNat_inj.1 (by omega)

set_option maxRecDepth 100000 in
set_option maxHeartbeats 16000000 in
theorem pathError_any (s : ByteArray) (w : World) (hs : s.size < 4294967281) :
    Calls Tryz.prog 18 #[.string s] w fun e w' => e = .returned (.int .i64 (pathErr s.data.toList : Nat)) ∧ Below w.heap.size w w' := by
  go_enter Tryz.func18, Tryz.ntmps18
  go_wp2_with fail
  refine (rcut47 s w hs).mono ?_
  rintro e w1 ⟨v, X, rfl, hX, hown, hb⟩
  have HX := hid hX
  have HB := hid hb
  have HXN := hid (show X ≠ [] from fun h => by subst h; exact cutAt_ne _ _ hX.symm)
  obtain ⟨g, cap, rfl, hg, hgz, hcells⟩ := owned_cells hown HXN.out
  have HCE := hid hcells
  have hXle := many_le hX
  have HXZ := hid (show ∀ x, x ∈ X → x.size ≤ maxLen from fun x hx => by have := piece_le hX hx; unfold maxLen; omega)
  have HXL := hid (show (elems s.data.toList).length = X.length by rw [← hX, bl_len])
  have HPOS := hid (show 0 < X.length from List.length_pos_iff.2 HXN.out)
  have HLE := hid (show longE s.data.toList = (decide (5 < (X.length : Int)) || (bl X).any long) by
    unfold longE
    rw [← hX, bl_len]
    congr 1
    rw [decide_eq_decide]; omega)
  have HLA := hid (fun hp => last_get hX hp)
  clear hX hown hb hg hgz hcells
  generalize hlg : decide (5 < (X.length : Int)) = lg at *
  go_wp2_with fail
  go_loop [4, 5] (fun lo i => ∃ k : Nat, k ≤ X.length ∧ i = .int .i64 k ∧ lo = .bool (lg || (bl (X.take k)).any long) ∧ Hid ((bl (X.take k)).all elemOk = true)) (fun _ i => X.length - (intOf i).toNat)
  case atStart => exact ⟨0, Nat.zero_le _, rfl, by simp [bl], hid (by simp [bl])⟩
  case round =>
    obtain ⟨k, hk, rfl, rfl, HOK⟩ := hrel
    generalize hbj : (lg || (bl (X.take k)).any long) = bj at *
    have HBJ := hid hbj
    clear hbj
    by_cases hkX : k < X.length
    · have hcell := HCE.out k hkX
      have HPZ := hid (HXZ.out X[k] (List.getElem_mem hkX))
      have HXJ := hid (bl_take_snoc X k hkX)
      have HMEM := hid (show X[k].data.toList ∈ elems s.data.toList by rw [← HX.out]; exact bl_mem (List.getElem_mem hkX))
      generalize X[k] = p at *
      have hpz : p.size ≤ 9223372036854775807 := HPZ.out
      go_wp2_with fail
      go_loop [6, 7, 8, 9, 10] (fun dt i _ _ _ => ∃ y : Nat, y ≤ p.size ∧ i = .int .i64 y ∧ dt = .bool ((p.data.toList.take y).all (· == 46)) ∧ Hid (seenOk p.data.toList y)) (fun _ i _ _ _ => p.size - (intOf i).toNat)
      case atStart => exact ⟨0, Nat.zero_le _, rfl, rfl, hid ⟨rfl, fun j _ h => absurd h (Nat.not_lt_zero j)⟩⟩
      case round =>
        obtain ⟨y, hy, rfl, rfl, HSE⟩ := hrel
        generalize hdt : (p.data.toList.take y).all (· == 46) = dt at *
        have HDT := hid hdt
        clear hdt
        by_cases hyl : y < p.size
        · have hyb := p[y].toNat_lt
          have HLL := hid (show y < p.data.toList.length by simpa using hyl)
          have HPY := hid (show p.data.toList[y]'(by simpa using hyl) = p[y] from rfl)
          have HEL := hid (el_is p[y])
          have HDI := hid (dot_is p[y])
          have HDN := hid (dots_next (l := p.data.toList) (k := y) (by simpa using hyl))
          rw [HPY.out, HDT.out, HDI.out] at HDN
          have HBAD := hid (show el p[y] = false → pathErr s.data.toList = 1 from fun h => bad_one HMEM.out (seen_bad (k := y) (by simpa using hyl) h))
          have HTHREE := hid (show 2 ≤ y → (p.data.toList.drop (y - 2)).take 3 = [46, 46, 46] → pathErr s.data.toList = 1 from fun h2 h => bad_one HMEM.out (seen_three h2 (by simpa using hyl) h))
          have HNEXT := hid (show el p[y] = true → (2 ≤ y → (p.data.toList.drop (y - 2)).take 3 ≠ [46, 46, 46]) → seenOk p.data.toList (y + 1) from fun h h3 => seen_next HSE.out (by simpa using hyl) h h3)
          have HRG := hid (show (p[y].toNat : Int) < 45 ∨ (p[y].toNat : Int) = 45 ∨ (p[y].toNat : Int) = 46 ∨ (p[y].toNat : Int) = 47 ∨ (48 ≤ (p[y].toNat : Int) ∧ (p[y].toNat : Int) ≤ 57) ∨ (57 < (p[y].toNat : Int) ∧ (p[y].toNat : Int) < 95) ∨ (p[y].toNat : Int) = 95 ∨ (p[y].toNat : Int) = 96 ∨ (97 ≤ (p[y].toNat : Int) ∧ (p[y].toNat : Int) ≤ 122) ∨ 122 < (p[y].toNat : Int) by omega)
          have HEXT := hid (show 2 ≤ y → (p.extract (y - 2) (y + 1)).data.toList = (p.data.toList.drop (y - 2)).take 3 from fun h2 => by rw [extract_list, show y + 1 - (y - 2) = 3 by omega])
          clear hyb
          rcases HRG.out with hr | hr | hr | hr | hr | hr | hr | hr | hr | hr
          · have a1 : ¬ 97 ≤ (p[y].toNat : Int) := by omega
            have a2 : (p[y].toNat : Int) ≤ 122 := by omega
            have d1 : ¬ 48 ≤ (p[y].toNat : Int) := by omega
            have d2 : (p[y].toNat : Int) ≤ 57 := by omega
            have e1 : ((p[y].toNat : Int) == 46) = false := beq_eq_false_iff_ne.2 (by omega)
            have e1p : ¬ (p[y].toNat : Int) = 46 := by omega
            have e1n : ((p[y].toNat : Int) != 46) = true := by rw [bne, e1]; rfl
            have e2 : ((p[y].toNat : Int) == 45) = false := beq_eq_false_iff_ne.2 (by omega)
            have e2p : ¬ (p[y].toNat : Int) = 45 := by omega
            have e2n : ((p[y].toNat : Int) != 45) = true := by rw [bne, e2]; rfl
            have e3 : ((p[y].toNat : Int) == 95) = false := beq_eq_false_iff_ne.2 (by omega)
            have e3p : ¬ (p[y].toNat : Int) = 95 := by omega
            have e3n : ((p[y].toNat : Int) != 95) = true := by rw [bne, e3]; rfl
            have HRES := hid (HBAD.out (by rw [HEL.out]; simp; omega))
            have D5 := hid (show ∀ h : ¬ (p[y].toNat : Int) ≤ 57, decide ((p[y].toNat : Int) ≤ 57) = false from fun h => decide_eq_false h)
            have D9 := hid (show ∀ h : ¬ (p[y].toNat : Int) ≤ 122, decide ((p[y].toNat : Int) ≤ 122) = false from fun h => decide_eq_false h)
            clear hr
            go_wp2_with fail
            all_goals first
              | (go_ret; exact ⟨by rw [HRES.out]; rfl, HB.out⟩)
              | exact absurd ‹((((p[y].toNat : Int) != 46) = false ∨ ((p[y].toNat : Int) != 45) = false) ∨ ((p[y].toNat : Int) != 95) = false)› (by rw [e1n, e2n, e3n]; decide)
              | exact absurd ‹((((!decide ((p[y].toNat : Int) ≤ 57)) = false ∨ ((p[y].toNat : Int) != 46) = false) ∨ ((p[y].toNat : Int) != 45) = false) ∨ ((p[y].toNat : Int) != 95) = false)› (by rw [e1n, e2n, e3n, D5.out (by omega)]; decide)
              | exact absurd ‹(((((!decide ((p[y].toNat : Int) ≤ 122)) = false ∨ (!decide ((p[y].toNat : Int) ≤ 57)) = false) ∨ ((p[y].toNat : Int) != 46) = false) ∨ ((p[y].toNat : Int) != 45) = false) ∨ ((p[y].toNat : Int) != 95) = false)› (by rw [e1n, e2n, e3n, D5.out (by omega), D9.out (by omega)]; decide)
          · have a1 : ¬ 97 ≤ (p[y].toNat : Int) := by omega
            have a2 : (p[y].toNat : Int) ≤ 122 := by omega
            have d1 : ¬ 48 ≤ (p[y].toNat : Int) := by omega
            have d2 : (p[y].toNat : Int) ≤ 57 := by omega
            have e1 : ((p[y].toNat : Int) == 46) = false := beq_eq_false_iff_ne.2 (by omega)
            have e1p : ¬ (p[y].toNat : Int) = 46 := by omega
            have e1n : ((p[y].toNat : Int) != 46) = true := by rw [bne, e1]; rfl
            have e2 : ((p[y].toNat : Int) == 45) = true := beq_iff_eq.2 (by omega)
            have e2p : (p[y].toNat : Int) = 45 := by omega
            have e2n : ((p[y].toNat : Int) != 45) = false := by rw [bne, e2]; rfl
            have e3 : ((p[y].toNat : Int) == 95) = false := beq_eq_false_iff_ne.2 (by omega)
            have e3p : ¬ (p[y].toNat : Int) = 95 := by omega
            have e3n : ((p[y].toNat : Int) != 95) = true := by rw [bne, e3]; rfl
            have HE1 := hid (show el p[y] = true by rw [HEL.out]; simp; omega)
            clear hr
            cases dt
            · have HDV := hid (show Value.bool false = Value.bool ((p.data.toList.take (y + 1)).all (· == 46)) by rw [HDN.out, e1]; rfl)
              have HDW := hid (show Value.bool false = Value.bool ((p.data.toList.take (y + 1)).all (· == 46)) by rw [HDN.out]; rfl)
              by_cases h2 : 2 ≤ y
              · have h2i : (2 : Int) ≤ (y : Int) := by omega
                have s1 : (0 : Int) ≤ (y : Int) - 2 := by omega
                have s2 : (y : Int) - 2 ≤ (y : Int) + 1 := by omega
                have s3 : (y : Int) + 1 ≤ (p.size : Int) := by omega
                have t1 : ((y : Int) - 2).toNat = y - 2 := by omega
                have h3 : (p.data.toList.drop (y - 2)).take 3 ≠ [46, 46, 46] := fun h => by
                  have h4 := congrArg (fun l => l[2]?) h
                  have h5 : ((p.data.toList.drop (y - 2)).take 3)[2]? = some p[y] := by
                    rw [List.getElem?_take_of_lt (by omega), List.getElem?_drop, show y - 2 + 2 = y by omega, List.getElem?_eq_getElem HLL.out, HPY.out]
                  have h6 : some p[y] = some 46 := h5.symm.trans h4
                  have h7 : p[y] = 46 := Option.some.inj h6
                  have h8 := HDI.out
                  rw [h7] at h8 e1
                  exact absurd e1 (by decide)
                have hx3 : ((p.extract (y - 2) (y + 1)).toList == [46, 46, 46]) = false := by rw [ByteArray.toList_eq, HEXT.out h2]; exact beq_eq_false_iff_ne.2 h3
                have HNX := hid (HNEXT.out HE1.out (fun _ => h3))
                clear h3
                go_wp2_with fail
                go_round
                case rel => first | exact ⟨y + 1, by omega, by go_num, HDV.out, hid (HNX.out)⟩ | exact ⟨y + 1, by omega, by go_num, HDW.out, hid (HNX.out)⟩
                case measure => simp [intOf]; omega
              · have h2i : ¬ (2 : Int) ≤ (y : Int) := by omega
                have HNX := hid (HNEXT.out HE1.out (fun h => absurd h h2))
                go_wp2_with fail
                go_round
                case rel => first | exact ⟨y + 1, by omega, by go_num, HDV.out, hid (HNX.out)⟩ | exact ⟨y + 1, by omega, by go_num, HDW.out, hid (HNX.out)⟩
                case measure => simp [intOf]; omega
            · have HDV := hid (show Value.bool false = Value.bool ((p.data.toList.take (y + 1)).all (· == 46)) by rw [HDN.out, e1]; rfl)
              have HDW := hid (show Value.bool ((p[y].toNat : Int) == 46) = Value.bool ((p.data.toList.take (y + 1)).all (· == 46)) by rw [HDN.out]; rfl)
              by_cases h2 : 2 ≤ y
              · have h2i : (2 : Int) ≤ (y : Int) := by omega
                have s1 : (0 : Int) ≤ (y : Int) - 2 := by omega
                have s2 : (y : Int) - 2 ≤ (y : Int) + 1 := by omega
                have s3 : (y : Int) + 1 ≤ (p.size : Int) := by omega
                have t1 : ((y : Int) - 2).toNat = y - 2 := by omega
                have h3 : (p.data.toList.drop (y - 2)).take 3 ≠ [46, 46, 46] := fun h => by
                  have h4 := congrArg (fun l => l[2]?) h
                  have h5 : ((p.data.toList.drop (y - 2)).take 3)[2]? = some p[y] := by
                    rw [List.getElem?_take_of_lt (by omega), List.getElem?_drop, show y - 2 + 2 = y by omega, List.getElem?_eq_getElem HLL.out, HPY.out]
                  have h6 : some p[y] = some 46 := h5.symm.trans h4
                  have h7 : p[y] = 46 := Option.some.inj h6
                  have h8 := HDI.out
                  rw [h7] at h8 e1
                  exact absurd e1 (by decide)
                have hx3 : ((p.extract (y - 2) (y + 1)).toList == [46, 46, 46]) = false := by rw [ByteArray.toList_eq, HEXT.out h2]; exact beq_eq_false_iff_ne.2 h3
                have HNX := hid (HNEXT.out HE1.out (fun _ => h3))
                clear h3
                go_wp2_with fail
                go_round
                case rel => first | exact ⟨y + 1, by omega, by go_num, HDV.out, hid (HNX.out)⟩ | exact ⟨y + 1, by omega, by go_num, HDW.out, hid (HNX.out)⟩
                case measure => simp [intOf]; omega
              · have h2i : ¬ (2 : Int) ≤ (y : Int) := by omega
                have HNX := hid (HNEXT.out HE1.out (fun h => absurd h h2))
                go_wp2_with fail
                go_round
                case rel => first | exact ⟨y + 1, by omega, by go_num, HDV.out, hid (HNX.out)⟩ | exact ⟨y + 1, by omega, by go_num, HDW.out, hid (HNX.out)⟩
                case measure => simp [intOf]; omega
          · have a1 : ¬ 97 ≤ (p[y].toNat : Int) := by omega
            have a2 : (p[y].toNat : Int) ≤ 122 := by omega
            have d1 : ¬ 48 ≤ (p[y].toNat : Int) := by omega
            have d2 : (p[y].toNat : Int) ≤ 57 := by omega
            have e1 : ((p[y].toNat : Int) == 46) = true := beq_iff_eq.2 (by omega)
            have e1p : (p[y].toNat : Int) = 46 := by omega
            have e1n : ((p[y].toNat : Int) != 46) = false := by rw [bne, e1]; rfl
            have e2 : ((p[y].toNat : Int) == 45) = false := beq_eq_false_iff_ne.2 (by omega)
            have e2p : ¬ (p[y].toNat : Int) = 45 := by omega
            have e2n : ((p[y].toNat : Int) != 45) = true := by rw [bne, e2]; rfl
            have e3 : ((p[y].toNat : Int) == 95) = false := beq_eq_false_iff_ne.2 (by omega)
            have e3p : ¬ (p[y].toNat : Int) = 95 := by omega
            have e3n : ((p[y].toNat : Int) != 95) = true := by rw [bne, e3]; rfl
            have HE1 := hid (show el p[y] = true by rw [HEL.out]; simp; omega)
            clear hr
            cases dt
            · have HDV := hid (show Value.bool false = Value.bool ((p.data.toList.take (y + 1)).all (· == 46)) by rw [HDN.out, e1]; rfl)
              have HDW := hid (show Value.bool false = Value.bool ((p.data.toList.take (y + 1)).all (· == 46)) by rw [HDN.out]; rfl)
              by_cases h2 : 2 ≤ y
              · have h2i : (2 : Int) ≤ (y : Int) := by omega
                have s1 : (0 : Int) ≤ (y : Int) - 2 := by omega
                have s2 : (y : Int) - 2 ≤ (y : Int) + 1 := by omega
                have s3 : (y : Int) + 1 ≤ (p.size : Int) := by omega
                have t1 : ((y : Int) - 2).toNat = y - 2 := by omega
                by_cases h3 : (p.data.toList.drop (y - 2)).take 3 = [46, 46, 46]
                · have hx3 : ((p.extract (y - 2) (y + 1)).toList == [46, 46, 46]) = true := by rw [ByteArray.toList_eq, HEXT.out h2]; exact beq_iff_eq.2 h3
                  have HRES := hid (HTHREE.out h2 h3)
                  clear h3
                  go_wp2_with fail
                  go_ret
                  exact ⟨by rw [HRES.out]; rfl, HB.out⟩
                · have hx3 : ((p.extract (y - 2) (y + 1)).toList == [46, 46, 46]) = false := by rw [ByteArray.toList_eq, HEXT.out h2]; exact beq_eq_false_iff_ne.2 h3
                  have HNX := hid (HNEXT.out HE1.out (fun _ => h3))
                  clear h3
                  go_wp2_with fail
                  go_round
                  case rel => first | exact ⟨y + 1, by omega, by go_num, HDV.out, hid (HNX.out)⟩ | exact ⟨y + 1, by omega, by go_num, HDW.out, hid (HNX.out)⟩
                  case measure => simp [intOf]; omega
              · have h2i : ¬ (2 : Int) ≤ (y : Int) := by omega
                have HNX := hid (HNEXT.out HE1.out (fun h => absurd h h2))
                go_wp2_with fail
                go_round
                case rel => first | exact ⟨y + 1, by omega, by go_num, HDV.out, hid (HNX.out)⟩ | exact ⟨y + 1, by omega, by go_num, HDW.out, hid (HNX.out)⟩
                case measure => simp [intOf]; omega
            · have HDV := hid (show Value.bool true = Value.bool ((p.data.toList.take (y + 1)).all (· == 46)) by rw [HDN.out, e1]; rfl)
              have HDW := hid (show Value.bool ((p[y].toNat : Int) == 46) = Value.bool ((p.data.toList.take (y + 1)).all (· == 46)) by rw [HDN.out]; rfl)
              by_cases h2 : 2 ≤ y
              · have h2i : (2 : Int) ≤ (y : Int) := by omega
                have s1 : (0 : Int) ≤ (y : Int) - 2 := by omega
                have s2 : (y : Int) - 2 ≤ (y : Int) + 1 := by omega
                have s3 : (y : Int) + 1 ≤ (p.size : Int) := by omega
                have t1 : ((y : Int) - 2).toNat = y - 2 := by omega
                by_cases h3 : (p.data.toList.drop (y - 2)).take 3 = [46, 46, 46]
                · have hx3 : ((p.extract (y - 2) (y + 1)).toList == [46, 46, 46]) = true := by rw [ByteArray.toList_eq, HEXT.out h2]; exact beq_iff_eq.2 h3
                  have HRES := hid (HTHREE.out h2 h3)
                  clear h3
                  go_wp2_with fail
                  go_ret
                  exact ⟨by rw [HRES.out]; rfl, HB.out⟩
                · have hx3 : ((p.extract (y - 2) (y + 1)).toList == [46, 46, 46]) = false := by rw [ByteArray.toList_eq, HEXT.out h2]; exact beq_eq_false_iff_ne.2 h3
                  have HNX := hid (HNEXT.out HE1.out (fun _ => h3))
                  clear h3
                  go_wp2_with fail
                  go_round
                  case rel => first | exact ⟨y + 1, by omega, by go_num, HDV.out, hid (HNX.out)⟩ | exact ⟨y + 1, by omega, by go_num, HDW.out, hid (HNX.out)⟩
                  case measure => simp [intOf]; omega
              · have h2i : ¬ (2 : Int) ≤ (y : Int) := by omega
                have HNX := hid (HNEXT.out HE1.out (fun h => absurd h h2))
                go_wp2_with fail
                go_round
                case rel => first | exact ⟨y + 1, by omega, by go_num, HDV.out, hid (HNX.out)⟩ | exact ⟨y + 1, by omega, by go_num, HDW.out, hid (HNX.out)⟩
                case measure => simp [intOf]; omega
          · have a1 : ¬ 97 ≤ (p[y].toNat : Int) := by omega
            have a2 : (p[y].toNat : Int) ≤ 122 := by omega
            have d1 : ¬ 48 ≤ (p[y].toNat : Int) := by omega
            have d2 : (p[y].toNat : Int) ≤ 57 := by omega
            have e1 : ((p[y].toNat : Int) == 46) = false := beq_eq_false_iff_ne.2 (by omega)
            have e1p : ¬ (p[y].toNat : Int) = 46 := by omega
            have e1n : ((p[y].toNat : Int) != 46) = true := by rw [bne, e1]; rfl
            have e2 : ((p[y].toNat : Int) == 45) = false := beq_eq_false_iff_ne.2 (by omega)
            have e2p : ¬ (p[y].toNat : Int) = 45 := by omega
            have e2n : ((p[y].toNat : Int) != 45) = true := by rw [bne, e2]; rfl
            have e3 : ((p[y].toNat : Int) == 95) = false := beq_eq_false_iff_ne.2 (by omega)
            have e3p : ¬ (p[y].toNat : Int) = 95 := by omega
            have e3n : ((p[y].toNat : Int) != 95) = true := by rw [bne, e3]; rfl
            have HRES := hid (HBAD.out (by rw [HEL.out]; simp; omega))
            have D5 := hid (show ∀ h : ¬ (p[y].toNat : Int) ≤ 57, decide ((p[y].toNat : Int) ≤ 57) = false from fun h => decide_eq_false h)
            have D9 := hid (show ∀ h : ¬ (p[y].toNat : Int) ≤ 122, decide ((p[y].toNat : Int) ≤ 122) = false from fun h => decide_eq_false h)
            clear hr
            go_wp2_with fail
            all_goals first
              | (go_ret; exact ⟨by rw [HRES.out]; rfl, HB.out⟩)
              | exact absurd ‹((((p[y].toNat : Int) != 46) = false ∨ ((p[y].toNat : Int) != 45) = false) ∨ ((p[y].toNat : Int) != 95) = false)› (by rw [e1n, e2n, e3n]; decide)
              | exact absurd ‹((((!decide ((p[y].toNat : Int) ≤ 57)) = false ∨ ((p[y].toNat : Int) != 46) = false) ∨ ((p[y].toNat : Int) != 45) = false) ∨ ((p[y].toNat : Int) != 95) = false)› (by rw [e1n, e2n, e3n, D5.out (by omega)]; decide)
              | exact absurd ‹(((((!decide ((p[y].toNat : Int) ≤ 122)) = false ∨ (!decide ((p[y].toNat : Int) ≤ 57)) = false) ∨ ((p[y].toNat : Int) != 46) = false) ∨ ((p[y].toNat : Int) != 45) = false) ∨ ((p[y].toNat : Int) != 95) = false)› (by rw [e1n, e2n, e3n, D5.out (by omega), D9.out (by omega)]; decide)
          · have a1 : ¬ 97 ≤ (p[y].toNat : Int) := by omega
            have a2 : (p[y].toNat : Int) ≤ 122 := by omega
            have d1 : 48 ≤ (p[y].toNat : Int) := by omega
            have d2 : (p[y].toNat : Int) ≤ 57 := by omega
            have e1 : ((p[y].toNat : Int) == 46) = false := beq_eq_false_iff_ne.2 (by omega)
            have e1p : ¬ (p[y].toNat : Int) = 46 := by omega
            have e1n : ((p[y].toNat : Int) != 46) = true := by rw [bne, e1]; rfl
            have e2 : ((p[y].toNat : Int) == 45) = false := beq_eq_false_iff_ne.2 (by omega)
            have e2p : ¬ (p[y].toNat : Int) = 45 := by omega
            have e2n : ((p[y].toNat : Int) != 45) = true := by rw [bne, e2]; rfl
            have e3 : ((p[y].toNat : Int) == 95) = false := beq_eq_false_iff_ne.2 (by omega)
            have e3p : ¬ (p[y].toNat : Int) = 95 := by omega
            have e3n : ((p[y].toNat : Int) != 95) = true := by rw [bne, e3]; rfl
            have HE1 := hid (show el p[y] = true by rw [HEL.out]; simp; omega)
            clear hr
            cases dt
            · have HDV := hid (show Value.bool false = Value.bool ((p.data.toList.take (y + 1)).all (· == 46)) by rw [HDN.out, e1]; rfl)
              have HDW := hid (show Value.bool false = Value.bool ((p.data.toList.take (y + 1)).all (· == 46)) by rw [HDN.out]; rfl)
              by_cases h2 : 2 ≤ y
              · have h2i : (2 : Int) ≤ (y : Int) := by omega
                have s1 : (0 : Int) ≤ (y : Int) - 2 := by omega
                have s2 : (y : Int) - 2 ≤ (y : Int) + 1 := by omega
                have s3 : (y : Int) + 1 ≤ (p.size : Int) := by omega
                have t1 : ((y : Int) - 2).toNat = y - 2 := by omega
                have h3 : (p.data.toList.drop (y - 2)).take 3 ≠ [46, 46, 46] := fun h => by
                  have h4 := congrArg (fun l => l[2]?) h
                  have h5 : ((p.data.toList.drop (y - 2)).take 3)[2]? = some p[y] := by
                    rw [List.getElem?_take_of_lt (by omega), List.getElem?_drop, show y - 2 + 2 = y by omega, List.getElem?_eq_getElem HLL.out, HPY.out]
                  have h6 : some p[y] = some 46 := h5.symm.trans h4
                  have h7 : p[y] = 46 := Option.some.inj h6
                  have h8 := HDI.out
                  rw [h7] at h8 e1
                  exact absurd e1 (by decide)
                have hx3 : ((p.extract (y - 2) (y + 1)).toList == [46, 46, 46]) = false := by rw [ByteArray.toList_eq, HEXT.out h2]; exact beq_eq_false_iff_ne.2 h3
                have HNX := hid (HNEXT.out HE1.out (fun _ => h3))
                clear h3
                go_wp2_with fail
                go_round
                case rel => first | exact ⟨y + 1, by omega, by go_num, HDV.out, hid (HNX.out)⟩ | exact ⟨y + 1, by omega, by go_num, HDW.out, hid (HNX.out)⟩
                case measure => simp [intOf]; omega
              · have h2i : ¬ (2 : Int) ≤ (y : Int) := by omega
                have HNX := hid (HNEXT.out HE1.out (fun h => absurd h h2))
                go_wp2_with fail
                go_round
                case rel => first | exact ⟨y + 1, by omega, by go_num, HDV.out, hid (HNX.out)⟩ | exact ⟨y + 1, by omega, by go_num, HDW.out, hid (HNX.out)⟩
                case measure => simp [intOf]; omega
            · have HDV := hid (show Value.bool false = Value.bool ((p.data.toList.take (y + 1)).all (· == 46)) by rw [HDN.out, e1]; rfl)
              have HDW := hid (show Value.bool ((p[y].toNat : Int) == 46) = Value.bool ((p.data.toList.take (y + 1)).all (· == 46)) by rw [HDN.out]; rfl)
              by_cases h2 : 2 ≤ y
              · have h2i : (2 : Int) ≤ (y : Int) := by omega
                have s1 : (0 : Int) ≤ (y : Int) - 2 := by omega
                have s2 : (y : Int) - 2 ≤ (y : Int) + 1 := by omega
                have s3 : (y : Int) + 1 ≤ (p.size : Int) := by omega
                have t1 : ((y : Int) - 2).toNat = y - 2 := by omega
                have h3 : (p.data.toList.drop (y - 2)).take 3 ≠ [46, 46, 46] := fun h => by
                  have h4 := congrArg (fun l => l[2]?) h
                  have h5 : ((p.data.toList.drop (y - 2)).take 3)[2]? = some p[y] := by
                    rw [List.getElem?_take_of_lt (by omega), List.getElem?_drop, show y - 2 + 2 = y by omega, List.getElem?_eq_getElem HLL.out, HPY.out]
                  have h6 : some p[y] = some 46 := h5.symm.trans h4
                  have h7 : p[y] = 46 := Option.some.inj h6
                  have h8 := HDI.out
                  rw [h7] at h8 e1
                  exact absurd e1 (by decide)
                have hx3 : ((p.extract (y - 2) (y + 1)).toList == [46, 46, 46]) = false := by rw [ByteArray.toList_eq, HEXT.out h2]; exact beq_eq_false_iff_ne.2 h3
                have HNX := hid (HNEXT.out HE1.out (fun _ => h3))
                clear h3
                go_wp2_with fail
                go_round
                case rel => first | exact ⟨y + 1, by omega, by go_num, HDV.out, hid (HNX.out)⟩ | exact ⟨y + 1, by omega, by go_num, HDW.out, hid (HNX.out)⟩
                case measure => simp [intOf]; omega
              · have h2i : ¬ (2 : Int) ≤ (y : Int) := by omega
                have HNX := hid (HNEXT.out HE1.out (fun h => absurd h h2))
                go_wp2_with fail
                go_round
                case rel => first | exact ⟨y + 1, by omega, by go_num, HDV.out, hid (HNX.out)⟩ | exact ⟨y + 1, by omega, by go_num, HDW.out, hid (HNX.out)⟩
                case measure => simp [intOf]; omega
          · have a1 : ¬ 97 ≤ (p[y].toNat : Int) := by omega
            have a2 : (p[y].toNat : Int) ≤ 122 := by omega
            have d1 : 48 ≤ (p[y].toNat : Int) := by omega
            have d2 : ¬ (p[y].toNat : Int) ≤ 57 := by omega
            have e1 : ((p[y].toNat : Int) == 46) = false := beq_eq_false_iff_ne.2 (by omega)
            have e1p : ¬ (p[y].toNat : Int) = 46 := by omega
            have e1n : ((p[y].toNat : Int) != 46) = true := by rw [bne, e1]; rfl
            have e2 : ((p[y].toNat : Int) == 45) = false := beq_eq_false_iff_ne.2 (by omega)
            have e2p : ¬ (p[y].toNat : Int) = 45 := by omega
            have e2n : ((p[y].toNat : Int) != 45) = true := by rw [bne, e2]; rfl
            have e3 : ((p[y].toNat : Int) == 95) = false := beq_eq_false_iff_ne.2 (by omega)
            have e3p : ¬ (p[y].toNat : Int) = 95 := by omega
            have e3n : ((p[y].toNat : Int) != 95) = true := by rw [bne, e3]; rfl
            have HRES := hid (HBAD.out (by rw [HEL.out]; simp; omega))
            have D5 := hid (show ∀ h : ¬ (p[y].toNat : Int) ≤ 57, decide ((p[y].toNat : Int) ≤ 57) = false from fun h => decide_eq_false h)
            have D9 := hid (show ∀ h : ¬ (p[y].toNat : Int) ≤ 122, decide ((p[y].toNat : Int) ≤ 122) = false from fun h => decide_eq_false h)
            clear hr
            go_wp2_with fail
            all_goals first
              | (go_ret; exact ⟨by rw [HRES.out]; rfl, HB.out⟩)
              | exact absurd ‹((((p[y].toNat : Int) != 46) = false ∨ ((p[y].toNat : Int) != 45) = false) ∨ ((p[y].toNat : Int) != 95) = false)› (by rw [e1n, e2n, e3n]; decide)
              | exact absurd ‹((((!decide ((p[y].toNat : Int) ≤ 57)) = false ∨ ((p[y].toNat : Int) != 46) = false) ∨ ((p[y].toNat : Int) != 45) = false) ∨ ((p[y].toNat : Int) != 95) = false)› (by rw [e1n, e2n, e3n, D5.out (by omega)]; decide)
              | exact absurd ‹(((((!decide ((p[y].toNat : Int) ≤ 122)) = false ∨ (!decide ((p[y].toNat : Int) ≤ 57)) = false) ∨ ((p[y].toNat : Int) != 46) = false) ∨ ((p[y].toNat : Int) != 45) = false) ∨ ((p[y].toNat : Int) != 95) = false)› (by rw [e1n, e2n, e3n, D5.out (by omega), D9.out (by omega)]; decide)
          · have a1 : ¬ 97 ≤ (p[y].toNat : Int) := by omega
            have a2 : (p[y].toNat : Int) ≤ 122 := by omega
            have d1 : 48 ≤ (p[y].toNat : Int) := by omega
            have d2 : ¬ (p[y].toNat : Int) ≤ 57 := by omega
            have e1 : ((p[y].toNat : Int) == 46) = false := beq_eq_false_iff_ne.2 (by omega)
            have e1p : ¬ (p[y].toNat : Int) = 46 := by omega
            have e1n : ((p[y].toNat : Int) != 46) = true := by rw [bne, e1]; rfl
            have e2 : ((p[y].toNat : Int) == 45) = false := beq_eq_false_iff_ne.2 (by omega)
            have e2p : ¬ (p[y].toNat : Int) = 45 := by omega
            have e2n : ((p[y].toNat : Int) != 45) = true := by rw [bne, e2]; rfl
            have e3 : ((p[y].toNat : Int) == 95) = true := beq_iff_eq.2 (by omega)
            have e3p : (p[y].toNat : Int) = 95 := by omega
            have e3n : ((p[y].toNat : Int) != 95) = false := by rw [bne, e3]; rfl
            have HE1 := hid (show el p[y] = true by rw [HEL.out]; simp; omega)
            clear hr
            cases dt
            · have HDV := hid (show Value.bool false = Value.bool ((p.data.toList.take (y + 1)).all (· == 46)) by rw [HDN.out, e1]; rfl)
              have HDW := hid (show Value.bool false = Value.bool ((p.data.toList.take (y + 1)).all (· == 46)) by rw [HDN.out]; rfl)
              by_cases h2 : 2 ≤ y
              · have h2i : (2 : Int) ≤ (y : Int) := by omega
                have s1 : (0 : Int) ≤ (y : Int) - 2 := by omega
                have s2 : (y : Int) - 2 ≤ (y : Int) + 1 := by omega
                have s3 : (y : Int) + 1 ≤ (p.size : Int) := by omega
                have t1 : ((y : Int) - 2).toNat = y - 2 := by omega
                have h3 : (p.data.toList.drop (y - 2)).take 3 ≠ [46, 46, 46] := fun h => by
                  have h4 := congrArg (fun l => l[2]?) h
                  have h5 : ((p.data.toList.drop (y - 2)).take 3)[2]? = some p[y] := by
                    rw [List.getElem?_take_of_lt (by omega), List.getElem?_drop, show y - 2 + 2 = y by omega, List.getElem?_eq_getElem HLL.out, HPY.out]
                  have h6 : some p[y] = some 46 := h5.symm.trans h4
                  have h7 : p[y] = 46 := Option.some.inj h6
                  have h8 := HDI.out
                  rw [h7] at h8 e1
                  exact absurd e1 (by decide)
                have hx3 : ((p.extract (y - 2) (y + 1)).toList == [46, 46, 46]) = false := by rw [ByteArray.toList_eq, HEXT.out h2]; exact beq_eq_false_iff_ne.2 h3
                have HNX := hid (HNEXT.out HE1.out (fun _ => h3))
                clear h3
                go_wp2_with fail
                all_goals (try exact absurd (‹((((!decide ((p[y].toNat : Int) ≤ 57)) = true ∧ ((p[y].toNat : Int) != 46) = true) ∧ ((p[y].toNat : Int) != 45) = true) ∧ ((p[y].toNat : Int) != 95) = true)›).2 (by rw [e3n]; decide))
                go_round
                case rel => first | exact ⟨y + 1, by omega, by go_num, HDV.out, hid (HNX.out)⟩ | exact ⟨y + 1, by omega, by go_num, HDW.out, hid (HNX.out)⟩
                case measure => simp [intOf]; omega
              · have h2i : ¬ (2 : Int) ≤ (y : Int) := by omega
                have HNX := hid (HNEXT.out HE1.out (fun h => absurd h h2))
                go_wp2_with fail
                all_goals (try exact absurd (‹((((!decide ((p[y].toNat : Int) ≤ 57)) = true ∧ ((p[y].toNat : Int) != 46) = true) ∧ ((p[y].toNat : Int) != 45) = true) ∧ ((p[y].toNat : Int) != 95) = true)›).2 (by rw [e3n]; decide))
                go_round
                case rel => first | exact ⟨y + 1, by omega, by go_num, HDV.out, hid (HNX.out)⟩ | exact ⟨y + 1, by omega, by go_num, HDW.out, hid (HNX.out)⟩
                case measure => simp [intOf]; omega
            · have HDV := hid (show Value.bool false = Value.bool ((p.data.toList.take (y + 1)).all (· == 46)) by rw [HDN.out, e1]; rfl)
              have HDW := hid (show Value.bool ((p[y].toNat : Int) == 46) = Value.bool ((p.data.toList.take (y + 1)).all (· == 46)) by rw [HDN.out]; rfl)
              by_cases h2 : 2 ≤ y
              · have h2i : (2 : Int) ≤ (y : Int) := by omega
                have s1 : (0 : Int) ≤ (y : Int) - 2 := by omega
                have s2 : (y : Int) - 2 ≤ (y : Int) + 1 := by omega
                have s3 : (y : Int) + 1 ≤ (p.size : Int) := by omega
                have t1 : ((y : Int) - 2).toNat = y - 2 := by omega
                have h3 : (p.data.toList.drop (y - 2)).take 3 ≠ [46, 46, 46] := fun h => by
                  have h4 := congrArg (fun l => l[2]?) h
                  have h5 : ((p.data.toList.drop (y - 2)).take 3)[2]? = some p[y] := by
                    rw [List.getElem?_take_of_lt (by omega), List.getElem?_drop, show y - 2 + 2 = y by omega, List.getElem?_eq_getElem HLL.out, HPY.out]
                  have h6 : some p[y] = some 46 := h5.symm.trans h4
                  have h7 : p[y] = 46 := Option.some.inj h6
                  have h8 := HDI.out
                  rw [h7] at h8 e1
                  exact absurd e1 (by decide)
                have hx3 : ((p.extract (y - 2) (y + 1)).toList == [46, 46, 46]) = false := by rw [ByteArray.toList_eq, HEXT.out h2]; exact beq_eq_false_iff_ne.2 h3
                have HNX := hid (HNEXT.out HE1.out (fun _ => h3))
                clear h3
                go_wp2_with fail
                all_goals (try exact absurd (‹((((!decide ((p[y].toNat : Int) ≤ 57)) = true ∧ ((p[y].toNat : Int) != 46) = true) ∧ ((p[y].toNat : Int) != 45) = true) ∧ ((p[y].toNat : Int) != 95) = true)›).2 (by rw [e3n]; decide))
                go_round
                case rel => first | exact ⟨y + 1, by omega, by go_num, HDV.out, hid (HNX.out)⟩ | exact ⟨y + 1, by omega, by go_num, HDW.out, hid (HNX.out)⟩
                case measure => simp [intOf]; omega
              · have h2i : ¬ (2 : Int) ≤ (y : Int) := by omega
                have HNX := hid (HNEXT.out HE1.out (fun h => absurd h h2))
                go_wp2_with fail
                all_goals (try exact absurd (‹((((!decide ((p[y].toNat : Int) ≤ 57)) = true ∧ ((p[y].toNat : Int) != 46) = true) ∧ ((p[y].toNat : Int) != 45) = true) ∧ ((p[y].toNat : Int) != 95) = true)›).2 (by rw [e3n]; decide))
                go_round
                case rel => first | exact ⟨y + 1, by omega, by go_num, HDV.out, hid (HNX.out)⟩ | exact ⟨y + 1, by omega, by go_num, HDW.out, hid (HNX.out)⟩
                case measure => simp [intOf]; omega
          · have a1 : ¬ 97 ≤ (p[y].toNat : Int) := by omega
            have a2 : (p[y].toNat : Int) ≤ 122 := by omega
            have d1 : 48 ≤ (p[y].toNat : Int) := by omega
            have d2 : ¬ (p[y].toNat : Int) ≤ 57 := by omega
            have e1 : ((p[y].toNat : Int) == 46) = false := beq_eq_false_iff_ne.2 (by omega)
            have e1p : ¬ (p[y].toNat : Int) = 46 := by omega
            have e1n : ((p[y].toNat : Int) != 46) = true := by rw [bne, e1]; rfl
            have e2 : ((p[y].toNat : Int) == 45) = false := beq_eq_false_iff_ne.2 (by omega)
            have e2p : ¬ (p[y].toNat : Int) = 45 := by omega
            have e2n : ((p[y].toNat : Int) != 45) = true := by rw [bne, e2]; rfl
            have e3 : ((p[y].toNat : Int) == 95) = false := beq_eq_false_iff_ne.2 (by omega)
            have e3p : ¬ (p[y].toNat : Int) = 95 := by omega
            have e3n : ((p[y].toNat : Int) != 95) = true := by rw [bne, e3]; rfl
            have HRES := hid (HBAD.out (by rw [HEL.out]; simp; omega))
            have D5 := hid (show ∀ h : ¬ (p[y].toNat : Int) ≤ 57, decide ((p[y].toNat : Int) ≤ 57) = false from fun h => decide_eq_false h)
            have D9 := hid (show ∀ h : ¬ (p[y].toNat : Int) ≤ 122, decide ((p[y].toNat : Int) ≤ 122) = false from fun h => decide_eq_false h)
            clear hr
            go_wp2_with fail
            all_goals first
              | (go_ret; exact ⟨by rw [HRES.out]; rfl, HB.out⟩)
              | exact absurd ‹((((p[y].toNat : Int) != 46) = false ∨ ((p[y].toNat : Int) != 45) = false) ∨ ((p[y].toNat : Int) != 95) = false)› (by rw [e1n, e2n, e3n]; decide)
              | exact absurd ‹((((!decide ((p[y].toNat : Int) ≤ 57)) = false ∨ ((p[y].toNat : Int) != 46) = false) ∨ ((p[y].toNat : Int) != 45) = false) ∨ ((p[y].toNat : Int) != 95) = false)› (by rw [e1n, e2n, e3n, D5.out (by omega)]; decide)
              | exact absurd ‹(((((!decide ((p[y].toNat : Int) ≤ 122)) = false ∨ (!decide ((p[y].toNat : Int) ≤ 57)) = false) ∨ ((p[y].toNat : Int) != 46) = false) ∨ ((p[y].toNat : Int) != 45) = false) ∨ ((p[y].toNat : Int) != 95) = false)› (by rw [e1n, e2n, e3n, D5.out (by omega), D9.out (by omega)]; decide)
          · have a1 : 97 ≤ (p[y].toNat : Int) := by omega
            have a2 : (p[y].toNat : Int) ≤ 122 := by omega
            have d1 : 48 ≤ (p[y].toNat : Int) := by omega
            have d2 : ¬ (p[y].toNat : Int) ≤ 57 := by omega
            have e1 : ((p[y].toNat : Int) == 46) = false := beq_eq_false_iff_ne.2 (by omega)
            have e1p : ¬ (p[y].toNat : Int) = 46 := by omega
            have e1n : ((p[y].toNat : Int) != 46) = true := by rw [bne, e1]; rfl
            have e2 : ((p[y].toNat : Int) == 45) = false := beq_eq_false_iff_ne.2 (by omega)
            have e2p : ¬ (p[y].toNat : Int) = 45 := by omega
            have e2n : ((p[y].toNat : Int) != 45) = true := by rw [bne, e2]; rfl
            have e3 : ((p[y].toNat : Int) == 95) = false := beq_eq_false_iff_ne.2 (by omega)
            have e3p : ¬ (p[y].toNat : Int) = 95 := by omega
            have e3n : ((p[y].toNat : Int) != 95) = true := by rw [bne, e3]; rfl
            have HE1 := hid (show el p[y] = true by rw [HEL.out]; simp; omega)
            clear hr
            cases dt
            · have HDV := hid (show Value.bool false = Value.bool ((p.data.toList.take (y + 1)).all (· == 46)) by rw [HDN.out, e1]; rfl)
              have HDW := hid (show Value.bool false = Value.bool ((p.data.toList.take (y + 1)).all (· == 46)) by rw [HDN.out]; rfl)
              by_cases h2 : 2 ≤ y
              · have h2i : (2 : Int) ≤ (y : Int) := by omega
                have s1 : (0 : Int) ≤ (y : Int) - 2 := by omega
                have s2 : (y : Int) - 2 ≤ (y : Int) + 1 := by omega
                have s3 : (y : Int) + 1 ≤ (p.size : Int) := by omega
                have t1 : ((y : Int) - 2).toNat = y - 2 := by omega
                have h3 : (p.data.toList.drop (y - 2)).take 3 ≠ [46, 46, 46] := fun h => by
                  have h4 := congrArg (fun l => l[2]?) h
                  have h5 : ((p.data.toList.drop (y - 2)).take 3)[2]? = some p[y] := by
                    rw [List.getElem?_take_of_lt (by omega), List.getElem?_drop, show y - 2 + 2 = y by omega, List.getElem?_eq_getElem HLL.out, HPY.out]
                  have h6 : some p[y] = some 46 := h5.symm.trans h4
                  have h7 : p[y] = 46 := Option.some.inj h6
                  have h8 := HDI.out
                  rw [h7] at h8 e1
                  exact absurd e1 (by decide)
                have hx3 : ((p.extract (y - 2) (y + 1)).toList == [46, 46, 46]) = false := by rw [ByteArray.toList_eq, HEXT.out h2]; exact beq_eq_false_iff_ne.2 h3
                have HNX := hid (HNEXT.out HE1.out (fun _ => h3))
                clear h3
                go_wp2_with fail
                go_round
                case rel => first | exact ⟨y + 1, by omega, by go_num, HDV.out, hid (HNX.out)⟩ | exact ⟨y + 1, by omega, by go_num, HDW.out, hid (HNX.out)⟩
                case measure => simp [intOf]; omega
              · have h2i : ¬ (2 : Int) ≤ (y : Int) := by omega
                have HNX := hid (HNEXT.out HE1.out (fun h => absurd h h2))
                go_wp2_with fail
                go_round
                case rel => first | exact ⟨y + 1, by omega, by go_num, HDV.out, hid (HNX.out)⟩ | exact ⟨y + 1, by omega, by go_num, HDW.out, hid (HNX.out)⟩
                case measure => simp [intOf]; omega
            · have HDV := hid (show Value.bool false = Value.bool ((p.data.toList.take (y + 1)).all (· == 46)) by rw [HDN.out, e1]; rfl)
              have HDW := hid (show Value.bool ((p[y].toNat : Int) == 46) = Value.bool ((p.data.toList.take (y + 1)).all (· == 46)) by rw [HDN.out]; rfl)
              by_cases h2 : 2 ≤ y
              · have h2i : (2 : Int) ≤ (y : Int) := by omega
                have s1 : (0 : Int) ≤ (y : Int) - 2 := by omega
                have s2 : (y : Int) - 2 ≤ (y : Int) + 1 := by omega
                have s3 : (y : Int) + 1 ≤ (p.size : Int) := by omega
                have t1 : ((y : Int) - 2).toNat = y - 2 := by omega
                have h3 : (p.data.toList.drop (y - 2)).take 3 ≠ [46, 46, 46] := fun h => by
                  have h4 := congrArg (fun l => l[2]?) h
                  have h5 : ((p.data.toList.drop (y - 2)).take 3)[2]? = some p[y] := by
                    rw [List.getElem?_take_of_lt (by omega), List.getElem?_drop, show y - 2 + 2 = y by omega, List.getElem?_eq_getElem HLL.out, HPY.out]
                  have h6 : some p[y] = some 46 := h5.symm.trans h4
                  have h7 : p[y] = 46 := Option.some.inj h6
                  have h8 := HDI.out
                  rw [h7] at h8 e1
                  exact absurd e1 (by decide)
                have hx3 : ((p.extract (y - 2) (y + 1)).toList == [46, 46, 46]) = false := by rw [ByteArray.toList_eq, HEXT.out h2]; exact beq_eq_false_iff_ne.2 h3
                have HNX := hid (HNEXT.out HE1.out (fun _ => h3))
                clear h3
                go_wp2_with fail
                go_round
                case rel => first | exact ⟨y + 1, by omega, by go_num, HDV.out, hid (HNX.out)⟩ | exact ⟨y + 1, by omega, by go_num, HDW.out, hid (HNX.out)⟩
                case measure => simp [intOf]; omega
              · have h2i : ¬ (2 : Int) ≤ (y : Int) := by omega
                have HNX := hid (HNEXT.out HE1.out (fun h => absurd h h2))
                go_wp2_with fail
                go_round
                case rel => first | exact ⟨y + 1, by omega, by go_num, HDV.out, hid (HNX.out)⟩ | exact ⟨y + 1, by omega, by go_num, HDW.out, hid (HNX.out)⟩
                case measure => simp [intOf]; omega
          · have a1 : 97 ≤ (p[y].toNat : Int) := by omega
            have a2 : ¬ (p[y].toNat : Int) ≤ 122 := by omega
            have d1 : 48 ≤ (p[y].toNat : Int) := by omega
            have d2 : ¬ (p[y].toNat : Int) ≤ 57 := by omega
            have e1 : ((p[y].toNat : Int) == 46) = false := beq_eq_false_iff_ne.2 (by omega)
            have e1p : ¬ (p[y].toNat : Int) = 46 := by omega
            have e1n : ((p[y].toNat : Int) != 46) = true := by rw [bne, e1]; rfl
            have e2 : ((p[y].toNat : Int) == 45) = false := beq_eq_false_iff_ne.2 (by omega)
            have e2p : ¬ (p[y].toNat : Int) = 45 := by omega
            have e2n : ((p[y].toNat : Int) != 45) = true := by rw [bne, e2]; rfl
            have e3 : ((p[y].toNat : Int) == 95) = false := beq_eq_false_iff_ne.2 (by omega)
            have e3p : ¬ (p[y].toNat : Int) = 95 := by omega
            have e3n : ((p[y].toNat : Int) != 95) = true := by rw [bne, e3]; rfl
            have HRES := hid (HBAD.out (by rw [HEL.out]; simp; omega))
            have D5 := hid (show ∀ h : ¬ (p[y].toNat : Int) ≤ 57, decide ((p[y].toNat : Int) ≤ 57) = false from fun h => decide_eq_false h)
            have D9 := hid (show ∀ h : ¬ (p[y].toNat : Int) ≤ 122, decide ((p[y].toNat : Int) ≤ 122) = false from fun h => decide_eq_false h)
            clear hr
            go_wp2_with fail
            all_goals first
              | (go_ret; exact ⟨by rw [HRES.out]; rfl, HB.out⟩)
              | exact absurd ‹((((p[y].toNat : Int) != 46) = false ∨ ((p[y].toNat : Int) != 45) = false) ∨ ((p[y].toNat : Int) != 95) = false)› (by rw [e1n, e2n, e3n]; decide)
              | exact absurd ‹((((!decide ((p[y].toNat : Int) ≤ 57)) = false ∨ ((p[y].toNat : Int) != 46) = false) ∨ ((p[y].toNat : Int) != 45) = false) ∨ ((p[y].toNat : Int) != 95) = false)› (by rw [e1n, e2n, e3n, D5.out (by omega)]; decide)
              | exact absurd ‹(((((!decide ((p[y].toNat : Int) ≤ 122)) = false ∨ (!decide ((p[y].toNat : Int) ≤ 57)) = false) ∨ ((p[y].toNat : Int) != 46) = false) ∨ ((p[y].toNat : Int) != 45) = false) ∨ ((p[y].toNat : Int) != 95) = false)› (by rw [e1n, e2n, e3n, D5.out (by omega), D9.out (by omega)]; decide)
        · have hye : y = p.size := by omega
          subst hye
          have HFIN := hid (show elemOk p.data.toList = !dt by
            have h1 : p.data.toList.length = p.size := len_eq p
            have h2 := seen_all (l := p.data.toList) (by rw [h1]; exact HSE.out)
            have h3 := HDT.out
            rw [take_all] at h3
            rw [h2, h3])
          cases dt
          · have HOK2 := hid (show (bl (X.take (k + 1))).all elemOk = true by rw [HXJ.out, List.all_append, HOK.out, List.all_cons, HFIN.out]; rfl)
            have HLJ := hid (show (lg || (bl (X.take (k + 1))).any long) = (bj || decide (10 < p.data.toList.length)) by rw [HXJ.out, List.any_append, ← HBJ.out, Bool.or_assoc]; simp [long])
            rw [len_eq] at HLJ
            by_cases h10 : 10 < p.size
            · have h10i : (10 : Int) < (p.size : Int) := by omega
              rw [decide_eq_true h10] at HLJ
              cases bj
              · have HV := hid (show Value.bool true = Value.bool (lg || (bl (X.take (k + 1))).any long) by rw [HLJ.out]; rfl)
                go_wp2_with fail
                go_round
                case rel => exact ⟨k + 1, by omega, by go_num, HV.out, HOK2⟩
                case measure => simp [intOf]; omega
              · have HV := hid (show Value.bool true = Value.bool (lg || (bl (X.take (k + 1))).any long) by rw [HLJ.out]; rfl)
                go_wp2_with fail
                go_round
                case rel => exact ⟨k + 1, by omega, by go_num, HV.out, HOK2⟩
                case measure => simp [intOf]; omega
            · have h10i : ¬ (10 : Int) < (p.size : Int) := by omega
              rw [decide_eq_false h10] at HLJ
              cases bj
              · have HV := hid (show Value.bool false = Value.bool (lg || (bl (X.take (k + 1))).any long) by rw [HLJ.out]; rfl)
                go_wp2_with fail
                go_round
                case rel => exact ⟨k + 1, by omega, by go_num, HV.out, HOK2⟩
                case measure => simp [intOf]; omega
              · have HV := hid (show Value.bool true = Value.bool (lg || (bl (X.take (k + 1))).any long) by rw [HLJ.out]; rfl)
                go_wp2_with fail
                go_round
                case rel => exact ⟨k + 1, by omega, by go_num, HV.out, HOK2⟩
                case measure => simp [intOf]; omega
          · have HRES := hid (bad_one HMEM.out HFIN.out)
            go_wp2_with fail
            go_ret
            exact ⟨by rw [HRES.out]; rfl, HB.out⟩
    · have hke : k = X.length := by omega
      subst hke
      have hXt : X.take X.length = X := List.take_length
      rw [hXt] at HOK HBJ
      rw [HBJ.out] at HLE
      rw [HX.out] at HOK
      clear hXt
      cases bj
      · by_cases h1 : 1 < X.length
        · have h1i : (1 : Int) < (X.length : Int) := by omega
          have hpl : X.length - 1 < X.length := by omega
          have hcell := HCE.out (X.length - 1) hpl
          have HSZ := hid (HXZ.out X[X.length - 1] (List.getElem_mem hpl))
          have HLG := hid (HLA.out hpl)
          generalize X[X.length - 1] = q at *
          have HSU := hid (suffixOf_any q w1 HSZ.out)
          rw [HLG.out] at HSU
          have hc1 : ((X.length : Int) - 1).toNat = X.length - 1 := by omega
          have hc2 : (0 : Int) ≤ (X.length : Int) - 1 := by omega
          have hc3 : (X.length : Int) - 1 < (X.length : Int) := by omega
          by_cases hneg : sufV (lastOf s.data.toList) < 0
          · have HRES := hid (path_4 HOK.out HLE.out (by rw [HXL.out]; exact h1) hneg)
            generalize sufV (lastOf s.data.toList) = sv at *
            go_wp2_with fail
            refine HSU.out.mono ?_
            rintro e w' ⟨rfl, rfl⟩
            go_wp2_with fail
            go_ret
            exact ⟨by rw [HRES.out]; rfl, HB.out⟩
          · have HRES := hid (path_0 HOK.out HLE.out (by rw [HXL.out]; exact h1) hneg)
            generalize sufV (lastOf s.data.toList) = sv at *
            go_wp2_with fail
            refine HSU.out.mono ?_
            rintro e w' ⟨rfl, rfl⟩
            go_wp2_with fail
            go_ret
            exact ⟨by rw [HRES.out]; rfl, HB.out⟩
        · have h1i : ¬ (1 : Int) < (X.length : Int) := by omega
          have HRES := hid (path_00 HOK.out HLE.out (by rw [HXL.out]; exact h1))
          go_wp2_with fail
          go_ret
          exact ⟨by rw [HRES.out]; rfl, HB.out⟩
      · have HRES := hid (path_2 HOK.out HLE.out)
        go_wp2_with fail
        go_ret
        exact ⟨by rw [HRES.out]; rfl, HB.out⟩
end Ve
end Go.Proofs.YtfdinpmpchmifaaGreatDoor
