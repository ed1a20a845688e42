/-
  FileW RefN
-/
import Derived.Test.YtjhlkjgijbobcaaGreatDoorFt24
import Derived.Test.YtjhlkjgijbobcaaGreatDoorFt30
import Derived.Test.YtjhlkjgijbobcaaGreatDoorFt26
namespace Go.Proofs.YtjhlkjgijbobcaaGreatDoor
open Go.RowKit
namespace Ve
theorem setCells_row {g : Nat} {t : TypeId} : ∀ (cs : List Value) (o : Nat) (cur : Array Value) (w : World), w.heap[g]? = some (.cells cur t (0, 0)) → o + cs.length ≤ cur.size →
    (w.setCells g o cs).heap[g]? = some (.cells (cur.toList.take o ++ cs ++ cur.toList.drop (o + cs.length)).toArray t (0, 0))
  | [], o, cur, w, h, _ => by
    show w.heap[g]? = _
    rw [h]; simp
  | v :: r, o, cur, w, h, hl => by
    show ((w.setCell ⟨g, o, none⟩ v).setCells g (o + 1) r).heap[g]? = _
    have h1 := set_block (o := o) (x := v) h
    have hl' : o + (r.length + 1) ≤ cur.size := hl
    rw [setCells_row r (o + 1) _ _ h1 (by simp; omega)]
    have := list_seg_step cur.toList o v r (by simpa using hl')
    rw [Array.toList_setIfInBounds, this]; rfl
theorem setCells_far {g k : Nat} : ∀ (cs : List Value) (o : Nat) (w : World), k ≠ g → (w.setCells g o cs).heap[k]? = w.heap[k]?
  | [], _, _, _ => rfl
  | v :: r, o, w, h => by
    show ((w.setCell ⟨g, o, none⟩ v).setCells g (o + 1) r).heap[k]? = _
    rw [setCells_far r (o + 1) _ h, Below.heap_setCell _ _ _ _ h]
theorem setCells_size {g : Nat} : ∀ (cs : List Value) (o : Nat) (w : World), (w.setCells g o cs).heap.size = w.heap.size
  | [], _, _ => rfl
  | v :: r, o, w => by
    show ((w.setCell ⟨g, o, none⟩ v).setCells g (o + 1) r).heap.size = _
    rw [setCells_size r (o + 1) _]; simp [World.setCell]
theorem setCells_rest {g : Nat} : ∀ (cs : List Value) (o : Nat) (w : World), (w.setCells g o cs).os = w.os ∧ (w.setCells g o cs).tape = w.tape ∧ (w.setCells g o cs).output = w.output
  | [], _, _ => ⟨rfl, rfl, rfl⟩
  | v :: r, o, w => by
    have := setCells_rest (g := g) r (o + 1) (w.setCell ⟨g, o, none⟩ v)
    exact this
theorem clear_two (w : World) (g o c : Nat) (cur : Array Value) (h : w.heap[g]? = some (.cells cur 26 (0, 0))) (hl : o + 2 ≤ cur.size) (ty : TypeId) :
    (Builtin.clear_ #[22] ty #[.slice (some ⟨g, o, none⟩) 1 c]).run Tryz.prog w = .ok (.tuple #[]) (w.setCells g o [.string ⟨#[]⟩, .string ⟨#[]⟩]) := by
  have hst := run_storeCells_cells (P := Tryz.prog) g o [Value.string ⟨#[]⟩, .string ⟨#[]⟩] 0 w (fun j hj => by
    have hj2 : j < 2 := hj
    rw [Lib.cell_of_heap h, Array.getElem?_eq_getElem (by omega)]; rfl) (fun j _ => Lib.frozen_of_heap h _) (by simp [Value.oneCell'])
  simp only [Nat.add_zero] at hst
  have hu := Tryz.underlying22
  have hv : ∀ w, (zeroValue 26).run Tryz.prog w = .ok (.agg #[.string ⟨#[]⟩, .string ⟨#[]⟩]) w := fun w => Tryz.zeroValue26 w
  have hzc : Builtin.zeroCells (Value.agg #[.string ⟨#[]⟩, .string ⟨#[]⟩]).cells 1 = #[Value.string ⟨#[]⟩, .string ⟨#[]⟩] := by
    simp only [Builtin.zeroCells, Value.cells]
    apply Array.ext'
    simp [List.range_succ]
  simp [Builtin.clear_, run_underlying hu, hv, hzc, hst]
theorem row_del {cur : List Value} {R : List Bm} {i n : Nat} (hn : R.length = n) (hi : i < n) (hl : n * 2 ≤ cur.length) (ht : cur.take (n * 2) = flatM R) :
    let c1 := cur.take (i * 2) ++ flatM (R.drop (i + 1)) ++ cur.drop (i * 2 + (flatM (R.drop (i + 1))).length)
    let c2 := c1.take ((n - 1) * 2) ++ [Value.string ⟨#[]⟩, .string ⟨#[]⟩] ++ c1.drop ((n - 1) * 2 + 2)
    c1.length = cur.length ∧ c2.length = cur.length ∧ c2.take ((n - 1) * 2) = flatM (R.take i ++ R.drop (i + 1)) := by
  intro c1 c2
  have hdl : (flatM (R.drop (i + 1))).length = (n - (i + 1)) * 2 := by rw [flatM_len, List.length_drop, hn]
  have h1 : c1.length = cur.length := by
    show (cur.take (i * 2) ++ flatM (R.drop (i + 1)) ++ cur.drop (i * 2 + (flatM (R.drop (i + 1))).length)).length = _
    simp only [List.length_append, List.length_take, List.length_drop, hdl]
    omega
  have h2 : c2.length = cur.length := by
    show (c1.take ((n - 1) * 2) ++ [Value.string ⟨#[]⟩, .string ⟨#[]⟩] ++ c1.drop ((n - 1) * 2 + 2)).length = _
    simp only [List.length_append, List.length_take, List.length_drop, List.length_cons, List.length_nil]
    omega
  refine ⟨h1, h2, ?_⟩
  have e1 : (c1.take ((n - 1) * 2)).length = (n - 1) * 2 := by simp; omega
  have ht1 : cur.take (i * 2) = flatM (R.take i) := by
    rw [← flat_take R i (by omega), ← ht, List.take_take, show min (i * 2) (n * 2) = i * 2 by omega]
  have e2 : (flatM (R.take i) ++ flatM (R.drop (i + 1))).length = (n - 1) * 2 := by
    simp only [List.length_append, hdl, flatM_len, List.length_take]
    omega
  show (c1.take ((n - 1) * 2) ++ [Value.string ⟨#[]⟩, .string ⟨#[]⟩] ++ c1.drop ((n - 1) * 2 + 2)).take ((n - 1) * 2) = _
  rw [List.append_assoc, List.take_append_of_le_length (by omega), List.take_take, Nat.min_self]
  show (cur.take (i * 2) ++ flatM (R.drop (i + 1)) ++ cur.drop _).take ((n - 1) * 2) = _
  rw [ht1, ← e2, List.take_left, flatM_app]
set_option maxHeartbeats 4000000 in
set_option maxRecDepth 100000 in
theorem del_some (R : List Bm) (B g cap i : Nat) (cur : Array Value) (w : World) (hn : R.length ≤ 1000000) (hB : B ≤ g) (hg : w.heap[g]? = some (.cells cur 26 (0, 0))) (hcap : R.length ≤ cap) (hcm : cap ≤ maxLen) (hcs : cur.size = cap * 2) (hct : cur.toList.take (R.length * 2) = flatM R) (hi : i < R.length) :
    Calls Tryz.prog 44 #[.slice (some ⟨g, 0, none⟩) R.length cap, .int .i64 i, .int .i64 ((i : Int) + 1)] w fun e w' => ∃ v', e = .returned v' ∧ Insd B w w' (.slice (some ⟨g, 0, none⟩) R.length cap) v' (R.take i ++ R.drop (i + 1)) := by
  obtain ⟨i0, hi0, hz0, hzs, hzb⟩ := info_parts infoMod
  have hdl : (flatM (R.drop (i + 1))).length = (R.length - (i + 1)) * 2 := by rw [flatM_len, List.length_drop]
  have h9 := row_del (cur := cur.toList) (R := R) (i := i) (n := R.length) rfl hi (by simp; omega) hct
  dsimp only at h9
  obtain ⟨C1, hC1⟩ : ∃ C1, C1 = cur.toList.take (i * 2) ++ flatM (R.drop (i + 1)) ++ cur.toList.drop (i * 2 + (flatM (R.drop (i + 1))).length) := ⟨_, rfl⟩
  rw [← hC1] at h9
  have hs1 : (w.drew.setCells g (i * 2) (flatM (R.drop (i + 1)))).heap[g]? = some (.cells C1.toArray 26 (0, 0)) := by
    rw [setCells_row (flatM (R.drop (i + 1))) (i * 2) cur w.drew hg (by rw [hdl]; omega), hC1]
  have hs2 := setCells_row [Value.string ⟨#[]⟩, .string ⟨#[]⟩] ((R.length - 1) * 2) C1.toArray _ hs1 (by have := h9.1; simp at this ⊢; omega)
  obtain ⟨A0, hA0, hnews⟩ : ∃ A0, (if cap = i + 1 then some (⟨g, 0, none⟩ : Addr) else some ⟨g, (i + 1) * 2, none⟩) = some A0 ∧ ∀ j u, (flatM (R.drop (i + 1)))[j]? = some u → w.drew.cell? (A0.add j) = some u := by
    by_cases he : cap = i + 1
    · refine ⟨⟨g, 0, none⟩, by rw [if_pos he], fun j u hj => ?_⟩
      have : R.drop (i + 1) = [] := List.drop_eq_nil_of_le (by omega)
      rw [this] at hj; cases hj
    · refine ⟨⟨g, (i + 1) * 2, none⟩, by rw [if_neg he], fun j u hj => ?_⟩
      rw [Addr.add_lit, Lib.cell_of_heap (w := w.drew) hg]
      have hjl : j < (R.length - (i + 1)) * 2 := by rw [← hdl]; exact (List.getElem?_eq_some_iff.1 hj).1
      rw [← flat_drop R (i + 1) (by omega), List.getElem?_drop, ← hct, List.getElem?_take, if_pos (by omega)] at hj
      simpa using hj
  have HFI := hid (show Insd B w ((w.drew.setCells g (i * 2) (flatM (R.drop (i + 1)))).setCells g ((R.length - 1) * 2) [Value.string ⟨#[]⟩, .string ⟨#[]⟩]) (.slice (some ⟨g, 0, none⟩) R.length cap) (.slice (some ⟨g, 0, none⟩) (R.length - 1) cap) (R.take i ++ R.drop (i + 1)) from by
    have hl : (R.take i ++ R.drop (i + 1)).length = R.length - 1 := by simp; omega
    refine ⟨?_, ?_, Or.inl rfl⟩
    · rw [hl]
      exact own_of_row hs2 hB hl (by omega) hcm (by have := h9.2.1; simp at this ⊢; omega) (by have := h9.2.2; simpa using this)
    · have a1 := setCells_rest (g := g) [Value.string ⟨#[]⟩, .string ⟨#[]⟩] ((R.length - 1) * 2) (w.drew.setCells g (i * 2) (flatM (R.drop (i + 1))))
      have a2 := setCells_rest (g := g) (flatM (R.drop (i + 1))) (i * 2) w.drew
      refine ⟨a1.1.trans a2.1, a1.2.1.trans a2.2.1, a1.2.2.trans a2.2.2, by rw [setCells_size, setCells_size]; exact Nat.le_refl _, fun k hk hne => ?_⟩
      have : k ≠ g := fun e => hne (by rw [e]; rfl)
      rw [setCells_far _ _ _ this, setCells_far _ _ _ this]; rfl)
  have hclr : ∀ ty c, (Builtin.clear_ #[22] ty #[.slice (some ⟨g, (R.length - 1) * 2, none⟩) 1 c]).run Tryz.prog (w.drew.setCells g (i * 2) (flatM (R.drop (i + 1)))) = .ok (.tuple #[]) ((w.drew.setCells g (i * 2) (flatM (R.drop (i + 1)))).setCells g ((R.length - 1) * 2) [Value.string ⟨#[]⟩, .string ⟨#[]⟩]) := fun ty c =>
    clear_two _ g ((R.length - 1) * 2) c C1.toArray hs1 (by have := h9.1; simp at this ⊢; omega) ty
  have hspare : ∀ j, j < (flatM (R.drop (i + 1))).length → (w.drew.cell? ⟨g, 0 + i * 2 + j, none⟩).isSome = true ∧ w.drew.frozen? ⟨g, 0 + i * 2 + j, none⟩ = false := fun j hj => by
    rw [hdl] at hj
    exact ⟨by rw [Lib.cell_of_heap (w := w.drew) hg, Array.getElem?_eq_getElem (by omega)]; rfl, Lib.frozen_of_heap (w := w.drew) hg _⟩
  have g1 : ((i : Int) == (i : Int) + 1) = false := by simp; omega
  have g2 : ¬ ((i : Int) = (i : Int) + 1) := by omega
  have g3 : (i : Int) + 1 ≤ (R.length : Int) := by omega
  have g4 : (0 : Int) ≤ (i : Int) + 1 := by omega
  have g5 : ((i : Int) + 1).toNat = i + 1 := by omega
  have g6 : (i : Int) ≤ (cap : Int) := by omega
  have g7 : (R.length : Int) ≤ (cap : Int) := by omega
  have g8 : (i : Int) ≤ (i : Int) + 1 := by omega
  have g9 : i ≤ cap := by omega
  have g10 : i + (R.length - (i + 1)) = R.length - 1 := by omega
  clear hC1 hct hcs hg hs1 hs2 h9
  go_enter Tryz.func44, Tryz.ntmps44
  have HNW := hid hnews
  have HSP := hid hspare
  clear hnews hspare
  have g11 : ((R.length - 1 : Nat) : Int) ≤ (R.length : Int) := by omega
  have g12 : R.length - (R.length - 1) = 1 := by omega
  have g13 : ¬ (cap = R.length - 1) := by omega
  go_wp2_with fail
  go_region_law (refine step_append_room rfl (.tmp 22) (.tmp 25) 22 rfl 26 i0 2 Tryz.underlying22 hi0 hzs g 0 i cap (by simp [Act.eval, Act.put]) A0 (R.length - (i + 1)) (cap - (i + 1)) (flatM (R.drop (i + 1))) (by simp [Act.eval, Act.put]) hdl HNW.out (flat_one _) (by omega) HSP.out ?_)
  go_wp2_with fail
  go_ret
  exact ⟨_, rfl, HFI.out⟩
theorem del_any (R : List Bm) (v : Value) (B i : Nat) (w : World) (hn : R.length ≤ 1000000) (ho : w.ownsRow B 26 2 v R.length (flatM R)) (hi : i < R.length) :
    Calls Tryz.prog 44 #[v, .int .i64 i, .int .i64 ((i : Int) + 1)] w fun e w' => ∃ v', e = .returned v' ∧ Insd B w w' v v' (R.take i ++ R.drop (i + 1)) := by
  obtain ⟨_, ⟨_, h0⟩ | ⟨g, cap, cur, rfl, hBg, hg, hcap, hcm, hcs, hct⟩⟩ := ho
  · omega
  · exact del_some R B g cap i cur w hn hBg hg hcap hcm hcs hct hi
end Ve
end Go.Proofs.YtjhlkjgijbobcaaGreatDoor
namespace Go.Proofs.YtjhlkjgijbobcaaGreatDoor
open Go.RowKit
namespace Ve
def reqsR (own : ByteArray) (L : List Bm) : Nat × Nat := match fstE (reqE own L) L.length with
  | some i => (reqE own L i, i)
  | none => (0, 0)
theorem reqsR_some {own : ByteArray} {L : List Bm} {k : Nat} (h0 : ∀ j, j < k → reqE own L j = 0) (hk : k < L.length) (h : reqE own L k ≠ 0) : reqsR own L = (reqE own L k, k) := by
  unfold reqsR; rw [fstE_some h0 h hk]
theorem reqsR_none {own : ByteArray} {L : List Bm} (h : ∀ j, j < L.length → reqE own L j = 0) : reqsR own L = (0, 0) := by
  unfold reqsR; rw [fstE_none h]
theorem zero_next {E : Nat → Nat} {k : Nat} (h : ∀ j, j < k → E j = 0) (hk : E k = 0) : ∀ j, j < k + 1 → E j = 0 := fun j hj => by
  rcases Nat.lt_or_ge j k with h1 | h1
  · exact h j h1
  · have : j = k := by omega
    subst this; exact hk
theorem leq_no (a b : ByteArray) : (Op.bytesLess a.toList b.toList || a.toList == b.toList) = noLess b a := by
  have h := cb_more a.toList b.toList
  rw [ByteArray.toList_eq, ByteArray.toList_eq] at h ⊢
  unfold noLess
  rw [cb_swap a.data.toList b.data.toList]
  cases hx : (Op.bytesLess a.data.toList b.data.toList || a.data.toList == b.data.toList) <;> rw [hx] at h <;> simp at h ⊢ <;> omega
theorem leq_is (a b : ByteArray) (X : World) : (binOp BinOp.leq 9 (.string a) (.string b)).run Tryz.prog X = .ok (.bool (noLess b a)) X := by rw [← leq_no]; rfl
set_option maxHeartbeats 4000000 in
set_option maxRecDepth 100000 in
theorem reqsE_some (own : ByteArray) (L : List Bm) (b o c : Nat) (w : World) (hn : L.length ≤ 1000000) (hs : shortL L)
    (hc : ∀ j (h : j < L.length), w.cell? ⟨b, o + j * 2, none⟩ = some (.string L[j].1) ∧ w.cell? ⟨b, o + j * 2 + 1, none⟩ = some (.string L[j].2)) :
    Calls Tryz.prog 30 #[.slice (some ⟨b, o, none⟩) L.length c, .string own] w fun e w' => e = .returned (.tuple #[.int .i64 ((reqsR own L).1 : Nat), .int .i64 ((reqsR own L).2 : Nat)]) ∧ Below w.heap.size w w' := by
  have HC := hid hc
  have HS := hid hs
  generalize hr : reqsR own L = r
  have HR := hid hr
  clear hc hs hr
  go_enter Tryz.func30, Tryz.ntmps30
  go_wp2_with fail
  go_loopw [6] (fun i wr => ∃ k : Nat, k ≤ L.length ∧ i = .int .i64 k ∧ Hid (∀ j, j < k → reqE own L j = 0) ∧ Hid (Below w.heap.size w wr)) (fun i _ => L.length - (intOf i).toNat)
  case atStart => exact ⟨0, Nat.zero_le _, rfl, hid (fun j hj => absurd hj (by omega)), hid (Below.refl _ _)⟩
  case round =>
    obtain ⟨k, hk, rfl, HZ, HB⟩ := hrel
    by_cases hlt : k < L.length
    · have hx := cell_below HB.out (HC.out k hlt).1
      have hy := cell_below HB.out (HC.out k hlt).2
      have hkI : (k : Int) < (L.length : Int) := by omega
      have HM := hid (modError_any L[k].1 L[k].2 wr (by have := (HS.out L[k] (List.getElem_mem hlt)).1; omega) (by have := (HS.out L[k] (List.getElem_mem hlt)).2; omega))
      rw [show modErr L[k].1.data.toList L[k].2.data.toList = mErr L[k] from rfl] at HM
      have HN := hid (fun h => reqsR_some HZ.out hlt h)
      have HY := hid (fun h => zero_next HZ.out h)
      have HLT := hid hlt
      rcases Nat.eq_zero_or_pos k with h00 | h00
      · have HE := hid (show reqE own L k = reqW own none L[k] by subst h00; exact reqE_0 hlt)
        have g3 : decide (0 < k) = false := decide_eq_false (by omega)
        generalize L[k] = x at *
        obtain ⟨p, v⟩ := x
        clear hlt h00
        by_cases h0 : mErr (p, v) = 0
        · rw [h0] at HM
          by_cases h1 : p = own
          · have HV := hid (HN.out (by rw [HE.out, reqW_own h0 h1]; decide))
            rw [HE.out, reqW_own h0 h1] at HV
            rw [h1] at hx HM
            have hq := str_refl own
            clear h0 h1
            go_wp2_with fail
            refine HM.out.mono ?_
            rintro e w1 ⟨rfl, hb⟩
            have HB1 := hid (HB.out.trans (hb.mono HB.out.size))
            replace hx := cell_below hb hx
            replace hy := cell_below hb hy
            clear hb
            go_wp2_with fail
            go_ret2
            exact ⟨by rw [← HR.out, HV.out]; rfl, HB1.out⟩
          · have HV := hid (HY.out (by rw [HE.out, reqW_none h0 h1]))
            have hq := str_ne h1
            clear h0 h1
            go_wp2_with fail
            refine HM.out.mono ?_
            rintro e w1 ⟨rfl, hb⟩
            have HB1 := hid (HB.out.trans (hb.mono HB.out.size))
            replace hx := cell_below hb hx
            replace hy := cell_below hb hy
            clear hb
            go_wp2_with fail
            go_quiet (fail)
            go_wp2_with fail
            go_roundw
            case rel => exact ⟨k + 1, by have := HLT.out; omega, by go_num, HV, hid (below_drawn_of HB1.out _)⟩
            case measure => have := HLT.out; simp [intOf]; omega
        · have HV := hid (HN.out (by rw [HE.out, reqW_bad h0]; exact h0))
          rw [HE.out, reqW_bad h0] at HV
          have hpos : (0 : Int) < (mErr (p, v) : Int) := by omega
          generalize mErr (p, v) = z at *
          clear h0
          go_wp2_with fail
          refine HM.out.mono ?_
          rintro e w1 ⟨rfl, hb⟩
          have HB1 := hid (HB.out.trans (hb.mono HB.out.size))
          clear hb
          go_wp2_with fail
          go_ret2
          exact ⟨by rw [← HR.out, HV.out]; rfl, HB1.out⟩
      · obtain ⟨q, hq⟩ : ∃ q, k = q + 1 := ⟨k - 1, by omega⟩
        have hql : q < L.length := by omega
        have HE := hid (show reqE own L k = reqW own (some L[q]) L[k] by subst hq; exact reqE_1 hlt)
        have hxq := cell_below HB.out (HC.out q hql).1
        have gw : IntKind.i64.wrap ((k : Int) - 1) = (q : Int) := by rw [IntKind.wrap_i64]; omega
        have gw2 : (k : Int) - 1 = (q : Int) := by omega
        have g1 : (0 : Int) ≤ (q : Int) := by omega
        have g2 : (q : Int) < (L.length : Int) := by omega
        have g3 : (0 : Int) < (k : Int) := by omega
        have g4 : decide (0 < k) = true := decide_eq_true (by omega)
        generalize L[k] = x at *
        generalize L[q] = y at *
        obtain ⟨p, v⟩ := x
        obtain ⟨p', v'⟩ := y
        clear hlt hql hq h00
        by_cases h0 : mErr (p, v) = 0
        · rw [h0] at HM
          by_cases h1 : p = own
          · have HV := hid (HN.out (by rw [HE.out, reqW_own h0 h1]; decide))
            rw [HE.out, reqW_own h0 h1] at HV
            rw [h1] at hx HM
            have hq := str_refl own
            clear h0 h1
            go_wp2_with fail
            refine HM.out.mono ?_
            rintro e w1 ⟨rfl, hb⟩
            have HB1 := hid (HB.out.trans (hb.mono HB.out.size))
            replace hx := cell_below hb hx
            replace hy := cell_below hb hy
            clear hb
            go_wp2_with fail
            go_ret2
            exact ⟨by rw [← HR.out, HV.out]; rfl, HB1.out⟩
          · have hle := leq_is p p'
            have hq := str_ne h1
            cases hz : noLess p' p
            · have HV := hid (HY.out (by rw [HE.out, reqW_some h0 h1, if_neg (by rw [hz]; decide)]))
              rw [hz] at hle
              clear h0 h1 hz
              go_wp2_with fail
              refine HM.out.mono ?_
              rintro e w1 ⟨rfl, hb⟩
              have HB1 := hid (HB.out.trans (hb.mono HB.out.size))
              replace hx := cell_below hb hx
              replace hy := cell_below hb hy
              replace hxq := cell_below hb hxq
              clear hb
              go_wp2_with fail
              go_quiet (fail)
              go_wp2_with fail
              go_roundw
              case rel => exact ⟨k + 1, by have := HLT.out; omega, by go_num, HV, hid (below_drawn_of HB1.out _)⟩
              case measure => have := HLT.out; simp [intOf]; omega
            · have HV := hid (HN.out (by rw [HE.out, reqW_some h0 h1, if_pos hz]; decide))
              rw [HE.out, reqW_some h0 h1, if_pos hz] at HV
              rw [hz] at hle
              clear h0 h1 hz
              go_wp2_with fail
              refine HM.out.mono ?_
              rintro e w1 ⟨rfl, hb⟩
              have HB1 := hid (HB.out.trans (hb.mono HB.out.size))
              replace hx := cell_below hb hx
              replace hy := cell_below hb hy
              replace hxq := cell_below hb hxq
              clear hb
              go_wp2_with fail
              go_quiet (fail)
              go_wp2_with fail
              go_ret2
              exact ⟨by rw [← HR.out, HV.out]; rfl, below_drawn_of HB1.out _⟩
        · have HV := hid (HN.out (by rw [HE.out, reqW_bad h0]; exact h0))
          rw [HE.out, reqW_bad h0] at HV
          have hpos : (0 : Int) < (mErr (p, v) : Int) := by omega
          generalize mErr (p, v) = z at *
          clear h0
          go_wp2_with fail
          refine HM.out.mono ?_
          rintro e w1 ⟨rfl, hb⟩
          have HB1 := hid (HB.out.trans (hb.mono HB.out.size))
          clear hb
          go_wp2_with fail
          go_ret2
          exact ⟨by rw [← HR.out, HV.out]; rfl, HB1.out⟩
    · have HV := hid (reqsR_none (own := own) (L := L) (fun j hj => HZ.out j (by omega)))
      go_wp2_with fail
      go_ret2
      exact ⟨by rw [← HR.out, HV.out]; rfl, HB.out⟩
theorem reqsE_none (own : ByteArray) (a : Option Addr) (c : Nat) (w : World) : Calls Tryz.prog 30 #[.slice a 0 c, .string own] w fun e w' => e = .returned (.tuple #[.int .i64 0, .int .i64 0]) ∧ Below w.heap.size w w' := by
  go_enter Tryz.func30, Tryz.ntmps30
  go_wp2_with fail
  go_loopw [6] (fun i wr => i = .int .i64 0 ∧ wr = w) (fun i _ => 0)
  case atStart => exact ⟨rfl, rfl⟩
  case round =>
    obtain ⟨rfl, rfl⟩ := hrel
    go_wp2_with fail
    go_ret2
    exact ⟨rfl, Below.refl _ _⟩
theorem reqsE_any (own : ByteArray) (L : List Bm) (v : Value) (w : World) (hn : L.length ≤ 1000000) (hs : shortL L) (hv : MsAt w v L) :
    Calls Tryz.prog 30 #[v, .string own] w fun e w' => e = .returned (.tuple #[.int .i64 ((reqsR own L).1 : Nat), .int .i64 ((reqsR own L).2 : Nat)]) ∧ Below w.heap.size w w' := by
  obtain ⟨a, c, rfl, _, h⟩ := hv
  cases L with
  | nil => exact reqsE_none own a c w
  | cons x r =>
    obtain ⟨b, o, rfl, h2⟩ := h (by simp)
    exact reqsE_some own (x :: r) b o c w hn hs h2
end Ve
end Go.Proofs.YtjhlkjgijbobcaaGreatDoor
