/-
  What FindOf of the document's answer says; whether a module is in a row.
-/
import Derived.Test.YtffjaliegglddaaGreatDoorJn4
import Derived.Test.YtffjaliegglddaaGreatDoorRefI
import Derived.Test.YtffjaliegglddaaGreatDoorVerO
import Derived.Test.YtffjaliegglddaaGreatDoorVerR
import Derived.Test.YtffjaliegglddaaGreatDoorVerQ
import Derived.Test.YtffjaliegglddaaGreatDoorOrdB
import Derived.Test.YtffjaliegglddaaGreatDoorSplitAny
import Derived.Test.YtffjaliegglddaaGreatDoorLessAny
import Derived.Laws.OwnMore
import Derived.Test.YtffjaliegglddaaGreatDoorJn3
import Derived.Lib.AppendZeros
namespace Go.Proofs.YtffjaliegglddaaGreatDoor
open Go.RowKit Go.Maps
namespace Ve

def eqM (x m : Bm) : Bool := decide (x.1 = m.1 ∧ x.2 = m.2)
theorem eqM_iff {x m : Bm} : eqM x m = true ↔ x = m := by
  unfold eqM
  rw [decide_eq_true_iff]
  exact ⟨fun h => Prod.ext h.1 h.2, fun h => by rw [h]; exact ⟨rfl, rfl⟩⟩
theorem eqM_ne {x m : Bm} (h : x ≠ m) : eqM x m = false := by
  cases e : eqM x m with
  | false => rfl
  | true => exact absurd (eqM_iff.1 e) h
theorem eqM_run (x m : Bm) (W : World) : (binOp .eql 25 (.agg #[.string x.1, .string x.2]) (.agg #[.string m.1, .string m.2])).run Tryz.prog W = .ok (.bool (eqM x m)) W := modEql x.1 x.2 m.1 m.2 W
theorem neM_run (x m : Bm) (W : World) : (binOp .neq 25 (.agg #[.string x.1, .string x.2]) (.agg #[.string m.1, .string m.2])).run Tryz.prog W = .ok (.bool (!eqM x m)) W := modNeq x.1 x.2 m.1 m.2 W
/-- Is a module in a row? -/
def hasM (X : List Bm) (m : Bm) : Bool := X.any fun y => eqM y m
theorem hasM_iff {X : List Bm} {m : Bm} : hasM X m = true ↔ m ∈ X := by
  unfold hasM
  rw [List.any_eq_true]
  constructor
  · rintro ⟨y, hy, h⟩; rw [← eqM_iff.1 h]; exact hy
  · intro h; exact ⟨m, h, eqM_iff.2 rfl⟩
theorem hasM_next {X : List Bm} {k : Nat} (hk : k < X.length) (m : Bm) : hasM (X.take (k + 1)) m = (hasM (X.take k) m || eqM X[k] m) := by
  unfold hasM
  rw [List.take_succ_eq_append_getElem hk, List.any_append]
  simp
theorem hasM_nil (X : List Bm) (m : Bm) : hasM (X.take 0) m = false := by simp [hasM]
theorem hasM_all {X : List Bm} {k : Nat} (hk : ¬ k < X.length) (m : Bm) : hasM (X.take k) m = hasM X m := by rw [List.take_of_length_le (by omega)]
theorem idx_same {Q Q' : List Raw} (hl : Q.length = Q'.length) (h : ∀ j (h : j < Q.length) (h' : j < Q'.length), Q[j].1 = Q'[j].1) (m : Bm) : idxOf (isM m) Q = idxOf (isM m) Q' := by
  have e : ∀ j, idxE (isM m) Q j = idxE (isM m) Q' j := fun j => by
    unfold idxE
    by_cases hj : j < Q.length
    · have hj' : j < Q'.length := by omega
      rw [List.getElem?_eq_getElem hj, List.getElem?_eq_getElem hj']
      have : isM m Q[j] = isM m Q'[j] := by
        have := h j hj hj'
        unfold isM
        rw [this]
      simp only [this]
    · rw [List.getElem?_eq_none (by omega), List.getElem?_eq_none (by omega)]
  unfold idxOf
  rw [show idxE (isM m) Q = idxE (isM m) Q' from funext e, hl]
theorem ixs_same {w w' : World} {v v' : Value} {Q Q' : List Raw} {L : List Ent} (I : Ixs w v Q L) (I' : Ixs w' v' Q' L) (m : Bm) : idxOf (isM m) Q = idxOf (isM m) Q' :=
  idx_same (by rw [I.ln, I'.ln]) (fun j h h' => by
    have hj : j < L.length := by rw [← I.ln]; exact h
    rw [(I.ok j h hj).m, (I'.ok j h' hj).m]) m
set_option maxRecDepth 100000 in
set_option maxHeartbeats 1000000 in
theorem findOf_some (L : List Raw) (m : Bm) (b o c : Nat) (w : World) (hL : L.length ≤ 1000000)
    (hc : ∀ j (h : j < L.length), w.cell? ⟨b, o + j * 5, none⟩ = some (.string L[j].1.1) ∧ w.cell? ⟨b, o + j * 5 + 1, none⟩ = some (.string L[j].1.2)) :
    Calls Tryz.prog 18 #[.slice (some ⟨b, o, none⟩) L.length c, .agg #[.string m.1, .string m.2]] w fun e w' => e = .returned (.int .i64 (idxOf (isM m) L)) ∧ Below w.heap.size w w' := by
  have HC := hid hc
  have hgd := modGuard
  generalize hr : idxOf (isM m) L = r
  have HR := hid hr
  have HB0 := hid ((Below.refl w.heap.size w).alloc (Nat.le_refl _) (.cells #[.string m.1, .string m.2] 25))
  have HE0 := hid (heap_new w (.cells #[.string m.1, .string m.2] 25))
  clear hc hr
  go_enter Tryz.func18, Tryz.ntmps18
  go_wp2_with fail
  generalize hw1 : w.alloc (.cells #[.string m.1, .string m.2] 25) = w1 at *
  clear hw1
  go_loopw [5] (fun i wr => ∃ k : Nat, k ≤ L.length ∧ i = .int .i64 k ∧ Hid (∀ j (h : j < L.length), j < k → isM m L[j] = false) ∧ Hid (Below w1.heap.size w1 wr)) (fun i _ => L.length - (intOf i).toNat)
  case atStart => exact ⟨0, Nat.zero_le _, rfl, hid (fun j _ hj => absurd hj (by omega)), hid (Below.refl _ _)⟩
  case round =>
    obtain ⟨k, hk, rfl, HA, HB⟩ := hrel
    have HBw := hid (HB0.out.trans (HB.out.mono HB0.out.size))
    by_cases hlt : k < L.length
    · have x0 := cell_below HBw.out (HC.out k hlt).1
      have x1 := cell_below HBw.out (HC.out k hlt).2
      have hE : wr.heap[w.heap.size]? = some (.cells #[.string m.1, .string m.2] 25 (0, 0)) := (HB.out.block _ (lt_of_blk HE0.out)).trans HE0.out
      have y0 : wr.cell? ⟨w.heap.size, 0, none⟩ = some (.string m.1) := by rw [Lib.cell_of_heap hE]; rfl
      have y1 : wr.cell? ⟨w.heap.size, 1, none⟩ = some (.string m.2) := by rw [Lib.cell_of_heap hE]; rfl
      have HF := hid (fun h => idx_hit hlt HA.out h)
      have HN := hid (fun h => idx_next hlt HA.out h)
      have HEQ := hid (show isM m L[k] = eqM L[k].1 m from rfl)
      have hkI : (k : Int) < (L.length : Int) := by omega
      have HLT := hid hlt
      clear hE
      generalize L[k] = x at *
      clear hlt
      have heq := fun W => eqM_run x.1 m W
      cases he : eqM x.1 m with
      | false =>
        rw [he] at heq HEQ
        have HN2 := hid (HN.out HEQ.out)
        clear HF HN HEQ he
        go_wp2_with fail
        go_quiet (fail)
        go_wp2_with fail
        go_roundw
        case rel => first | exact ⟨k + 1, HLT.out, nr_idx k, HN2, hid (below_drawn_of HB.out _)⟩ | exact ⟨k + 1, HLT.out, nx_idx HLT.out hL, HN2, hid (below_drawn_of HB.out _)⟩
        case measure => first | exact nr_meas HLT.out | exact nx_meas HLT.out hL
      | true =>
        rw [he] at heq HEQ
        have HF2 := hid (HF.out HEQ.out)
        clear HF HN HEQ he
        go_wp2_with fail
        go_quiet (fail)
        go_wp2_with fail
        go_ret
        exact ⟨by rw [← HR.out, HF2.out]; rfl, below_drawn_of HBw.out _⟩
    · have HF := hid (show idxOf (isM m) L = -1 by unfold idxOf; rw [fstE_none (idxE_zero (Nat.le_refl _) (fun j hj _ => HA.out j hj (by omega)))])
      have hkI : ¬ (k : Int) < (L.length : Int) := by omega
      clear hlt
      go_wp2_with fail
      go_ret
      exact ⟨by rw [← HR.out, HF.out]; rfl, HBw.out⟩
/-- pewholderref1.FindOf, where there are entries. -/
theorem findOf_any (L : List Raw) (m : Bm) (v : Value) (w : World) (hL : L.length ≤ 1000000) (h0 : 0 < L.length) (hv : EsAt w v L) :
    Calls Tryz.prog 18 #[v, .agg #[.string m.1, .string m.2]] w fun e w' => e = .returned (.int .i64 (idxOf (isM m) L)) ∧ Below w.heap.size w w' := by
  obtain ⟨a, c, rfl, _, _, h⟩ := hv
  obtain ⟨b, o, rfl, h2⟩ := h (fun e => by rw [e] at h0; exact absurd h0 (Nat.lt_irrefl _))
  exact findOf_some L m b o c w hL (fun j hj => ⟨(h2 j hj).1, (h2 j hj).2.1⟩)
end Ve
end Go.Proofs.YtffjaliegglddaaGreatDoor

/-
  What is reached, in the order of an index; plain.
-/
namespace Go.Proofs.YtffjaliegglddaaGreatDoor
open Go.RowKit Go.Maps
namespace Ve

theorem goM_mem {w : World} {v : Value} {Q : List Raw} {L : List Ent} {roots : List Bm} {T : By} (I : Ixs w v Q L) (h : Came (reqQ Q L) (univ L) roots T) {m : Bm} : m ∈ goM T Q ↔ Rch (reqQ Q L) roots m := by
  constructor
  · intro hm
    obtain ⟨r, hr, rfl⟩ := List.mem_map.1 hm
    exact (h.cameB _).1 (List.mem_filter.1 hr).2
  · intro hm
    have hc := (h.cameB m).2 hm
    have hu := h.b.un m (cameB_iff.1 hc)
    obtain ⟨e, he, rfl⟩ := List.mem_map.1 hu
    obtain ⟨j, hj, rfl⟩ := List.getElem_of_mem he
    have hjq : j < Q.length := by rw [I.ln]; exact hj
    have hm1 := (I.ok j hjq hj).m
    refine List.mem_map.2 ⟨Q[j], List.mem_filter.2 ⟨List.getElem_mem hjq, ?_⟩, hm1⟩
    show cameB T Q[j].1 = true
    rw [hm1]
    exact hc
theorem goM_univ {w : World} {v : Value} {Q : List Raw} {L : List Ent} {T : By} (I : Ixs w v Q L) {m : Bm} (h : m ∈ goM T Q) : m ∈ univ L := by
  obtain ⟨r, hr, rfl⟩ := List.mem_map.1 h
  obtain ⟨j, hj, rfl⟩ := List.getElem_of_mem (List.mem_filter.1 hr).1
  obtain ⟨hj', e⟩ := ixs_get I hj
  exact List.mem_map.2 ⟨L[j], List.getElem_mem hj', e.symm⟩
theorem goM_same {Q : List Raw} {T T' : By} (h : ∀ m, cameB T m = cameB T' m) : goM T Q = goM T' Q := by
  unfold goM goQ
  rw [show (fun r : Raw => cameB T r.1) = fun r => cameB T' r.1 from funext fun r => h r.1]
theorem goM_len (T : By) (Q : List Raw) : (goM T Q).length ≤ Q.length := by
  unfold goM goQ
  rw [List.length_map]
  exact List.length_filter_le _ _
theorem chkG_in {w : World} {v : Value} {Q : List Raw} {L : List Ent} {R : List Bm} (I : Ixs w v Q L) (hc : (chk Q L).1 = 0) (h : ∀ m, m ∈ R → m ∈ univ L) : (chkG Q L R).1 = 0 := by
  rw [chkG_ok hc]
  have : fstE (nonE Q R) R.length = none := fstE_none fun j hj => by
    rw [nonE_at hj]
    unfold nonW
    obtain ⟨k, hk⟩ := (found_iff I R[j]).1 (h _ (List.getElem_mem hj))
    rw [hk, if_neg (by omega)]
  exact codeE_none this
/-- Of what is reached the same is reached. -/
theorem goM_again {w : World} {v : Value} {Q : List Raw} {L : List Ent} {roots : List Bm} {T T' : By} (I : Ixs w v Q L) (h : Came (reqQ Q L) (univ L) roots T) (h' : Came (reqQ Q L) (univ L) (goM T Q) T') : goM T' Q = goM T Q :=
  goM_same fun m => by
    have e : cameB T' m = true ↔ cameB T m = true := by
      rw [h'.cameB, h.cameB]
      exact Rch.again (fun m => goM_mem I h)
    cases h1 : cameB T' m with
    | true => exact (e.1 h1).symm
    | false =>
      cases h2 : cameB T m with
      | true => rw [e.2 h2] at h1; cases h1
      | false => rfl
end Ve
end Go.Proofs.YtffjaliegglddaaGreatDoor

/-
  What VerOf of the document's answer gives, all its ways together.
-/
namespace Go.Proofs.YtffjaliegglddaaGreatDoor
open Go.RowKit
namespace Ve

/-- VerOf, all its ways together. -/
theorem verOf_any (s : ByteArray) (w : World) (hs : s.size < 4294967281) :
    Calls Tryz.prog 45 #[.string s] w fun e w' => (verErr s.data.toList ≠ 0 ∧ e = .returned (.tuple #[.agg #[.int .i64 0, .int .i64 0, .int .i64 0, .slice none 0 0], .int .i64 (verErr s.data.toList : Nat)]) ∨
      verErr s.data.toList = 0 ∧ ∃ sa cap X2, e = .returned (.tuple #[.agg #[.int .i64 (nAt s.data.toList 0), .int .i64 (nAt s.data.toList 1), .int .i64 (nAt s.data.toList 2), .slice sa X2.length cap], .int .i64 0]) ∧ bl X2 = preOf s.data.toList ∧ (X2 = [] ∨ ∃ g, sa = some ⟨g, 0, none⟩ ∧ ∀ j (hj : j < X2.length), w'.cell? ⟨g, j, none⟩ = some (.string X2[j]))) ∧ Below w.heap.size w w' := by
  by_cases hm : marked s.data.toList = false
  · have hv : verErr s.data.toList = 1 := by unfold verErr; rw [if_pos (Or.inl hm)]
    rw [hv]
    exact (verOf_head s w hs hm).mono fun e w' ⟨h1, h2⟩ => ⟨Or.inl ⟨by omega, h1⟩, h2⟩
  · have hm' : marked s.data.toList = true := by simpa using hm
    by_cases h3 : (coreOf s.data.toList).length = 3
    · have hn : ¬ (marked s.data.toList = false ∨ (coreOf s.data.toList).length ≠ 3) := by rintro (h | h); exact hm h; exact h h3
      cases hp : hasPre s.data.toList
      · have hv : verErr s.data.toList = numsErr (coreOf s.data.toList) := by unfold verErr; rw [if_neg hn, hp]; rfl
        rw [hv]
        refine (verOf_A s w hs hm' hp h3).mono fun e w' ⟨h1, h2⟩ => ⟨?_, h2⟩
        by_cases hq : numsErr (coreOf s.data.toList) = 0
        · refine Or.inr ⟨hq, none, 0, [], ?_, ?_, Or.inl rfl⟩
          · rw [h1, hq]; rfl
          · unfold preOf; rw [hp]; rfl
        · refine Or.inl ⟨hq, ?_⟩
          rw [h1]; unfold resA; rw [if_neg hq]
      · have hv : verErr s.data.toList = verB s.data.toList := by rw [verB_eq]; unfold verErr; rw [if_neg hn, hp]; rfl
        rw [hv]
        refine (verOf_B s w hs hm' hp h3).mono fun e w' ⟨h1, h2⟩ => ⟨?_, h2⟩
        rcases h1 with h1 | ⟨h0, g, cap, X2, h1, h4, h5, h6⟩
        · exact Or.inl h1
        · exact Or.inr ⟨h0, _, cap, X2, h1, h4, Or.inr ⟨g, rfl, h6⟩⟩
    · have hv : verErr s.data.toList = 1 := by unfold verErr; rw [if_pos (Or.inr h3)]
      rw [hv]
      cases hp : hasPre s.data.toList
      · exact (verOf_A1 s w hs hm' hp h3).mono fun e w' ⟨h1, h2⟩ => ⟨Or.inl ⟨by omega, h1⟩, h2⟩
      · exact (verOf_B1 s w hs hm' hp h3).mono fun e w' ⟨h1, h2⟩ => ⟨Or.inl ⟨by omega, h1⟩, h2⟩
end Ve
end Go.Proofs.YtffjaliegglddaaGreatDoor

/-
  What the document's sign, orderPart, OrderVer, IsVer, IsLess and MaxOf answer; nothing old in memory turns.
-/
namespace Go.Proofs.YtffjaliegglddaaGreatDoor
open Go.RowKit
namespace Ve

theorem ver_parts {l : List UInt8} (h : verErr l = 0) : ∀ p, p ∈ preOf l → part p = 0 := by
  intro p hp
  unfold verErr at h
  split at h
  · cases h
  · cases hh : hasPre l
    · unfold preOf at hp; rw [hh] at hp; simp at hp
    · rw [hh] at h
      simp only [if_true] at h
      refine pre_parts ?_ p hp
      unfold worse at h
      split at h
      · rename_i hc
        rcases hc with hc | hc
        · omega
        · exact hc
      · exact h

theorem sign_any (l m : Bool) (w : World) : Calls Tryz.prog 154 #[.bool l, .bool m] w fun e w' => e = .returned (.int .i64 (if l then -1 else if m then 1 else 0)) ∧ w' = w := by
  cases l <;> cases m
  all_goals
    go_enter Tryz.func154, Tryz.ntmps154
    go_wp2
    go_ret
    exact ⟨rfl, rfl⟩
theorem sign_is (l m : Bool) (k : Int) (w : World) (hk : (if l then (-1 : Int) else if m then 1 else 0) = k) : Calls Tryz.prog 154 #[.bool l, .bool m] w fun e w' => e = .returned (.int .i64 k) ∧ w' = w := by
  rw [← hk]; exact sign_any l m w
theorem sign_int (x y : Int) : (if decide (x < y) then (-1 : Int) else if decide (x > y) then 1 else 0) = Lib.compareInt x y := by
  unfold Lib.compareInt; simp
theorem sign_bytes (a b : List UInt8) : (if Op.bytesLess a b then (-1 : Int) else if !(Op.bytesLess a b || a == b) then 1 else 0) = Lib.compareBytes a b := by
  rw [cb_more, cb_less]
  rcases cb_range a b with h | h | h <;> rw [h] <;> rfl
theorem toList_data (s : ByteArray) : s.toList = s.data.toList := ByteArray.toList_eq s

set_option maxHeartbeats 1000000 in
theorem opart_any (s t : ByteArray) (w : World) (hs : s.size ≤ maxLen) (ht : t.size ≤ maxLen) :
    Calls Tryz.prog 155 #[.string s, .string t] w fun e w' => e = .returned (.int .i64 (ordPartN s.data.toList t.data.toList)) ∧ w' = w := by
  have HO := hid (show ordPartN s.data.toList t.data.toList = if digs s.data.toList then (if digs t.data.toList then Lib.compareInt (num s.data.toList).1 (num t.data.toList).1 else -1) else if digs t.data.toList then 1 else Lib.compareBytes s.data.toList t.data.toList from rfl)
  have HS := hid (areDigits_any s w hs)
  have HT := hid (areDigits_any t w ht)
  have NS := hid (numberOf_any s w hs)
  have NT := hid (numberOf_any t w ht)
  have HI := hid (sign_int (num s.data.toList).1 (num t.data.toList).1)
  have HB := hid ((sign_bytes s.toList t.toList).trans (by rw [toList_data, toList_data]))
  have hgt : ∀ W : World, (binOp BinOp.gtr 9 (.string s) (.string t)).run Tryz.prog W = .ok (.bool (!(Op.bytesLess s.toList t.toList || s.toList == t.toList))) W := fun _ => rfl
  clear hs ht
  cases h1 : digs s.data.toList
  all_goals cases h2 : digs t.data.toList
  all_goals rw [h1] at HS HO
  all_goals rw [h2] at HT HO
  all_goals clear h1 h2
  · go_enter Tryz.func155, Tryz.ntmps155
    go_wp2_with fail
    refine HS.out.mono ?_
    rintro e w' ⟨rfl, rfl⟩
    go_wp2_with fail
    refine HT.out.mono ?_
    rintro e w' ⟨rfl, rfl⟩
    go_wp2_with fail
    refine (sign_is _ _ (Lib.compareBytes s.data.toList t.data.toList) _ ?hk).mono ?_
    case hk => rw [← Bool.not_or]; exact HB.out
    rintro e w' ⟨rfl, rfl⟩
    go_wp2_with fail
    go_ret
    exact ⟨ret_int (by rw [HO.out]; rfl), rfl⟩
  · go_enter Tryz.func155, Tryz.ntmps155
    go_wp2_with fail
    refine HS.out.mono ?_
    rintro e w' ⟨rfl, rfl⟩
    go_wp2_with fail
    refine HT.out.mono ?_
    rintro e w' ⟨rfl, rfl⟩
    go_wp2_with fail
    refine (sign_is _ _ 1 _ rfl).mono ?_
    rintro e w' ⟨rfl, rfl⟩
    go_wp2_with fail
    go_ret
    exact ⟨ret_int (by rw [HO.out]; rfl), rfl⟩
  · go_enter Tryz.func155, Tryz.ntmps155
    go_wp2_with fail
    refine HS.out.mono ?_
    rintro e w' ⟨rfl, rfl⟩
    go_wp2_with fail
    refine HT.out.mono ?_
    rintro e w' ⟨rfl, rfl⟩
    go_wp2_with fail
    refine (sign_is _ _ (-1) _ rfl).mono ?_
    rintro e w' ⟨rfl, rfl⟩
    go_wp2_with fail
    go_ret
    exact ⟨ret_int (by rw [HO.out]; rfl), rfl⟩
  · go_enter Tryz.func155, Tryz.ntmps155
    go_wp2_with fail
    refine HS.out.mono ?_
    rintro e w' ⟨rfl, rfl⟩
    go_wp2_with fail
    refine HT.out.mono ?_
    rintro e w' ⟨rfl, rfl⟩
    go_wp2_with fail
    refine NS.out.mono ?_
    rintro e w' ⟨rfl, rfl⟩
    go_wp2_with fail
    refine NT.out.mono ?_
    rintro e w' ⟨rfl, rfl⟩
    go_wp2_with fail
    refine (sign_is _ _ _ _ HI.out).mono ?_
    rintro e w' ⟨rfl, rfl⟩
    go_wp2_with fail
    go_ret
    exact ⟨ret_int (by rw [HO.out]; rfl), rfl⟩

theorem isVer_any (s : ByteArray) (w : World) (hs : s.size < 4294967281) :
    Calls Tryz.prog 121 #[.string s] w fun e w' => e = .returned (.bool (decide (verErr s.data.toList = 0))) ∧ Below w.heap.size w w' := by
  have HV := hid (verOf_any s w hs)
  by_cases h : verErr s.data.toList = 0
  · have HH := hid h
    clear h
    go_enter Tryz.func121, Tryz.ntmps121
    go_wp2_with fail
    refine HV.out.mono ?_
    rintro e w1 ⟨h1, hb⟩
    have HB := hid hb
    clear hb
    rcases h1 with ⟨h1, _⟩ | ⟨_, sa, cap, X2, rfl, _⟩
    · exact absurd HH.out h1
    go_wp2_with fail
    go_ret
    exact ⟨ret_bool (by rw [HH.out]; rfl), HB.out.alloc HB.out.size _⟩
  · have HH := hid h
    have hz : ((verErr s.data.toList : Int) == 0) = false := beq_eq_false_iff_ne.2 (by omega)
    clear h
    go_enter Tryz.func121, Tryz.ntmps121
    go_wp2_with fail
    refine HV.out.mono ?_
    rintro e w1 ⟨h1, hb⟩
    have HB := hid hb
    clear hb
    rcases h1 with ⟨_, rfl⟩ | ⟨h1, _⟩
    · go_wp2_with fail
      go_ret
      exact ⟨ret_bool (by rw [decide_eq_false HH.out]), HB.out.alloc HB.out.size _⟩
    · exact absurd h1 HH.out
end Ve
end Go.Proofs.YtffjaliegglddaaGreatDoor

/-
  What the document's OrderVer answers for two versions: their order; nothing old in memory turns.
-/
namespace Go.Proofs.YtffjaliegglddaaGreatDoor
open Go.RowKit
namespace Ve

/-- What VerOf answers for a version. -/
def GoodV (w w' : World) (e : Ending) (x y z : Int) (X : List ByteArray) : Prop :=
  (∃ sa cap, e = .returned (.tuple #[.agg #[.int .i64 x, .int .i64 y, .int .i64 z, .slice sa X.length cap], .int .i64 0]) ∧ (X = [] ∨ ∃ g, sa = some ⟨g, 0, none⟩ ∧ ∀ j (hj : j < X.length), w'.cell? ⟨g, j, none⟩ = some (.string X[j]))) ∧ Below w.heap.size w w'

theorem verOf_good (s : ByteArray) (w : World) (hs : s.size < 4294967281) (h : verErr s.data.toList = 0) (X : List ByteArray) (hX : bl X = preOf s.data.toList) :
    Calls Tryz.prog 45 #[.string s] w fun e w' => GoodV w w' e (nAt s.data.toList 0) (nAt s.data.toList 1) (nAt s.data.toList 2) X :=
  (verOf_any s w hs).mono fun e w' ⟨h1, hb⟩ => by
    rcases h1 with ⟨h1, _⟩ | ⟨_, sa, cap, X2, e1, e2, e3⟩
    · exact absurd h h1
    · obtain rfl : X2 = X := bl_inj (e2.trans hX.symm)
      exact ⟨⟨sa, cap, e1, e3⟩, hb⟩

/-- What the loop over two pres reads. -/
structure Os (w W : World) (P Q ga gb ca cb : Nat) (X Y : List ByteArray) : Prop where
  bl : Below w.heap.size w W
  p3 : W.cell? ⟨P, 3, none⟩ = some (.slice (some ⟨ga, 0, none⟩) X.length ca)
  q3 : W.cell? ⟨Q, 3, none⟩ = some (.slice (some ⟨gb, 0, none⟩) Y.length cb)
  xs : ∀ j (hj : j < X.length), W.cell? ⟨ga, j, none⟩ = some (.string X[j])
  ys : ∀ j (hj : j < Y.length), W.cell? ⟨gb, j, none⟩ = some (.string Y[j])

theorem lt_sign {x y : Int} (h : x ≠ y) : Lib.compareInt x y = (if decide (x < y) then (-1 : Int) else if (true : Bool) = true then 1 else 0) := by
  unfold Lib.compareInt
  by_cases h1 : x < y
  · simp [h1]
  · simp [h1]; omega

set_option maxHeartbeats 2000000 in
theorem over_0 (x x' y y' z z' : Int) (X Y : List ByteArray) (s t : ByteArray) (w : World) (hn : x ≠ x')
    (hA : Calls Tryz.prog 45 #[.string s] w fun e w' => GoodV w w' e x y z X) (hT : ∀ W, Calls Tryz.prog 45 #[.string t] W fun e w' => GoodV W w' e x' y' z' Y) :
    Calls Tryz.prog 122 #[.string s, .string t] w fun e w' => e = .returned (.int .i64 (Lib.compareInt x x')) ∧ Below w.heap.size w w' := by
  have hq : (x == x') = false := beq_eq_false_iff_ne.2 hn
  have HK := hid (lt_sign hn).symm
  clear hn
  have HA := hid hA
  have HT := hid hT
  clear hA hT
  go_enter Tryz.func122, Tryz.ntmps122
  go_wp2_with fail
  refine HA.out.mono ?_
  rintro e w1 ⟨⟨sa, ca, rfl, hc1⟩, hb1⟩
  have HC1 := hid hc1
  have HB1 := hid hb1
  clear hc1 hb1
  go_wp2_with fail
  refine (HT.out _).mono ?_
  rintro e w2 ⟨⟨sb, cb, rfl, hc2⟩, hb2⟩
  have HC2 := hid hc2
  obtain ⟨⟨r0, r1, r2, r3⟩, rf, rz⟩ := res4 (hb2.mono (by simp))
  have HB2 := hid (((Below.refl w1.heap.size w1).alloc (Nat.le_refl _) _).trans (hb2.mono (by simp)))
  have HB := hid ((HB1.out.trans (HB2.out.mono HB1.out.size)).alloc (HB1.out.trans (HB2.out.mono HB1.out.size)).size (.cells #[.int .i64 x', .int .i64 y', .int .i64 z', .slice sb Y.length cb] 81))
  clear hc2 hb2
  go_wp2_with fail
  refine wp_loop_rounds 1 ?_
  rw [rounds_succ]
  go_wp2_with fail
  go_quiet (fail)
  go_wp2_with fail
  go_quiet (first | (go_at_call 154; refine (sign_is _ _ (Lib.compareInt x x') _ HK.out).mono fun e w' h => ⟨h.1, _, h.2⟩))
  go_wp2_with fail
  go_ret
  exact ⟨rfl, by first | exact below_drew (below_drew HB.out _) _ | exact below_drew (below_drew (below_drew HB.out _) _) _ | exact below_drew (below_drew (below_drew (below_drew HB.out _) _) _) _⟩

set_option maxHeartbeats 2000000 in
theorem over_1 (x y y' z z' : Int) (X Y : List ByteArray) (s t : ByteArray) (w : World) (hn : y ≠ y')
    (hA : Calls Tryz.prog 45 #[.string s] w fun e w' => GoodV w w' e x y z X) (hT : ∀ W, Calls Tryz.prog 45 #[.string t] W fun e w' => GoodV W w' e x y' z' Y) :
    Calls Tryz.prog 122 #[.string s, .string t] w fun e w' => e = .returned (.int .i64 (Lib.compareInt y y')) ∧ Below w.heap.size w w' := by
  have hq : (y == y') = false := beq_eq_false_iff_ne.2 hn
  have HK := hid (lt_sign hn).symm
  clear hn
  have HA := hid hA
  have HT := hid hT
  clear hA hT
  go_enter Tryz.func122, Tryz.ntmps122
  go_wp2_with fail
  refine HA.out.mono ?_
  rintro e w1 ⟨⟨sa, ca, rfl, hc1⟩, hb1⟩
  have HC1 := hid hc1
  have HB1 := hid hb1
  clear hc1 hb1
  go_wp2_with fail
  refine (HT.out _).mono ?_
  rintro e w2 ⟨⟨sb, cb, rfl, hc2⟩, hb2⟩
  have HC2 := hid hc2
  obtain ⟨⟨r0, r1, r2, r3⟩, rf, rz⟩ := res4 (hb2.mono (by simp))
  have HB2 := hid (((Below.refl w1.heap.size w1).alloc (Nat.le_refl _) _).trans (hb2.mono (by simp)))
  have HB := hid ((HB1.out.trans (HB2.out.mono HB1.out.size)).alloc (HB1.out.trans (HB2.out.mono HB1.out.size)).size (.cells #[.int .i64 x, .int .i64 y', .int .i64 z', .slice sb Y.length cb] 81))
  clear hc2 hb2
  go_wp2_with fail
  refine wp_loop_rounds 2 ?_
  rw [rounds_succ]
  go_wp2_with fail
  go_quiet (fail)
  go_wp2_with fail
  rw [rounds_succ]
  go_wp2_with fail
  go_quiet (fail)
  go_wp2_with fail
  go_quiet (first | (go_at_call 154; refine (sign_is _ _ (Lib.compareInt y y') _ HK.out).mono fun e w' h => ⟨h.1, _, h.2⟩))
  go_wp2_with fail
  go_ret
  exact ⟨rfl, by first | exact below_drew (below_drew HB.out _) _ | exact below_drew (below_drew (below_drew HB.out _) _) _ | exact below_drew (below_drew (below_drew (below_drew HB.out _) _) _) _⟩

set_option maxHeartbeats 2000000 in
theorem over_2 (x y z z' : Int) (X Y : List ByteArray) (s t : ByteArray) (w : World) (hn : z ≠ z')
    (hA : Calls Tryz.prog 45 #[.string s] w fun e w' => GoodV w w' e x y z X) (hT : ∀ W, Calls Tryz.prog 45 #[.string t] W fun e w' => GoodV W w' e x y z' Y) :
    Calls Tryz.prog 122 #[.string s, .string t] w fun e w' => e = .returned (.int .i64 (Lib.compareInt z z')) ∧ Below w.heap.size w w' := by
  have hq : (z == z') = false := beq_eq_false_iff_ne.2 hn
  have HK := hid (lt_sign hn).symm
  clear hn
  have HA := hid hA
  have HT := hid hT
  clear hA hT
  go_enter Tryz.func122, Tryz.ntmps122
  go_wp2_with fail
  refine HA.out.mono ?_
  rintro e w1 ⟨⟨sa, ca, rfl, hc1⟩, hb1⟩
  have HC1 := hid hc1
  have HB1 := hid hb1
  clear hc1 hb1
  go_wp2_with fail
  refine (HT.out _).mono ?_
  rintro e w2 ⟨⟨sb, cb, rfl, hc2⟩, hb2⟩
  have HC2 := hid hc2
  obtain ⟨⟨r0, r1, r2, r3⟩, rf, rz⟩ := res4 (hb2.mono (by simp))
  have HB2 := hid (((Below.refl w1.heap.size w1).alloc (Nat.le_refl _) _).trans (hb2.mono (by simp)))
  have HB := hid ((HB1.out.trans (HB2.out.mono HB1.out.size)).alloc (HB1.out.trans (HB2.out.mono HB1.out.size)).size (.cells #[.int .i64 x, .int .i64 y, .int .i64 z', .slice sb Y.length cb] 81))
  clear hc2 hb2
  go_wp2_with fail
  refine wp_loop_rounds 3 ?_
  rw [rounds_succ]
  go_wp2_with fail
  go_quiet (fail)
  go_wp2_with fail
  rw [rounds_succ]
  go_wp2_with fail
  go_quiet (fail)
  go_wp2_with fail
  rw [rounds_succ]
  go_wp2_with fail
  go_quiet (fail)
  go_wp2_with fail
  go_quiet (first | (go_at_call 154; refine (sign_is _ _ (Lib.compareInt z z') _ HK.out).mono fun e w' h => ⟨h.1, _, h.2⟩))
  go_wp2_with fail
  go_ret
  exact ⟨rfl, by first | exact below_drew (below_drew HB.out _) _ | exact below_drew (below_drew (below_drew HB.out _) _) _ | exact below_drew (below_drew (below_drew (below_drew HB.out _) _) _) _⟩

set_option maxHeartbeats 2000000 in
theorem over_none0 (x y z : Int) (s t : ByteArray) (w : World)
    (hA : Calls Tryz.prog 45 #[.string s] w fun e w' => GoodV w w' e x y z []) (hT : ∀ W, Calls Tryz.prog 45 #[.string t] W fun e w' => GoodV W w' e x y z []) :
    Calls Tryz.prog 122 #[.string s, .string t] w fun e w' => e = .returned (.int .i64 (0)) ∧ Below w.heap.size w w' := by
  have HA := hid hA
  have HT := hid hT
  clear hA hT
  go_enter Tryz.func122, Tryz.ntmps122
  go_wp2_with fail
  refine HA.out.mono ?_
  rintro e w1 ⟨⟨sa, ca, rfl, hc1⟩, hb1⟩
  have HC1 := hid hc1
  have HB1 := hid hb1
  clear hc1 hb1
  go_wp2_with fail
  refine (HT.out _).mono ?_
  rintro e w2 ⟨⟨sb, cb, rfl, hc2⟩, hb2⟩
  have HC2 := hid hc2
  obtain ⟨⟨r0, r1, r2, r3⟩, rf, rz⟩ := res4 (hb2.mono (by simp))
  have HB2 := hid (((Below.refl w1.heap.size w1).alloc (Nat.le_refl _) _).trans (hb2.mono (by simp)))
  have HB := hid ((HB1.out.trans (HB2.out.mono HB1.out.size)).alloc (HB1.out.trans (HB2.out.mono HB1.out.size)).size (.cells #[.int .i64 x, .int .i64 y, .int .i64 z, .slice sb 0 cb] 81))
  clear hc2 hb2
  go_wp2_with fail
  refine wp_loop_rounds 4 ?_
  rw [rounds_succ]
  go_wp2_with fail
  go_quiet (fail)
  go_wp2_with fail
  rw [rounds_succ]
  go_wp2_with fail
  go_quiet (fail)
  go_wp2_with fail
  rw [rounds_succ]
  go_wp2_with fail
  go_quiet (fail)
  go_wp2_with fail
  rw [rounds_succ]
  go_wp2_with fail
  refine (sign_is _ _ (0) _ rfl).mono ?_
  rintro e w' ⟨rfl, rfl⟩
  go_wp2_with fail
  go_ret
  exact ⟨rfl, below_drew HB.out _⟩

set_option maxHeartbeats 2000000 in
theorem over_none1 (x y z : Int) (Y : List ByteArray) (s t : ByteArray) (w : World) (hp : 0 < Y.length) (hl : Y.length ≤ 1000000)
    (hA : Calls Tryz.prog 45 #[.string s] w fun e w' => GoodV w w' e x y z []) (hT : ∀ W, Calls Tryz.prog 45 #[.string t] W fun e w' => GoodV W w' e x y z Y) :
    Calls Tryz.prog 122 #[.string s, .string t] w fun e w' => e = .returned (.int .i64 (1)) ∧ Below w.heap.size w w' := by
  have h0 : ((Y.length : Int) == 0) = false := beq_eq_false_iff_ne.2 (by omega)
  have HA := hid hA
  have HT := hid hT
  clear hA hT
  go_enter Tryz.func122, Tryz.ntmps122
  go_wp2_with fail
  refine HA.out.mono ?_
  rintro e w1 ⟨⟨sa, ca, rfl, hc1⟩, hb1⟩
  have HC1 := hid hc1
  have HB1 := hid hb1
  clear hc1 hb1
  go_wp2_with fail
  refine (HT.out _).mono ?_
  rintro e w2 ⟨⟨sb, cb, rfl, hc2⟩, hb2⟩
  have HC2 := hid hc2
  obtain ⟨⟨r0, r1, r2, r3⟩, rf, rz⟩ := res4 (hb2.mono (by simp))
  have HB2 := hid (((Below.refl w1.heap.size w1).alloc (Nat.le_refl _) _).trans (hb2.mono (by simp)))
  have HB := hid ((HB1.out.trans (HB2.out.mono HB1.out.size)).alloc (HB1.out.trans (HB2.out.mono HB1.out.size)).size (.cells #[.int .i64 x, .int .i64 y, .int .i64 z, .slice sb Y.length cb] 81))
  clear hc2 hb2
  go_wp2_with fail
  refine wp_loop_rounds 4 ?_
  rw [rounds_succ]
  go_wp2_with fail
  go_quiet (fail)
  go_wp2_with fail
  rw [rounds_succ]
  go_wp2_with fail
  go_quiet (fail)
  go_wp2_with fail
  rw [rounds_succ]
  go_wp2_with fail
  go_quiet (fail)
  go_wp2_with fail
  rw [rounds_succ]
  go_wp2_with fail
  refine (sign_is _ _ (1) _ rfl).mono ?_
  rintro e w' ⟨rfl, rfl⟩
  go_wp2_with fail
  go_ret
  exact ⟨rfl, below_drew HB.out _⟩

set_option maxHeartbeats 2000000 in
theorem over_none2 (x y z : Int) (X : List ByteArray) (s t : ByteArray) (w : World) (hp : 0 < X.length) (hl : X.length ≤ 1000000)
    (hA : Calls Tryz.prog 45 #[.string s] w fun e w' => GoodV w w' e x y z X) (hT : ∀ W, Calls Tryz.prog 45 #[.string t] W fun e w' => GoodV W w' e x y z []) :
    Calls Tryz.prog 122 #[.string s, .string t] w fun e w' => e = .returned (.int .i64 (-1)) ∧ Below w.heap.size w w' := by
  have h0 : ((X.length : Int) == 0) = false := beq_eq_false_iff_ne.2 (by omega)
  have HA := hid hA
  have HT := hid hT
  clear hA hT
  go_enter Tryz.func122, Tryz.ntmps122
  go_wp2_with fail
  refine HA.out.mono ?_
  rintro e w1 ⟨⟨sa, ca, rfl, hc1⟩, hb1⟩
  have HC1 := hid hc1
  have HB1 := hid hb1
  clear hc1 hb1
  go_wp2_with fail
  refine (HT.out _).mono ?_
  rintro e w2 ⟨⟨sb, cb, rfl, hc2⟩, hb2⟩
  have HC2 := hid hc2
  obtain ⟨⟨r0, r1, r2, r3⟩, rf, rz⟩ := res4 (hb2.mono (by simp))
  have HB2 := hid (((Below.refl w1.heap.size w1).alloc (Nat.le_refl _) _).trans (hb2.mono (by simp)))
  have HB := hid ((HB1.out.trans (HB2.out.mono HB1.out.size)).alloc (HB1.out.trans (HB2.out.mono HB1.out.size)).size (.cells #[.int .i64 x, .int .i64 y, .int .i64 z, .slice sb 0 cb] 81))
  clear hc2 hb2
  go_wp2_with fail
  refine wp_loop_rounds 4 ?_
  rw [rounds_succ]
  go_wp2_with fail
  go_quiet (fail)
  go_wp2_with fail
  rw [rounds_succ]
  go_wp2_with fail
  go_quiet (fail)
  go_wp2_with fail
  rw [rounds_succ]
  go_wp2_with fail
  go_quiet (fail)
  go_wp2_with fail
  rw [rounds_succ]
  go_wp2_with fail
  refine (sign_is _ _ (-1) _ rfl).mono ?_
  rintro e w' ⟨rfl, rfl⟩
  go_wp2_with fail
  go_ret
  exact ⟨rfl, below_drew HB.out _⟩

set_option maxHeartbeats 4000000 in
theorem over_some (x y z : Int) (X Y : List ByteArray) (s t : ByteArray) (w : World) (hp : 0 < X.length) (hp2 : 0 < Y.length) (hl : X.length ≤ 1000000) (hl2 : Y.length ≤ 1000000) (hXs : ∀ x, x ∈ X → x.size ≤ maxLen ∧ part x.data.toList = 0) (hYs : ∀ x, x ∈ Y → x.size ≤ maxLen ∧ part x.data.toList = 0)
    (hA : Calls Tryz.prog 45 #[.string s] w fun e w' => GoodV w w' e x y z X) (hT : ∀ W, Calls Tryz.prog 45 #[.string t] W fun e w' => GoodV W w' e x y z Y) :
    Calls Tryz.prog 122 #[.string s, .string t] w fun e w' => e = .returned (.int .i64 (ordPs (bl X) (bl Y))) ∧ Below w.heap.size w w' := by
  have h0 : ((X.length : Int) == 0) = false := beq_eq_false_iff_ne.2 (by omega)
  have h02 : ((Y.length : Int) == 0) = false := beq_eq_false_iff_ne.2 (by omega)
  have HXS := hid hXs
  have HYS := hid hYs
  clear hXs hYs
  have HA := hid hA
  have HT := hid hT
  clear hA hT
  go_enter Tryz.func122, Tryz.ntmps122
  go_wp2_with fail
  refine HA.out.mono ?_
  rintro e w1 ⟨⟨sa, ca, rfl, hc1⟩, hb1⟩
  have HC1 := hid hc1
  have HB1 := hid hb1
  clear hc1 hb1
  go_wp2_with fail
  refine (HT.out _).mono ?_
  rintro e w2 ⟨⟨sb, cb, rfl, hc2⟩, hb2⟩
  have HC2 := hid hc2
  obtain ⟨⟨r0, r1, r2, r3⟩, rf, rz⟩ := res4 (hb2.mono (by simp))
  have HB2 := hid (((Below.refl w1.heap.size w1).alloc (Nat.le_refl _) _).trans (hb2.mono (by simp)))
  have HB := hid ((HB1.out.trans (HB2.out.mono HB1.out.size)).alloc (HB1.out.trans (HB2.out.mono HB1.out.size)).size (.cells #[.int .i64 x, .int .i64 y, .int .i64 z, .slice sb Y.length cb] 81))
  clear hc2 hb2
  go_wp2_with fail
  obtain ⟨ga, rfl, hca⟩ : ∃ g, sa = some ⟨g, 0, none⟩ ∧ ∀ j (hj : j < X.length), w1.cell? ⟨g, j, none⟩ = some (.string X[j]) := by
    rcases HC1.out with h | h
    · subst h; simp at hp
    · exact h
  obtain ⟨gb, rfl, hcb⟩ : ∃ g, sb = some ⟨g, 0, none⟩ ∧ ∀ j (hj : j < Y.length), w2.cell? ⟨g, j, none⟩ = some (.string Y[j]) := by
    rcases HC2.out with h | h
    · subst h; simp at hp2
    · exact h
  have HCA := hid (fun j (hj : j < X.length) => cell_below HB2.out (hca j hj))
  have HCB := hid hcb
  have HOS := hid (show Os w (w2.alloc (.cells #[.int .i64 x, .int .i64 y, .int .i64 z, .slice (some ⟨gb, 0, none⟩) Y.length cb] 81)) w1.heap.size w2.heap.size ga gb ca cb X Y from
    ⟨HB.out, by rw [World.cell?_alloc_lt _ _ _ (by show w1.heap.size < _; exact rz)]; exact r3, by rw [World.cell?_alloc_at _ _ _ _ rfl]; rfl,
      fun j hj => by rw [World.cell?_alloc_lt _ _ _ (lt_of_cell (HCA.out j hj))]; exact HCA.out j hj, fun j hj => by rw [World.cell?_alloc_lt _ _ _ (lt_of_cell (HCB.out j hj))]; exact HCB.out j hj⟩)
  clear hca hcb HC1 HC2
  refine wp_loop_rounds 4 ?_
  rw [rounds_succ]
  go_wp2_with fail
  go_quiet (fail)
  go_wp2_with fail
  rw [rounds_succ]
  go_wp2_with fail
  go_quiet (fail)
  go_wp2_with fail
  rw [rounds_succ]
  go_wp2_with fail
  go_quiet (fail)
  go_wp2_with fail
  rw [rounds_succ]
  go_wp2_with fail
  go_loopw [10] (fun i wr => ∃ (k d : Nat) (W : World), k ≤ X.length ∧ k ≤ Y.length ∧ i = .int .i64 k ∧ Hid (ordPs (bl X) (bl Y) = ordPs (bl (X.drop k)) (bl (Y.drop k))) ∧ Hid (Os w W w1.heap.size w2.heap.size ga gb ca cb X Y) ∧ wr = W.drewN d) (fun i _ => X.length - (intOf i).toNat)
  case atStart => exact ⟨0, _, _, Nat.zero_le _, Nat.zero_le _, rfl, hid rfl, HOS, rfl⟩
  case round =>
    clear HB HB1 HB2 r0 r1 r2 r3 rf rz
    obtain ⟨k, d, W, hk, hk2, rfl, HO, HW, rfl⟩ := hrel
    have p3 := HW.out.p3
    have q3 := HW.out.q3
    by_cases hlt : k < X.length
    · have t1 : decide ((k : Int) < (X.length : Int)) = true := decide_eq_true (by omega)
      by_cases hlt2 : k < Y.length
      · have t2 : decide ((k : Int) < (Y.length : Int)) = true := decide_eq_true (by omega)
        have hx := HW.out.xs k hlt
        have hy := HW.out.ys k hlt2
        have HP := hid (fun W => opart_any X[k] Y[k] W (HXS.out _ (List.getElem_mem hlt)).1 (HYS.out _ (List.getElem_mem hlt2)).1)
        rw [ordPart_num (HXS.out _ (List.getElem_mem hlt)).2 (HYS.out _ (List.getElem_mem hlt2)).2] at HP
        have HN := hid (HO.out.trans (ordPs_step X Y k hlt hlt2))
        generalize hq : ordPart X[k].data.toList Y[k].data.toList = q at *
        clear hq HO
        by_cases hz : q = 0
        · subst hz
          go_wp2_with fail
          go_quiet (first | (go_at_call 155; refine (HP.out _).mono fun e w' h => ⟨h.1, _, h.2⟩))
          go_wp2_with fail
          go_roundw
          case rel => exact ⟨k + 1, _, W, by omega, by omega, by go_num, hid (HN.out.trans (fst0 _)), HW, rfl⟩
          case measure => simp [intOf]; omega
        · have hqb : (q == 0) = false := beq_eq_false_iff_ne.2 hz
          have HF := hid (HN.out.trans (fst_ne _ hz))
          clear hz
          go_wp2_with fail
          go_quiet (first | (go_at_call 155; refine (HP.out _).mono fun e w' h => ⟨h.1, _, h.2⟩))
          go_wp2_with fail
          go_ret
          exact ⟨ret_int HF.out.symm, by first | exact below_drew HW.out.bl _ | exact below_drew (below_drew HW.out.bl _) _ | exact below_drew (below_drew (below_drew HW.out.bl _) _) _⟩
      · have HF := hid (HO.out.trans (ordPs_long X Y k hlt (by omega)))
        have t2 : decide ((k : Int) < (Y.length : Int)) = false := decide_eq_false (by omega)
        clear HO
        go_wp2_with fail
        refine (sign_is _ _ 1 _ ?hk).mono ?_
        case hk => simp [show ¬ X.length < Y.length by omega, show Y.length < X.length by omega]
        rintro e w' ⟨rfl, rfl⟩
        go_wp2_with fail
        go_ret
        exact ⟨ret_int HF.out.symm, by first | exact below_drew HW.out.bl _ | exact below_drew (below_drew HW.out.bl _) _ | exact below_drew (below_drew (below_drew HW.out.bl _) _) _⟩
    · have t1 : decide ((k : Int) < (X.length : Int)) = false := decide_eq_false (by omega)
      by_cases hlt2 : X.length < Y.length
      · have HF := hid (HO.out.trans (ordPs_short X Y k (by omega) (by omega)))
        clear HO
        go_wp2_with fail
        refine (sign_is _ _ (-1) _ ?hk).mono ?_
        case hk => simp
        rintro e w' ⟨rfl, rfl⟩
        go_wp2_with fail
        go_ret
        exact ⟨ret_int HF.out.symm, by first | exact below_drew HW.out.bl _ | exact below_drew (below_drew HW.out.bl _) _ | exact below_drew (below_drew (below_drew HW.out.bl _) _) _⟩
      · have HF := hid (HO.out.trans (ordPs_end X Y k (by omega) (by omega)))
        clear HO
        go_wp2_with fail
        refine (sign_is _ _ 0 _ ?hk).mono ?_
        case hk => simp [show ¬ Y.length < X.length by omega]
        rintro e w' ⟨rfl, rfl⟩
        go_wp2_with fail
        go_ret
        exact ⟨ret_int HF.out.symm, by first | exact below_drew HW.out.bl _ | exact below_drew (below_drew HW.out.bl _) _ | exact below_drew (below_drew (below_drew HW.out.bl _) _) _⟩

theorem orderVer_any (s t : ByteArray) (w : World) (hs : s.size < 999999) (ht : t.size < 999999) (h1 : verErr s.data.toList = 0) (h2 : verErr t.data.toList = 0) :
    Calls Tryz.prog 122 #[.string s, .string t] w fun e w' => e = .returned (.int .i64 (ordV s.data.toList t.data.toList)) ∧ Below w.heap.size w w' := by
  obtain ⟨X, hX⟩ : ∃ X, bl X = preOf s.data.toList := ⟨_, bl_strs _⟩
  obtain ⟨Y, hY⟩ : ∃ X, bl X = preOf t.data.toList := ⟨_, bl_strs _⟩
  have hA := verOf_good s w (by omega) h1 X hX
  have hT := fun W => verOf_good t W (by omega) h2 Y hY
  have lX : X.length ≤ 1000000 := by have := pre_len (l := s.data.toList); rw [← hX, bl_len, len_eq] at this; omega
  have lY : Y.length ≤ 1000000 := by have := pre_len (l := t.data.toList); rw [← hY, bl_len, len_eq] at this; omega
  have pX : ∀ x, x ∈ X → x.size ≤ maxLen ∧ part x.data.toList = 0 := fun x hx => by
    have hm : x.data.toList ∈ preOf s.data.toList := hX ▸ bl_mem hx
    refine ⟨?_, ver_parts h1 _ hm⟩
    have := pre_size hm
    rw [len_eq, len_eq] at this
    unfold maxLen; omega
  have pY : ∀ x, x ∈ Y → x.size ≤ maxLen ∧ part x.data.toList = 0 := fun x hx => by
    have hm : x.data.toList ∈ preOf t.data.toList := hY ▸ bl_mem hx
    refine ⟨?_, ver_parts h2 _ hm⟩
    have := pre_size hm
    rw [len_eq, len_eq] at this
    unfold maxLen; omega
  unfold ordV
  rw [← hX, ← hY]
  generalize nAt s.data.toList 0 = x at *
  generalize nAt s.data.toList 1 = y at *
  generalize nAt s.data.toList 2 = z at *
  generalize nAt t.data.toList 0 = x' at *
  generalize nAt t.data.toList 1 = y' at *
  generalize nAt t.data.toList 2 = z' at *
  unfold ordN
  by_cases e0 : x = x'
  · subst e0
    rw [ci_self, fst0]
    by_cases e1 : y = y'
    · subst e1
      rw [ci_self, fst0]
      by_cases e2 : z = z'
      · subst e2
        rw [ci_self, fst0]
        unfold ordPre
        by_cases f0 : X = []
        · subst f0
          rw [if_pos (show bl [] = [] ∨ bl Y = [] from Or.inl rfl), bl_len]
          by_cases f1 : Y = []
          · subst f1
            exact over_none0 x y z s t w hA hT
          · have hp := List.length_pos_iff.2 f1
            rw [show Lib.compareInt (Y.length : Int) ((bl []).length : Int) = 1 from ci_gt (by show (0 : Int) < _; omega)]
            exact over_none1 x y z Y s t w hp lY hA hT
        · by_cases f1 : Y = []
          · subst f1
            have hp := List.length_pos_iff.2 f0
            rw [if_pos (show bl X = [] ∨ bl [] = [] from Or.inr rfl), bl_len X, show Lib.compareInt ((bl []).length : Int) (X.length : Int) = -1 from ci_lt (by show (0 : Int) < _; omega)]
            exact over_none2 x y z X s t w hp lX hA hT
          · rw [if_neg (by rintro (h | h); exact f0 (bl_nil.1 h); exact f1 (bl_nil.1 h))]
            exact over_some x y z X Y s t w (List.length_pos_iff.2 f0) (List.length_pos_iff.2 f1) lX lY pX pY hA hT
      · rw [fst_ne _ (fun h => e2 ((ci_zero _ _).1 h))]
        exact over_2 x y z z' X Y s t w e2 hA hT
    · rw [fst_ne _ (fun h => e1 ((ci_zero _ _).1 h))]
      exact over_1 x y y' z z' X Y s t w e1 hA hT
  · rw [fst_ne _ (fun h => e0 ((ci_zero _ _).1 h))]
    exact over_0 x x' y y' z z' X Y s t w e0 hA hT
end Ve
end Go.Proofs.YtffjaliegglddaaGreatDoor

/-
  What Check, Less and Max of package ver answer, and the document's IsLess and MaxOf: the same; nothing old in memory turns.
-/
namespace Go.Proofs.YtffjaliegglddaaGreatDoor
open Go.RowKit
namespace Ve

def maxB (s t : ByteArray) : ByteArray :=
  if verErr s.data.toList = 0 then (if verErr t.data.toList = 0 then (if ordV s.data.toList t.data.toList < 0 then t else s) else s) else if verErr t.data.toList = 0 then t else ⟨#[]⟩

set_option maxHeartbeats 1000000 in
theorem isLess_any (s t : ByteArray) (w : World) (hs : s.size < 999999) (ht : t.size < 999999) :
    Calls Tryz.prog 84 #[.string s, .string t] w fun e w' => e = .returned (.bool (lessB s.data.toList t.data.toList)) ∧ Below w.heap.size w w' := by
  have HL := hid (show lessB s.data.toList t.data.toList = (decide (verErr s.data.toList = 0) && (decide (verErr t.data.toList = 0) && decide (ordV s.data.toList t.data.toList < 0))) from rfl)
  have HA := hid (isVer_any s w (by omega))
  have HT := hid (fun W => isVer_any t W (by omega))
  by_cases h1 : verErr s.data.toList = 0
  all_goals by_cases h2 : verErr t.data.toList = 0
  · have HO := hid (fun W => orderVer_any s t W hs ht h1 h2)
    rw [decide_eq_true h1] at HA
    rw [decide_eq_true h2] at HT
    rw [decide_eq_true h1, decide_eq_true h2] at HL
    clear h1 h2
    generalize ordV s.data.toList t.data.toList = k at *
    go_enter Tryz.func84, Tryz.ntmps84
    go_wp2_with fail
    refine HA.out.mono ?_
    rintro e w1 ⟨rfl, hb1⟩
    have HB1 := hid hb1
    clear hb1
    go_wp2_with fail
    refine (HT.out _).mono ?_
    rintro e w2 ⟨rfl, hb2⟩
    have HB2 := hid (HB1.out.trans (hb2.mono HB1.out.size))
    clear hb2
    go_wp2_with fail
    refine (HO.out _).mono ?_
    rintro e w3 ⟨rfl, hb3⟩
    have HB3 := hid (HB2.out.trans (hb3.mono HB2.out.size))
    clear hb3
    go_wp2_with fail
    go_ret
    exact ⟨ret_bool (by rw [HL.out]; rfl), HB3.out⟩
  · rw [decide_eq_true h1] at HA
    rw [decide_eq_false h2] at HT
    rw [decide_eq_true h1, decide_eq_false h2] at HL
    clear h1 h2
    go_enter Tryz.func84, Tryz.ntmps84
    go_wp2_with fail
    refine HA.out.mono ?_
    rintro e w1 ⟨rfl, hb1⟩
    have HB1 := hid hb1
    clear hb1
    go_wp2_with fail
    refine (HT.out _).mono ?_
    rintro e w2 ⟨rfl, hb2⟩
    have HB2 := hid (HB1.out.trans (hb2.mono HB1.out.size))
    clear hb2
    go_wp2_with fail
    go_ret
    exact ⟨ret_bool (by rw [HL.out]; rfl), HB2.out⟩
  · rw [decide_eq_false h1] at HA
    rw [decide_eq_true h2] at HT
    rw [decide_eq_false h1] at HL
    clear h1 h2
    go_enter Tryz.func84, Tryz.ntmps84
    go_wp2_with fail
    refine HA.out.mono ?_
    rintro e w1 ⟨rfl, hb1⟩
    have HB1 := hid hb1
    clear hb1
    go_wp2_with fail
    refine (HT.out _).mono ?_
    rintro e w2 ⟨rfl, hb2⟩
    have HB2 := hid (HB1.out.trans (hb2.mono HB1.out.size))
    clear hb2
    go_wp2_with fail
    go_ret
    exact ⟨ret_bool (by rw [HL.out]; rfl), HB2.out⟩
  · rw [decide_eq_false h1] at HA
    rw [decide_eq_false h2] at HT
    rw [decide_eq_false h1] at HL
    clear h1 h2
    go_enter Tryz.func84, Tryz.ntmps84
    go_wp2_with fail
    refine HA.out.mono ?_
    rintro e w1 ⟨rfl, hb1⟩
    have HB1 := hid hb1
    clear hb1
    go_wp2_with fail
    refine (HT.out _).mono ?_
    rintro e w2 ⟨rfl, hb2⟩
    have HB2 := hid (HB1.out.trans (hb2.mono HB1.out.size))
    clear hb2
    go_wp2_with fail
    go_ret
    exact ⟨ret_bool (by rw [HL.out]; rfl), HB2.out⟩

theorem ret_str {a b : ByteArray} (h : a = b) : Ending.returned (.string a) = .returned (.string b) := by rw [h]
set_option maxHeartbeats 1000000 in
theorem maxOf_any (s t : ByteArray) (w : World) (hs : s.size < 999999) (ht : t.size < 999999) :
    Calls Tryz.prog 85 #[.string s, .string t] w fun e w' => e = .returned (.string (maxB s t)) ∧ Below w.heap.size w w' := by
  have HL := hid (show maxB s t = if verErr s.data.toList = 0 then (if verErr t.data.toList = 0 then (if ordV s.data.toList t.data.toList < 0 then t else s) else s) else if verErr t.data.toList = 0 then t else ⟨#[]⟩ from rfl)
  have HA := hid (isVer_any s w (by omega))
  have HT := hid (fun W => isVer_any t W (by omega))
  by_cases h1 : verErr s.data.toList = 0
  all_goals by_cases h2 : verErr t.data.toList = 0
  · have HO := hid (fun W => orderVer_any s t W hs ht h1 h2)
    rw [decide_eq_true h1] at HA
    rw [decide_eq_true h2] at HT
    rw [if_pos h1, if_pos h2] at HL
    clear h1 h2
    generalize ordV s.data.toList t.data.toList = k at *
    by_cases hk : k < 0
    · rw [if_pos hk] at HL
      go_enter Tryz.func85, Tryz.ntmps85
      go_wp2_with fail
      refine HA.out.mono ?_
      rintro e w1 ⟨rfl, hb1⟩
      have HB1 := hid hb1
      clear hb1
      go_wp2_with fail
      refine (HT.out _).mono ?_
      rintro e w2 ⟨rfl, hb2⟩
      have HB2 := hid (HB1.out.trans (hb2.mono HB1.out.size))
      clear hb2
      go_wp2_with fail
      refine (HO.out _).mono ?_
      rintro e w3 ⟨rfl, hb3⟩
      have HB3 := hid (HB2.out.trans (hb3.mono HB2.out.size))
      clear hb3
      go_wp2_with fail
      go_ret
      exact ⟨ret_str HL.out.symm, HB3.out⟩
    · rw [if_neg hk] at HL
      go_enter Tryz.func85, Tryz.ntmps85
      go_wp2_with fail
      refine HA.out.mono ?_
      rintro e w1 ⟨rfl, hb1⟩
      have HB1 := hid hb1
      clear hb1
      go_wp2_with fail
      refine (HT.out _).mono ?_
      rintro e w2 ⟨rfl, hb2⟩
      have HB2 := hid (HB1.out.trans (hb2.mono HB1.out.size))
      clear hb2
      go_wp2_with fail
      refine (HO.out _).mono ?_
      rintro e w3 ⟨rfl, hb3⟩
      have HB3 := hid (HB2.out.trans (hb3.mono HB2.out.size))
      clear hb3
      go_wp2_with fail
      go_ret
      exact ⟨ret_str HL.out.symm, HB3.out⟩
  · rw [decide_eq_true h1] at HA
    rw [decide_eq_false h2] at HT
    rw [if_pos h1, if_neg h2] at HL
    clear h1 h2
    go_enter Tryz.func85, Tryz.ntmps85
    go_wp2_with fail
    refine HA.out.mono ?_
    rintro e w1 ⟨rfl, hb1⟩
    have HB1 := hid hb1
    clear hb1
    go_wp2_with fail
    refine (HT.out _).mono ?_
    rintro e w2 ⟨rfl, hb2⟩
    have HB2 := hid (HB1.out.trans (hb2.mono HB1.out.size))
    clear hb2
    go_wp2_with fail
    go_ret
    exact ⟨ret_str HL.out.symm, HB2.out⟩
  · rw [decide_eq_false h1] at HA
    rw [decide_eq_true h2] at HT
    rw [if_neg h1, if_pos h2] at HL
    clear h1 h2
    go_enter Tryz.func85, Tryz.ntmps85
    go_wp2_with fail
    refine HA.out.mono ?_
    rintro e w1 ⟨rfl, hb1⟩
    have HB1 := hid hb1
    clear hb1
    go_wp2_with fail
    refine (HT.out _).mono ?_
    rintro e w2 ⟨rfl, hb2⟩
    have HB2 := hid (HB1.out.trans (hb2.mono HB1.out.size))
    clear hb2
    go_wp2_with fail
    go_ret
    exact ⟨ret_str HL.out.symm, HB2.out⟩
  · rw [decide_eq_false h1] at HA
    rw [decide_eq_false h2] at HT
    rw [if_neg h1, if_neg h2] at HL
    clear h1 h2
    go_enter Tryz.func85, Tryz.ntmps85
    go_wp2_with fail
    refine HA.out.mono ?_
    rintro e w1 ⟨rfl, hb1⟩
    have HB1 := hid hb1
    clear hb1
    go_wp2_with fail
    refine (HT.out _).mono ?_
    rintro e w2 ⟨rfl, hb2⟩
    have HB2 := hid (HB1.out.trans (hb2.mono HB1.out.size))
    clear hb2
    go_wp2_with fail
    go_ret
    exact ⟨ret_str HL.out.symm, HB2.out⟩

end Ve
end Go.Proofs.YtffjaliegglddaaGreatDoor

/-
  Modules appended to an own row; the document's IsAhead; what is reached rises.
-/
namespace Go.Proofs.YtffjaliegglddaaGreatDoor
open Go.RowKit Go.Maps
namespace Ve

/-- A row of modules, appended to an own one. -/
theorem both_run (X Y : List Bm) (dv sv : Value) (W : World) (B : Nat) (hB : B ≤ W.heap.size) (hX : X.length ≤ 1000) (hY : Y.length ≤ 1000) (ho : W.ownsRow B 25 2 dv X.length (flatM X)) (h : MsAt W sv Y) (he : Em sv Y) :
    ∃ v' W', (Builtin.append_ #[23, 23] 23 #[dv, sv]).run Tryz.prog W = .ok v' W' ∧ W'.ownsRow B 25 2 v' (X ++ Y).length (flatM (X ++ Y)) ∧ W.grownBy W' dv.ownBlock := by
  obtain ⟨i0, hi, hz0, hz1, hz2⟩ := info_parts infoMod
  obtain ⟨a, c, rfl, hc, h2⟩ := h
  have some_case : ∀ a', (∀ j u, (flatM Y)[j]? = some u → W.cell? (a'.add j) = some u) → ∃ v' W', (Builtin.append_ #[23, 23] 23 #[dv, .slice (some a') Y.length c]).run Tryz.prog W = .ok v' W' ∧ W'.ownsRow B 25 2 v' (X ++ Y).length (flatM (X ++ Y)) ∧ W.grownBy W' dv.ownBlock := fun a' hcell => by
    obtain ⟨v', W', h3, h4, h5, _⟩ := run_append_own (P := Tryz.prog) W B 23 23 25 i0 _ 2 32 Tryz.underlying23 hi hz0 hz1 hz2 rfl (by decide) dv X.length (flatM X) ho a' Y.length c (flatM Y) (flatM_len Y) hcell (flat_one Y) (by unfold maxLen; omega) (by omega) hB
    exact ⟨v', W', h3, by rw [List.length_append, flatM_app]; exact h4, h5⟩
  cases Y with
  | nil =>
    rcases he a c rfl rfl with hz | ⟨a', hz⟩
    · refine ⟨dv, W, ?_, by simpa using ho, ⟨rfl, rfl, rfl, Nat.le_refl _, fun _ _ _ => rfl⟩⟩
      show (Builtin.append_ #[23, 23] 23 #[dv, .slice a 0 c]).run Tryz.prog W = _
      rw [hz]
      exact run_append_owned_none (P := Tryz.prog) (w := W) B 23 23 25 i0 2 Tryz.underlying23 hi dv X.length (flatM X) ho
    · have hz' : (Value.slice a ([] : List Bm).length c) = .slice (some a') ([] : List Bm).length c := hz
      rw [hz']
      exact some_case a' (fun j u hj => by simp [flatM] at hj)
  | cons x r =>
    obtain ⟨b, o, rfl, hcell⟩ := h2 (by simp)
    exact some_case ⟨b, o, none⟩ (fun j u hj => by rw [Addr.add_lit]; exact ms_flat hcell j u hj)
set_option maxHeartbeats 1000000 in
/-- pewholderref1.IsAhead. -/
theorem isA_any (a b : Bm) (w : World) (hv : a.2.size < 999999) (hu : b.2.size < 999999) :
    Calls Tryz.prog 86 #[.agg #[.string a.1, .string a.2], .agg #[.string b.1, .string b.2]] w fun e w' => e = .returned (.bool (mAhead a b)) ∧ Below w.heap.size w w' := by
  obtain ⟨p, v⟩ := a
  obtain ⟨q, u⟩ := b
  have HO := hid (show mAhead (p, v) (q, u) = if p.data.toList = q.data.toList then lessB v.data.toList u.data.toList else decide (Lib.compareBytes p.data.toList q.data.toList < 0) from rfl)
  have HB0 := hid (((Below.refl w.heap.size w).alloc (Nat.le_refl _) (.cells #[.string p, .string v] 25)).alloc (by simp) (.cells #[.string q, .string u] 25))
  simp only at hv hu
  by_cases h : p = q
  · subst h
    rw [if_pos rfl] at HO
    have he := str_refl p
    have HL := hid (fun W => isLess_any v u W hv hu)
    go_enter Tryz.func86, Tryz.ntmps86
    go_wp2_with fail
    refine (HL.out _).mono ?_
    rintro e w1 ⟨rfl, hb⟩
    have HB := hid (HB0.out.trans (hb.mono HB0.out.size))
    clear hb
    go_wp2_with fail
    go_ret
    exact ⟨ret_bool HO.out.symm, HB.out⟩
  · rw [if_neg (fun e => h (str_ext e))] at HO
    have he := str_ne h
    have HC := hid (show Op.bytesLess p.toList q.toList = decide (Lib.compareBytes p.data.toList q.data.toList < 0) by rw [cb_less, ByteArray.toList_eq, ByteArray.toList_eq])
    clear h
    go_enter Tryz.func86, Tryz.ntmps86
    go_wp2_with fail
    go_ret
    exact ⟨ret_bool (by rw [HO.out, ← HC.out]), HB0.out⟩
theorem univ_eq {w : World} {v : Value} {Q : List Raw} {L : List Ent} (I : Ixs w v Q L) : Q.map (fun r => r.1) = univ L := by
  apply List.ext_getElem
  · simp [univ, I.ln]
  · intro j h1 h2
    have hq : j < Q.length := by simpa using h1
    have hl : j < L.length := by rw [← I.ln]; exact hq
    simp only [univ, List.getElem_map]
    exact (I.ok j hq hl).m
theorem univ_rises {Q : List Raw} {L : List Ent} (h : (chk Q L).1 = 0) : (univ L).Pairwise fun a b => mAhead a b = true := by
  rw [List.pairwise_iff_getElem]
  intro i j hi hj hij
  have hi2 : i < L.length := by simpa [univ] using hi
  have hj2 : j < L.length := by simpa [univ] using hj
  obtain ⟨d, rfl⟩ : ∃ d, j = i + d + 1 := ⟨j - i - 1, by omega⟩
  have := ahead_all (chk_each0 h).2 d i hj2
  simpa [univ] using this
theorem goM_rises {w : World} {v : Value} {Q : List Raw} {L : List Ent} {T : By} (I : Ixs w v Q L) (h : (chk Q L).1 = 0) : (goM T Q).Pairwise fun a b => mAhead a b = true := by
  have h1 := univ_rises h
  rw [← univ_eq I] at h1
  have h2 : (goM T Q).Sublist (Q.map fun r => r.1) := by
    unfold goM goQ
    exact List.Sublist.map _ List.filter_sublist
  exact h1.sublist h2
/-- What two lists of roots reach together is what each of them reaches. -/
theorem came_app {req : Bm → List Bm} {U a b : List Bm} {Ta Tb Tc : By} (ha : Came req U a Ta) (hb : Came req U b Tb) (hc : Came req U (a ++ b) Tc) (m : Bm) : cameB Tc m = (cameB Ta m || cameB Tb m) := by
  rw [Bool.eq_iff_iff, Bool.or_eq_true, hc.cameB, ha.cameB, hb.cameB]
  exact Rch.app
theorem goM_has {w : World} {v : Value} {Q : List Raw} {L : List Ent} {T : By} (I : Ixs w v Q L) {m : Bm} (hm : m ∈ univ L) : hasM (goM T Q) m = cameB T m := by
  rw [Bool.eq_iff_iff, hasM_iff]
  constructor
  · intro h
    obtain ⟨r, hr, rfl⟩ := List.mem_map.1 h
    exact (List.mem_filter.1 hr).2
  · intro h
    obtain ⟨e, he, rfl⟩ := List.mem_map.1 hm
    obtain ⟨j, hj, rfl⟩ := List.getElem_of_mem he
    have hjq : j < Q.length := by rw [I.ln]; exact hj
    have hm1 := (I.ok j hjq hj).m
    refine List.mem_map.2 ⟨Q[j], List.mem_filter.2 ⟨List.getElem_mem hjq, ?_⟩, hm1⟩
    show cameB T Q[j].1 = true
    rw [hm1]
    exact h
end Ve
end Go.Proofs.YtffjaliegglddaaGreatDoor

/-
  slices.Grow of nothing, and slices.Concat of two rows of modules.
-/
namespace Go.Proofs.YtffjaliegglddaaGreatDoor
open Go.RowKit
namespace Ve

theorem zero_len (n : Nat) : (Builtin.zeroCells (Value.agg #[.string ⟨#[]⟩, .string ⟨#[]⟩]).cells n).size = n * 2 := by
  simp [Builtin.zeroCells, Value.cells]
set_option maxHeartbeats 2000000 in
theorem grow_zero (w : World) : Calls Tryz.prog 104 #[.slice none 0 0, .int .i64 0] w fun e w' => e = .returned (.slice none 0 0) ∧ Below w.heap.size w w' := by
  go_enter Tryz.func104, Tryz.ntmps104
  go_wp2_with fail
  go_ret
  exact ⟨rfl, Below.refl _ _⟩
set_option maxRecDepth 100000 in
set_option maxHeartbeats 4000000 in
theorem grow_some (n : Nat) (w : World) (h0 : 0 < n) (hn : n ≤ 1000000) : Calls Tryz.prog 104 #[.slice none 0 0, .int .i64 (n : Int)] w fun e w' => ∃ v, e = .returned v ∧ w'.ownsRow w.heap.size 25 2 v 0 [] ∧ Below w.heap.size w w' := by
  obtain ⟨i0, hi, hz0, hz1, hz2⟩ := info_parts infoMod
  have HA := hid (fun (W : World) ty => Lib.run_append_nil_zeros (P := Tryz.prog) W 23 3 ty 25 i0 (.agg #[.string ⟨#[]⟩, .string ⟨#[]⟩]) .i64 .i64 Tryz.underlying23 Tryz.underlying3 hi hz0 n h0 (by rw [hz1]; omega) (by omega) (by rw [hz2]; omega))
  have hn0 : ¬ (n : Int) < 0 := by omega
  have hn1 : (0 : Int) < (n : Int) := by omega
  go_enter Tryz.func104, Tryz.ntmps104
  go_wp2_with (at_builtin; refine Lib.wpList_append_run _ rfl _ _ _ _ rfl _ _ rfl rfl _ _ (HA.out _ _) ?_)
  go_ret
  refine ⟨_, rfl, ⟨by simp, Or.inr ⟨w.heap.size, grownCap w n 0 25, _, rfl, Nat.le_refl _, heap_new w _, Nat.zero_le _, grownCap_le_maxLen w n 0 25 (by unfold maxLen; omega), ?_, by simp⟩⟩, below_drawn_of ((Below.refl w.heap.size w).alloc (Nat.le_refl _) _) 1⟩
  have h1 := zero_len n
  have h2 := zero_len (grownCap w n 0 25 - n)
  have h3 := grownCap_ge w n 0 25
  simp only [Value.cells] at h1 h2
  rw [Array.size_append, h1, h2]
  omega
set_option maxRecDepth 100000 in
set_option maxHeartbeats 8000000 in
/-- slices.Concat of two. -/
theorem cat_any (A B : List Bm) (va vb : Value) (lb : Nat) (w : World) (c0 : w.cell? ⟨lb, 0, none⟩ = some va) (c1 : w.cell? ⟨lb, 1, none⟩ = some vb) (hA : MsAt w va A) (hB : MsAt w vb B) (eA : Em va A) (eB : Em vb B) (lA : A.length ≤ 500) (lB : B.length ≤ 500) :
    Calls Tryz.prog 75 #[.slice (some ⟨lb, 0, none⟩) 2 2] w fun e w' => ∃ v, e = .returned v ∧ w'.ownsRow w.heap.size 25 2 v (A ++ B).length (flatM (A ++ B)) ∧ Below w.heap.size w w' := by
  obtain ⟨aa, ac, ea⟩ : ∃ a c, va = .slice a A.length c := by obtain ⟨a, c, e, _⟩ := hA; exact ⟨a, c, e⟩
  obtain ⟨ba, bc, eb⟩ : ∃ a c, vb = .slice a B.length c := by obtain ⟨a, c, e, _⟩ := hB; exact ⟨a, c, e⟩
  subst ea eb
  have HA := hid hA
  have HB := hid hB
  have HEA := hid eA
  have HEB := hid eB
  clear hA hB eA eB
  go_enter Tryz.func75, Tryz.ntmps75
  go_wp2_with fail
  go_loopw [3, 11] (fun s i wr => Hid (wr = w) ∧ ((s = .int .i64 0 ∧ i = .int .i64 0) ∨ (s = .int .i64 (A.length : Int) ∧ i = .int .i64 1) ∨ (s = .int .i64 ((A.length + B.length : Nat) : Int) ∧ i = .int .i64 2))) (fun _ i _ => 2 - (intOf i).toNat)
  case atStart => exact ⟨hid rfl, Or.inl ⟨rfl, rfl⟩⟩
  case round =>
    obtain ⟨HWR, ⟨rfl, rfl⟩ | ⟨rfl, rfl⟩ | ⟨rfl, rfl⟩⟩ := hrel
    all_goals obtain rfl := HWR.out
    all_goals clear HWR
    · have q1 : ¬ (A.length : Int) < 0 := by omega
      go_wp2_with fail
      go_roundw
      case rel => exact ⟨hid trivial, Or.inr (Or.inl ⟨rfl, rfl⟩)⟩
      case measure => decide
    · have q1 : ¬ (A.length : Int) + (B.length : Int) < 0 := by omega
      go_wp2_with fail
      go_roundw
      case rel => exact ⟨hid trivial, Or.inr (Or.inr ⟨by go_num, rfl⟩)⟩
      case measure => decide
    · have HG := hid (show Calls Tryz.prog 104 #[.slice none 0 0, .int .i64 ((A.length + B.length : Nat) : Int)] wr fun e w' => ∃ v, e = .returned v ∧ w'.ownsRow wr.heap.size 25 2 v 0 [] ∧ Below wr.heap.size wr w' by
        by_cases h0 : A.length + B.length = 0
        · rw [h0]
          exact (grow_zero wr).mono fun _ _ h => ⟨_, h.1, World.ownsRow_nil _ _ _ _, h.2⟩
        · exact grow_some (A.length + B.length) wr (by omega) (by omega))
      go_wp2_with fail
      refine HG.out.mono ?_
      rintro e w1 ⟨v0, rfl, hown, hb⟩
      have HO := hid hown
      have HBL := hid hb
      obtain ⟨oa, on, oc, hv0⟩ := own_sl hown
      subst hv0
      clear hown hb HG
      go_wp2_with fail
      go_loopw [6, 27] (fun v i W => ∃ (k : Nat) (X : List Bm), i = .int .i64 (k : Int) ∧ ((k = 0 ∧ X = []) ∨ (k = 1 ∧ X = A) ∨ (k = 2 ∧ X = A ++ B)) ∧ Hid (W.ownsRow wr.heap.size 25 2 v X.length (flatM X)) ∧ Hid (Below wr.heap.size wr W)) (fun _ i _ => 2 - (intOf i).toNat)
      case atStart => exact ⟨0, [], rfl, Or.inl ⟨rfl, rfl⟩, HO, HBL⟩
      case round =>
        obtain ⟨k, X, rfl, hk, HOW, HBW⟩ := hrel
        have HSZ := hid HBW.out.size
        rcases hk with ⟨rfl, rfl⟩ | ⟨rfl, rfl⟩ | ⟨rfl, rfl⟩
        · have d0 := cell_below HBW.out c0
          obtain ⟨v2, W2, hrun, ho2, hg2⟩ := both_run [] A _ _ wr _ HSZ.out (by simp) (by omega) HOW.out (HA.out.below HBW.out) HEA.out
          have HRUN := hid hrun
          have HO2 := hid (show W2.ownsRow _ 25 2 v2 A.length (flatM A) from ho2)
          have HB2 := hid (HBW.out.grown hg2 HBW.out.size (fun k hk => (HOW.out.lt k hk).1))
          clear hrun ho2 hg2
          go_wp2_with (at_builtin; refine Lib.wpList_append_run _ rfl _ _ _ _ rfl _ _ rfl rfl _ _ HRUN.out ?_)
          go_roundw
          case rel => exact ⟨1, A, rfl, Or.inr (Or.inl ⟨rfl, rfl⟩), HO2, HB2⟩
          case measure => decide
        · have d1 := cell_below HBW.out c1
          obtain ⟨v2, W2, hrun, ho2, hg2⟩ := both_run X B _ _ wr _ HSZ.out (by omega) (by omega) HOW.out (HB.out.below HBW.out) HEB.out
          have HRUN := hid hrun
          have HO2 := hid ho2
          have HB2 := hid (HBW.out.grown hg2 HBW.out.size (fun k hk => (HOW.out.lt k hk).1))
          clear hrun ho2 hg2
          go_wp2_with (at_builtin; refine Lib.wpList_append_run _ rfl _ _ _ _ rfl _ _ rfl rfl _ _ HRUN.out ?_)
          go_roundw
          case rel => exact ⟨2, X ++ B, rfl, Or.inr (Or.inr ⟨rfl, rfl⟩), HO2, HB2⟩
          case measure => decide
        · go_wp2_with fail
          go_ret
          exact ⟨_, rfl, HOW.out, HBW.out⟩
end Ve
end Go.Proofs.YtffjaliegglddaaGreatDoor

/-
  mvs.Join: of each path of both the greater version.
-/
namespace Go.Proofs.YtffjaliegglddaaGreatDoor
open Go.RowKit
namespace Ve

theorem insM_nil (a : Option Addr) (c : Nat) (W : World) : Calls Tryz.prog 128 #[.slice a 0 c, .int .i64 0, .int .i64 0, .func (.func 71) #[] #[]] W fun e w' => e = .returned (.tuple #[]) ∧ w' = W := by
  go_enter Tryz.func128, Tryz.ntmps128
  go_wp2_with fail
  go_loop [8] (fun i => i = .int .i64 1) (fun _ => 0)
  case atStart => rfl
  case round =>
    obtain rfl := hrel
    go_wp2_with fail
    go_end0
    exact ⟨rfl, rfl⟩
set_option maxRecDepth 100000 in
set_option maxHeartbeats 2000000 in
theorem pdqM_nil (a : Option Addr) (c : Nat) (n : Int) (W : World) : Calls Tryz.prog 100 #[.slice a 0 c, .int .i64 0, .int .i64 0, .int .i64 n, .func (.func 71) #[] #[]] W fun e w' => e = .returned (.tuple #[]) ∧ w' = W := by
  have HI := hid (insM_nil a c W)
  go_enter Tryz.func100, Tryz.ntmps100
  go_wp2_with fail
  go_loop [1, 2, 3, 10, 11] (fun a b _ _ _ => a = .int .i64 0 ∧ b = .int .i64 0) (fun _ _ _ _ _ => 0)
  case atStart => exact ⟨rfl, rfl⟩
  case round =>
    obtain ⟨rfl, rfl⟩ := hrel
    go_wp2_with fail
    refine HI.out.mono ?_
    rintro e w' ⟨rfl, rfl⟩
    go_wp2_with fail
    first | (go_end0; exact ⟨rfl, rfl⟩) | (go_ret; exact ⟨rfl, rfl⟩) | (refine bodyPost_ret (v := .tuple #[]) (by simp [results, Tryz.results100]) rfl ⟨rfl, rfl⟩)
set_option maxHeartbeats 1000000 in
theorem sortM_nil (a : Option Addr) (c : Nat) (W : World) : Calls Tryz.prog 70 #[.slice a 0 c, .func (.func 71) #[] #[]] W fun e w' => e = .returned (.tuple #[]) ∧ Below W.heap.size W w' := by
  have HLN := hid (show Calls Tryz.prog 101 #[.int .u64 0] W fun e w' => e = .returned (.int .i64 (Lib.bitLen 0 : Nat)) ∧ w' = W from by
    have h := Any.bits_Len (SlLaysF0.n15.bits (P := Tryz.prog) (ρ := Tryz.sortMods_ren) { Tryz.sortMods with }) 0 W (by omega) (by omega)
    exact h)
  have HP := hid (fun n => pdqM_nil a c n W)
  go_enter Tryz.func70, Tryz.ntmps70
  go_wp2_with fail
  refine HLN.out.mono ?_
  rintro e w' ⟨rfl, rfl⟩
  go_wp2_with fail
  refine (HP.out _).mono ?_
  rintro e w' ⟨rfl, rfl⟩
  go_wp2_with fail
  go_end0
  exact ⟨rfl, Below.refl _ _⟩
set_option maxHeartbeats 1000000 in
theorem delM_nil (a : Option Addr) (c : Nat) (W : World) : Calls Tryz.prog 74 #[.slice a 0 c, .func (.func 76) #[] #[]] W fun e w' => e = .returned (.slice a 0 c) ∧ Below W.heap.size W w' := by
  have HI := hid (idxM_none 76 #[] a c W)
  go_enter Tryz.func74, Tryz.ntmps74
  go_wp2_with fail
  refine HI.out.mono ?_
  rintro e w1 ⟨rfl, hb⟩
  have HB := hid hb
  clear hb
  go_wp2_with fail
  go_ret
  exact ⟨rfl, HB.out⟩
/-- A row of modules that a call owns: nothing, or in a block of its own. -/
def Mr (w0 W : World) (v : Value) (D : List Bm) : Prop := Below w0.heap.size w0 W ∧ ∃ a cap, v = .slice a D.length cap ∧ D.length ≤ cap ∧ ((D = [] ∧ (a = none → cap = 0)) ∨ ∃ g, a = some ⟨g, 0, none⟩ ∧ Mw w0 W g D)
theorem Mr.ms {w0 W : World} {v : Value} {D : List Bm} (h : Mr w0 W v D) : MsAt W v D := by
  obtain ⟨_, a, cap, rfl, hc, ⟨rfl, _⟩ | ⟨g, rfl, h⟩⟩ := h
  · exact ⟨a, cap, rfl, hc, fun h => absurd rfl h⟩
  · exact h.ms hc
theorem Mr.em {w0 W : World} {v : Value} {D : List Bm} (h : Mr w0 W v D) : Em v D := by
  obtain ⟨_, a, cap, rfl, hc, h⟩ := h
  intro a' c' e hD
  injection e with e1 e2 e3
  subst e1 e3
  cases a with
  | some a' => exact Or.inr ⟨a', rfl⟩
  | none =>
    rcases h with ⟨_, h0⟩ | ⟨g, h, _⟩
    · rw [h0 rfl]; exact Or.inl rfl
    · cases h
theorem mr_own {w0 W : World} {v : Value} {L : List Bm} (h : W.ownsRow w0.heap.size 25 2 v L.length (flatM L)) (hb : Below w0.heap.size w0 W) : Mr w0 W v L := by
  by_cases hL : L = []
  · subst hL
    obtain ⟨_, ⟨rfl, _⟩ | ⟨g, cap, cur, rfl, _, _, _, _⟩⟩ := h
    · exact ⟨hb, none, 0, rfl, Nat.le_refl _, Or.inl ⟨rfl, fun _ => rfl⟩⟩
    · exact ⟨hb, _, cap, rfl, Nat.zero_le _, Or.inl ⟨rfl, fun h => by cases h⟩⟩
  · obtain ⟨g, cap, rfl, h1, _, h3⟩ := own_mw h hb hL
    exact ⟨hb, _, cap, rfl, h1, Or.inr ⟨g, rfl, h3⟩⟩
theorem Mr.base {w w0 W : World} {v : Value} {D : List Bm} (h : Mr w0 W v D) (hb : Below w.heap.size w w0) : Mr w W v D := by
  obtain ⟨h1, a, cap, rfl, hc, hk⟩ := h
  refine ⟨hb.trans (h1.mono hb.size), a, cap, rfl, hc, ?_⟩
  rcases hk with hk | ⟨g, rfl, hM⟩
  · exact Or.inl hk
  · exact Or.inr ⟨g, rfl, hb.trans (h1.mono hb.size), Nat.le_trans hb.size hM.lo, hM.hi, hM.fz, hM.c0, hM.c1⟩
theorem Mr.sl {w0 W : World} {v : Value} {D : List Bm} (h : Mr w0 W v D) : ∃ a c, v = .slice a D.length c := by
  obtain ⟨_, a, cap, rfl, _⟩ := h
  exact ⟨a, cap, rfl⟩
set_option maxHeartbeats 2000000 in
/-- mvs.right of two. -/
theorem right_any (X Y : List Bm) (va vb : Value) (lb : Nat) (A : Nat → Addr) (ml : Int) (w : World) (c0 : w.cell? ⟨lb, 0, none⟩ = some va) (c1 : w.cell? ⟨lb, 1, none⟩ = some vb) (hA : MsAt w va X) (hB : MsAt w vb Y) (eA : Em va X) (eB : Em vb Y) (lA : X.length ≤ 500) (lB : Y.length ≤ 500)
    (hz : ∀ r, r ∈ X ++ Y → r.1.size < 999999 ∧ r.2.size < 999999) (S : Te w A ml) :
    Calls Tryz.prog 48 #[.slice (some ⟨lb, 0, none⟩) 2 2] w fun e w' => ∃ v, e = .returned v ∧ Mr w w' v (rightL (X ++ Y)) := by
  have HC := hid (cat_any X Y va vb lb w c0 c1 hA hB eA eB lA lB)
  have HS := hid S
  have HZ := hid hz
  have hl : (X ++ Y).length ≤ 1000 := by simp; omega
  generalize X ++ Y = D at *
  clear hA hB eA eB S hz c0 c1
  go_enter Tryz.func48, Tryz.ntmps48
  go_wp2_with fail
  refine HC.out.mono ?_
  rintro e w1 ⟨v, rfl, hown, hb⟩
  obtain ⟨_, a, cap, rfl, hcap, hk⟩ := mr_own hown hb
  have HBL := hid hb
  clear hown hb
  rcases hk with ⟨rfl, h0⟩ | ⟨g, rfl, hM⟩
  · have HD := hid (delM_nil a cap w1)
    go_wp2_with fail
    refine HD.out.mono ?_
    rintro e w2 ⟨rfl, hb⟩
    have HB2 := hid (HBL.out.trans (hb.mono HBL.out.size))
    clear hb
    go_wp2_with fail
    go_ret
    exact ⟨_, rfl, HB2.out, a, cap, rfl, Nat.zero_le _, Or.inl ⟨rfl, h0⟩⟩
  · have HD := hid (del_mw w w1 g cap D A ml HS.out (by omega) hcap HZ.out hM)
    have HRL := hid (show (rightL D).length ≤ cap from Nat.le_trans (List.length_filter_le _ _) hcap)
    clear hM
    go_wp2_with fail
    refine HD.out.mono ?_
    rintro e w2 ⟨rfl, hm⟩
    have HM2 := hid hm
    clear hm
    go_wp2_with fail
    go_ret
    exact ⟨_, rfl, HM2.out.bl, _, cap, rfl, HRL.out, Or.inr ⟨g, rfl, HM2.out⟩⟩
theorem Jn.nil : Jn [] [] := ⟨List.Pairwise.nil, fun _ h => absurd h (by simp), fun _ h => absurd h (by simp)⟩
theorem Jn.perm {D D' E : List Bm} (h : Jn D' E) (hp : D'.Perm D) : Jn D E :=
  ⟨h.ri, fun e he => ⟨hp.mem_iff.1 (h.sub e he).1, (h.sub e he).2⟩, fun x hx => h.top x (hp.mem_iff.2 hx)⟩
theorem Jn.right {D E : List Bm} (h : Jn (rightL D) E) : Jn D E :=
  ⟨h.ri, fun e he => ⟨(rightL_mem.1 (h.sub e he).1).1, (h.sub e he).2⟩, fun x hx hr => h.top x (rightL_mem.2 ⟨hx, hr⟩) hr⟩
set_option maxHeartbeats 2000000 in
/-- mvs.greatest of a row of its own. -/
theorem great_any (D : List Bm) (v : Value) (A : Nat → Addr) (ml : Int) (w0 w : World) (hM : Mr w0 w v D) (h12 : D.length ≤ 1000000) (hr : ∀ r, r ∈ D → Rt r) (S : Te w0 A ml) :
    Calls Tryz.prog 47 #[v] w fun e w' => ∃ u E, e = .returned u ∧ E.length ≤ D.length ∧ Jn D E ∧ Mr w0 w' u E := by
  obtain ⟨hb, a, cap, rfl, hcap, hk⟩ := hM
  by_cases hD : D = []
  · subst hD
    have HS := hid (sortM_nil a cap w)
    have HC := hid (fun W => compactM_nil a cap W)
    have h0 : a = none → cap = 0 := by
      rcases hk with ⟨_, h0⟩ | ⟨g, rfl, _⟩
      · exact h0
      · intro h; cases h
    have HBL := hid hb
    clear hk hb S
    go_enter Tryz.func47, Tryz.ntmps47
    go_wp2_with fail
    refine HS.out.mono ?_
    rintro e w1 ⟨rfl, hb⟩
    have HB1 := hid (HBL.out.trans (hb.mono HBL.out.size))
    clear hb
    go_wp2_with fail
    refine (HC.out _).mono ?_
    rintro e w2 ⟨rfl, hb⟩
    have HB2 := hid (HB1.out.trans (hb.mono HB1.out.size))
    clear hb
    go_wp2_with fail
    go_ret
    exact ⟨_, [], rfl, Nat.le_refl _, Jn.nil, HB2.out, a, cap, rfl, Nat.zero_le _, Or.inl ⟨rfl, h0⟩⟩
  · obtain ⟨g, rfl, hM⟩ : ∃ g, a = some ⟨g, 0, none⟩ ∧ Mw w0 w g D := by
      rcases hk with ⟨h, _⟩ | h
      · exact absurd h hD
      · exact h
    have HS := hid (sort_mw w0 w g cap D hD h12 A ml S hr hM)
    have HRT := hid hr
    have HD := hid hD
    clear hk hb S hM hr hD
    go_enter Tryz.func47, Tryz.ntmps47
    go_wp2_with fail
    refine HS.out.mono ?_
    rintro e w1 ⟨rfl, D1, hp, hs, hM1⟩
    have hl : D1.length = D.length := hp.length_eq
    have HC := hid (compact_mw w0 w1 g cap D1 (fun e => HD.out (by rw [e] at hl; exact List.length_eq_zero_iff.1 hl.symm)) (by omega) (by omega) (fun r h => HRT.out r (hp.mem_iff.1 h)) hs hM1)
    have HP := hid hp
    rw [hl] at HC
    clear hp hs hM1 HS
    go_wp2_with fail
    refine HC.out.mono ?_
    rintro e w2 ⟨E, rfl, hEl, hj, hM2⟩
    have HJ := hid (hj.perm HP.out)
    have HM2 := hid hM2
    clear hj hM2
    go_wp2_with fail
    go_ret
    exact ⟨_, E, rfl, hEl, HJ.out, HM2.out.bl, _, cap, rfl, by omega, Or.inr ⟨g, rfl, HM2.out⟩⟩
set_option maxHeartbeats 2000000 in
/-- mvs.Join. -/
theorem join_mods (X Y : List Bm) (va vb : Value) (A : Nat → Addr) (ml : Int) (w : World) (hA : MsAt w va X) (hB : MsAt w vb Y) (eA : Em va X) (eB : Em vb Y) (lA : X.length ≤ 500) (lB : Y.length ≤ 500)
    (hz : ∀ r, r ∈ X ++ Y → r.1.size < 999999 ∧ r.2.size < 999999) (S : Te w A ml) :
    Calls Tryz.prog 23 #[va, vb] w fun e w' => ∃ v E, e = .returned v ∧ E.length ≤ (X ++ Y).length ∧ Jn (X ++ Y) E ∧ Mr w w' v E := by
  obtain ⟨aa, an, ac, ea⟩ := hA.slice
  obtain ⟨ba, bn, bc, eb⟩ := hB.slice
  subst ea eb
  have HB0 := hid ((Below.refl w.heap.size w).alloc (Nat.le_refl _) (.cells #[.slice aa an ac, .slice ba bn bc] 23))
  have HR := hid (right_any X Y _ _ w.heap.size A ml (w.alloc (.cells #[.slice aa an ac, .slice ba bn bc] 23)) (by simp) (by simp) (hA.below HB0.out) (hB.below HB0.out) eA eB lA lB hz (S.below HB0.out))
  have HS := hid S
  have HRT := hid (show ∀ r, r ∈ rightL (X ++ Y) → Rt r from fun r h => ⟨(rightL_mem.1 h).2, (hz r (rightL_mem.1 h).1).1, (hz r (rightL_mem.1 h).1).2⟩)
  have hl : (X ++ Y).length ≤ 1000 := by simp; omega
  have HRL := hid (show (rightL (X ++ Y)).length ≤ (X ++ Y).length from List.length_filter_le _ _)
  generalize X ++ Y = D at *
  clear hA hB eA eB S hz
  go_enter Tryz.func23, Tryz.ntmps23
  go_wp2_with fail
  refine HR.out.mono ?_
  rintro e w1 ⟨v, rfl, hm⟩
  have HG := hid (great_any (rightL D) v A ml _ w1 hm (by have := HRL.out; omega) HRT.out (HS.out.below HB0.out))
  obtain ⟨va, vc, hv⟩ := hm.sl
  subst hv
  clear hm HR
  go_wp2_with fail
  refine HG.out.mono ?_
  rintro e w2 ⟨u, E, rfl, hl2, hj, hM⟩
  have HJ := hid hj.right
  have HM := hid (hM.base HB0.out)
  have HEL := hid (Nat.le_trans hl2 HRL.out)
  obtain ⟨ua, uc, hu⟩ := hM.sl
  subst hu
  clear hj hM hl2
  go_wp2_with fail
  go_ret
  exact ⟨_, E, rfl, HEL.out, HJ.out, HM.out⟩
end Ve
end Go.Proofs.YtffjaliegglddaaGreatDoor
