/-
  RefM FileV
-/
import Derived.Test.YtjhlkjgijbobcaaGreatDoorFt24
import Derived.Test.YtjhlkjgijbobcaaGreatDoorFt29
import Derived.Deep.RegionHeld
import Derived.Shelf.Spec.SlicesInsertGrow
namespace Go.Proofs.YtjhlkjgijbobcaaGreatDoor
open Go.RowKit
namespace Ve
theorem n0_pos {l : List UInt8} (h : verErr l = 0) : 0 ≤ nAt l 0 ∧ nAt l 0 ≤ 999999 := by
  unfold verErr at h
  by_cases hc : marked l = false ∨ (coreOf l).length ≠ 3
  · rw [if_pos hc] at h; omega
  rw [if_neg hc] at h
  have h3 : (coreOf l).length = 3 := by
    rcases Nat.decEq (coreOf l).length 3 with h | h
    · exact absurd (Or.inr h) hc
    · exact h
  have hn : numsErr (coreOf l) = 0 := by
    cases e : hasPre l
    · rw [e] at h; exact h
    · rw [e] at h
      have h' : worse (numsErr (coreOf l)) (pre (preOf l)) = 0 := h
      unfold worse at h'
      by_cases q : numsErr (coreOf l) = 1 ∨ pre (preOf l) = 0
      · rw [if_pos q] at h'; exact h'
      · rw [if_neg q] at h'; exact absurd (Or.inr h') q
  obtain ⟨p0, p1, p2, hco⟩ : ∃ p0 p1 p2, coreOf l = [p0, p1, p2] := by
    match e : coreOf l, h3 with
    | [a, b, c], _ => exact ⟨a, b, c, rfl⟩
  have hz := ncode0 hn
  rw [hco] at hz
  have n0 : nAt l 0 = (num p0).1 := by simp [nAt, numsOf, hco]
  obtain ⟨_, l0, u0⟩ := itoa_num p0 (hz p0 (by simp))
  rw [n0]; exact ⟨l0, u0⟩
theorem pathN_is {l : List UInt8} (h : pathErr l = 0) : pathN l = 0 ∨ 2 ≤ pathN l := by
  unfold pathN
  cases hu : sufE l
  · left; rfl
  · right; exact suf_pos (suf_fits h hu)
set_option maxRecDepth 100000 in
set_option maxHeartbeats 4000000 in
theorem modError_any (p v : ByteArray) (w : World) (hp : p.size < 4294967281) (hv : v.size < 4294967281) :
    Calls Tryz.prog 31 #[.agg #[.string p, .string v]] w fun e w' => e = .returned (.int .i64 (modErr p.data.toList v.data.toList : Nat)) ∧ Below w.heap.size w w' := by
  have HB0 := hid ((Below.refl w.heap.size w).alloc (Nat.le_refl _) (.cells #[.string p, .string v] 26))
  have HP := hid (pathError_any p (w.alloc (.cells #[.string p, .string v] 26)) hp)
  have HM := hid (show modErr p.data.toList v.data.toList = if pathErr p.data.toList = 0 then (if verErr v.data.toList = 0 then (if fitsB (nAt v.data.toList 0) (pathN p.data.toList) then 0 else 4) else verErr v.data.toList) else pathErr p.data.toList from rfl)
  by_cases h0 : pathErr p.data.toList = 0
  · rw [if_pos h0] at HM
    have HV := hid (fun W => verOf_any v W hv)
    by_cases h1 : verErr v.data.toList = 0
    · rw [if_pos h1] at HM
      have HSP := hid (fun W => splitPath_any p W hp)
      have e2 : splitN p.data.toList = pathN p.data.toList := by unfold splitN; rw [if_pos h0]
      rw [e2] at HSP
      have HPN := hid (pathN_is h0)
      have HN0 := hid (n0_pos h1)
      have HF := hid (show fitsB (nAt v.data.toList 0) (pathN p.data.toList) = (if pathN p.data.toList == 0 then (nAt v.data.toList 0 == 0 || nAt v.data.toList 0 == 1) else nAt v.data.toList 0 == pathN p.data.toList) from rfl)
      have H1 := hid h1
      rw [h0] at HP
      clear h0 h1 e2
      go_enter Tryz.func31, Tryz.ntmps31
      go_wp2_with fail
      refine HP.out.mono ?_
      rintro e w1 ⟨rfl, hb1⟩
      have HB1 := hid (HB0.out.trans (hb1.mono HB0.out.size))
      obtain ⟨⟨r0, r1⟩, rz⟩ := res2 (hb1.mono (by simp))
      clear hb1
      go_wp2_with fail
      refine (HV.out _).mono ?_
      rintro e w2 ⟨hv2, hb2⟩
      obtain ⟨sa, cap, X2, rfl⟩ : ∃ sa cap X2, e = .returned (.tuple #[.agg #[.int .i64 (nAt v.data.toList 0), .int .i64 (nAt v.data.toList 1), .int .i64 (nAt v.data.toList 2), .slice sa X2 cap], .int .i64 0]) := by
        rcases hv2 with ⟨h, _⟩ | ⟨_, sa, cap, X2, e1, _⟩
        · exact absurd H1.out h
        · exact ⟨sa, cap, _, e1⟩
      have HB2 := hid (HB1.out.trans (hb2.mono HB1.out.size))
      have HC0 := hid (cell_below hb2 r0)
      have HBV := hid ((Below.refl w2.heap.size w2).alloc (Nat.le_refl _) (.cells #[.int .i64 (nAt v.data.toList 0), .int .i64 (nAt v.data.toList 1), .int .i64 (nAt v.data.toList 2), .slice sa X2 cap] 95))
      have c0 := cell_below HBV.out HC0.out
      have HB3 := hid (HB2.out.trans (HBV.out.mono HB2.out.size))
      generalize nAt v.data.toList 1 = b1 at *
      generalize nAt v.data.toList 2 = b2 at *
      generalize hn0 : nAt v.data.toList 0 = b0 at *
      clear hv2 hb2 hn0 r0 r1 rz
      go_wp2_with fail
      refine (HSP.out _).mono ?_
      rintro e w4 ⟨H, rfl, _, hb4⟩
      have HB4 := hid (HB3.out.trans (hb4.mono HB3.out.size))
      obtain ⟨⟨q0, q1, q2, q3⟩, _, qz⟩ := res4 (hb4.mono (by simp))
      generalize pathN p.data.toList = n at *
      clear hb4 c0
      have hb0 := HN0.out.1
      have hb9 := HN0.out.2
      by_cases hz : n = 0
      · subst hz
        by_cases hg : 1 < b0
        · have HR := hid (show (if fitsB b0 0 then 0 else 4) = 4 by
            have : fitsB b0 0 = false := by
              rw [HF.out]
              simp; omega
            rw [this]; rfl)
          rw [HR.out] at HM
          go_wp2_with fail
          go_ret
          exact ⟨by rw [HM.out]; rfl, HB4.out⟩
        · have HR := hid (show (if fitsB b0 0 then 0 else 4) = 0 by
            have : fitsB b0 0 = true := by
              rw [HF.out]
              simp; omega
            rw [this]; rfl)
          rw [HR.out] at HM
          go_wp2_with fail
          go_ret
          exact ⟨by rw [HM.out]; rfl, HB4.out⟩
      · have hpos : 0 < n := by have := HPN.out; omega
        have hnz : (n == 0) = false := beq_eq_false_iff_ne.2 hz
        by_cases hg : b0 = n
        · subst hg
          have HR := hid (show (if fitsB b0 b0 then 0 else 4) = 0 by
            have : fitsB b0 b0 = true := by
              rw [HF.out, hnz]; simp
            rw [this]; rfl)
          rw [HR.out] at HM
          have hbb : (b0 == b0) = true := by simp
          have hbn : (b0 != b0) = false := by simp
          go_wp2_with fail
          go_ret
          exact ⟨by rw [HM.out]; rfl, HB4.out⟩
        · have hbb : (b0 == n) = false := beq_eq_false_iff_ne.2 hg
          have hbn : (b0 != n) = true := by rw [bne, hbb]; rfl
          have HR := hid (show (if fitsB b0 n then 0 else 4) = 4 by
            have : fitsB b0 n = false := by
              rw [HF.out, hnz]; simpa using hg
            rw [this]; rfl)
          rw [HR.out] at HM
          go_wp2_with fail
          go_ret
          exact ⟨by rw [HM.out]; rfl, HB4.out⟩
    · rw [if_neg h1] at HM
      have H1 := hid h1
      have hpos : (0 : Int) < (verErr v.data.toList : Int) := by omega
      rw [h0] at HP
      rw [HM.out]
      clear h0 h1
      go_enter Tryz.func31, Tryz.ntmps31
      go_wp2_with fail
      refine HP.out.mono ?_
      rintro e w1 ⟨rfl, hb1⟩
      have HB1 := hid (HB0.out.trans (hb1.mono HB0.out.size))
      obtain ⟨⟨r0, r1⟩, rz⟩ := res2 (hb1.mono (by simp))
      clear hb1
      go_wp2_with fail
      refine (HV.out _).mono ?_
      rintro e w2 ⟨hv2, hb2⟩
      obtain rfl : e = .returned (.tuple #[.agg #[.int .i64 0, .int .i64 0, .int .i64 0, .slice none 0 0], .int .i64 (verErr v.data.toList : Nat)]) := by
        rcases hv2 with ⟨_, h⟩ | ⟨h, _⟩
        · exact h
        · exact absurd h H1.out
      have HB2 := hid (HB1.out.trans (hb2.mono HB1.out.size))
      have HBV := hid ((Below.refl w2.heap.size w2).alloc (Nat.le_refl _) (.cells #[.int .i64 0, .int .i64 0, .int .i64 0, .slice none 0 0] 95))
      have HB3 := hid (HB2.out.trans (HBV.out.mono HB2.out.size))
      clear hv2 hb2 r0 r1 rz
      generalize hce : (verErr v.data.toList : Int) = c at *
      have HCE := hid hce
      clear hce
      go_wp2_with fail
      go_ret
      exact ⟨by rw [HCE.out]; rfl, HB3.out⟩
  · rw [if_neg h0] at HM
    have hpos : (0 : Int) < (pathErr p.data.toList : Int) := by omega
    rw [HM.out]
    generalize (pathErr p.data.toList : Int) = c at *
    clear h0 HM
    go_enter Tryz.func31, Tryz.ntmps31
    go_wp2_with fail
    refine HP.out.mono ?_
    rintro e w1 ⟨rfl, hb1⟩
    have HB1 := hid (HB0.out.trans (hb1.mono HB0.out.size))
    clear hb1
    go_wp2_with fail
    go_ret
    exact ⟨rfl, HB1.out⟩
set_option maxHeartbeats 1000000 in
theorem isAhead_any (p v q u : ByteArray) (w : World) (hv : v.size < 999999) (hu : u.size < 999999) :
    Calls Tryz.prog 32 #[.agg #[.string p, .string v], .agg #[.string q, .string u]] w fun e w' => e = .returned (.bool (aheadB p.data.toList v.data.toList q.data.toList u.data.toList)) ∧ Below w.heap.size w w' := by
  have HO := hid (show aheadB p.data.toList v.data.toList q.data.toList u.data.toList = if p.data.toList = q.data.toList then lessB v.data.toList u.data.toList else decide (Lib.compareBytes p.data.toList q.data.toList < 0) from rfl)
  have HB0 := hid (((Below.refl w.heap.size w).alloc (Nat.le_refl _) (.cells #[.string p, .string v] 26)).alloc (by simp) (.cells #[.string q, .string u] 26))
  by_cases h : p = q
  · subst h
    rw [if_pos rfl] at HO
    have he := str_refl p
    have HL := hid (fun W => isLess_any v u W hv hu)
    go_enter Tryz.func32, Tryz.ntmps32
    go_wp2_with fail
    refine (HL.out _).mono ?_
    rintro e w1 ⟨rfl, hb⟩
    have HB := hid (HB0.out.trans (hb.mono HB0.out.size))
    clear hb
    go_wp2_with fail
    go_ret
    exact ⟨ret_bool HO.out.symm, HB.out⟩
  · rw [if_neg (fun e => h (str_ext e))] at HO
    have he := str_ne h
    have HC := hid (show Op.bytesLess p.toList q.toList = decide (Lib.compareBytes p.data.toList q.data.toList < 0) by rw [cb_less, ByteArray.toList_eq, ByteArray.toList_eq])
    clear h
    go_enter Tryz.func32, Tryz.ntmps32
    go_wp2_with fail
    go_ret
    exact ⟨ret_bool (by rw [HO.out, ← HC.out]), HB0.out⟩
end Ve
end Go.Proofs.YtjhlkjgijbobcaaGreatDoor
namespace Go.Proofs.YtjhlkjgijbobcaaGreatDoor
open Go.RowKit
namespace Ve
theorem row_new {row : List Value} {R : List Bm} {m : Bm} {i n : Nat} (hn : R.length = n) (hi : i ≤ n) (hl : (n + 1) * 2 ≤ row.length) (ht : row.take (i * 2) = flatM (R.take i)) :
    let c1 := row.take (i * 2) ++ [Value.string m.1, .string m.2] ++ row.drop (i * 2 + 2)
    let c2 := c1.take ((i + 1) * 2) ++ flatM (R.drop i) ++ c1.drop ((i + 1) * 2 + (flatM (R.drop i)).length)
    c1.length = row.length ∧ c2.length = row.length ∧ c2.take ((n + 1) * 2) = flatM (R.take i ++ m :: R.drop i) := by
  intro c1 c2
  have hdl : (flatM (R.drop i)).length = (n - i) * 2 := by rw [flatM_len, List.length_drop, hn]
  have h1 : c1.length = row.length := by
    show (row.take (i * 2) ++ [Value.string m.1, .string m.2] ++ row.drop (i * 2 + 2)).length = _
    simp only [List.length_append, List.length_take, List.length_drop, List.length_cons, List.length_nil]
    omega
  have h2 : c2.length = row.length := by
    show (c1.take ((i + 1) * 2) ++ flatM (R.drop i) ++ c1.drop ((i + 1) * 2 + (flatM (R.drop i)).length)).length = _
    simp only [List.length_append, List.length_take, List.length_drop, hdl]
    omega
  refine ⟨h1, h2, ?_⟩
  have hc : c1.take ((i + 1) * 2) = flatM (R.take i) ++ [Value.string m.1, .string m.2] := by
    show (row.take (i * 2) ++ [Value.string m.1, .string m.2] ++ row.drop (i * 2 + 2)).take ((i + 1) * 2) = _
    have e : (row.take (i * 2) ++ [Value.string m.1, .string m.2]).length = (i + 1) * 2 := by simp; omega
    rw [← e, List.take_left, ht]
  show (c1.take ((i + 1) * 2) ++ flatM (R.drop i) ++ c1.drop ((i + 1) * 2 + (flatM (R.drop i)).length)).take ((n + 1) * 2) = _
  rw [hc, flatM_app, flat_cons]
  have hlen : (flatM (R.take i) ++ [Value.string m.1, .string m.2] ++ flatM (R.drop i)).length = (n + 1) * 2 := by
    simp only [List.length_append, hdl, flatM_len, List.length_take, List.length_cons, List.length_nil]
    omega
  rw [← hlen, List.take_left, List.append_assoc]
set_option maxHeartbeats 4000000 in
set_option maxRecDepth 100000 in
theorem ins_grow (R : List Bm) (m : Bm) (B g cap vb i : Nat) (cur : Array Value) (w : World) (hn : R.length ≤ 1000000) (hB : B ≤ g) (hg : w.heap[g]? = some (.cells cur 26 (0, 0))) (hcap : R.length ≤ cap) (hct : cur.toList.take (R.length * 2) = flatM R)
    (hv : w.heap[vb]? = some (.cells #[.string m.1, .string m.2] 26 (0, 0))) (hi : i < R.length) (hroom : cap < R.length + 1) :
    Calls Tryz.prog 43 #[.slice (some ⟨g, 0, none⟩) R.length cap, .int .i64 i, .slice (some ⟨vb, 0, none⟩) 1 1] w fun e w' => ∃ v', e = .returned v' ∧ Insd B w w' (.slice (some ⟨g, 0, none⟩) R.length cap) v' (R.take i ++ m :: R.drop i) := by
  obtain ⟨i0, hi0, hz0, hzs, hzb⟩ := info_parts infoMod
  have hcur : ∀ W : World, W.heap[g]? = some (.cells cur 26 (0, 0)) → ∀ (L : List Value) (k : Nat), (∀ j u, L[j]? = some u → (flatM R)[k + j]? = some u) → ∀ j u, L[j]? = some u → W.cell? ((⟨g, k, none⟩ : Addr).add j) = some u := fun W hW L k hL j u hj => by
    rw [Addr.add_lit, Lib.cell_of_heap hW]
    have h1 := hL j u hj
    rw [← hct, List.getElem?_take] at h1
    split at h1
    · simpa using h1
    · cases h1
  have hgw : g < w.heap.size := lt_of_blk hg
  have hvw : vb < w.heap.size := lt_of_blk hv
  have hz2 : ¬ ((i : Int) = (R.length : Int)) := by omega
  have hz3 : (cap : Int) < (R.length : Int) + 1 := by omega
  have hkk : (R.length : Int) + 1 - (i : Int) = ((R.length + 1 - i : Nat) : Int) := by omega
  have hik : i + (R.length + 1 - i) = R.length + 1 := by omega
  have hold : (Builtin.firstCells i0.size i (.slice (some ⟨g, 0, none⟩) i cap)).run Tryz.prog w.drew = .ok (flatM (R.take i)).toArray w.drew := by
    rw [hzs]
    exact run_firstCells_some w.drew 2 i ⟨g, 0, none⟩ i cap (flatM (R.take i)) (by rw [flatM_len]; simp; omega) (hcur w.drew hg _ 0 (fun j u hj => by
      rw [← flat_take R i (by omega), List.getElem?_take] at hj
      split at hj
      · rw [Nat.zero_add]; exact hj
      · cases hj))
  have hrz : ∀ ty, (Builtin.append_ #[22, 3] ty #[.slice (some ⟨g, 0, none⟩) i cap, .int .i64 ((R.length : Int) + 1 - (i : Int))]).run Tryz.prog w =
      .ok (.slice (some ⟨w.heap.size, 0, none⟩) (R.length + 1) (grownCap w (R.length + 1) cap 26)) (w.drew.alloc (.cells ((flatM (R.take i)).toArray ++ Builtin.zeroCells (Value.agg #[.string ⟨#[]⟩, .string ⟨#[]⟩]).cells (R.length + 1 - i) ++ Builtin.zeroCells (Value.agg #[.string ⟨#[]⟩, .string ⟨#[]⟩]).cells (grownCap w (R.length + 1) cap 26 - (R.length + 1))) 26)) := fun ty => by
    have h := Lib.run_append_grow_zeros w 22 3 ty 26 i0 _ .i64 .i64 Tryz.underlying22 Tryz.underlying3 hi0 hz0 (some ⟨g, 0, none⟩) i cap (flatM (R.take i)) hold (R.length + 1 - i) (by omega) (by omega) (by omega) (by omega) (by rw [hzb]; omega) (by rw [hzb, hik]; exact growslice_fits hroom (by omega))
    rw [hik] at h
    rw [hkk]
    exact h
  obtain ⟨G, hG⟩ : ∃ G, G = grownCap w (R.length + 1) cap 26 := ⟨_, rfl⟩
  obtain ⟨ROW, hROW⟩ : ∃ ROW : Array Value, ROW = (flatM (R.take i)).toArray ++ Builtin.zeroCells (Value.agg #[.string ⟨#[]⟩, .string ⟨#[]⟩]).cells (R.length + 1 - i) ++ Builtin.zeroCells (Value.agg #[.string ⟨#[]⟩, .string ⟨#[]⟩]).cells (G - (R.length + 1)) := ⟨_, rfl⟩
  rw [← hG, ← hROW] at hrz
  have hGn : R.length + 1 ≤ G := by rw [hG]; exact grownCap_ge w _ _ _
  have hGm : G ≤ maxLen := by rw [hG]; exact grownCap_le_maxLen w (R.length + 1) cap 26 (by unfold maxLen; omega)
  have hRl : ROW.size = G * 2 := by
    rw [hROW]
    have e : (flatM (R.take i)).length = i * 2 := by rw [flatM_len]; simp; omega
    simp [Builtin.zeroCells, Value.cells, e]
    omega
  have hRt : ROW.toList.take (i * 2) = flatM (R.take i) := by
    have e : (flatM (R.take i)).length = i * 2 := by rw [flatM_len]; simp; omega
    rw [hROW, Array.toList_append, Array.toList_append, List.append_assoc, List.take_append_of_le_length (by simp [e])]
    rw [← e]; simp
  have h9 := row_new (row := ROW.toList) (R := R) (m := m) (i := i) (n := R.length) rfl (by omega) (by simp [hRl]; omega) hRt
  dsimp only at h9
  obtain ⟨C1, hC1⟩ : ∃ C1, C1 = ROW.toList.take (i * 2) ++ [Value.string m.1, .string m.2] ++ ROW.toList.drop (i * 2 + 2) := ⟨_, rfl⟩
  rw [← hC1] at h9
  obtain ⟨C2, hC2⟩ : ∃ C2, C2 = C1.take ((i + 1) * 2) ++ flatM (R.drop i) ++ C1.drop ((i + 1) * 2 + (flatM (R.drop i)).length) := ⟨_, rfl⟩
  rw [← hC2] at h9
  have HRN := hid h9
  clear h9
  have hdl : (flatM (R.drop i)).length = (R.length - i) * 2 := by rw [flatM_len, List.length_drop]
  have hnew : (w.alloc (.cells ROW 26)).heap[w.heap.size]? = some (.cells ROW 26 (0, 0)) := heap_new w _
  have hcpA : ∀ (W : World), W.heap = (w.alloc (.cells ROW 26)).heap → ∀ ty dc, (Builtin.copy_ #[22, 22] ty #[.slice (some ⟨w.heap.size, i * 2, none⟩) (R.length + 1 - i) dc, .slice (some ⟨vb, 0, none⟩) 1 1]).run Tryz.prog W = .ok (goInt 1) (W.setRow w.heap.size C1.toArray) := fun W hW ty dc => by
    rw [hC1]
    have := copy_row2 W ty w.heap.size (i * 2) (R.length + 1 - i) dc ⟨vb, 0, none⟩ 1 1 1 ROW 26 [Value.string m.1, .string m.2] (by simp only [Nat.min_def]; split <;> omega) (by rw [hW]; exact hnew) rfl (World.news_of_block (cs := #[.string m.1, .string m.2]) (by rw [hW]; exact heap_old w _ hv)) (by simp [hRl]; omega) (by simp [Value.oneCell'])
    simpa using this
  have hn1 : ((w.alloc (.cells ROW 26)).setRow w.heap.size C1.toArray).heap[w.heap.size]? = some (.cells C1.toArray 26 (0, 0)) := setRow_at hnew
  have hg1 : ((w.alloc (.cells ROW 26)).setRow w.heap.size C1.toArray).heap[g]? = some (.cells cur 26 (0, 0)) := by rw [setRow_far (by omega)]; exact heap_old w _ hg
  have hcpB : ∀ (W : World), W.heap = ((w.alloc (.cells ROW 26)).setRow w.heap.size C1.toArray).heap → ∀ ty dc sc, (Builtin.copy_ #[22, 22] ty #[.slice (some ⟨w.heap.size, (i + 1) * 2, none⟩) (R.length - i) dc, .slice (some ⟨g, i * 2, none⟩) (R.length - i) sc]).run Tryz.prog W = .ok (goInt ((R.length - i : Nat) : Int)) (W.setRow w.heap.size C2.toArray) := fun W hW ty dc sc => by
    rw [hC2]
    exact copy_row2 W ty w.heap.size ((i + 1) * 2) (R.length - i) dc ⟨g, i * 2, none⟩ (R.length - i) sc (R.length - i) C1.toArray 26 (flatM (R.drop i)) (by simp only [Nat.min_def]; split <;> omega) (by rw [hW]; exact hn1) hdl (hcur W (by rw [hW]; exact hg1) _ (i * 2) (fun j u hj => by
      rw [← flat_drop R i (by omega), List.getElem?_drop] at hj; exact hj)) (by have := HRN.out.1; simp at this ⊢; rw [hdl]; omega) (flat_one _)
  have hGi : ¬ (G = i) := by omega
  have hGim : ¬ (G = i + 1) := by omega
  have hci : ¬ (cap = i) := by omega
  have hw1 : IntKind.i64.wrap ((i : Int) + 1) = (i : Int) + 1 := by rw [IntKind.wrap_i64]; omega
  have hb1 : (0 : Int) ≤ (i : Int) + 1 := by omega
  have hin : i ≤ R.length := by omega
  have htn : ((i : Int) + 1).toNat = i + 1 := by omega
  have hb3 : (i : Int) ≤ (R.length : Int) := by omega
  have hb5 : (i : Int) + 1 ≤ (R.length : Int) + 1 := by omega
  have hb6 : (i : Int) ≤ (R.length : Int) + 1 := by omega
  have hb7 : (i : Int) ≤ (cap : Int) := by omega
  have HFI := hid (show Insd B w ((((w.alloc (.cells ROW 26)).drew.setRow w.heap.size C1.toArray).drew).setRow w.heap.size C2.toArray) (.slice (some ⟨g, 0, none⟩) R.length cap) (.slice (some ⟨w.heap.size, 0, none⟩) (R.length + 1) G) (R.take i ++ m :: R.drop i) from by
    have hl : (R.take i ++ m :: R.drop i).length = R.length + 1 := by simp; omega
    refine ⟨?_, ⟨rfl, rfl, rfl, ?_, fun k hk hne => ?_⟩, Or.inr (fun k hk => ?_)⟩
    · rw [hl]
      exact own_of_row (setRow_at (w := ((w.alloc (.cells ROW 26)).drew.setRow w.heap.size C1.toArray).drew) hn1) (by omega) hl hGn hGm (by have := HRN.out.2.1; simp [hRl] at this ⊢; omega) (by have := HRN.out.2.2; simpa using this)
    · rw [setRow_size]
      show w.heap.size ≤ ((w.alloc (.cells ROW 26)).drew.setRow w.heap.size C1.toArray).heap.size
      rw [setRow_size]
      show w.heap.size ≤ (w.alloc (.cells ROW 26)).heap.size
      simp
    · have : k ≠ w.heap.size := by omega
      rw [setRow_far this]
      show ((w.alloc (.cells ROW 26)).drew.setRow w.heap.size C1.toArray).heap[k]? = _
      rw [setRow_far this]
      show (w.alloc (.cells ROW 26)).heap[k]? = _
      exact ((Below.refl w.heap.size w).alloc (Nat.le_refl _) _).block k hk
    · have : w.heap.size = k := by simpa [Value.ownBlock] using hk
      omega)
  have HCB := hid (hcpB ((w.alloc (.cells ROW 26)).drew.setRow w.heap.size C1.toArray).drew rfl 3 (G - (i + 1)) (cap - i))
  clear hC1 hC2 hROW hG hdl hct hcur hold hg hv hg1 hn1 HRN hRl hRt hnew hkk hik hcpB
  go_enter Tryz.func43, Tryz.ntmps43
  go_wp2_with (at_builtin; refine Lib.wpList_append_run _ rfl _ _ _ _ rfl _ _ rfl rfl _ _ (hrz _) ?_)
  rw [hcpA (w.alloc (.cells ROW 26)).drew rfl]
  simp only [Result.andThen]
  rw [Oper.upon_value]
  go_wp2_with fail
  go_region_law (refine step_copy_runI rfl _ _ 22 22 rfl (.slice (some ⟨w.heap.size, (i + 1) * 2, none⟩) (R.length - i) (G - (i + 1))) (.slice (some ⟨g, i * 2, none⟩) (R.length - i) (cap - i)) (by simp [Act.eval, Act.put]) (by simp [Act.eval, Act.put]) HCB.out ?_)
  go_wp2_with fail
  go_ret
  exact ⟨_, rfl, HFI.out⟩
theorem ins_any (R : List Bm) (m : Bm) (v : Value) (B vb i : Nat) (w : World) (hn : R.length ≤ 1000000) (hB : B ≤ w.heap.size) (ho : w.ownsRow B 26 2 v R.length (flatM R)) (hv : w.heap[vb]? = some (.cells #[.string m.1, .string m.2] 26 (0, 0))) (hvg : v.ownBlock ≠ some vb) (hi : i ≤ R.length) :
    Calls Tryz.prog 43 #[v, .int .i64 i, .slice (some ⟨vb, 0, none⟩) 1 1] w fun e w' => ∃ v', e = .returned v' ∧ Insd B w w' v v' (R.take i ++ m :: R.drop i) := by
  by_cases he : i = R.length
  · subst he
    rw [List.take_length, List.drop_length]
    exact ins_end R m v B vb w hn hB ho hv
  · obtain ⟨_, ⟨_, h0⟩ | ⟨g, cap, cur, rfl, hBg, hg, hcap, hcm, hcs, hct⟩⟩ := ho
    · omega
    · by_cases hr : R.length + 1 ≤ cap
      · exact ins_room R m B g cap vb i cur w hn hBg hg hcm hcs hct hv (fun e => hvg (by rw [e]; rfl)) (by omega) hr
      · exact ins_grow R m B g cap vb i cur w hn hBg hg hcap hct hv (by omega) (by omega)
end Ve
end Go.Proofs.YtjhlkjgijbobcaaGreatDoor
