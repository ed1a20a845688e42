/-
  What the document's answer says of modules: ModError, ModText, IsAhead, ReadMod (a module's text).
-/
import Derived.Test.YtmgpapghdbopiaaGreatDoorRefL
import Derived.Test.YtmgpapghdbopiaaGreatDoorOrdE
import Derived.Deep.RegionHeld
namespace Go.Proofs.YtmgpapghdbopiaaGreatDoor
open Go.RowKit
namespace Ve

theorem n0_pos {l : List UInt8} (h : verErr l = 0) : 0 ≤ nAt l 0 ∧ nAt l 0 ≤ 999999 := by
  unfold verErr at h
  by_cases hc : marked l = false ∨ (coreOf l).length ≠ 3
  · rw [if_pos hc] at h; omega
  rw [if_neg hc] at h
  have h3 : (coreOf l).length = 3 := by
    rcases Nat.decEq (coreOf l).length 3 with h | h
    · exact absurd (Or.inr h) hc
    · exact h
  have hn : numsErr (coreOf l) = 0 := by
    cases e : hasPre l
    · rw [e] at h; exact h
    · rw [e] at h
      have h' : worse (numsErr (coreOf l)) (pre (preOf l)) = 0 := h
      unfold worse at h'
      by_cases q : numsErr (coreOf l) = 1 ∨ pre (preOf l) = 0
      · rw [if_pos q] at h'; exact h'
      · rw [if_neg q] at h'; exact absurd (Or.inr h') q
  obtain ⟨p0, p1, p2, hco⟩ : ∃ p0 p1 p2, coreOf l = [p0, p1, p2] := by
    match e : coreOf l, h3 with
    | [a, b, c], _ => exact ⟨a, b, c, rfl⟩
  have hz := ncode0 hn
  rw [hco] at hz
  have n0 : nAt l 0 = (num p0).1 := by simp [nAt, numsOf, hco]
  obtain ⟨_, l0, u0⟩ := itoa_num p0 (hz p0 (by simp))
  rw [n0]; exact ⟨l0, u0⟩
theorem pathN_is {l : List UInt8} (h : pathErr l = 0) : pathN l = 0 ∨ 2 ≤ pathN l := by
  unfold pathN
  cases hu : sufE l
  · left; rfl
  · right; exact suf_pos (suf_fits h hu)

set_option maxRecDepth 100000 in
set_option maxHeartbeats 4000000 in
theorem modError_any (p v : ByteArray) (w : World) (hp : p.size < 4294967281) (hv : v.size < 4294967281) :
    Calls Tryz.prog 28 #[.agg #[.string p, .string v]] w fun e w' => e = .returned (.int .i64 (modErr p.data.toList v.data.toList : Nat)) ∧ Below w.heap.size w w' := by
  have HB0 := hid ((Below.refl w.heap.size w).alloc (Nat.le_refl _) (.cells #[.string p, .string v] 45))
  have HP := hid (pathError_any p (w.alloc (.cells #[.string p, .string v] 45)) hp)
  have HM := hid (show modErr p.data.toList v.data.toList = if pathErr p.data.toList = 0 then (if verErr v.data.toList = 0 then (if fitsB (nAt v.data.toList 0) (pathN p.data.toList) then 0 else 4) else verErr v.data.toList) else pathErr p.data.toList from rfl)
  by_cases h0 : pathErr p.data.toList = 0
  · rw [if_pos h0] at HM
    have HV := hid (fun W => verOf_any v W hv)
    by_cases h1 : verErr v.data.toList = 0
    · rw [if_pos h1] at HM
      have HSP := hid (fun W => splitPath_any p W hp)
      have e2 : splitN p.data.toList = pathN p.data.toList := by unfold splitN; rw [if_pos h0]
      rw [e2] at HSP
      have HPN := hid (pathN_is h0)
      have HN0 := hid (n0_pos h1)
      have HF := hid (show fitsB (nAt v.data.toList 0) (pathN p.data.toList) = (if pathN p.data.toList == 0 then (nAt v.data.toList 0 == 0 || nAt v.data.toList 0 == 1) else nAt v.data.toList 0 == pathN p.data.toList) from rfl)
      have H1 := hid h1
      rw [h0] at HP
      clear h0 h1 e2
      go_enter Tryz.func28, Tryz.ntmps28
      go_wp2_with fail
      refine HP.out.mono ?_
      rintro e w1 ⟨rfl, hb1⟩
      have HB1 := hid (HB0.out.trans (hb1.mono HB0.out.size))
      obtain ⟨⟨r0, r1⟩, rz⟩ := res2 (hb1.mono (by simp))
      clear hb1
      go_wp2_with fail
      refine (HV.out _).mono ?_
      rintro e w2 ⟨hv2, hb2⟩
      obtain ⟨sa, cap, X2, rfl⟩ : ∃ sa cap X2, e = .returned (.tuple #[.agg #[.int .i64 (nAt v.data.toList 0), .int .i64 (nAt v.data.toList 1), .int .i64 (nAt v.data.toList 2), .slice sa X2 cap], .int .i64 0]) := by
        rcases hv2 with ⟨h, _⟩ | ⟨_, sa, cap, X2, e1, _⟩
        · exact absurd H1.out h
        · exact ⟨sa, cap, _, e1⟩
      have HB2 := hid (HB1.out.trans (hb2.mono HB1.out.size))
      have HC0 := hid (cell_below hb2 r0)
      have HBV := hid ((Below.refl w2.heap.size w2).alloc (Nat.le_refl _) (.cells #[.int .i64 (nAt v.data.toList 0), .int .i64 (nAt v.data.toList 1), .int .i64 (nAt v.data.toList 2), .slice sa X2 cap] 26))
      have c0 := cell_below HBV.out HC0.out
      have HB3 := hid (HB2.out.trans (HBV.out.mono HB2.out.size))
      generalize nAt v.data.toList 1 = b1 at *
      generalize nAt v.data.toList 2 = b2 at *
      generalize hn0 : nAt v.data.toList 0 = b0 at *
      clear hv2 hb2 hn0 r0 r1 rz
      go_wp2_with fail
      refine (HSP.out _).mono ?_
      rintro e w4 ⟨H, rfl, _, hb4⟩
      have HB4 := hid (HB3.out.trans (hb4.mono HB3.out.size))
      obtain ⟨⟨q0, q1, q2, q3⟩, _, qz⟩ := res4 (hb4.mono (by simp))
      generalize pathN p.data.toList = n at *
      clear hb4 c0
      have hb0 := HN0.out.1
      have hb9 := HN0.out.2
      by_cases hz : n = 0
      · subst hz
        by_cases hg : 1 < b0
        · have HR := hid (show (if fitsB b0 0 then 0 else 4) = 4 by
            have : fitsB b0 0 = false := by
              rw [HF.out]
              simp; omega
            rw [this]; rfl)
          rw [HR.out] at HM
          go_wp2_with fail
          go_ret
          exact ⟨by rw [HM.out]; rfl, HB4.out⟩
        · have HR := hid (show (if fitsB b0 0 then 0 else 4) = 0 by
            have : fitsB b0 0 = true := by
              rw [HF.out]
              simp; omega
            rw [this]; rfl)
          rw [HR.out] at HM
          go_wp2_with fail
          go_ret
          exact ⟨by rw [HM.out]; rfl, HB4.out⟩
      · have hpos : 0 < n := by have := HPN.out; omega
        have hnz : (n == 0) = false := beq_eq_false_iff_ne.2 hz
        by_cases hg : b0 = n
        · subst hg
          have HR := hid (show (if fitsB b0 b0 then 0 else 4) = 0 by
            have : fitsB b0 b0 = true := by
              rw [HF.out, hnz]; simp
            rw [this]; rfl)
          rw [HR.out] at HM
          have hbb : (b0 == b0) = true := by simp
          have hbn : (b0 != b0) = false := by simp
          go_wp2_with fail
          go_ret
          exact ⟨by rw [HM.out]; rfl, HB4.out⟩
        · have hbb : (b0 == n) = false := beq_eq_false_iff_ne.2 hg
          have hbn : (b0 != n) = true := by rw [bne, hbb]; rfl
          have HR := hid (show (if fitsB b0 n then 0 else 4) = 4 by
            have : fitsB b0 n = false := by
              rw [HF.out, hnz]; simpa using hg
            rw [this]; rfl)
          rw [HR.out] at HM
          go_wp2_with fail
          go_ret
          exact ⟨by rw [HM.out]; rfl, HB4.out⟩
    · rw [if_neg h1] at HM
      have H1 := hid h1
      have hpos : (0 : Int) < (verErr v.data.toList : Int) := by omega
      rw [h0] at HP
      rw [HM.out]
      clear h0 h1
      go_enter Tryz.func28, Tryz.ntmps28
      go_wp2_with fail
      refine HP.out.mono ?_
      rintro e w1 ⟨rfl, hb1⟩
      have HB1 := hid (HB0.out.trans (hb1.mono HB0.out.size))
      obtain ⟨⟨r0, r1⟩, rz⟩ := res2 (hb1.mono (by simp))
      clear hb1
      go_wp2_with fail
      refine (HV.out _).mono ?_
      rintro e w2 ⟨hv2, hb2⟩
      obtain rfl : e = .returned (.tuple #[.agg #[.int .i64 0, .int .i64 0, .int .i64 0, .slice none 0 0], .int .i64 (verErr v.data.toList : Nat)]) := by
        rcases hv2 with ⟨_, h⟩ | ⟨h, _⟩
        · exact h
        · exact absurd h H1.out
      have HB2 := hid (HB1.out.trans (hb2.mono HB1.out.size))
      have HBV := hid ((Below.refl w2.heap.size w2).alloc (Nat.le_refl _) (.cells #[.int .i64 0, .int .i64 0, .int .i64 0, .slice none 0 0] 26))
      have HB3 := hid (HB2.out.trans (HBV.out.mono HB2.out.size))
      clear hv2 hb2 r0 r1 rz
      generalize hce : (verErr v.data.toList : Int) = c at *
      have HCE := hid hce
      clear hce
      go_wp2_with fail
      go_ret
      exact ⟨by rw [HCE.out]; rfl, HB3.out⟩
  · rw [if_neg h0] at HM
    have hpos : (0 : Int) < (pathErr p.data.toList : Int) := by omega
    rw [HM.out]
    generalize (pathErr p.data.toList : Int) = c at *
    clear h0 HM
    go_enter Tryz.func28, Tryz.ntmps28
    go_wp2_with fail
    refine HP.out.mono ?_
    rintro e w1 ⟨rfl, hb1⟩
    have HB1 := hid (HB0.out.trans (hb1.mono HB0.out.size))
    clear hb1
    go_wp2_with fail
    go_ret
    exact ⟨rfl, HB1.out⟩

set_option maxHeartbeats 1000000 in
theorem modTxt_any (p v : ByteArray) (w : World) (hp : p.size < 999999) (hv : v.size < 999999) :
    Calls Tryz.prog 30 #[.agg #[.string p, .string v]] w fun e w' => ∃ T : ByteArray, e = .returned (.string T) ∧ T.data.toList = modText p.data.toList v.data.toList ∧ Below w.heap.size w w' := by
  have HT := hid (show modText p.data.toList v.data.toList = if modErr p.data.toList v.data.toList = 0 then p.data.toList ++ 64 :: v.data.toList else [] from rfl)
  have HB0 := hid ((Below.refl w.heap.size w).alloc (Nat.le_refl _) (.cells #[.string p, .string v] 45))
  have HC := hid (modError_any p v (w.alloc (.cells #[.string p, .string v] 45)) (by omega) (by omega))
  by_cases h0 : modErr p.data.toList v.data.toList = 0
  · rw [h0] at HC
    rw [if_pos h0] at HT
    clear h0
    go_enter Tryz.func30, Tryz.ntmps30
    go_wp2_with fail
    refine HC.out.mono ?_
    rintro e w1 ⟨rfl, hb⟩
    obtain ⟨⟨r0, r1⟩, rz⟩ := res2 (hb.mono (by simp))
    have HB := hid (HB0.out.trans (hb.mono HB0.out.size))
    clear hb
    go_wp2_with fail
    go_ret
    exact ⟨_, rfl, by rw [HT.out]; simp, HB.out⟩
  · have hpos : (0 : Int) < (modErr p.data.toList v.data.toList : Int) := by omega
    rw [if_neg h0] at HT
    rw [HT.out]
    generalize (modErr p.data.toList v.data.toList : Int) = c at *
    clear h0 HT
    go_enter Tryz.func30, Tryz.ntmps30
    go_wp2_with fail
    refine HC.out.mono ?_
    rintro e w1 ⟨rfl, hb⟩
    have HB := hid (HB0.out.trans (hb.mono HB0.out.size))
    clear hb
    go_wp2_with fail
    go_ret
    exact ⟨_, rfl, rfl, HB.out⟩

set_option maxHeartbeats 1000000 in
theorem isAhead_any (p v q u : ByteArray) (w : World) (hv : v.size < 999999) (hu : u.size < 999999) :
    Calls Tryz.prog 26 #[.agg #[.string p, .string v], .agg #[.string q, .string u]] w fun e w' => e = .returned (.bool (aheadB p.data.toList v.data.toList q.data.toList u.data.toList)) ∧ Below w.heap.size w w' := by
  have HO := hid (show aheadB p.data.toList v.data.toList q.data.toList u.data.toList = if p.data.toList = q.data.toList then lessB v.data.toList u.data.toList else decide (Lib.compareBytes p.data.toList q.data.toList < 0) from rfl)
  have HB0 := hid (((Below.refl w.heap.size w).alloc (Nat.le_refl _) (.cells #[.string p, .string v] 45)).alloc (by simp) (.cells #[.string q, .string u] 45))
  by_cases h : p = q
  · subst h
    rw [if_pos rfl] at HO
    have he := str_refl p
    have HL := hid (fun W => isLess_any v u W hv hu)
    go_enter Tryz.func26, Tryz.ntmps26
    go_wp2_with fail
    refine (HL.out _).mono ?_
    rintro e w1 ⟨rfl, hb⟩
    have HB := hid (HB0.out.trans (hb.mono HB0.out.size))
    clear hb
    go_wp2_with fail
    go_ret
    exact ⟨ret_bool HO.out.symm, HB.out⟩
  · rw [if_neg (fun e => h (str_ext e))] at HO
    have he := str_ne h
    have HC := hid (show Op.bytesLess p.toList q.toList = decide (Lib.compareBytes p.data.toList q.data.toList < 0) by rw [cb_less, ByteArray.toList_eq, ByteArray.toList_eq])
    clear h
    go_enter Tryz.func26, Tryz.ntmps26
    go_wp2_with fail
    go_ret
    exact ⟨ret_bool (by rw [HO.out, ← HC.out]), HB0.out⟩

/-- What ReadMod answers. -/
def ReadQ (l : List UInt8) (w w' : World) (e : Ending) : Prop :=
  (∃ P V : ByteArray, e = .returned (.tuple #[.agg #[.string P, .string V], .int .i64 (readErr l : Nat)]) ∧ (readErr l = 0 → P.data.toList = (one 64 l).1 ∧ V.data.toList = (one 64 l).2.1) ∧ (readErr l ≠ 0 → P = ⟨#[]⟩ ∧ V = ⟨#[]⟩)) ∧ Below w.heap.size w w'

set_option maxHeartbeats 1000000 in
theorem readMod_count (s : ByteArray) (w : World) (hs : s.size < 999999) (h0 : s.data.toList.count 64 ≠ 1) :
    Calls Tryz.prog 33 #[.string s] w fun e w' => e = .returned (.tuple #[.agg #[.string ⟨#[]⟩, .string ⟨#[]⟩], .int .i64 1]) ∧ Below w.heap.size w w' := by
  have HB0 := hid ((Below.refl w.heap.size w).alloc (Nat.le_refl _) (.cells #[.string ⟨#[]⟩, .string ⟨#[]⟩] 45))
  have H0 := hid h0
  clear h0
  go_enter Tryz.func33, Tryz.ntmps33
  go_wp2_with fail
  refine (rcut64 s _ (by omega)).mono ?_
  rintro e w1 ⟨v, X, rfl, hX, hown, hb⟩
  have hXN : X ≠ [] := fun h => by subst h; exact cutAt_ne _ _ hX.symm
  obtain ⟨g, cap, rfl, hg, hgz, hcells⟩ := owned_cells hown hXN
  have hXl : X.length = s.data.toList.count 64 + 1 := by rw [← cut_len 64, ← hX, bl_len]
  have h2b : ((X.length : Int) == 2) = false := beq_eq_false_iff_ne.2 (by have := H0.out; omega)
  have h2n : ((X.length : Int) != 2) = true := by rw [bne, h2b]; rfl
  have h2p : ¬ (X.length : Int) = 2 := by have := H0.out; omega
  have hXle := many_le hX
  obtain ⟨⟨r0, r1⟩, rz⟩ := res2 (hb.mono (by simp))
  have rf := res2f (hb.mono (by simp))
  have HB := hid (HB0.out.trans (hb.mono HB0.out.size))
  clear hX hown hb hg hgz hcells hXl hXN
  go_wp2_with fail
  refine bodyPost_ret (v := .tuple #[.agg #[.string ⟨#[]⟩, .string ⟨#[]⟩], .int .i64 1]) (by simp [results, Tryz.results33, go_sem, r0, r1]) rfl ⟨rfl, ?_⟩
  exact (HB.out.setCell (Nat.le_refl _) _).setCell (Nat.le_refl _) _

theorem two_of {X : List ByteArray} {a b : List UInt8} (h : bl X = [a, b]) : ∃ x y : ByteArray, X = [x, y] ∧ x.data.toList = a ∧ y.data.toList = b := by
  match X, h with
  | [x, y], h =>
    simp only [bl, List.map_cons, List.map_nil, List.cons.injEq, and_true] at h
    exact ⟨x, y, rfl, h.1, h.2⟩

set_option maxRecDepth 100000 in
set_option maxHeartbeats 2000000 in
theorem readMod_one (s : ByteArray) (w : World) (hs : s.size < 999999) (h0 : s.data.toList.count 64 = 1) : Calls Tryz.prog 33 #[.string s] w fun e w' => ReadQ s.data.toList w w' e := by
  have HB0 := hid ((Below.refl w.heap.size w).alloc (Nat.le_refl _) (.cells #[.string ⟨#[]⟩, .string ⟨#[]⟩] 45))
  have HRE := hid (show readErr s.data.toList = modErr (one 64 s.data.toList).1 (one 64 s.data.toList).2.1 by unfold readErr; rw [if_pos h0])
  have HC2 := hid (cut_two 64 s.data.toList h0)
  have HSZ := hid hs
  unfold ReadQ
  clear h0
  go_enter Tryz.func33, Tryz.ntmps33
  go_wp2_with fail
  refine (rcut64 s _ (by omega)).mono ?_
  rintro e w1 ⟨vv, X, rfl, hX, hown, hb⟩
  obtain ⟨P, V, rfl, hP, hV⟩ := two_of (hX.trans HC2.out)
  obtain ⟨g, cap, rfl, hg, hgz, hcells⟩ := owned_cells hown (by simp)
  have k0 : w1.cell? ⟨g, 0, none⟩ = some (.string P) := hcells 0 (by simp)
  have k1 : w1.cell? ⟨g, 1, none⟩ = some (.string V) := hcells 1 (by simp)
  have hPs : P.size < 999999 := by
    have h1 := size_of hP
    have h2 := (one_le 64 s.data.toList).1
    have := HSZ.out
    simp at h2; omega
  have hVs : V.size < 999999 := by
    have h1 := size_of hV
    have h2 := (one_le 64 s.data.toList).2
    have := HSZ.out
    simp at h2; omega
  have HP := hid hP
  have HV := hid hV
  have HBX := hid (show Below (w.heap.size + 1) (w.alloc (.cells #[.string ⟨#[]⟩, .string ⟨#[]⟩] 45)) w1 from hb.mono (by simp))
  have HBM := hid ((Below.refl w1.heap.size w1).alloc (Nat.le_refl _) (.cells #[.string P, .string V] 45))
  have HME := hid (fun W => modError_any P V W (by omega) (by omega))
  rw [hP, hV, ← HRE.out] at HME
  have hgw : ¬ g = w1.heap.size := by omega
  clear hX hown hb hg hgz hcells hP hV
  simp only [List.length_cons, List.length_nil, Nat.zero_add, Nat.reduceAdd]
  have n0 := World.new_ne w1 ⟨g, 0, none⟩ k0
  have n1 := World.new_ne w1 ⟨g, 1, none⟩ k1
  go_wp2_with fail
  go_region_held (fun W => W.cell? ⟨g, 0, none⟩ = some (.string P) ∧ W.cell? ⟨g, 1, none⟩ = some (.string V)) (go_keep) (fail)
  go_wp2_with fail
  refine (HME.out _).mono ?_
  rintro e w2 ⟨rfl, hb2⟩
  have HDD := hid (below_drawn (w1.alloc (.cells #[.string P, .string V] 45)) 1)
  replace hb2 := HDD.out.trans (hb2.mono HDD.out.size)
  obtain ⟨⟨q0, q1⟩, qz⟩ := res2 (hb2.mono (by simp))
  have HBY := hid (HBX.out.trans ((HBM.out.trans (hb2.mono (by simp))).mono (by have := HBX.out.size; simpa using this)))
  obtain ⟨⟨r0, r1⟩, rz⟩ := res2 HBY.out
  have rf := res2f HBY.out
  have HBF := hid (HB0.out.trans (HBY.out.mono (by omega)))
  have hne1 : ¬ w.heap.size = w1.heap.size := by have := HBX.out.size; simp at this; omega
  have hne2 : ¬ w1.heap.size = w.heap.size := fun h => hne1 h.symm
  clear hb2
  by_cases h1 : readErr s.data.toList = 0
  · have H1 := hid h1
    rw [h1]
    clear h1
    go_wp2_with fail
    refine bodyPost_ret (v := .tuple #[.agg #[.string P, .string V], .int .i64 0]) (by simp [results, Tryz.results33, go_sem, r0, r1]) rfl ⟨⟨P, V, by rw [H1.out]; rfl, fun _ => ⟨HP.out, HV.out⟩, fun h => absurd H1.out h⟩, ?_⟩
    exact (HBF.out.setCell (Nat.le_refl _) _).setCell (Nat.le_refl _) _
  · have H1 := hid h1
    have hpos : (0 : Int) < (readErr s.data.toList : Int) := by omega
    generalize hce : (readErr s.data.toList : Int) = c at *
    have HCE := hid hce
    clear h1 hce
    go_wp2_with fail
    refine bodyPost_ret (v := .tuple #[.agg #[.string ⟨#[]⟩, .string ⟨#[]⟩], .int .i64 c]) (by simp [results, Tryz.results33, go_sem, r0, r1]) rfl ⟨⟨⟨#[]⟩, ⟨#[]⟩, by rw [HCE.out], fun h => absurd h H1.out, fun _ => ⟨rfl, rfl⟩⟩, ?_⟩
    exact (HBF.out.setCell (Nat.le_refl _) _).setCell (Nat.le_refl _) _

theorem readMod_any (s : ByteArray) (w : World) (hs : s.size < 999999) : Calls Tryz.prog 33 #[.string s] w fun e w' => ReadQ s.data.toList w w' e := by
  by_cases h0 : s.data.toList.count 64 = 1
  · exact readMod_one s w hs h0
  · have hr : readErr s.data.toList = 1 := by unfold readErr; rw [if_neg h0]
    exact (readMod_count s w hs h0).mono fun e w' ⟨h1, h2⟩ => ⟨⟨_, _, by rw [h1, hr]; rfl, (fun h => by rw [hr] at h; cases h), fun _ => ⟨rfl, rfl⟩⟩, h2⟩
end Ve
end Go.Proofs.YtmgpapghdbopiaaGreatDoor
