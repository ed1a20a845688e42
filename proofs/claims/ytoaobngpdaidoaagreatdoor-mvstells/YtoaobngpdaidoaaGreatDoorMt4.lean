/-
  What Check, Less and Max of package ver answer, and the document's IsLess and MaxOf: the same; nothing old in memory turns.
-/
import Derived.Test.YtoaobngpdaidoaaGreatDoorOrdD
import Derived.Test.YtoaobngpdaidoaaGreatDoorLessAny
import Derived.Test.YtoaobngpdaidoaaGreatDoorMt3
import Derived.Deep.RegionHeld
import Derived.Test.YtoaobngpdaidoaaGreatDoorMt2
import Derived.Test.YtoaobngpdaidoaaGreatDoorProg
import Derived.Test.YtoaobngpdaidoaaGreatDoorMt1
namespace Go.Proofs.YtoaobngpdaidoaaGreatDoor
open Go.RowKit
namespace Ve

def maxB (s t : ByteArray) : ByteArray :=
  if verErr s.data.toList = 0 then (if verErr t.data.toList = 0 then (if ordV s.data.toList t.data.toList < 0 then t else s) else s) else if verErr t.data.toList = 0 then t else ⟨#[]⟩

set_option maxHeartbeats 1000000 in
theorem isLess_any (s t : ByteArray) (w : World) (hs : s.size < 999999) (ht : t.size < 999999) :
    Calls Tryz.prog 59 #[.string s, .string t] w fun e w' => e = .returned (.bool (lessB s.data.toList t.data.toList)) ∧ Below w.heap.size w w' := by
  have HL := hid (show lessB s.data.toList t.data.toList = (decide (verErr s.data.toList = 0) && (decide (verErr t.data.toList = 0) && decide (ordV s.data.toList t.data.toList < 0))) from rfl)
  have HA := hid (isVer_any s w (by omega))
  have HT := hid (fun W => isVer_any t W (by omega))
  by_cases h1 : verErr s.data.toList = 0
  all_goals by_cases h2 : verErr t.data.toList = 0
  · have HO := hid (fun W => orderVer_any s t W hs ht h1 h2)
    rw [decide_eq_true h1] at HA
    rw [decide_eq_true h2] at HT
    rw [decide_eq_true h1, decide_eq_true h2] at HL
    clear h1 h2
    generalize ordV s.data.toList t.data.toList = k at *
    go_enter Tryz.func59, Tryz.ntmps59
    go_wp2_with fail
    refine HA.out.mono ?_
    rintro e w1 ⟨rfl, hb1⟩
    have HB1 := hid hb1
    clear hb1
    go_wp2_with fail
    refine (HT.out _).mono ?_
    rintro e w2 ⟨rfl, hb2⟩
    have HB2 := hid (HB1.out.trans (hb2.mono HB1.out.size))
    clear hb2
    go_wp2_with fail
    refine (HO.out _).mono ?_
    rintro e w3 ⟨rfl, hb3⟩
    have HB3 := hid (HB2.out.trans (hb3.mono HB2.out.size))
    clear hb3
    go_wp2_with fail
    go_ret
    exact ⟨ret_bool (by rw [HL.out]; rfl), HB3.out⟩
  · rw [decide_eq_true h1] at HA
    rw [decide_eq_false h2] at HT
    rw [decide_eq_true h1, decide_eq_false h2] at HL
    clear h1 h2
    go_enter Tryz.func59, Tryz.ntmps59
    go_wp2_with fail
    refine HA.out.mono ?_
    rintro e w1 ⟨rfl, hb1⟩
    have HB1 := hid hb1
    clear hb1
    go_wp2_with fail
    refine (HT.out _).mono ?_
    rintro e w2 ⟨rfl, hb2⟩
    have HB2 := hid (HB1.out.trans (hb2.mono HB1.out.size))
    clear hb2
    go_wp2_with fail
    go_ret
    exact ⟨ret_bool (by rw [HL.out]; rfl), HB2.out⟩
  · rw [decide_eq_false h1] at HA
    rw [decide_eq_true h2] at HT
    rw [decide_eq_false h1] at HL
    clear h1 h2
    go_enter Tryz.func59, Tryz.ntmps59
    go_wp2_with fail
    refine HA.out.mono ?_
    rintro e w1 ⟨rfl, hb1⟩
    have HB1 := hid hb1
    clear hb1
    go_wp2_with fail
    refine (HT.out _).mono ?_
    rintro e w2 ⟨rfl, hb2⟩
    have HB2 := hid (HB1.out.trans (hb2.mono HB1.out.size))
    clear hb2
    go_wp2_with fail
    go_ret
    exact ⟨ret_bool (by rw [HL.out]; rfl), HB2.out⟩
  · rw [decide_eq_false h1] at HA
    rw [decide_eq_false h2] at HT
    rw [decide_eq_false h1] at HL
    clear h1 h2
    go_enter Tryz.func59, Tryz.ntmps59
    go_wp2_with fail
    refine HA.out.mono ?_
    rintro e w1 ⟨rfl, hb1⟩
    have HB1 := hid hb1
    clear hb1
    go_wp2_with fail
    refine (HT.out _).mono ?_
    rintro e w2 ⟨rfl, hb2⟩
    have HB2 := hid (HB1.out.trans (hb2.mono HB1.out.size))
    clear hb2
    go_wp2_with fail
    go_ret
    exact ⟨ret_bool (by rw [HL.out]; rfl), HB2.out⟩

theorem ret_str {a b : ByteArray} (h : a = b) : Ending.returned (.string a) = .returned (.string b) := by rw [h]
set_option maxHeartbeats 1000000 in
theorem maxOf_any (s t : ByteArray) (w : World) (hs : s.size < 999999) (ht : t.size < 999999) :
    Calls Tryz.prog 81 #[.string s, .string t] w fun e w' => e = .returned (.string (maxB s t)) ∧ Below w.heap.size w w' := by
  have HL := hid (show maxB s t = if verErr s.data.toList = 0 then (if verErr t.data.toList = 0 then (if ordV s.data.toList t.data.toList < 0 then t else s) else s) else if verErr t.data.toList = 0 then t else ⟨#[]⟩ from rfl)
  have HA := hid (isVer_any s w (by omega))
  have HT := hid (fun W => isVer_any t W (by omega))
  by_cases h1 : verErr s.data.toList = 0
  all_goals by_cases h2 : verErr t.data.toList = 0
  · have HO := hid (fun W => orderVer_any s t W hs ht h1 h2)
    rw [decide_eq_true h1] at HA
    rw [decide_eq_true h2] at HT
    rw [if_pos h1, if_pos h2] at HL
    clear h1 h2
    generalize ordV s.data.toList t.data.toList = k at *
    by_cases hk : k < 0
    · rw [if_pos hk] at HL
      go_enter Tryz.func81, Tryz.ntmps81
      go_wp2_with fail
      refine HA.out.mono ?_
      rintro e w1 ⟨rfl, hb1⟩
      have HB1 := hid hb1
      clear hb1
      go_wp2_with fail
      refine (HT.out _).mono ?_
      rintro e w2 ⟨rfl, hb2⟩
      have HB2 := hid (HB1.out.trans (hb2.mono HB1.out.size))
      clear hb2
      go_wp2_with fail
      refine (HO.out _).mono ?_
      rintro e w3 ⟨rfl, hb3⟩
      have HB3 := hid (HB2.out.trans (hb3.mono HB2.out.size))
      clear hb3
      go_wp2_with fail
      go_ret
      exact ⟨ret_str HL.out.symm, HB3.out⟩
    · rw [if_neg hk] at HL
      go_enter Tryz.func81, Tryz.ntmps81
      go_wp2_with fail
      refine HA.out.mono ?_
      rintro e w1 ⟨rfl, hb1⟩
      have HB1 := hid hb1
      clear hb1
      go_wp2_with fail
      refine (HT.out _).mono ?_
      rintro e w2 ⟨rfl, hb2⟩
      have HB2 := hid (HB1.out.trans (hb2.mono HB1.out.size))
      clear hb2
      go_wp2_with fail
      refine (HO.out _).mono ?_
      rintro e w3 ⟨rfl, hb3⟩
      have HB3 := hid (HB2.out.trans (hb3.mono HB2.out.size))
      clear hb3
      go_wp2_with fail
      go_ret
      exact ⟨ret_str HL.out.symm, HB3.out⟩
  · rw [decide_eq_true h1] at HA
    rw [decide_eq_false h2] at HT
    rw [if_pos h1, if_neg h2] at HL
    clear h1 h2
    go_enter Tryz.func81, Tryz.ntmps81
    go_wp2_with fail
    refine HA.out.mono ?_
    rintro e w1 ⟨rfl, hb1⟩
    have HB1 := hid hb1
    clear hb1
    go_wp2_with fail
    refine (HT.out _).mono ?_
    rintro e w2 ⟨rfl, hb2⟩
    have HB2 := hid (HB1.out.trans (hb2.mono HB1.out.size))
    clear hb2
    go_wp2_with fail
    go_ret
    exact ⟨ret_str HL.out.symm, HB2.out⟩
  · rw [decide_eq_false h1] at HA
    rw [decide_eq_true h2] at HT
    rw [if_neg h1, if_pos h2] at HL
    clear h1 h2
    go_enter Tryz.func81, Tryz.ntmps81
    go_wp2_with fail
    refine HA.out.mono ?_
    rintro e w1 ⟨rfl, hb1⟩
    have HB1 := hid hb1
    clear hb1
    go_wp2_with fail
    refine (HT.out _).mono ?_
    rintro e w2 ⟨rfl, hb2⟩
    have HB2 := hid (HB1.out.trans (hb2.mono HB1.out.size))
    clear hb2
    go_wp2_with fail
    go_ret
    exact ⟨ret_str HL.out.symm, HB2.out⟩
  · rw [decide_eq_false h1] at HA
    rw [decide_eq_false h2] at HT
    rw [if_neg h1, if_neg h2] at HL
    clear h1 h2
    go_enter Tryz.func81, Tryz.ntmps81
    go_wp2_with fail
    refine HA.out.mono ?_
    rintro e w1 ⟨rfl, hb1⟩
    have HB1 := hid hb1
    clear hb1
    go_wp2_with fail
    refine (HT.out _).mono ?_
    rintro e w2 ⟨rfl, hb2⟩
    have HB2 := hid (HB1.out.trans (hb2.mono HB1.out.size))
    clear hb2
    go_wp2_with fail
    go_ret
    exact ⟨ret_str HL.out.symm, HB2.out⟩

theorem check_any (s : ByteArray) (aT aB : Addr) (m : Int) (w : World) (hs : s.size < 4294967281) (S : Vs w aT aB m) :
    Calls Tryz.prog 173 #[.string s] w fun e w' => e = .returned (errV aT aB (verErr s.data.toList)) ∧ Below w.heap.size w w' := by
  have HC := hid (vsplit_any s aT aB m w hs S)
  clear S
  go_enter Tryz.func173, Tryz.ntmps173
  go_wp2_with fail
  refine HC.out.mono ?_
  rintro e w1 ⟨h1, hb⟩
  have HB := hid hb
  clear hb
  rcases h1 with ⟨h0, rfl⟩ | ⟨h0, v, X, rfl, _, hst⟩
  · obtain ⟨a, ha⟩ := errV_ne aT aB h0
    have HE := hid ha
    rw [ha]
    clear h0 ha
    go_wp2_with fail
    go_ret
    exact ⟨by rw [HE.out]; rfl, HB.out.alloc HB.out.size _⟩
  · obtain ⟨p, n, c, rfl⟩ := hst.slice
    have HE := hid (show errV aT aB (verErr s.data.toList) = .nilIface by rw [h0]; rfl)
    clear h0 hst
    go_wp2_with fail
    go_ret
    exact ⟨by rw [HE.out]; rfl, HB.out.alloc HB.out.size _⟩

end Ve
end Go.Proofs.YtoaobngpdaidoaaGreatDoor

/-
  What the document's answer says of modules: ModError, ModText, IsAhead, ReadMod (a module's text).
-/
namespace Go.Proofs.YtoaobngpdaidoaaGreatDoor
open Go.RowKit
namespace Ve

theorem n0_pos {l : List UInt8} (h : verErr l = 0) : 0 ≤ nAt l 0 ∧ nAt l 0 ≤ 999999 := by
  unfold verErr at h
  by_cases hc : marked l = false ∨ (coreOf l).length ≠ 3
  · rw [if_pos hc] at h; omega
  rw [if_neg hc] at h
  have h3 : (coreOf l).length = 3 := by
    rcases Nat.decEq (coreOf l).length 3 with h | h
    · exact absurd (Or.inr h) hc
    · exact h
  have hn : numsErr (coreOf l) = 0 := by
    cases e : hasPre l
    · rw [e] at h; exact h
    · rw [e] at h
      have h' : worse (numsErr (coreOf l)) (pre (preOf l)) = 0 := h
      unfold worse at h'
      by_cases q : numsErr (coreOf l) = 1 ∨ pre (preOf l) = 0
      · rw [if_pos q] at h'; exact h'
      · rw [if_neg q] at h'; exact absurd (Or.inr h') q
  obtain ⟨p0, p1, p2, hco⟩ : ∃ p0 p1 p2, coreOf l = [p0, p1, p2] := by
    match e : coreOf l, h3 with
    | [a, b, c], _ => exact ⟨a, b, c, rfl⟩
  have hz := ncode0 hn
  rw [hco] at hz
  have n0 : nAt l 0 = (num p0).1 := by simp [nAt, numsOf, hco]
  obtain ⟨_, l0, u0⟩ := itoa_num p0 (hz p0 (by simp))
  rw [n0]; exact ⟨l0, u0⟩
theorem pathN_is {l : List UInt8} (h : pathErr l = 0) : pathN l = 0 ∨ 2 ≤ pathN l := by
  unfold pathN
  cases hu : sufE l
  · left; rfl
  · right; exact suf_pos (suf_fits h hu)

set_option maxRecDepth 100000 in
set_option maxHeartbeats 4000000 in
theorem modError_any (p v : ByteArray) (w : World) (hp : p.size < 4294967281) (hv : v.size < 4294967281) :
    Calls Tryz.prog 51 #[.agg #[.string p, .string v]] w fun e w' => e = .returned (.int .i64 (modErr p.data.toList v.data.toList : Nat)) ∧ Below w.heap.size w w' := by
  have HB0 := hid ((Below.refl w.heap.size w).alloc (Nat.le_refl _) (.cells #[.string p, .string v] 46))
  have HP := hid (pathError_any p (w.alloc (.cells #[.string p, .string v] 46)) hp)
  have HM := hid (show modErr p.data.toList v.data.toList = if pathErr p.data.toList = 0 then (if verErr v.data.toList = 0 then (if fitsB (nAt v.data.toList 0) (pathN p.data.toList) then 0 else 4) else verErr v.data.toList) else pathErr p.data.toList from rfl)
  by_cases h0 : pathErr p.data.toList = 0
  · rw [if_pos h0] at HM
    have HV := hid (fun W => verOf_any v W hv)
    by_cases h1 : verErr v.data.toList = 0
    · rw [if_pos h1] at HM
      have HSP := hid (fun W => splitPath_any p W hp)
      have e2 : splitN p.data.toList = pathN p.data.toList := by unfold splitN; rw [if_pos h0]
      rw [e2] at HSP
      have HPN := hid (pathN_is h0)
      have HN0 := hid (n0_pos h1)
      have HF := hid (show fitsB (nAt v.data.toList 0) (pathN p.data.toList) = (if pathN p.data.toList == 0 then (nAt v.data.toList 0 == 0 || nAt v.data.toList 0 == 1) else nAt v.data.toList 0 == pathN p.data.toList) from rfl)
      have H1 := hid h1
      rw [h0] at HP
      clear h0 h1 e2
      go_enter Tryz.func51, Tryz.ntmps51
      go_wp2_with fail
      refine HP.out.mono ?_
      rintro e w1 ⟨rfl, hb1⟩
      have HB1 := hid (HB0.out.trans (hb1.mono HB0.out.size))
      obtain ⟨⟨r0, r1⟩, rz⟩ := res2 (hb1.mono (by simp))
      clear hb1
      go_wp2_with fail
      refine (HV.out _).mono ?_
      rintro e w2 ⟨hv2, hb2⟩
      obtain ⟨sa, cap, X2, rfl⟩ : ∃ sa cap X2, e = .returned (.tuple #[.agg #[.int .i64 (nAt v.data.toList 0), .int .i64 (nAt v.data.toList 1), .int .i64 (nAt v.data.toList 2), .slice sa X2 cap], .int .i64 0]) := by
        rcases hv2 with ⟨h, _⟩ | ⟨_, sa, cap, X2, e1, _⟩
        · exact absurd H1.out h
        · exact ⟨sa, cap, _, e1⟩
      have HB2 := hid (HB1.out.trans (hb2.mono HB1.out.size))
      have HC0 := hid (cell_below hb2 r0)
      have HBV := hid ((Below.refl w2.heap.size w2).alloc (Nat.le_refl _) (.cells #[.int .i64 (nAt v.data.toList 0), .int .i64 (nAt v.data.toList 1), .int .i64 (nAt v.data.toList 2), .slice sa X2 cap] 107))
      have c0 := cell_below HBV.out HC0.out
      have HB3 := hid (HB2.out.trans (HBV.out.mono HB2.out.size))
      generalize nAt v.data.toList 1 = b1 at *
      generalize nAt v.data.toList 2 = b2 at *
      generalize hn0 : nAt v.data.toList 0 = b0 at *
      clear hv2 hb2 hn0 r0 r1 rz
      go_wp2_with fail
      refine (HSP.out _).mono ?_
      rintro e w4 ⟨H, rfl, _, hb4⟩
      have HB4 := hid (HB3.out.trans (hb4.mono HB3.out.size))
      obtain ⟨⟨q0, q1, q2, q3⟩, _, qz⟩ := res4 (hb4.mono (by simp))
      generalize pathN p.data.toList = n at *
      clear hb4 c0
      have hb0 := HN0.out.1
      have hb9 := HN0.out.2
      by_cases hz : n = 0
      · subst hz
        by_cases hg : 1 < b0
        · have HR := hid (show (if fitsB b0 0 then 0 else 4) = 4 by
            have : fitsB b0 0 = false := by
              rw [HF.out]
              simp; omega
            rw [this]; rfl)
          rw [HR.out] at HM
          go_wp2_with fail
          go_ret
          exact ⟨by rw [HM.out]; rfl, HB4.out⟩
        · have HR := hid (show (if fitsB b0 0 then 0 else 4) = 0 by
            have : fitsB b0 0 = true := by
              rw [HF.out]
              simp; omega
            rw [this]; rfl)
          rw [HR.out] at HM
          go_wp2_with fail
          go_ret
          exact ⟨by rw [HM.out]; rfl, HB4.out⟩
      · have hpos : 0 < n := by have := HPN.out; omega
        have hnz : (n == 0) = false := beq_eq_false_iff_ne.2 hz
        by_cases hg : b0 = n
        · subst hg
          have HR := hid (show (if fitsB b0 b0 then 0 else 4) = 0 by
            have : fitsB b0 b0 = true := by
              rw [HF.out, hnz]; simp
            rw [this]; rfl)
          rw [HR.out] at HM
          have hbb : (b0 == b0) = true := by simp
          have hbn : (b0 != b0) = false := by simp
          go_wp2_with fail
          go_ret
          exact ⟨by rw [HM.out]; rfl, HB4.out⟩
        · have hbb : (b0 == n) = false := beq_eq_false_iff_ne.2 hg
          have hbn : (b0 != n) = true := by rw [bne, hbb]; rfl
          have HR := hid (show (if fitsB b0 n then 0 else 4) = 4 by
            have : fitsB b0 n = false := by
              rw [HF.out, hnz]; simpa using hg
            rw [this]; rfl)
          rw [HR.out] at HM
          go_wp2_with fail
          go_ret
          exact ⟨by rw [HM.out]; rfl, HB4.out⟩
    · rw [if_neg h1] at HM
      have H1 := hid h1
      have hpos : (0 : Int) < (verErr v.data.toList : Int) := by omega
      rw [h0] at HP
      rw [HM.out]
      clear h0 h1
      go_enter Tryz.func51, Tryz.ntmps51
      go_wp2_with fail
      refine HP.out.mono ?_
      rintro e w1 ⟨rfl, hb1⟩
      have HB1 := hid (HB0.out.trans (hb1.mono HB0.out.size))
      obtain ⟨⟨r0, r1⟩, rz⟩ := res2 (hb1.mono (by simp))
      clear hb1
      go_wp2_with fail
      refine (HV.out _).mono ?_
      rintro e w2 ⟨hv2, hb2⟩
      obtain rfl : e = .returned (.tuple #[.agg #[.int .i64 0, .int .i64 0, .int .i64 0, .slice none 0 0], .int .i64 (verErr v.data.toList : Nat)]) := by
        rcases hv2 with ⟨_, h⟩ | ⟨h, _⟩
        · exact h
        · exact absurd h H1.out
      have HB2 := hid (HB1.out.trans (hb2.mono HB1.out.size))
      have HBV := hid ((Below.refl w2.heap.size w2).alloc (Nat.le_refl _) (.cells #[.int .i64 0, .int .i64 0, .int .i64 0, .slice none 0 0] 107))
      have HB3 := hid (HB2.out.trans (HBV.out.mono HB2.out.size))
      clear hv2 hb2 r0 r1 rz
      generalize hce : (verErr v.data.toList : Int) = c at *
      have HCE := hid hce
      clear hce
      go_wp2_with fail
      go_ret
      exact ⟨by rw [HCE.out]; rfl, HB3.out⟩
  · rw [if_neg h0] at HM
    have hpos : (0 : Int) < (pathErr p.data.toList : Int) := by omega
    rw [HM.out]
    generalize (pathErr p.data.toList : Int) = c at *
    clear h0 HM
    go_enter Tryz.func51, Tryz.ntmps51
    go_wp2_with fail
    refine HP.out.mono ?_
    rintro e w1 ⟨rfl, hb1⟩
    have HB1 := hid (HB0.out.trans (hb1.mono HB0.out.size))
    clear hb1
    go_wp2_with fail
    go_ret
    exact ⟨rfl, HB1.out⟩

set_option maxHeartbeats 1000000 in
theorem isAhead_any (p v q u : ByteArray) (w : World) (hv : v.size < 999999) (hu : u.size < 999999) :
    Calls Tryz.prog 103 #[.agg #[.string p, .string v], .agg #[.string q, .string u]] w fun e w' => e = .returned (.bool (aheadB p.data.toList v.data.toList q.data.toList u.data.toList)) ∧ Below w.heap.size w w' := by
  have HO := hid (show aheadB p.data.toList v.data.toList q.data.toList u.data.toList = if p.data.toList = q.data.toList then lessB v.data.toList u.data.toList else decide (Lib.compareBytes p.data.toList q.data.toList < 0) from rfl)
  have HB0 := hid (((Below.refl w.heap.size w).alloc (Nat.le_refl _) (.cells #[.string p, .string v] 46)).alloc (by simp) (.cells #[.string q, .string u] 46))
  by_cases h : p = q
  · subst h
    rw [if_pos rfl] at HO
    have he := str_refl p
    have HL := hid (fun W => isLess_any v u W hv hu)
    go_enter Tryz.func103, Tryz.ntmps103
    go_wp2_with fail
    refine (HL.out _).mono ?_
    rintro e w1 ⟨rfl, hb⟩
    have HB := hid (HB0.out.trans (hb.mono HB0.out.size))
    clear hb
    go_wp2_with fail
    go_ret
    exact ⟨ret_bool HO.out.symm, HB.out⟩
  · rw [if_neg (fun e => h (str_ext e))] at HO
    have he := str_ne h
    have HC := hid (show Op.bytesLess p.toList q.toList = decide (Lib.compareBytes p.data.toList q.data.toList < 0) by rw [cb_less, ByteArray.toList_eq, ByteArray.toList_eq])
    clear h
    go_enter Tryz.func103, Tryz.ntmps103
    go_wp2_with fail
    go_ret
    exact ⟨ret_bool (by rw [HO.out, ← HC.out]), HB0.out⟩

theorem two_of {X : List ByteArray} {a b : List UInt8} (h : bl X = [a, b]) : ∃ x y : ByteArray, X = [x, y] ∧ x.data.toList = a ∧ y.data.toList = b := by
  match X, h with
  | [x, y], h =>
    simp only [bl, List.map_cons, List.map_nil, List.cons.injEq, and_true] at h
    exact ⟨x, y, rfl, h.1, h.2⟩

end Ve
end Go.Proofs.YtoaobngpdaidoaaGreatDoor

/-
  What the document's answer says of requirements (reqsError): the first one that is wrong, and its place; nothing old in memory turns.
-/
namespace Go.Proofs.YtoaobngpdaidoaaGreatDoor
open Go.RowKit
namespace Ve

def reqsR (own : ByteArray) (L : List Bm) : Nat × Nat := match fstE (reqE own L) L.length with
  | some i => (reqE own L i, i)
  | none => (0, 0)
theorem reqsR_some {own : ByteArray} {L : List Bm} {k : Nat} (h0 : ∀ j, j < k → reqE own L j = 0) (hk : k < L.length) (h : reqE own L k ≠ 0) : reqsR own L = (reqE own L k, k) := by
  unfold reqsR; rw [fstE_some h0 h hk]
theorem reqsR_none {own : ByteArray} {L : List Bm} (h : ∀ j, j < L.length → reqE own L j = 0) : reqsR own L = (0, 0) := by
  unfold reqsR; rw [fstE_none h]
theorem zero_next {E : Nat → Nat} {k : Nat} (h : ∀ j, j < k → E j = 0) (hk : E k = 0) : ∀ j, j < k + 1 → E j = 0 := fun j hj => by
  rcases Nat.lt_or_ge j k with h1 | h1
  · exact h j h1
  · have : j = k := by omega
    subst this; exact hk
theorem leq_no (a b : ByteArray) : (Op.bytesLess a.toList b.toList || a.toList == b.toList) = noLess b a := by
  have h := cb_more a.toList b.toList
  rw [ByteArray.toList_eq, ByteArray.toList_eq] at h ⊢
  unfold noLess
  rw [cb_swap a.data.toList b.data.toList]
  cases hx : (Op.bytesLess a.data.toList b.data.toList || a.data.toList == b.data.toList) <;> rw [hx] at h <;> simp at h ⊢ <;> omega
theorem leq_is (a b : ByteArray) (X : World) : (binOp BinOp.leq 9 (.string a) (.string b)).run Tryz.prog X = .ok (.bool (noLess b a)) X := by rw [← leq_no]; rfl

set_option maxHeartbeats 4000000 in
set_option maxRecDepth 100000 in
theorem reqsE_some (own : ByteArray) (L : List Bm) (b o c : Nat) (w : World) (hn : L.length ≤ 1000000) (hs : shortL L)
    (hc : ∀ j (h : j < L.length), w.cell? ⟨b, o + j * 2, none⟩ = some (.string L[j].1) ∧ w.cell? ⟨b, o + j * 2 + 1, none⟩ = some (.string L[j].2)) :
    Calls Tryz.prog 104 #[.slice (some ⟨b, o, none⟩) L.length c, .string own] w fun e w' => e = .returned (.tuple #[.int .i64 ((reqsR own L).1 : Nat), .int .i64 ((reqsR own L).2 : Nat)]) ∧ Below w.heap.size w w' := by
  have HC := hid hc
  have HS := hid hs
  generalize hr : reqsR own L = r
  have HR := hid hr
  clear hc hs hr
  go_enter Tryz.func104, Tryz.ntmps104
  go_wp2_with fail
  go_loopw [6] (fun i wr => ∃ k : Nat, k ≤ L.length ∧ i = .int .i64 k ∧ Hid (∀ j, j < k → reqE own L j = 0) ∧ Hid (Below w.heap.size w wr)) (fun i _ => L.length - (intOf i).toNat)
  case atStart => exact ⟨0, Nat.zero_le _, rfl, hid (fun j hj => absurd hj (by omega)), hid (Below.refl _ _)⟩
  case round =>
    obtain ⟨k, hk, rfl, HZ, HB⟩ := hrel
    by_cases hlt : k < L.length
    · have hx := cell_below HB.out (HC.out k hlt).1
      have hy := cell_below HB.out (HC.out k hlt).2
      have hkI : (k : Int) < (L.length : Int) := by omega
      have HM := hid (modError_any L[k].1 L[k].2 wr (by have := (HS.out L[k] (List.getElem_mem hlt)).1; omega) (by have := (HS.out L[k] (List.getElem_mem hlt)).2; omega))
      rw [show modErr L[k].1.data.toList L[k].2.data.toList = mErr L[k] from rfl] at HM
      have HN := hid (fun h => reqsR_some HZ.out hlt h)
      have HY := hid (fun h => zero_next HZ.out h)
      have HLT := hid hlt
      rcases Nat.eq_zero_or_pos k with h00 | h00
      · have HE := hid (show reqE own L k = reqW own none L[k] by subst h00; exact reqE_0 hlt)
        have g3 : decide (0 < k) = false := decide_eq_false (by omega)
        generalize L[k] = x at *
        obtain ⟨p, v⟩ := x
        clear hlt h00
        by_cases h0 : mErr (p, v) = 0
        · rw [h0] at HM
          by_cases h1 : p = own
          · have HV := hid (HN.out (by rw [HE.out, reqW_own h0 h1]; decide))
            rw [HE.out, reqW_own h0 h1] at HV
            rw [h1] at hx HM
            have hq := str_refl own
            clear h0 h1
            go_wp2_with fail
            refine HM.out.mono ?_
            rintro e w1 ⟨rfl, hb⟩
            have HB1 := hid (HB.out.trans (hb.mono HB.out.size))
            replace hx := cell_below hb hx
            replace hy := cell_below hb hy
            clear hb
            go_wp2_with fail
            go_ret2
            exact ⟨by rw [← HR.out, HV.out]; rfl, HB1.out⟩
          · have HV := hid (HY.out (by rw [HE.out, reqW_none h0 h1]))
            have hq := str_ne h1
            clear h0 h1
            go_wp2_with fail
            refine HM.out.mono ?_
            rintro e w1 ⟨rfl, hb⟩
            have HB1 := hid (HB.out.trans (hb.mono HB.out.size))
            replace hx := cell_below hb hx
            replace hy := cell_below hb hy
            clear hb
            go_wp2_with fail
            go_quiet (fail)
            go_wp2_with fail
            go_roundw
            case rel => exact ⟨k + 1, by have := HLT.out; omega, by go_num, HV, hid (below_drawn_of HB1.out _)⟩
            case measure => have := HLT.out; simp [intOf]; omega
        · have HV := hid (HN.out (by rw [HE.out, reqW_bad h0]; exact h0))
          rw [HE.out, reqW_bad h0] at HV
          have hpos : (0 : Int) < (mErr (p, v) : Int) := by omega
          generalize mErr (p, v) = z at *
          clear h0
          go_wp2_with fail
          refine HM.out.mono ?_
          rintro e w1 ⟨rfl, hb⟩
          have HB1 := hid (HB.out.trans (hb.mono HB.out.size))
          clear hb
          go_wp2_with fail
          go_ret2
          exact ⟨by rw [← HR.out, HV.out]; rfl, HB1.out⟩
      · obtain ⟨q, hq⟩ : ∃ q, k = q + 1 := ⟨k - 1, by omega⟩
        have hql : q < L.length := by omega
        have HE := hid (show reqE own L k = reqW own (some L[q]) L[k] by subst hq; exact reqE_1 hlt)
        have hxq := cell_below HB.out (HC.out q hql).1
        have gw : IntKind.i64.wrap ((k : Int) - 1) = (q : Int) := by rw [IntKind.wrap_i64]; omega
        have gw2 : (k : Int) - 1 = (q : Int) := by omega
        have g1 : (0 : Int) ≤ (q : Int) := by omega
        have g2 : (q : Int) < (L.length : Int) := by omega
        have g3 : (0 : Int) < (k : Int) := by omega
        have g4 : decide (0 < k) = true := decide_eq_true (by omega)
        generalize L[k] = x at *
        generalize L[q] = y at *
        obtain ⟨p, v⟩ := x
        obtain ⟨p', v'⟩ := y
        clear hlt hql hq h00
        by_cases h0 : mErr (p, v) = 0
        · rw [h0] at HM
          by_cases h1 : p = own
          · have HV := hid (HN.out (by rw [HE.out, reqW_own h0 h1]; decide))
            rw [HE.out, reqW_own h0 h1] at HV
            rw [h1] at hx HM
            have hq := str_refl own
            clear h0 h1
            go_wp2_with fail
            refine HM.out.mono ?_
            rintro e w1 ⟨rfl, hb⟩
            have HB1 := hid (HB.out.trans (hb.mono HB.out.size))
            replace hx := cell_below hb hx
            replace hy := cell_below hb hy
            clear hb
            go_wp2_with fail
            go_ret2
            exact ⟨by rw [← HR.out, HV.out]; rfl, HB1.out⟩
          · have hle := leq_is p p'
            have hq := str_ne h1
            cases hz : noLess p' p
            · have HV := hid (HY.out (by rw [HE.out, reqW_some h0 h1, if_neg (by rw [hz]; decide)]))
              rw [hz] at hle
              clear h0 h1 hz
              go_wp2_with fail
              refine HM.out.mono ?_
              rintro e w1 ⟨rfl, hb⟩
              have HB1 := hid (HB.out.trans (hb.mono HB.out.size))
              replace hx := cell_below hb hx
              replace hy := cell_below hb hy
              replace hxq := cell_below hb hxq
              clear hb
              go_wp2_with fail
              go_quiet (fail)
              go_wp2_with fail
              go_roundw
              case rel => exact ⟨k + 1, by have := HLT.out; omega, by go_num, HV, hid (below_drawn_of HB1.out _)⟩
              case measure => have := HLT.out; simp [intOf]; omega
            · have HV := hid (HN.out (by rw [HE.out, reqW_some h0 h1, if_pos hz]; decide))
              rw [HE.out, reqW_some h0 h1, if_pos hz] at HV
              rw [hz] at hle
              clear h0 h1 hz
              go_wp2_with fail
              refine HM.out.mono ?_
              rintro e w1 ⟨rfl, hb⟩
              have HB1 := hid (HB.out.trans (hb.mono HB.out.size))
              replace hx := cell_below hb hx
              replace hy := cell_below hb hy
              replace hxq := cell_below hb hxq
              clear hb
              go_wp2_with fail
              go_quiet (fail)
              go_wp2_with fail
              go_ret2
              exact ⟨by rw [← HR.out, HV.out]; rfl, below_drawn_of HB1.out _⟩
        · have HV := hid (HN.out (by rw [HE.out, reqW_bad h0]; exact h0))
          rw [HE.out, reqW_bad h0] at HV
          have hpos : (0 : Int) < (mErr (p, v) : Int) := by omega
          generalize mErr (p, v) = z at *
          clear h0
          go_wp2_with fail
          refine HM.out.mono ?_
          rintro e w1 ⟨rfl, hb⟩
          have HB1 := hid (HB.out.trans (hb.mono HB.out.size))
          clear hb
          go_wp2_with fail
          go_ret2
          exact ⟨by rw [← HR.out, HV.out]; rfl, HB1.out⟩
    · have HV := hid (reqsR_none (own := own) (L := L) (fun j hj => HZ.out j (by omega)))
      go_wp2_with fail
      go_ret2
      exact ⟨by rw [← HR.out, HV.out]; rfl, HB.out⟩
theorem reqsE_none (own : ByteArray) (a : Option Addr) (c : Nat) (w : World) : Calls Tryz.prog 104 #[.slice a 0 c, .string own] w fun e w' => e = .returned (.tuple #[.int .i64 0, .int .i64 0]) ∧ Below w.heap.size w w' := by
  go_enter Tryz.func104, Tryz.ntmps104
  go_wp2_with fail
  go_loopw [6] (fun i wr => i = .int .i64 0 ∧ wr = w) (fun i _ => 0)
  case atStart => exact ⟨rfl, rfl⟩
  case round =>
    obtain ⟨rfl, rfl⟩ := hrel
    go_wp2_with fail
    go_ret2
    exact ⟨rfl, Below.refl _ _⟩
theorem reqsE_any (own : ByteArray) (L : List Bm) (v : Value) (w : World) (hn : L.length ≤ 1000000) (hs : shortL L) (hv : MsAt w v L) :
    Calls Tryz.prog 104 #[v, .string own] w fun e w' => e = .returned (.tuple #[.int .i64 ((reqsR own L).1 : Nat), .int .i64 ((reqsR own L).2 : Nat)]) ∧ Below w.heap.size w w' := by
  obtain ⟨a, c, rfl, _, h⟩ := hv
  cases L with
  | nil => exact reqsE_none own a c w
  | cons x r =>
    obtain ⟨b, o, rfl, h2⟩ := h (by simp)
    exact reqsE_some own (x :: r) b o c w hn hs h2
end Ve
end Go.Proofs.YtoaobngpdaidoaaGreatDoor

/-
  Faults as the document's answer has them.
-/
namespace Go.Proofs.YtoaobngpdaidoaaGreatDoor
open Go.RowKit
namespace Ve

/-- A place as a number; nowhere: -1. -/
def atOf : Option Nat → Int
  | none => -1
  | some i => (i : Int)
/-- A fault as the document's answer has it. -/
def faultV (r : Nat × Option Nat) : Value := .agg #[.int .i64 (r.1 : Nat), .int .i64 (atOf r.2)]
theorem fld0 (a b : Int) (W : World) : (Instr.field 34 (.agg #[.int .i64 a, .int .i64 b]) 0).run Tryz.prog W = .ok (.int .i64 a) W := by kernel_rfl
theorem rbare_any (n : Int) (w : World) : Calls Tryz.prog 43 #[.int .i64 n] w fun e w' => e = .returned (.agg #[.int .i64 n, .int .i64 (-1)]) ∧ Below w.heap.size w w' := by
  go_enter Tryz.func43, Tryz.ntmps43
  go_wp2_with fail
  refine bodyPost_ret (v := .agg #[.int .i64 n, .int .i64 (-1)]) (by simp [results, Tryz.results43, go_sem]) rfl ⟨rfl, ?_⟩
  exact (Below.refl w.heap.size w).alloc (Nat.le_refl _) _
theorem fine_any (w : World) : Calls Tryz.prog 34 #[] w fun e w' => e = .returned (.agg #[.int .i64 0, .int .i64 (-1)]) ∧ Below w.heap.size w w' := by
  go_enter Tryz.func34, Tryz.ntmps34
  go_wp2_with fail
  refine bodyPost_ret (v := .agg #[.int .i64 0, .int .i64 (-1)]) (by simp [results, Tryz.results34, go_sem]) rfl ⟨rfl, ?_⟩
  exact (Below.refl w.heap.size w).alloc (Nat.le_refl _) _
end Ve
end Go.Proofs.YtoaobngpdaidoaaGreatDoor

/-
  Texts that rise, plain: a list is as sorted, each once, just where each is less than the next one.
-/
namespace Go.Proofs.YtoaobngpdaidoaaGreatDoor
open Go.RowKit
namespace Ve

theorem cb_lt_iff : ∀ (a b : List UInt8), Lib.compareBytes a b < 0 ↔ a < b
  | [], [] => by simp [Lib.compareBytes]
  | [], b :: bs => by simp [Lib.compareBytes]
  | a :: r, [] => by simp [Lib.compareBytes]
  | a :: r, b :: bs => by
    simp only [Lib.compareBytes]
    rw [List.cons_lt_cons_iff]
    by_cases h1 : a < b
    · rw [if_pos h1]; simp [h1]
    · rw [if_neg h1]
      by_cases h2 : b < a
      · rw [if_pos h2]
        have : ¬ a = b := fun e => by subst e; exact absurd h2 (UInt8.lt_irrefl _)
        simp [h1, this]
      · rw [if_neg h2]
        have : a = b := u8_eq h1 h2
        subst this
        rw [cb_lt_iff r bs]
        simp [h1]
theorem range_get (S : List (List UInt8)) : (List.range S.length).map (fun j => S.toArray[j]!) = S := by
  apply List.ext_getElem
  · simp
  · intro j h1 h2
    simp [h2]
/-- Each less than the next one. -/
def rsT (Z : List (List UInt8)) : Prop := ∀ j (h : j + 1 < Z.length), Lib.compareBytes Z[j] Z[j + 1] < 0
theorem rsT_pair {Z : List (List UInt8)} (h : rsT Z) : Z.Pairwise fun x y => x < y := by
  have go : ∀ (d i : Nat) (hi : i + d + 1 < Z.length), Z[i] < Z[i + d + 1] := fun d => by
    induction d with
    | zero => intro i hi; exact (cb_lt_iff _ _).1 (h i hi)
    | succ d ih =>
      intro i hi
      exact List.lt_trans (ih i (by omega)) ((cb_lt_iff _ _).1 (h (i + d + 1) hi))
  rw [List.pairwise_iff_getElem]
  intro i j hi hj hij
  obtain ⟨d, rfl⟩ : ∃ d, j = i + d + 1 := ⟨j - i - 1, by omega⟩
  exact go d i hj
theorem ris_iff (Z : List (List UInt8)) : Z = risB Z ↔ rsT Z := by
  have hsrt : (srtB Z).Pairwise fun x y => x ≤ y := by
    have h := List.pairwise_mergeSort (le := fun x y : List UInt8 => decide (x ≤ y)) (fun a b c h1 h2 => by simp only [decide_eq_true_eq] at *; exact List.le_trans h1 h2) (fun a b => by simp only [Bool.or_eq_true, decide_eq_true_eq]; exact List.le_total a b) Z
    unfold srtB
    exact h.imp fun h => of_decide_eq_true h
  have hlen : (srtB Z).length = Z.length := by unfold srtB; exact List.length_mergeSort Z
  constructor
  · intro h
    have hl : (risB Z).length = (srtB Z).length := by rw [← h, hlen]
    unfold risB Lib.compact Lib.compactUpTo at hl
    rw [List.length_map] at hl
    have hk := List.length_filter_eq_length_iff.1 (hl.trans (by simp))
    have hk' : ∀ j, j < (srtB Z).length → Lib.keeps (srtB Z).toArray j = true := fun j hj => hk j (List.mem_range.2 hj)
    have hS : Z = srtB Z := by
      have h5 : risB Z = srtB Z := by
        unfold risB Lib.compact
        rw [Lib.compactUpTo_all _ _ hk', range_get]
      exact h.trans h5
    intro j hj
    have h1 := hk' (j + 1) (by rw [hlen]; exact hj)
    have h2 : (srtB Z)[j + 1]'(by rw [hlen]; exact hj) ≠ (srtB Z)[j]'(by rw [hlen]; omega) := by
      have h3 : decide (j + 1 = 0 ∨ (srtB Z).toArray[j + 1]! ≠ (srtB Z).toArray[j + 1 - 1]!) = true := h1
      rcases of_decide_eq_true h3 with h4 | h4
      · omega
      · intro e
        apply h4
        rw [getElem!_pos _ _ (by simp [hlen]; exact hj), getElem!_pos _ _ (by simp [hlen]; omega)]
        simpa using e
    have h3 := List.pairwise_iff_getElem.1 hsrt j (j + 1) (by rw [hlen]; omega) (by rw [hlen]; exact hj) (by omega)
    have e1 : Z[j] = (srtB Z)[j]'(by rw [hlen]; omega) := by congr 1
    have e2 : Z[j + 1] = (srtB Z)[j + 1]'(by rw [hlen]; exact hj) := by congr 1
    rw [cb_lt_iff, e1, e2]
    rcases List.le_iff_lt_or_eq.1 h3 with h6 | h6
    · exact h6
    · exact absurd h6.symm h2
  · intro h
    have hp := rsT_pair h
    have hS : srtB Z = Z := by
      unfold srtB
      exact List.mergeSort_of_pairwise (hp.imp fun h => decide_eq_true (List.le_of_lt h))
    unfold risB Lib.compact
    rw [hS, Lib.compactUpTo_all, range_get]
    intro j hj
    cases j with
    | zero => exact Lib.keeps_lt_one _ 0 (by omega)
    | succ j =>
      refine Lib.keeps_pos ?_
      rw [getElem!_pos _ _ (by simpa using hj), getElem!_pos _ _ (by simp; omega)]
      intro e
      have h1 := List.pairwise_iff_getElem.1 hp j (j + 1) (by omega) hj (by omega)
      have e' : Z[j + 1] = Z[j] := by simpa using e
      rw [e'] at h1
      exact absurd h1 (List.lt_irrefl _)
end Ve
end Go.Proofs.YtoaobngpdaidoaaGreatDoor

/-
  (Nothing of slices.Reverse is asked here.)
-/


/-
  slices.Reverse of modules; whom a module came by, out of the map.
-/
namespace Go.Proofs.YtoaobngpdaidoaaGreatDoor
open Go.RowKit Go.Maps Go.Sort Go.Lib
namespace Ve

def encM (m : Bm) : List Value := [.string m.1, .string m.2]
/-- Whom a module came by. -/
theorem look_at {w : World} {b : Nat} {T : By} (h : ByAt w b T) (hT : szT T) (hn : (whoT T).Nodup) {k : Nat} (hk : k < T.length) :
    (Instr.lookup 121 (.map (some b)) (.agg #[.string T[k].1.1, .string T[k].1.2]) false).run Tryz.prog w = .ok (.agg #[.string T[k].2.1, .string T[k].2.2]) w := by
  have hs := hT T[k] (List.getElem_mem hk)
  obtain ⟨v, ps, hrun, hv⟩ := World.ownsMap.lookup h modKey Tryz.underlying121 (zeroMod w) (rB_mod _) (keyOf_mod T[k].1 hs.1 hs.2)
  rw [datB_at hT hn hk] at hv
  obtain rfl := rB_inv hv
  exact hrun
end Ve
end Go.Proofs.YtoaobngpdaidoaaGreatDoor

/-
  What graph.Way answers.
-/
namespace Go.Proofs.YtoaobngpdaidoaaGreatDoor
open Go.RowKit Go.Maps
namespace Ve

/-- What is asked ahead of a walk of an index and roots that are right. -/
structure Rgt (Q : List Raw) (L : List Ent) (roots : List Bm) : Prop where
  c : (chk Q L).1 = 0
  r : ∀ m, m ∈ roots → m ∈ univ L
theorem rgt_of {w : World} {v : Value} {Q : List Raw} {L : List Ent} {roots : List Bm} (I : Ixs w v Q L) (h0 : (chkG Q L roots).1 = 0) : Rgt Q L roots := by
  have hc0 : (chk Q L).1 = 0 := by
    by_cases hc : (chk Q L).1 = 0
    · exact hc
    · rw [chkG_bad hc] at h0; exact absurd h0 hc
  exact ⟨hc0, by rw [chkG_ok hc0] at h0; exact nonE_found I h0⟩
theorem univ_sz {L : List Ent} (sh : ∀ e, e ∈ L → ShE e) : ∀ m, m ∈ univ L → m.1.size ≤ maxLen ∧ m.2.size ≤ maxLen := fun m hm => by
  obtain ⟨e, he, rfl⟩ := List.mem_map.1 hm
  have := sh e he
  exact ⟨by have := this.p; unfold maxLen; omega, by have := this.v; unfold maxLen; omega⟩
theorem modNeq_ne {m f : Bm} (h : m ≠ f) (W : World) : (binOp .neq 46 (.agg #[.string m.1, .string m.2]) (.agg #[.string f.1, .string f.2])).run Tryz.prog W = .ok (.bool true) W := by
  rw [modNeq, decide_eq_false (fun e => h (Prod.ext e.1 e.2))]; rfl
/-- A way: from a root to a module, each required by the one ahead, no one twice. -/
structure WayOk (req : Bm → List Bm) (U roots : List Bm) (x : Bm) (Y : List Bm) : Prop where
  un : ∀ y, y ∈ Y → y ∈ U
  pos : 0 < Y.length
  first : Y[0]'pos ∈ roots
  last : Y.getLast? = some x
  nd : Y.Nodup
  ch : ∀ a (ha : a + 1 < Y.length), Y[a + 1] ∈ req Y[a]
  ds : Dst req roots x Y.length
def lenOf : Value → Nat
  | .slice _ n _ => n
  | _ => 0
/-- The way back, as far as it has come. -/
structure Wst (w0 W : World) (req : Bm → List Bm) (T : By) (x : Bm) (mb : Nat) (yv : Value) (k : Nat) (V : List Bm) : Prop where
  bl : Below w0.heap.size w0 W
  wy : Wy req T x k V.reverse
  ln : V.length + k ≤ T.length
  xc : ∃ h : k < T.length, W.heap[w0.heap.size]? = some (.cells #[.string (T[k]'h).1.1, .string (T[k]'h).1.2] 46 (0, 0))
  mp : ByAt W mb T
  row : W.ownsRow (w0.heap.size + 1) 46 2 yv V.length (flatM V)
theorem Wst.below {w0 W W' : World} {req : Bm → List Bm} {T : By} {x : Bm} {mb : Nat} {yv : Value} {k : Nat} {V : List Bm} (h : Wst w0 W req T x mb yv k V) (hb : Below W.heap.size W W') : Wst w0 W' req T x mb yv k V := by
  obtain ⟨hk, hc⟩ := h.xc
  exact ⟨h.bl.trans (hb.mono h.bl.size), h.wy, h.ln, ⟨hk, (hb.block _ (lt_of_blk hc)).trans hc⟩, h.mp.below hb, owns_below h.row hb⟩
/-- The box behind a store of a module. -/
def putM (W : World) (b : Nat) (m : Bm) : World := (W.setCell ⟨b, 0, none⟩ (.string m.1)).setCell ⟨b, 1, none⟩ (.string m.2)
theorem putM_block {W : World} {b : Nat} {c0 c1 : Value} {t : TypeId} (m : Bm) (h : W.heap[b]? = some (.cells #[c0, c1] t (0, 0))) : (putM W b m).heap[b]? = some (.cells #[.string m.1, .string m.2] t (0, 0)) := by
  unfold putM
  have h1 := set_block (o := 0) (x := .string m.1) h
  have h2 := set_block (o := 1) (x := .string m.2) h1
  simpa using h2
theorem putM_other {W : World} {b g : Nat} (m : Bm) (h : g ≠ b) : (putM W b m).heap[g]? = W.heap[g]? := by
  unfold putM
  rw [Below.heap_setCell _ _ _ _ h, Below.heap_setCell _ _ _ _ h]
theorem putM_size (W : World) (b : Nat) (m : Bm) : (putM W b m).heap.size = W.heap.size := by simp [putM, World.setCell]
theorem putM_owns {W : World} {b n : Nat} {e : TypeId} {v : Value} {xs : List Value} (m : Bm) (h : W.ownsRow (b + 1) e 2 v n xs) : (putM W b m).ownsRow (b + 1) e 2 v n xs := by
  have hne : v.ownBlock ≠ some b := fun hh => by have := (h.lt b hh).1; omega
  exact owns_set (owns_set h hne) hne
/-- One step back. -/
theorem Wst.more {w0 W w6 : World} {req : Bm → List Bm} {T : By} {x : Bm} {mb : Nat} {yv yv' : Value} {k : Nat} {V : List Bm} {o : Obj} (h : Wst w0 W req T x mb yv k V) (hk : k < T.length) {j : Nat} (hj : j < k) (e1 : (T[j]'(Nat.lt_trans hj hk)).1 = T[k].2) (e2 : T[k].1 ∈ req T[k].2)
    (hown : w6.ownsRow (w0.heap.size + 1) 46 2 yv' (V.length + 1) (flatM V ++ [.string T[k].2.1, .string T[k].2.2])) (hg : ((putM W w0.heap.size T[k].2).alloc o).grownBy w6 yv.ownBlock) :
    Wst w0 w6 req T x mb yv' j (V ++ [T[k].2]) := by
  obtain ⟨hk', hc⟩ := h.xc
  have hs := h.bl.size
  have l1 := lt_of_blk hc
  obtain ⟨es, clock, hm1⟩ := h.mp.block
  have l2 := lt_of_blk hm1
  have n1 : w0.heap.size ≠ mb := h.mp.ne hc
  have r1 : yv.ownBlock ≠ some w0.heap.size := fun hh => by have := (h.row.lt _ hh).1; omega
  have r2 : yv.ownBlock ≠ some mb := fun hh => by
    obtain ⟨hl, ⟨h1, _⟩ | ⟨g', cap, cur, q1, q2, q3, _⟩⟩ := h.row
    · rw [h1] at hh; cases hh
    · rw [q1] at hh
      have : g' = mb := by simpa [Value.ownBlock] using hh
      exact h.mp.ne q3 this
  have al := (Below.refl (putM W w0.heap.size T[k].2).heap.size (putM W w0.heap.size T[k].2)).alloc (Nat.le_refl _) o
  have keep : ∀ b, b < W.heap.size → yv.ownBlock ≠ some b → w6.heap[b]? = (putM W w0.heap.size T[k].2).heap[b]? := fun b hb hr => by
    rw [hg.block b (by simp [putM_size]; omega) (fun e => hr e.symm), al.block b (by rw [putM_size]; exact hb)]
  have b1 : Below w0.heap.size w0 (putM W w0.heap.size T[k].2) := (h.bl.setCell (p := ⟨w0.heap.size, 0, none⟩) (Nat.le_refl _) _).setCell (p := ⟨w0.heap.size, 1, none⟩) (Nat.le_refl _) _
  have b2 : Below w0.heap.size w0 w6 := (b1.alloc b1.size o).grown hg (by simp [putM_size]; omega) (fun q hq => by have := (h.row.lt q hq).1; omega)
  refine ⟨b2, ?_, ?_, ⟨Nat.lt_trans hj hk, ?_⟩, ?_, ?_⟩
  · rw [List.reverse_append, List.reverse_singleton, ← e1]
    exact Wy.next h.wy hk hj e1 e2
  · have := h.ln; simp; omega
  · rw [keep _ l1 r1, e1]; exact putM_block _ hc
  · exact (h.mp.heap (putM_other _ (Ne.symm n1))).heap (keep mb l2 r2)
  · rw [List.length_append, flatM_app]
    exact hown
theorem Wst.ok {w0 W : World} {Q : List Raw} {L : List Ent} {roots : List Bm} {T : By} {x : Bm} {mb : Nat} {yv : Value} {k : Nat} {V : List Bm} (h : Wst w0 W (reqQ Q L) T x mb yv k V) (hc : Came (reqQ Q L) (univ L) roots T) (hk : k < T.length) (e : T[k].1 = T[k].2) : WayOk (reqQ Q L) (univ L) roots x V.reverse := by
  refine ⟨fun y hy => by
    obtain ⟨p, hp, _, e⟩ := h.wy.far y hy
    exact hc.b.un y (whoT_mem.2 ⟨p, hp, e⟩), h.wy.pos, ?_, h.wy.last, h.wy.nd hc.b.nd, h.wy.chain, ?_⟩
  · rw [h.wy.head]
    rcases hc.b.by_ k hk with h1 | ⟨j, hj, h2, _⟩
    · exact h1.2
    · have := nd_get hc.b.nd (by omega) hk (h2.trans e.symm)
      omega
  · obtain ⟨G, hG⟩ := hc.l
    obtain ⟨t, ht, ht', hk', e1, e2⟩ := hG.way hc.b.nd h.wy
    have h1 : G[k] = 1 := by
      rcases hG.st k hk hk' with h1 | ⟨j, hj, h2, _⟩
      · exact h1.2
      · have := nd_get hc.b.nd (by omega) hk (h2.trans e.symm)
        omega
    have h2 := hG.dst hc.b.nd hc.r ht ht'
    rw [e1] at h2
    rw [show V.reverse.length = G[t] by omega]
    exact h2
end Ve
end Go.Proofs.YtoaobngpdaidoaaGreatDoor

/-
  What small and reached of the statements answer: the closed fact holds.
-/
namespace Go.Proofs.YtoaobngpdaidoaaGreatDoor
open Go.RowKit Go.Maps
namespace Ve

def ma0 : Bm := (⟨#[97]⟩, ⟨#[118, 49, 46, 48, 46, 48]⟩)
def ma1 : Bm := (⟨#[97]⟩, ⟨#[118, 49, 46, 49, 46, 48]⟩)
def mb0 : Bm := (⟨#[98]⟩, ⟨#[118, 48, 46, 49, 46, 48]⟩)
def smL : List Ent := [(ma0, [], [], false), (ma1, [mb0], [], false), (mb0, [], [], false)]
def smQ (g : Nat) : List Raw := [(ma0, .slice none 0 0, .slice none 0 0, false), (ma1, .slice (some ⟨g, 0, none⟩) 1 1, .slice none 0 0, false), (mb0, .slice none 0 0, .slice none 0 0, false)]
theorem pk_nilS : packErr (bl []) = 0 := pk_ok (by decide) rfl (by simp [risB, srtB, bl, Lib.compact, Lib.compactUpTo])
theorem sm_e0 : entE smL 0 = 0 := by
  show entW none _ = 0
  rw [entW_none (by kernel_rfl), entR_pack (by decide) (by kernel_rfl)]
  exact pk_nilS
theorem sm_e1 : entE smL 1 = 0 := by
  show entW (some _) _ = 0
  rw [entW_some (by kernel_rfl) (by kernel_rfl), entR_pack (by decide) (by kernel_rfl)]
  exact pk_nilS
theorem sm_e2 : entE smL 2 = 0 := by
  show entW (some _) _ = 0
  rw [entW_some (by kernel_rfl) (by kernel_rfl), entR_pack (by decide) (by kernel_rfl)]
  exact pk_nilS
theorem sm_chk (g : Nat) : chk (smQ g) smL = (0, none) := by
  have h2 : ∀ j, j < 3 → entE smL j = 0 := fun j hj => by
    rcases (by omega : j = 0 ∨ j = 1 ∨ j = 2) with rfl | rfl | rfl
    · exact sm_e0
    · exact sm_e1
    · exact sm_e2
  have h : fstE (entE smL) smL.length = none := fstE_none h2
  rw [chk_reqs (by decide) h]
  exact Prod.ext (show codeE (reqE2 (smQ g) smL) smL.length = 0 by kernel_rfl) (show fstE (reqE2 (smQ g) smL) smL.length = none by kernel_rfl)
theorem sm_chkG (g : Nat) : (chkG (smQ g) smL [ma1]).1 = 0 := by
  rw [chkG_ok (by rw [sm_chk])]
  show codeE (nonE (smQ g) [ma1]) 1 = 0
  kernel_rfl
theorem sm_r1 (g : Nat) : reqQ (smQ g) smL ma1 = [mb0] := by kernel_rfl
theorem sm_rb (g : Nat) : reqQ (smQ g) smL mb0 = [] := by kernel_rfl
theorem sm_rch {g : Nat} {m : Bm} (h : Rch (reqQ (smQ g) smL) [ma1] m) : m = ma1 ∨ m = mb0 := by
  induction h with
  | root hr => simp at hr; exact Or.inl hr
  | step _ hr ih =>
    rcases ih with rfl | rfl
    · rw [sm_r1] at hr; simp at hr; exact Or.inr hr
    · rw [sm_rb] at hr; simp at hr
theorem sm_go {g : Nat} {T : By} (h : Came (reqQ (smQ g) smL) (univ smL) [ma1] T) : goM T (smQ g) = [ma1, mb0] := by
  have c1 : cameB T ma1 = true := (h.cameB _).2 (.root (by simp))
  have cb : cameB T mb0 = true := (h.cameB _).2 (.step (.root (List.mem_singleton.2 rfl)) (by rw [sm_r1]; simp))
  have c0 : cameB T ma0 = false := by
    cases hc : cameB T ma0 with
    | false => rfl
    | true =>
      rcases sm_rch ((h.cameB _).1 hc) with e | e
      · exact absurd (congrArg (fun m : Bm => m.2.data) e) (by decide)
      · exact absurd (congrArg (fun m : Bm => m.1.data) e) (by decide)
  unfold goM goQ smQ
  simp [c0, c1, cb]
theorem sm_ixs {W : World} {g q : Nat} (hb : W.heap[q]? = some (.cells #[.string ⟨#[97]⟩, .string ⟨#[118, 49, 46, 48, 46, 48]⟩, .slice none 0 0, .slice none 0 0, .bool false, .string ⟨#[97]⟩, .string ⟨#[118, 49, 46, 49, 46, 48]⟩, .slice (some ⟨g, 0, none⟩) 1 1, .slice none 0 0, .bool false, .string ⟨#[98]⟩, .string ⟨#[118, 48, 46, 49, 46, 48]⟩, .slice none 0 0, .slice none 0 0, .bool false] 56 (0, 0)))
    (hg : W.heap[g]? = some (.cells #[.string ⟨#[98]⟩, .string ⟨#[118, 48, 46, 49, 46, 48]⟩] 46 (0, 0))) :
    Ixs W (.slice (some ⟨q, 0, none⟩) 3 3) (smQ g) smL := by
  have msn : MsAt W (.slice none 0 0) [] := ⟨none, 0, rfl, Nat.le_refl _, fun h => absurd rfl h⟩
  have txn : TxAt W (.slice none 0 0) [] := ⟨none, 0, rfl, Nat.le_refl _, fun h => absurd rfl h⟩
  have msb : MsAt W (.slice (some ⟨g, 0, none⟩) 1 1) [mb0] := ⟨some ⟨g, 0, none⟩, 1, rfl, Nat.le_refl _, fun _ => ⟨g, 0, rfl, fun j hj => by
    have : j = 0 := by simp at hj; exact hj
    subst this
    refine ⟨?_, ?_⟩ <;> (rw [Lib.cell_of_heap hg]; rfl)⟩⟩
  refine ⟨⟨some ⟨q, 0, none⟩, 3, rfl, Nat.le_refl _, fun r hr => ?_, fun _ => ⟨q, 0, rfl, fun j hj => ?_⟩⟩, rfl, fun j h1 h2 => ?_⟩
  · have : r = (ma0, .slice none 0 0, .slice none 0 0, false) ∨ r = (ma1, .slice (some ⟨g, 0, none⟩) 1 1, .slice none 0 0, false) ∨ r = (mb0, .slice none 0 0, .slice none 0 0, false) := by simpa [smQ] using hr
    rcases this with rfl | rfl | rfl
    · exact ⟨⟨none, 0, 0, rfl⟩, none, 0, 0, rfl⟩
    · exact ⟨⟨_, _, _, rfl⟩, none, 0, 0, rfl⟩
    · exact ⟨⟨none, 0, 0, rfl⟩, none, 0, 0, rfl⟩
  · have hj2 : j < 3 := hj
    rcases (by omega : j = 0 ∨ j = 1 ∨ j = 2) with rfl | rfl | rfl
    · refine ⟨?_, ?_, ?_, ?_, ?_⟩ <;> (rw [Lib.cell_of_heap hb]; rfl)
    · refine ⟨?_, ?_, ?_, ?_, ?_⟩ <;> (rw [Lib.cell_of_heap hb]; rfl)
    · refine ⟨?_, ?_, ?_, ?_, ?_⟩ <;> (rw [Lib.cell_of_heap hb]; rfl)
  · have hj2 : j < 3 := h1
    rcases (by omega : j = 0 ∨ j = 1 ∨ j = 2) with rfl | rfl | rfl
    · exact ⟨rfl, msn, txn, rfl⟩
    · exact ⟨rfl, msb, txn, rfl⟩
    · exact ⟨rfl, msn, txn, rfl⟩
theorem sm_sh : ∀ e, e ∈ smL → ShE e := fun e he => by
  have : e = smL[0] ∨ e = smL[1] ∨ e = smL[2] := by simpa [smL] using he
  rcases this with rfl | rfl | rfl
  · exact ⟨by decide, by decide, by decide, fun m hm => (by cases hm), by decide, fun x hx => (by cases hx)⟩
  · exact ⟨by decide, by decide, by decide, fun m hm => (by have : m = mb0 := List.mem_singleton.1 hm
                                                            subst this; exact ⟨by decide, by decide⟩), by decide, fun x hx => (by cases hx)⟩
  · exact ⟨by decide, by decide, by decide, fun m hm => (by cases hm), by decide, fun x hx => (by cases hx)⟩
set_option maxHeartbeats 2000000 in
/-- pewholderlaw2.small. -/
theorem smallI_any (w : World) : Calls Tryz.prog 31 #[] w fun e w' => ∃ g q, e = .returned (.slice (some ⟨q, 0, none⟩) 3 3) ∧ Ixs w' (.slice (some ⟨q, 0, none⟩) 3 3) (smQ g) smL ∧ Below w.heap.size w w' := by
  go_enter Tryz.func31, Tryz.ntmps31
  go_wp2_with fail
  go_ret
  refine ⟨w.heap.size, w.heap.size + 1, rfl, ?_, ((Below.refl w.heap.size w).alloc (Nat.le_refl _) _).alloc (by simp) _⟩
  have h2 := heap_alloc_new (w.alloc (.cells #[.string ⟨#[98]⟩, .string ⟨#[118, 48, 46, 49, 46, 48]⟩] 46)) (.cells #[.string ⟨#[97]⟩, .string ⟨#[118, 49, 46, 48, 46, 48]⟩, .slice none 0 0, .slice none 0 0, .bool false, .string ⟨#[97]⟩, .string ⟨#[118, 49, 46, 49, 46, 48]⟩, .slice (some ⟨w.heap.size, 0, none⟩) 1 1, .slice none 0 0, .bool false, .string ⟨#[98]⟩, .string ⟨#[118, 48, 46, 49, 46, 48]⟩, .slice none 0 0, .slice none 0 0, .bool false] 56)
  rw [show (w.alloc (.cells #[.string ⟨#[98]⟩, .string ⟨#[118, 48, 46, 49, 46, 48]⟩] 46)).heap.size = w.heap.size + 1 by simp] at h2
  exact sm_ixs h2 (heap_old _ _ (heap_new w _))
end Ve
end Go.Proofs.YtoaobngpdaidoaaGreatDoor

/-
  What LongMods of the statements answers, whatever its bound.
-/
namespace Go.Proofs.YtoaobngpdaidoaaGreatDoor
open Go.RowKit
namespace Ve

def okLN (N : Nat) (L : List Bm) : Bool := decide (L.length ≤ N) && L.all okM
theorem okLN_iff {N : Nat} {L : List Bm} (h : okLN N L = true) : L.length ≤ N ∧ ∀ m, m ∈ L → m.1.size ≤ 70 ∧ m.2.size ≤ 60 := by
  unfold okLN at h
  rw [Bool.and_eq_true] at h
  refine ⟨of_decide_eq_true h.1, fun m hm => ?_⟩
  have := List.all_eq_true.1 h.2 m hm
  unfold okM at this
  rw [Bool.and_eq_true] at this
  exact ⟨of_decide_eq_true this.1, of_decide_eq_true this.2⟩
set_option maxHeartbeats 1000000 in
theorem longN_some (N : Nat) (hN : N ≤ 1000) (L : List Bm) (b o c : Nat) (w : World) (hn : L.length ≤ N)
    (hc : ∀ j (h : j < L.length), w.cell? ⟨b, o + j * 2, none⟩ = some (.string L[j].1) ∧ w.cell? ⟨b, o + j * 2 + 1, none⟩ = some (.string L[j].2)) :
    Calls Tryz.prog 9 #[.slice (some ⟨b, o, none⟩) L.length c, .int .i64 (N : Int)] w fun e w' => e = .returned (.int .i64 (if okLN N L then 0 else 1)) ∧ w' = w := by
  have HC := hid hc
  have HO := hid (show okLN N L = L.all okM by unfold okLN; rw [decide_eq_true hn, Bool.true_and])
  have hn2 : ¬ (N : Int) < (L.length : Int) := by omega
  generalize hr : (if okLN N L then (0 : Int) else 1) = r
  have HR := hid hr
  clear hc hr
  go_enter Tryz.func9, Tryz.ntmps9
  go_wp2_with fail
  go_loop [5] (fun i => ∃ k : Nat, k ≤ L.length ∧ i = .int .i64 k ∧ Hid ((L.take k).all okM = true)) (fun i => L.length - (intOf i).toNat)
  case atStart => exact ⟨0, Nat.zero_le _, rfl, hid rfl⟩
  case round =>
    obtain ⟨k, hk, rfl, HA⟩ := hrel
    by_cases hlt : k < L.length
    · have hx := (HC.out k hlt).1
      have hy := (HC.out k hlt).2
      have HN := hid (fun h => all_take_next hlt HA.out h)
      have HX := hid (fun h => all_not hlt h)
      have HLT := hid hlt
      have hkI : (k : Int) < (L.length : Int) := by omega
      generalize L[k] = x at *
      clear hlt
      obtain ⟨p, v⟩ := x
      by_cases h1 : p.size ≤ 70
      · have h1' : ¬ (70 : Int) < (p.size : Int) := by omega
        by_cases h2 : v.size ≤ 60
        · have h2' : ¬ (60 : Int) < (v.size : Int) := by omega
          have HT := hid (HN.out (by unfold okM; rw [decide_eq_true h1, decide_eq_true h2]; rfl))
          go_wp2_with fail
          go_round
          case rel => exact ⟨k + 1, by have := HLT.out; omega, by go_num, HT⟩
          case measure => have := HLT.out; simp [intOf]; omega
        · have h2' : (60 : Int) < (v.size : Int) := by omega
          have HT := hid (HX.out (by unfold okM; rw [decide_eq_true h1, decide_eq_false h2]; rfl))
          go_wp2_with fail
          go_ret
          exact ⟨by rw [← HR.out, HO.out, HT.out]; rfl, rfl⟩
      · have h1' : (70 : Int) < (p.size : Int) := by omega
        have HT := hid (HX.out (by unfold okM; rw [decide_eq_false h1]; rfl))
        go_wp2_with fail
        go_ret
        exact ⟨by rw [← HR.out, HO.out, HT.out]; rfl, rfl⟩
    · have HT := hid (show L.all okM = true by have := HA.out; rw [List.take_of_length_le (by omega)] at this; exact this)
      go_wp2_with fail
      go_ret
      exact ⟨by rw [← HR.out, HO.out, HT.out]; rfl, rfl⟩
theorem longN_none (N : Nat) (a : Option Addr) (c : Nat) (w : World) : Calls Tryz.prog 9 #[.slice a 0 c, .int .i64 (N : Int)] w fun e w' => e = .returned (.int .i64 0) ∧ w' = w := by
  go_enter Tryz.func9, Tryz.ntmps9
  go_wp2_with fail
  go_loop [5] (fun i => i = .int .i64 0) (fun i => 0)
  case atStart => exact rfl
  case round =>
    obtain rfl := hrel
    go_wp2_with fail
    go_ret
    exact ⟨rfl, rfl⟩
theorem longN_many (N : Nat) (a : Option Addr) (n c : Nat) (w : World) (hn : N < n) : Calls Tryz.prog 9 #[.slice a n c, .int .i64 (N : Int)] w fun e w' => e = .returned (.int .i64 1) ∧ w' = w := by
  have hn2 : (N : Int) < (n : Int) := by omega
  go_enter Tryz.func9, Tryz.ntmps9
  go_wp2_with fail
  go_ret
  exact ⟨rfl, rfl⟩
theorem longN_any (N : Nat) (hN : N ≤ 1000) (L : List Bm) (v : Value) (w : World) (hv : MsAt w v L) : Calls Tryz.prog 9 #[v, .int .i64 (N : Int)] w fun e w' => e = .returned (.int .i64 (if okLN N L then 0 else 1)) ∧ w' = w := by
  obtain ⟨a, c, rfl, _, h⟩ := hv
  by_cases hn : L.length ≤ N
  · cases L with
    | nil => exact longN_none N a c w
    | cons x r =>
      obtain ⟨b, o, rfl, h2⟩ := h (by simp)
      exact longN_some N hN (x :: r) b o c w hn h2
  · have : okLN N L = false := by unfold okLN; rw [decide_eq_false hn]; rfl
    rw [this]
    exact longN_many N a L.length c w (by omega)

end Ve
end Go.Proofs.YtoaobngpdaidoaaGreatDoor

/-
  What FindOf of the document's answer says; whether a module is in a row.
-/
namespace Go.Proofs.YtoaobngpdaidoaaGreatDoor
open Go.RowKit Go.Maps
namespace Ve

def eqM (x m : Bm) : Bool := decide (x.1 = m.1 ∧ x.2 = m.2)
theorem eqM_iff {x m : Bm} : eqM x m = true ↔ x = m := by
  unfold eqM
  rw [decide_eq_true_iff]
  exact ⟨fun h => Prod.ext h.1 h.2, fun h => by rw [h]; exact ⟨rfl, rfl⟩⟩
theorem eqM_ne {x m : Bm} (h : x ≠ m) : eqM x m = false := by
  cases e : eqM x m with
  | false => rfl
  | true => exact absurd (eqM_iff.1 e) h
theorem eqM_run (x m : Bm) (W : World) : (binOp .eql 46 (.agg #[.string x.1, .string x.2]) (.agg #[.string m.1, .string m.2])).run Tryz.prog W = .ok (.bool (eqM x m)) W := modEql x.1 x.2 m.1 m.2 W
theorem neM_run (x m : Bm) (W : World) : (binOp .neq 46 (.agg #[.string x.1, .string x.2]) (.agg #[.string m.1, .string m.2])).run Tryz.prog W = .ok (.bool (!eqM x m)) W := modNeq x.1 x.2 m.1 m.2 W
/-- Is a module in a row? -/
def hasM (X : List Bm) (m : Bm) : Bool := X.any fun y => eqM y m
theorem hasM_iff {X : List Bm} {m : Bm} : hasM X m = true ↔ m ∈ X := by
  unfold hasM
  rw [List.any_eq_true]
  constructor
  · rintro ⟨y, hy, h⟩; rw [← eqM_iff.1 h]; exact hy
  · intro h; exact ⟨m, h, eqM_iff.2 rfl⟩
theorem hasM_next {X : List Bm} {k : Nat} (hk : k < X.length) (m : Bm) : hasM (X.take (k + 1)) m = (hasM (X.take k) m || eqM X[k] m) := by
  unfold hasM
  rw [List.take_succ_eq_append_getElem hk, List.any_append]
  simp
theorem hasM_nil (X : List Bm) (m : Bm) : hasM (X.take 0) m = false := by simp [hasM]
theorem hasM_all {X : List Bm} {k : Nat} (hk : ¬ k < X.length) (m : Bm) : hasM (X.take k) m = hasM X m := by rw [List.take_of_length_le (by omega)]
theorem idx_same {Q Q' : List Raw} (hl : Q.length = Q'.length) (h : ∀ j (h : j < Q.length) (h' : j < Q'.length), Q[j].1 = Q'[j].1) (m : Bm) : idxOf (isM m) Q = idxOf (isM m) Q' := by
  have e : ∀ j, idxE (isM m) Q j = idxE (isM m) Q' j := fun j => by
    unfold idxE
    by_cases hj : j < Q.length
    · have hj' : j < Q'.length := by omega
      rw [List.getElem?_eq_getElem hj, List.getElem?_eq_getElem hj']
      have : isM m Q[j] = isM m Q'[j] := by
        have := h j hj hj'
        unfold isM
        rw [this]
      simp only [this]
    · rw [List.getElem?_eq_none (by omega), List.getElem?_eq_none (by omega)]
  unfold idxOf
  rw [show idxE (isM m) Q = idxE (isM m) Q' from funext e, hl]
theorem ixs_same {w w' : World} {v v' : Value} {Q Q' : List Raw} {L : List Ent} (I : Ixs w v Q L) (I' : Ixs w' v' Q' L) (m : Bm) : idxOf (isM m) Q = idxOf (isM m) Q' :=
  idx_same (by rw [I.ln, I'.ln]) (fun j h h' => by
    have hj : j < L.length := by rw [← I.ln]; exact h
    rw [(I.ok j h hj).m, (I'.ok j h' hj).m]) m
set_option maxRecDepth 100000 in
set_option maxHeartbeats 1000000 in
theorem findOf_some (L : List Raw) (m : Bm) (b o c : Nat) (w : World) (hL : L.length ≤ 1000000)
    (hc : ∀ j (h : j < L.length), w.cell? ⟨b, o + j * 5, none⟩ = some (.string L[j].1.1) ∧ w.cell? ⟨b, o + j * 5 + 1, none⟩ = some (.string L[j].1.2)) :
    Calls Tryz.prog 26 #[.slice (some ⟨b, o, none⟩) L.length c, .agg #[.string m.1, .string m.2]] w fun e w' => e = .returned (.int .i64 (idxOf (isM m) L)) ∧ Below w.heap.size w w' := by
  have HC := hid hc
  have hgd := modGuard
  generalize hr : idxOf (isM m) L = r
  have HR := hid hr
  have HB0 := hid ((Below.refl w.heap.size w).alloc (Nat.le_refl _) (.cells #[.string m.1, .string m.2] 46))
  have HE0 := hid (heap_new w (.cells #[.string m.1, .string m.2] 46))
  clear hc hr
  go_enter Tryz.func26, Tryz.ntmps26
  go_wp2_with fail
  generalize hw1 : w.alloc (.cells #[.string m.1, .string m.2] 46) = w1 at *
  clear hw1
  go_loopw [5] (fun i wr => ∃ k : Nat, k ≤ L.length ∧ i = .int .i64 k ∧ Hid (∀ j (h : j < L.length), j < k → isM m L[j] = false) ∧ Hid (Below w1.heap.size w1 wr)) (fun i _ => L.length - (intOf i).toNat)
  case atStart => exact ⟨0, Nat.zero_le _, rfl, hid (fun j _ hj => absurd hj (by omega)), hid (Below.refl _ _)⟩
  case round =>
    obtain ⟨k, hk, rfl, HA, HB⟩ := hrel
    have HBw := hid (HB0.out.trans (HB.out.mono HB0.out.size))
    by_cases hlt : k < L.length
    · have x0 := cell_below HBw.out (HC.out k hlt).1
      have x1 := cell_below HBw.out (HC.out k hlt).2
      have hE : wr.heap[w.heap.size]? = some (.cells #[.string m.1, .string m.2] 46 (0, 0)) := (HB.out.block _ (lt_of_blk HE0.out)).trans HE0.out
      have y0 : wr.cell? ⟨w.heap.size, 0, none⟩ = some (.string m.1) := by rw [Lib.cell_of_heap hE]; rfl
      have y1 : wr.cell? ⟨w.heap.size, 1, none⟩ = some (.string m.2) := by rw [Lib.cell_of_heap hE]; rfl
      have HF := hid (fun h => idx_hit hlt HA.out h)
      have HN := hid (fun h => idx_next hlt HA.out h)
      have HEQ := hid (show isM m L[k] = eqM L[k].1 m from rfl)
      have hkI : (k : Int) < (L.length : Int) := by omega
      have HLT := hid hlt
      clear hE
      generalize L[k] = x at *
      clear hlt
      have heq := fun W => eqM_run x.1 m W
      cases he : eqM x.1 m with
      | false =>
        rw [he] at heq HEQ
        have HN2 := hid (HN.out HEQ.out)
        clear HF HN HEQ he
        go_wp2_with fail
        go_quiet (fail)
        go_wp2_with fail
        go_roundw
        case rel => first | exact ⟨k + 1, HLT.out, nr_idx k, HN2, hid (below_drawn_of HB.out _)⟩ | exact ⟨k + 1, HLT.out, nx_idx HLT.out hL, HN2, hid (below_drawn_of HB.out _)⟩
        case measure => first | exact nr_meas HLT.out | exact nx_meas HLT.out hL
      | true =>
        rw [he] at heq HEQ
        have HF2 := hid (HF.out HEQ.out)
        clear HF HN HEQ he
        go_wp2_with fail
        go_quiet (fail)
        go_wp2_with fail
        go_ret
        exact ⟨by rw [← HR.out, HF2.out]; rfl, below_drawn_of HBw.out _⟩
    · have HF := hid (show idxOf (isM m) L = -1 by unfold idxOf; rw [fstE_none (idxE_zero (Nat.le_refl _) (fun j hj _ => HA.out j hj (by omega)))])
      have hkI : ¬ (k : Int) < (L.length : Int) := by omega
      clear hlt
      go_wp2_with fail
      go_ret
      exact ⟨by rw [← HR.out, HF.out]; rfl, HBw.out⟩
/-- pewholderref1.FindOf, where there are entries. -/
theorem findOf_any (L : List Raw) (m : Bm) (v : Value) (w : World) (hL : L.length ≤ 1000000) (h0 : 0 < L.length) (hv : EsAt w v L) :
    Calls Tryz.prog 26 #[v, .agg #[.string m.1, .string m.2]] w fun e w' => e = .returned (.int .i64 (idxOf (isM m) L)) ∧ Below w.heap.size w w' := by
  obtain ⟨a, c, rfl, _, _, h⟩ := hv
  obtain ⟨b, o, rfl, h2⟩ := h (fun e => by rw [e] at h0; exact absurd h0 (Nat.lt_irrefl _))
  exact findOf_some L m b o c w hL (fun j hj => ⟨(h2 j hj).1, (h2 j hj).2.1⟩)
end Ve
end Go.Proofs.YtoaobngpdaidoaaGreatDoor
