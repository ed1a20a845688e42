/-
  RefM RefN UtB
-/
import Derived.Deep.RegionHeld
import Derived.Test.YtnkgjddkdikikaaGreatDoorPq2
import Derived.Test.YtnkgjddkdikikaaGreatDoorPq3
import Derived.Test.YtnkgjddkdikikaaGreatDoorPq4
import Derived.Test.YtnkgjddkdikikaaGreatDoorPq7
import Derived.Test.YtnkgjddkdikikaaGreatDoorPq10
import Derived.Test.YtnkgjddkdikikaaGreatDoorPq5
import Derived.Test.YtnkgjddkdikikaaGreatDoorPq21
import Derived.Test.YtnkgjddkdikikaaGreatDoorPq13
import Derived.Test.YtnkgjddkdikikaaGreatDoorPq23
import Derived.Test.YtnkgjddkdikikaaGreatDoorPq34
import Derived.Test.YtnkgjddkdikikaaGreatDoorPq1
import Derived.Test.YtnkgjddkdikikaaGreatDoorPq63
import Derived.Test.YtnkgjddkdikikaaGreatDoorPq45
import Derived.Test.YtnkgjddkdikikaaGreatDoorPq19
import Derived.Test.YtnkgjddkdikikaaGreatDoorPq12
import Derived.Test.YtnkgjddkdikikaaGreatDoorPq27
import Derived.Test.YtnkgjddkdikikaaGreatDoorPq29
import Derived.Test.YtnkgjddkdikikaaGreatDoorPq31
import Derived.Test.YtnkgjddkdikikaaGreatDoorPq32
import Derived.Test.YtnkgjddkdikikaaGreatDoorPq24
namespace Go.Proofs.YtnkgjddkdikikaaGreatDoor
open Go.RowKit
namespace Ve
theorem n0_pos {l : List UInt8} (h : verErr l = 0) : 0 ≤ nAt l 0 ∧ nAt l 0 ≤ 999999 := by
  unfold verErr at h
  by_cases hc : marked l = false ∨ (coreOf l).length ≠ 3
  · rw [if_pos hc] at h; omega
  rw [if_neg hc] at h
  have h3 : (coreOf l).length = 3 := by
    rcases Nat.decEq (coreOf l).length 3 with h | h
    · exact absurd (Or.inr h) hc
    · exact h
  have hn : numsErr (coreOf l) = 0 := by
    cases e : hasPre l
    · rw [e] at h; exact h
    · rw [e] at h
      have h' : worse (numsErr (coreOf l)) (pre (preOf l)) = 0 := h
      unfold worse at h'
      by_cases q : numsErr (coreOf l) = 1 ∨ pre (preOf l) = 0
      · rw [if_pos q] at h'; exact h'
      · rw [if_neg q] at h'; exact absurd (Or.inr h') q
  obtain ⟨p0, p1, p2, hco⟩ : ∃ p0 p1 p2, coreOf l = [p0, p1, p2] := by
    match e : coreOf l, h3 with
    | [a, b, c], _ => exact ⟨a, b, c, rfl⟩
  have hz := ncode0 hn
  rw [hco] at hz
  have n0 : nAt l 0 = (num p0).1 := by simp [nAt, numsOf, hco]
  obtain ⟨_, l0, u0⟩ := itoa_num p0 (hz p0 (by simp))
  rw [n0]; exact ⟨l0, u0⟩
theorem pathN_is {l : List UInt8} (h : pathErr l = 0) : pathN l = 0 ∨ 2 ≤ pathN l := by
  unfold pathN
  cases hu : sufE l
  · left; rfl
  · right; exact suf_pos (suf_fits h hu)
set_option maxRecDepth 100000 in
set_option maxHeartbeats 4000000 in
theorem modError_any (p v : ByteArray) (w : World) (hp : p.size < 4294967281) (hv : v.size < 4294967281) :
    Calls Tryz.prog 207 #[.agg #[.string p, .string v]] w fun e w' => e = .returned (.int .i64 (modErr p.data.toList v.data.toList : Nat)) ∧ Below w.heap.size w w' := by
  have HB0 := hid ((Below.refl w.heap.size w).alloc (Nat.le_refl _) (.cells #[.string p, .string v] 35))
  have HP := hid (pathError_any p (w.alloc (.cells #[.string p, .string v] 35)) hp)
  have HM := hid (show modErr p.data.toList v.data.toList = if pathErr p.data.toList = 0 then (if verErr v.data.toList = 0 then (if fitsB (nAt v.data.toList 0) (pathN p.data.toList) then 0 else 4) else verErr v.data.toList) else pathErr p.data.toList from rfl)
  by_cases h0 : pathErr p.data.toList = 0
  · rw [if_pos h0] at HM
    have HV := hid (fun W => verOf_any v W hv)
    by_cases h1 : verErr v.data.toList = 0
    · rw [if_pos h1] at HM
      have HSP := hid (fun W => splitPath_any p W hp)
      have e2 : splitN p.data.toList = pathN p.data.toList := by unfold splitN; rw [if_pos h0]
      rw [e2] at HSP
      have HPN := hid (pathN_is h0)
      have HN0 := hid (n0_pos h1)
      have HF := hid (show fitsB (nAt v.data.toList 0) (pathN p.data.toList) = (if pathN p.data.toList == 0 then (nAt v.data.toList 0 == 0 || nAt v.data.toList 0 == 1) else nAt v.data.toList 0 == pathN p.data.toList) from rfl)
      have H1 := hid h1
      rw [h0] at HP
      clear h0 h1 e2
      go_enter Tryz.func207, Tryz.ntmps207
      go_wp2_with fail
      refine HP.out.mono ?_
      rintro e w1 ⟨rfl, hb1⟩
      have HB1 := hid (HB0.out.trans (hb1.mono HB0.out.size))
      obtain ⟨⟨r0, r1⟩, rz⟩ := res2 (hb1.mono (by simp))
      clear hb1
      go_wp2_with fail
      refine (HV.out _).mono ?_
      rintro e w2 ⟨hv2, hb2⟩
      obtain ⟨sa, cap, X2, rfl⟩ : ∃ sa cap X2, e = .returned (.tuple #[.agg #[.int .i64 (nAt v.data.toList 0), .int .i64 (nAt v.data.toList 1), .int .i64 (nAt v.data.toList 2), .slice sa X2 cap], .int .i64 0]) := by
        rcases hv2 with ⟨h, _⟩ | ⟨_, sa, cap, X2, e1, _⟩
        · exact absurd H1.out h
        · exact ⟨sa, cap, _, e1⟩
      have HB2 := hid (HB1.out.trans (hb2.mono HB1.out.size))
      have HC0 := hid (cell_below hb2 r0)
      have HBV := hid ((Below.refl w2.heap.size w2).alloc (Nat.le_refl _) (.cells #[.int .i64 (nAt v.data.toList 0), .int .i64 (nAt v.data.toList 1), .int .i64 (nAt v.data.toList 2), .slice sa X2 cap] 68))
      have c0 := cell_below HBV.out HC0.out
      have HB3 := hid (HB2.out.trans (HBV.out.mono HB2.out.size))
      generalize nAt v.data.toList 1 = b1 at *
      generalize nAt v.data.toList 2 = b2 at *
      generalize hn0 : nAt v.data.toList 0 = b0 at *
      clear hv2 hb2 hn0 r0 r1 rz
      go_wp2_with fail
      refine (HSP.out _).mono ?_
      rintro e w4 ⟨H, rfl, _, hb4⟩
      have HB4 := hid (HB3.out.trans (hb4.mono HB3.out.size))
      obtain ⟨⟨q0, q1, q2, q3⟩, _, qz⟩ := res4 (hb4.mono (by simp))
      generalize pathN p.data.toList = n at *
      clear hb4 c0
      have hb0 := HN0.out.1
      have hb9 := HN0.out.2
      by_cases hz : n = 0
      · subst hz
        by_cases hg : 1 < b0
        · have HR := hid (show (if fitsB b0 0 then 0 else 4) = 4 by
            have : fitsB b0 0 = false := by
              rw [HF.out]
              simp; omega
            rw [this]; rfl)
          rw [HR.out] at HM
          go_wp2_with fail
          go_ret
          exact ⟨by rw [HM.out]; rfl, HB4.out⟩
        · have HR := hid (show (if fitsB b0 0 then 0 else 4) = 0 by
            have : fitsB b0 0 = true := by
              rw [HF.out]
              simp; omega
            rw [this]; rfl)
          rw [HR.out] at HM
          go_wp2_with fail
          go_ret
          exact ⟨by rw [HM.out]; rfl, HB4.out⟩
      · have hpos : 0 < n := by have := HPN.out; omega
        have hnz : (n == 0) = false := beq_eq_false_iff_ne.2 hz
        by_cases hg : b0 = n
        · subst hg
          have HR := hid (show (if fitsB b0 b0 then 0 else 4) = 0 by
            have : fitsB b0 b0 = true := by
              rw [HF.out, hnz]; simp
            rw [this]; rfl)
          rw [HR.out] at HM
          have hbb : (b0 == b0) = true := by simp
          have hbn : (b0 != b0) = false := by simp
          go_wp2_with fail
          go_ret
          exact ⟨by rw [HM.out]; rfl, HB4.out⟩
        · have hbb : (b0 == n) = false := beq_eq_false_iff_ne.2 hg
          have hbn : (b0 != n) = true := by rw [bne, hbb]; rfl
          have HR := hid (show (if fitsB b0 n then 0 else 4) = 4 by
            have : fitsB b0 n = false := by
              rw [HF.out, hnz]; simpa using hg
            rw [this]; rfl)
          rw [HR.out] at HM
          go_wp2_with fail
          go_ret
          exact ⟨by rw [HM.out]; rfl, HB4.out⟩
    · rw [if_neg h1] at HM
      have H1 := hid h1
      have hpos : (0 : Int) < (verErr v.data.toList : Int) := by omega
      rw [h0] at HP
      rw [HM.out]
      clear h0 h1
      go_enter Tryz.func207, Tryz.ntmps207
      go_wp2_with fail
      refine HP.out.mono ?_
      rintro e w1 ⟨rfl, hb1⟩
      have HB1 := hid (HB0.out.trans (hb1.mono HB0.out.size))
      obtain ⟨⟨r0, r1⟩, rz⟩ := res2 (hb1.mono (by simp))
      clear hb1
      go_wp2_with fail
      refine (HV.out _).mono ?_
      rintro e w2 ⟨hv2, hb2⟩
      obtain rfl : e = .returned (.tuple #[.agg #[.int .i64 0, .int .i64 0, .int .i64 0, .slice none 0 0], .int .i64 (verErr v.data.toList : Nat)]) := by
        rcases hv2 with ⟨_, h⟩ | ⟨h, _⟩
        · exact h
        · exact absurd h H1.out
      have HB2 := hid (HB1.out.trans (hb2.mono HB1.out.size))
      have HBV := hid ((Below.refl w2.heap.size w2).alloc (Nat.le_refl _) (.cells #[.int .i64 0, .int .i64 0, .int .i64 0, .slice none 0 0] 68))
      have HB3 := hid (HB2.out.trans (HBV.out.mono HB2.out.size))
      clear hv2 hb2 r0 r1 rz
      generalize hce : (verErr v.data.toList : Int) = c at *
      have HCE := hid hce
      clear hce
      go_wp2_with fail
      go_ret
      exact ⟨by rw [HCE.out]; rfl, HB3.out⟩
  · rw [if_neg h0] at HM
    have hpos : (0 : Int) < (pathErr p.data.toList : Int) := by omega
    rw [HM.out]
    generalize (pathErr p.data.toList : Int) = c at *
    clear h0 HM
    go_enter Tryz.func207, Tryz.ntmps207
    go_wp2_with fail
    refine HP.out.mono ?_
    rintro e w1 ⟨rfl, hb1⟩
    have HB1 := hid (HB0.out.trans (hb1.mono HB0.out.size))
    clear hb1
    go_wp2_with fail
    go_ret
    exact ⟨rfl, HB1.out⟩
end Ve
end Go.Proofs.YtnkgjddkdikikaaGreatDoor
namespace Go.Proofs.YtnkgjddkdikikaaGreatDoor
open Go.RowKit
namespace Ve
def reqsR (own : ByteArray) (L : List Bm) : Nat × Nat := match fstE (reqE own L) L.length with
  | some i => (reqE own L i, i)
  | none => (0, 0)
theorem reqsR_some {own : ByteArray} {L : List Bm} {k : Nat} (h0 : ∀ j, j < k → reqE own L j = 0) (hk : k < L.length) (h : reqE own L k ≠ 0) : reqsR own L = (reqE own L k, k) := by
  unfold reqsR; rw [fstE_some h0 h hk]
theorem reqsR_none {own : ByteArray} {L : List Bm} (h : ∀ j, j < L.length → reqE own L j = 0) : reqsR own L = (0, 0) := by
  unfold reqsR; rw [fstE_none h]
theorem zero_next {E : Nat → Nat} {k : Nat} (h : ∀ j, j < k → E j = 0) (hk : E k = 0) : ∀ j, j < k + 1 → E j = 0 := fun j hj => by
  rcases Nat.lt_or_ge j k with h1 | h1
  · exact h j h1
  · have : j = k := by omega
    subst this; exact hk
theorem leq_no (a b : ByteArray) : (Op.bytesLess a.toList b.toList || a.toList == b.toList) = noLess b a := by
  have h := cb_more a.toList b.toList
  rw [ByteArray.toList_eq, ByteArray.toList_eq] at h ⊢
  unfold noLess
  rw [cb_swap a.data.toList b.data.toList]
  cases hx : (Op.bytesLess a.data.toList b.data.toList || a.data.toList == b.data.toList) <;> rw [hx] at h <;> simp at h ⊢ <;> omega
theorem leq_is (a b : ByteArray) (X : World) : (binOp BinOp.leq 9 (.string a) (.string b)).run Tryz.prog X = .ok (.bool (noLess b a)) X := by rw [← leq_no]; rfl
set_option maxHeartbeats 4000000 in
set_option maxRecDepth 100000 in
theorem reqsE_some (own : ByteArray) (L : List Bm) (b o c : Nat) (w : World) (hn : L.length ≤ 1000000) (hs : shortL L)
    (hc : ∀ j (h : j < L.length), w.cell? ⟨b, o + j * 2, none⟩ = some (.string L[j].1) ∧ w.cell? ⟨b, o + j * 2 + 1, none⟩ = some (.string L[j].2)) :
    Calls Tryz.prog 208 #[.slice (some ⟨b, o, none⟩) L.length c, .string own] w fun e w' => e = .returned (.tuple #[.int .i64 ((reqsR own L).1 : Nat), .int .i64 ((reqsR own L).2 : Nat)]) ∧ Below w.heap.size w w' := by
  have HC := hid hc
  have HS := hid hs
  generalize hr : reqsR own L = r
  have HR := hid hr
  clear hc hs hr
  go_enter Tryz.func208, Tryz.ntmps208
  go_wp2_with fail
  go_loopw [6] (fun i wr => ∃ k : Nat, k ≤ L.length ∧ i = .int .i64 k ∧ Hid (∀ j, j < k → reqE own L j = 0) ∧ Hid (Below w.heap.size w wr)) (fun i _ => L.length - (intOf i).toNat)
  case atStart => exact ⟨0, Nat.zero_le _, rfl, hid (fun j hj => absurd hj (by omega)), hid (Below.refl _ _)⟩
  case round =>
    obtain ⟨k, hk, rfl, HZ, HB⟩ := hrel
    by_cases hlt : k < L.length
    · have hx := cell_below HB.out (HC.out k hlt).1
      have hy := cell_below HB.out (HC.out k hlt).2
      have hkI : (k : Int) < (L.length : Int) := by omega
      have HM := hid (modError_any L[k].1 L[k].2 wr (by have := (HS.out L[k] (List.getElem_mem hlt)).1; omega) (by have := (HS.out L[k] (List.getElem_mem hlt)).2; omega))
      rw [show modErr L[k].1.data.toList L[k].2.data.toList = mErr L[k] from rfl] at HM
      have HN := hid (fun h => reqsR_some HZ.out hlt h)
      have HY := hid (fun h => zero_next HZ.out h)
      have HLT := hid hlt
      rcases Nat.eq_zero_or_pos k with h00 | h00
      · have HE := hid (show reqE own L k = reqW own none L[k] by subst h00; exact reqE_0 hlt)
        have g3 : decide (0 < k) = false := decide_eq_false (by omega)
        generalize L[k] = x at *
        obtain ⟨p, v⟩ := x
        clear hlt h00
        by_cases h0 : mErr (p, v) = 0
        · rw [h0] at HM
          by_cases h1 : p = own
          · have HV := hid (HN.out (by rw [HE.out, reqW_own h0 h1]; decide))
            rw [HE.out, reqW_own h0 h1] at HV
            rw [h1] at hx HM
            have hq := str_refl own
            clear h0 h1
            go_wp2_with fail
            refine HM.out.mono ?_
            rintro e w1 ⟨rfl, hb⟩
            have HB1 := hid (HB.out.trans (hb.mono HB.out.size))
            replace hx := cell_below hb hx
            replace hy := cell_below hb hy
            clear hb
            go_wp2_with fail
            go_ret2
            exact ⟨by rw [← HR.out, HV.out]; rfl, HB1.out⟩
          · have HV := hid (HY.out (by rw [HE.out, reqW_none h0 h1]))
            have hq := str_ne h1
            clear h0 h1
            go_wp2_with fail
            refine HM.out.mono ?_
            rintro e w1 ⟨rfl, hb⟩
            have HB1 := hid (HB.out.trans (hb.mono HB.out.size))
            replace hx := cell_below hb hx
            replace hy := cell_below hb hy
            clear hb
            go_wp2_with fail
            go_quiet (fail)
            go_wp2_with fail
            go_roundw
            case rel => exact ⟨k + 1, by have := HLT.out; omega, by go_num, HV, hid (below_drawn_of HB1.out _)⟩
            case measure => have := HLT.out; simp [intOf]; omega
        · have HV := hid (HN.out (by rw [HE.out, reqW_bad h0]; exact h0))
          rw [HE.out, reqW_bad h0] at HV
          have hpos : (0 : Int) < (mErr (p, v) : Int) := by omega
          generalize mErr (p, v) = z at *
          clear h0
          go_wp2_with fail
          refine HM.out.mono ?_
          rintro e w1 ⟨rfl, hb⟩
          have HB1 := hid (HB.out.trans (hb.mono HB.out.size))
          clear hb
          go_wp2_with fail
          go_ret2
          exact ⟨by rw [← HR.out, HV.out]; rfl, HB1.out⟩
      · obtain ⟨q, hq⟩ : ∃ q, k = q + 1 := ⟨k - 1, by omega⟩
        have hql : q < L.length := by omega
        have HE := hid (show reqE own L k = reqW own (some L[q]) L[k] by subst hq; exact reqE_1 hlt)
        have hxq := cell_below HB.out (HC.out q hql).1
        have gw : IntKind.i64.wrap ((k : Int) - 1) = (q : Int) := by rw [IntKind.wrap_i64]; omega
        have gw2 : (k : Int) - 1 = (q : Int) := by omega
        have g1 : (0 : Int) ≤ (q : Int) := by omega
        have g2 : (q : Int) < (L.length : Int) := by omega
        have g3 : (0 : Int) < (k : Int) := by omega
        have g4 : decide (0 < k) = true := decide_eq_true (by omega)
        generalize L[k] = x at *
        generalize L[q] = y at *
        obtain ⟨p, v⟩ := x
        obtain ⟨p', v'⟩ := y
        clear hlt hql hq h00
        by_cases h0 : mErr (p, v) = 0
        · rw [h0] at HM
          by_cases h1 : p = own
          · have HV := hid (HN.out (by rw [HE.out, reqW_own h0 h1]; decide))
            rw [HE.out, reqW_own h0 h1] at HV
            rw [h1] at hx HM
            have hq := str_refl own
            clear h0 h1
            go_wp2_with fail
            refine HM.out.mono ?_
            rintro e w1 ⟨rfl, hb⟩
            have HB1 := hid (HB.out.trans (hb.mono HB.out.size))
            replace hx := cell_below hb hx
            replace hy := cell_below hb hy
            clear hb
            go_wp2_with fail
            go_ret2
            exact ⟨by rw [← HR.out, HV.out]; rfl, HB1.out⟩
          · have hle := leq_is p p'
            have hq := str_ne h1
            cases hz : noLess p' p
            · have HV := hid (HY.out (by rw [HE.out, reqW_some h0 h1, if_neg (by rw [hz]; decide)]))
              rw [hz] at hle
              clear h0 h1 hz
              go_wp2_with fail
              refine HM.out.mono ?_
              rintro e w1 ⟨rfl, hb⟩
              have HB1 := hid (HB.out.trans (hb.mono HB.out.size))
              replace hx := cell_below hb hx
              replace hy := cell_below hb hy
              replace hxq := cell_below hb hxq
              clear hb
              go_wp2_with fail
              go_quiet (fail)
              go_wp2_with fail
              go_roundw
              case rel => exact ⟨k + 1, by have := HLT.out; omega, by go_num, HV, hid (below_drawn_of HB1.out _)⟩
              case measure => have := HLT.out; simp [intOf]; omega
            · have HV := hid (HN.out (by rw [HE.out, reqW_some h0 h1, if_pos hz]; decide))
              rw [HE.out, reqW_some h0 h1, if_pos hz] at HV
              rw [hz] at hle
              clear h0 h1 hz
              go_wp2_with fail
              refine HM.out.mono ?_
              rintro e w1 ⟨rfl, hb⟩
              have HB1 := hid (HB.out.trans (hb.mono HB.out.size))
              replace hx := cell_below hb hx
              replace hy := cell_below hb hy
              replace hxq := cell_below hb hxq
              clear hb
              go_wp2_with fail
              go_quiet (fail)
              go_wp2_with fail
              go_ret2
              exact ⟨by rw [← HR.out, HV.out]; rfl, below_drawn_of HB1.out _⟩
        · have HV := hid (HN.out (by rw [HE.out, reqW_bad h0]; exact h0))
          rw [HE.out, reqW_bad h0] at HV
          have hpos : (0 : Int) < (mErr (p, v) : Int) := by omega
          generalize mErr (p, v) = z at *
          clear h0
          go_wp2_with fail
          refine HM.out.mono ?_
          rintro e w1 ⟨rfl, hb⟩
          have HB1 := hid (HB.out.trans (hb.mono HB.out.size))
          clear hb
          go_wp2_with fail
          go_ret2
          exact ⟨by rw [← HR.out, HV.out]; rfl, HB1.out⟩
    · have HV := hid (reqsR_none (own := own) (L := L) (fun j hj => HZ.out j (by omega)))
      go_wp2_with fail
      go_ret2
      exact ⟨by rw [← HR.out, HV.out]; rfl, HB.out⟩
theorem reqsE_none (own : ByteArray) (a : Option Addr) (c : Nat) (w : World) : Calls Tryz.prog 208 #[.slice a 0 c, .string own] w fun e w' => e = .returned (.tuple #[.int .i64 0, .int .i64 0]) ∧ Below w.heap.size w w' := by
  go_enter Tryz.func208, Tryz.ntmps208
  go_wp2_with fail
  go_loopw [6] (fun i wr => i = .int .i64 0 ∧ wr = w) (fun i _ => 0)
  case atStart => exact ⟨rfl, rfl⟩
  case round =>
    obtain ⟨rfl, rfl⟩ := hrel
    go_wp2_with fail
    go_ret2
    exact ⟨rfl, Below.refl _ _⟩
theorem reqsE_any (own : ByteArray) (L : List Bm) (v : Value) (w : World) (hn : L.length ≤ 1000000) (hs : shortL L) (hv : MsAt w v L) :
    Calls Tryz.prog 208 #[v, .string own] w fun e w' => e = .returned (.tuple #[.int .i64 ((reqsR own L).1 : Nat), .int .i64 ((reqsR own L).2 : Nat)]) ∧ Below w.heap.size w w' := by
  obtain ⟨a, c, rfl, _, h⟩ := hv
  cases L with
  | nil => exact reqsE_none own a c w
  | cons x r =>
    obtain ⟨b, o, rfl, h2⟩ := h (by simp)
    exact reqsE_some own (x :: r) b o c w hn hs h2
end Ve
end Go.Proofs.YtnkgjddkdikikaaGreatDoor
namespace Go.Proofs.YtnkgjddkdikikaaGreatDoor
open Go.RowKit Go.Maps
namespace Ve
theorem es_modK {W : World} {b o n c : Nat} {Q : List Raw} (h : EsAt W (.slice (some ⟨b, o, none⟩) n c) Q) {k : Nat} (hk : k < Q.length) : W.cell? ⟨b, o + k * 5, none⟩ = some (.string Q[k].1.1) ∧ W.cell? ⟨b, o + k * 5 + 1, none⟩ = some (.string Q[k].1.2) := by
  obtain ⟨a', c', e, _, _, h⟩ := h
  injection e with e1 e2 e3
  subst e1
  obtain ⟨b', o', e4, h4⟩ := h (by intro h0; rw [h0] at hk; simp at hk)
  injection e4 with e4
  injection e4 with e5 e6
  subst e5 e6
  exact ⟨(h4 k hk).1, (h4 k hk).2.1⟩
theorem es_backK {W : World} {b o n c : Nat} {Q : List Raw} (h : EsAt W (.slice (some ⟨b, o, none⟩) n c) Q) {k : Nat} (hk : k < Q.length) : W.cell? ⟨b, o + k * 5 + 4, none⟩ = some (.bool Q[k].2.2.2) := by
  obtain ⟨a', c', e, _, _, h⟩ := h
  injection e with e1 e2 e3
  subst e1
  obtain ⟨b', o', e4, h4⟩ := h (by intro h0; rw [h0] at hk; simp at hk)
  injection e4 with e4
  injection e4 with e5 e6
  subst e5 e6
  exact (h4 k hk).2.2.2.2
theorem sortVers_nil (a : Option Addr) (c : Nat) (w : World) : Calls Tryz.prog 156 #[.slice a 0 c] w fun e w' => e = .returned (.slice none 0 0) ∧ Below w.heap.size w w' := by
  go_enter Tryz.func156, Tryz.ntmps156
  go_wp2_with fail
  go_loopw [3, 4] (fun v i wr => v = .slice none 0 0 ∧ i = .int .i64 0 ∧ wr = w) (fun _ i _ => 0)
  case atStart => exact ⟨rfl, rfl, rfl⟩
  case round =>
    obtain ⟨rfl, rfl, rfl⟩ := hrel
    go_wp2_with fail
    go_ret
    exact ⟨rfl, Below.refl _ _⟩
def pthR (t : ByteArray) (Q : List Raw) : List Raw := Q.filter fun r => decide (r.1.1 = t)
theorem pthR_yes {t : ByteArray} {Q : List Raw} {k : Nat} (h : k < Q.length) (he : Q[k].1.1 = t) : verL (pthR t (Q.take (k + 1))) = verL (pthR t (Q.take k)) ++ [Q[k].1.2] := by
  unfold pthR verL
  rw [List.take_succ_eq_append_getElem h, List.filter_append, List.map_append]
  simp [he]
theorem pthR_no {t : ByteArray} {Q : List Raw} {k : Nat} (h : k < Q.length) (he : ¬ Q[k].1.1 = t) : verL (pthR t (Q.take (k + 1))) = verL (pthR t (Q.take k)) := by
  unfold pthR verL
  rw [List.take_succ_eq_append_getElem h, List.filter_append, List.map_append]
  simp [he]
theorem pthR_len (t : ByteArray) (Q : List Raw) : (verL (pthR t Q)).length ≤ Q.length := by
  unfold pthR verL
  rw [List.length_map]
  exact List.length_filter_le _ _
theorem pthR_sz {t : ByteArray} {Q : List Raw} (hz : ∀ r, r ∈ Q → r.1.1.size ≤ 80 ∧ r.1.2.size ≤ 80) : ∀ x, x ∈ verL (pthR t Q) → x.size ≤ 80 := fun x hx => by
  obtain ⟨r, hr, rfl⟩ := List.mem_map.1 hx
  exact (hz r (List.mem_filter.1 hr).1).2
set_option maxRecDepth 100000 in
set_option maxHeartbeats 4000000 in
theorem versOf_any (Q : List Raw) (t : ByteArray) (v : Value) (w : World) (hL : Q.length ≤ 1000) (hz : ∀ r, r ∈ Q → r.1.1.size ≤ 80 ∧ r.1.2.size ≤ 80) (hv : EsAt w v Q) :
    Calls Tryz.prog 92 #[v, .string t] w fun e w' => ∃ u X, e = .returned u ∧ TxAt w' u X ∧ Kept (verL (pthR t Q)) (verL (pthR t Q)).length X ∧ Below w.heap.size w w' := by
  have HV := hid (fun W (h : Below w.heap.size w W) => hv.below h)
  have HQM := hid (show Q.length ≤ 1000000 by omega)
  have HQL := hid hL
  have HSO := hid (fun (L : List ByteArray) b o c W (hc : ∀ j (h : j < L.length), W.cell? ⟨b, o + j, none⟩ = some (.string L[j])) (h12 : L.length ≤ 1000) (hz : ∀ x, x ∈ L → x.size ≤ 80) => sortVers_some b o c L W hc h12 hz)
  have HSN := hid sortVers_nil
  have HZZ := hid (pthR_sz (t := t) hz)
  have HZL := hid (show (verL (pthR t Q)).length ≤ 1000 from Nat.le_trans (pthR_len t Q) hL)
  obtain ⟨i0, hi0, hz0, hz1, hz2⟩ := info_parts infoStr
  obtain ⟨va, vc, hv1, -⟩ := id hv
  subst hv1
  clear hv hz hL
  go_enter Tryz.func92, Tryz.ntmps92
  go_wp2_with fail
  go_loopw [5, 6] (fun ov iv wr => ∃ i : Nat, i ≤ Q.length ∧ iv = .int .i64 i ∧ Hid (wr.ownsRow w.heap.size 9 1 ov (verL (pthR t (Q.take i))).length ((verL (pthR t (Q.take i))).map Value.string)) ∧ Hid (Below w.heap.size w wr)) (fun _ iv _ => Q.length - (intOf iv).toNat)
  case atStart => exact ⟨0, Nat.zero_le _, rfl, hid (World.ownsRow_nil _ _ _ _), hid (Below.refl _ _)⟩
  case round =>
    obtain ⟨i, hi, rfl, HOW, HBr⟩ := hrel
    by_cases hlt : i < Q.length
    · have hiI := ix_lt hlt
      have hii := ix_pos i
      have HLI := hid hlt
      obtain ⟨eb, eo, hea, -⟩ := es_cells (HV.out _ HBr.out) hlt
      subst hea
      obtain ⟨y0, y1⟩ := es_modK (HV.out _ HBr.out) hlt
      have HYS := hid (fun he => pthR_yes (t := t) hlt he)
      have HNO := hid (fun he => pthR_no (t := t) hlt he)
      have HLN := hid (show (verL (pthR t (Q.take i))).length ≤ 1000 from Nat.le_trans (pthR_len t _) (Nat.le_trans (List.length_take_le' i Q) HQL.out))
      generalize Q[i] = r at *
      obtain ⟨⟨p, q⟩, r2⟩ := r
      simp only at y0 y1 HYS HNO
      obtain ⟨SX, hSX⟩ : ∃ SX, verL (pthR t (Q.take i)) = SX := ⟨_, rfl⟩
      rw [hSX] at HOW HYS HNO HLN
      clear hSX hlt
      by_cases he : p = t
      · subst he
        have HST := hid (HYS.out rfl)
        have heq := str_refl p
        clear HYS HNO
        go_wp2_with (at_builtin; refine wpList_append_own _ rfl _ _ 29 rfl w.heap.size 9 i0 _ 1 16 Tryz.underlying29 hi0 hz0 hz1 hz2 rfl (by decide) _ _ _ rfl (HOW.out.alloc _) ⟨wr.heap.size, 0, none⟩ 1 1 [.string q] rfl rfl (World.news_of_block (heap_new _ _)) (by intro u hu; simp at hu; subst hu; rfl) (Nat.le_trans (Nat.add_le_add_right HLN.out 1) (by unfold maxLen; decide)) (by have hz := HLN.out; omega) (Nat.le_trans HBr.out.size (by simp)) ?_)
        intro v' w6 hown hgrow _
        have HB6 := hid (rel_app HBr.out.size HBr.out HOW.out (Below.refl _ _) hgrow)
        have HO6 := hid (show w6.ownsRow w.heap.size 9 1 v' (SX ++ [q]).length ((SX ++ [q]).map Value.string) by rw [List.length_append, List.map_append]; exact hown)
        clear hown hgrow
        go_wp2_with fail
        go_roundw
        case rel => first | exact ⟨i + 1, HLI.out, nr_idx i, hid (by rw [HST.out]; exact HO6.out), HB6⟩ | exact ⟨i + 1, HLI.out, nx_idx HLI.out HQM.out, hid (by rw [HST.out]; exact HO6.out), HB6⟩
        case measure => first | exact nr_meas HLI.out | exact nx_meas HLI.out HQM.out
      · have HST := hid (HNO.out he)
        have heq := str_ne he
        clear HYS HNO he
        go_wp2_with fail
        go_roundw
        case rel => first | exact ⟨i + 1, HLI.out, nr_idx i, hid (by rw [HST.out]; exact HOW.out), HBr⟩ | exact ⟨i + 1, HLI.out, nx_idx HLI.out HQM.out, hid (by rw [HST.out]; exact HOW.out), HBr⟩
        case measure => first | exact nr_meas HLI.out | exact nx_meas HLI.out HQM.out
    · have hiI := ix_nlt hlt
      have HTA := hid (show Q.take i = Q from List.take_of_length_le (by omega))
      rw [HTA.out] at HOW
      obtain ⟨Z, HZ⟩ : ∃ Z, Hid (verL (pthR t Q) = Z) := ⟨_, hid rfl⟩
      rw [HZ.out] at HOW HZZ HZL
      clear hlt HTA
      obtain ⟨oa, oc, hov, -, hcell⟩ := own_tx HOW.out
      subst hov
      by_cases hZ : Z = []
      · subst hZ
        have HS0 := hid (HSN.out oa oc wr)
        go_wp2_with fail
        refine HS0.out.mono ?_
        rintro e w7 ⟨rfl, hb⟩
        have HB7 := hid (HBr.out.trans (hb.mono HBr.out.size))
        clear hb
        go_wp2_with fail
        go_ret
        refine ⟨_, [], rfl, ⟨none, 0, rfl, Nat.le_refl _, fun h => absurd rfl h⟩, ?_, HB7.out⟩
        rw [HZ.out]
        exact ⟨List.Pairwise.nil, fun t => by simp [bl]⟩
      · obtain ⟨ob, oo, hoa, hcl⟩ := hcell hZ
        subst hoa
        have HS0 := hid (HSO.out Z ob oo oc wr hcl HZL.out HZZ.out)
        clear hcl hcell
        go_wp2_with fail
        refine HS0.out.mono ?_
        rintro e w7 ⟨u7, X, rfl, ho, hK, hb⟩
        have HB7 := hid (HBr.out.trans (hb.mono HBr.out.size))
        have HK7 := hid hK
        have HT7 := hid (own_tx ho)
        obtain ⟨ua, uc, hu7⟩ := own_slN ho
        subst hu7
        clear hb hK ho
        go_wp2_with fail
        go_ret
        exact ⟨_, X, rfl, HT7.out, by rw [HZ.out]; exact HK7.out, HB7.out⟩
set_option maxRecDepth 100000 in
set_option maxHeartbeats 4000000 in
theorem rank_any (Q : List Raw) (t s : ByteArray) (k : Nat) (v : Value) (w : World) (hL : Q.length ≤ 1000) (hs : s.size < 999999) (hk : k < Q.length) (hi : idxOf (isM (t, s)) Q = (k : Int)) (hq : Q[k].1.2 = s) (he : verErr s.data.toList = 0) (hv : EsAt w v Q) :
    Calls Tryz.prog 158 #[v, .string t, .string s] w fun e w' => e = .returned (.int .i64 (rnk Q[k] : Nat)) ∧ Below w.heap.size w w' := by
  have HFO := hid (findOf_allJ Q (t, s) v w (by omega) hv)
  rw [hi] at HFO
  have HV := hid (fun W (h : Below w.heap.size w W) => hv.below h)
  have HVO := hid (fun W => verOf_any s W (by omega))
  have HRN := hid (show rnk Q[k] = if Q[k].2.2.2 then 0 else if 0 < (preOf s.data.toList).length then 1 else 2 by unfold rnk; rw [hq])
  have hkI := ix_lt hk
  have hk0 := ix_pos k
  obtain ⟨va, vc, hv1, -⟩ := id hv
  subst hv1
  obtain ⟨eb, eo, hea, -⟩ := es_cells hv hk
  subst hea
  have HBK := hid (fun W (h : Below w.heap.size w W) => es_backK (HV.out W h) hk)
  have HE := hid he
  generalize rnk Q[k] = z at *
  generalize (Q[k]'hk).2.2.2 = bk at *
  clear hv hi hq he hk
  go_enter Tryz.func158, Tryz.ntmps158
  go_wp2_with fail
  refine HFO.out.mono ?_
  rintro e w1 ⟨rfl, hb⟩
  have HB1 := hid hb
  have c0 := HBK.out w1 hb
  clear hb HFO
  cases bk with
  | true =>
    go_wp2_with fail
    go_ret
    exact ⟨by rw [HRN.out]; rfl, HB1.out⟩
  | false =>
    go_wp2_with fail
    refine (HVO.out w1).mono ?_
    rintro e w2 ⟨h | ⟨_, sa, cap, X2, rfl, hbl, -⟩, hb⟩
    · exact absurd HE.out h.1
    · have HB2 := hid (HB1.out.trans (hb.mono HB1.out.size))
      have HBL := hid (show X2.length = (preOf s.data.toList).length by rw [← hbl]; simp [bl])
      have HB3 := hid (HB2.out.alloc HB2.out.size (.cells #[.int .i64 (nAt s.data.toList 0), .int .i64 (nAt s.data.toList 1), .int .i64 (nAt s.data.toList 2), .slice sa X2.length cap] 68))
      clear hb hbl
      by_cases hp : 0 < X2.length
      · have hpI : (0 : Int) < (X2.length : Int) := by omega
        have HZ := hid (show z = 1 by rw [HRN.out, if_neg (by simp), if_pos (by rw [← HBL.out]; exact hp)])
        clear hp
        go_wp2_with fail
        go_ret
        exact ⟨by rw [HZ.out]; rfl, HB3.out⟩
      · have hpI : ¬ (0 : Int) < (X2.length : Int) := by omega
        have HZ := hid (show z = 2 by rw [HRN.out, if_neg (by simp), if_neg (by rw [← HBL.out]; exact hp)])
        clear hp
        go_wp2_with fail
        go_ret
        exact ⟨by rw [HZ.out]; rfl, HB3.out⟩
end Ve
end Go.Proofs.YtnkgjddkdikikaaGreatDoor
