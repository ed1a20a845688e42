/-
  What majorFits, Check, Text and Split of package mod answer; nothing old in memory turns.
-/
import Derived.Test.YtmgpbejekglipabGreatDoorJn9
import Derived.Test.YtmgpbejekglipabGreatDoorJn7
namespace Go.Proofs.YtmgpbejekglipabGreatDoor
open Go.RowKit
namespace Ve

def fitsB (major suffix : Int) : Bool := if suffix == 0 then (major == 0 || major == 1) else major == suffix
theorem fits_any (a b : Int) (w : World) : Calls Tryz.prog 151 #[.int .i64 a, .int .i64 b] w fun e w' => e = .returned (.bool (fitsB a b)) ∧ w' = w := by
  have HF := hid (show fitsB a b = if b == 0 then (a == 0 || a == 1) else a == b from rfl)
  cases h : (b == 0)
  · rw [h] at HF
    go_enter Tryz.func151, Tryz.ntmps151
    go_wp2_with fail
    go_ret
    exact ⟨ret_bool (by rw [HF.out]; rfl), rfl⟩
  · rw [h] at HF
    cases h2 : (a == 0)
    · rw [h2] at HF
      go_enter Tryz.func151, Tryz.ntmps151
      go_wp2_with fail
      go_ret
      exact ⟨ret_bool (by rw [HF.out]; rfl), rfl⟩
    · rw [h2] at HF
      go_enter Tryz.func151, Tryz.ntmps151
      go_wp2_with fail
      go_ret
      exact ⟨ret_bool (by rw [HF.out]; rfl), rfl⟩

/-- Check's error, by its number. -/
def modErr (p v : List UInt8) : Nat := if pathErr p = 0 then (if verErr v = 0 then (if fitsB (nAt v 0) (pathN p) then 0 else 4) else verErr v) else pathErr p
theorem verErr_err (l : List UInt8) : verErr l = 0 ∨ verErr l = 1 ∨ verErr l = 2 := by
  unfold verErr
  split
  · simp
  · split
    · exact worse_err (numsErr_err _) (pre_err _)
    · exact numsErr_err _
theorem pathErr_err (l : List UInt8) : pathErr l = 0 ∨ pathErr l = 1 ∨ pathErr l = 2 ∨ pathErr l = 4 := by
  unfold pathErr; split
  · simp
  · split
    · simp
    · split <;> simp

theorem res2 {w w3 : World} {a b : Value} {T : TypeId} (hb : Below (w.heap.size + 1) (w.alloc (.cells #[a, b] T)) w3) :
    (w3.cell? ⟨w.heap.size, 0, none⟩ = some a ∧ w3.cell? ⟨w.heap.size, 1, none⟩ = some b) ∧ w.heap.size < w3.heap.size := by
  refine ⟨⟨?_, ?_⟩, ?_⟩
  · rw [hb.cell (by simp)]; simp
  · rw [hb.cell (by simp)]; simp
  · have := hb.size; simp at this; omega

set_option maxHeartbeats 1000000 in
theorem mcheck_path (p v : ByteArray) (A : Nat → Addr) (m : Int) (w : World) (hp : p.size < 4294967281) (S : Te w A m) (h0 : pathErr p.data.toList ≠ 0) :
    Calls Tryz.prog 89 #[.agg #[.string p, .string v]] w fun e w' => e = .returned (errA A (pathErr p.data.toList)) ∧ Below w.heap.size w w' := by
  have HB0 := hid ((Below.refl w.heap.size w).alloc (Nat.le_refl _) (.cells #[.string p, .string v] 26))
  have HP := hid (readPath_any p A m _ hp (S.below HB0.out))
  obtain ⟨a9, ha9⟩ := errA_ne A h0
  have HE := hid ha9
  clear S h0 ha9
  go_enter Tryz.func89, Tryz.ntmps89
  go_wp2_with fail
  refine HP.out.mono ?_
  rintro e w1 ⟨⟨H, n, v, rfl, hv, _, _⟩, hb⟩
  rw [HE.out] at hv
  subst hv
  have HB := hid (HB0.out.trans (hb.mono HB0.out.size))
  clear hb
  go_wp2_with fail
  go_ret
  exact ⟨by rw [HE.out]; rfl, HB.out⟩

set_option maxHeartbeats 1000000 in
theorem mcheck_ver (p v : ByteArray) (A : Nat → Addr) (m : Int) (w : World) (hp : p.size < 4294967281) (hvs : v.size < 4294967281) (S : Te w A m) (h0 : pathErr p.data.toList = 0) (h1 : verErr v.data.toList ≠ 0) :
    Calls Tryz.prog 89 #[.agg #[.string p, .string v]] w fun e w' => e = .returned (errA A (verErr v.data.toList)) ∧ Below w.heap.size w w' := by
  obtain ⟨a9, ha9⟩ := errV_ne (A 0) (A 1) h1
  have HE := hid ha9
  have HV := hid h1
  have HX := hid (errA_V A (verErr v.data.toList) (verErr_err _))
  clear ha9 h1
  have HB0 := hid ((Below.refl w.heap.size w).alloc (Nat.le_refl _) (.cells #[.string p, .string v] 26))
  have HS0 := hid (S.below HB0.out)
  have HP := hid (readPath_any p A m _ hp HS0.out)
  have H0 := hid h0
  clear S h0
  go_enter Tryz.func89, Tryz.ntmps89
  go_wp2_with fail
  refine HP.out.mono ?_
  rintro e w1 ⟨⟨H, n, ev, rfl, hv, hgood, _⟩, hb⟩
  obtain ⟨_, rfl⟩ := hgood H0.out
  rw [H0.out, errA0] at hv
  subst hv
  obtain ⟨⟨r0, r1⟩, rz⟩ := res2 (hb.mono (by simp))
  have HS1 := hid (HS0.out.below hb)
  have HB := hid (HB0.out.trans (hb.mono HB0.out.size))
  clear hb hgood
  go_wp2_with fail
  refine (vsplit_bad v (A 0) (A 1) m w1 hvs HS1.out.vs HV.out).mono ?_
  rintro e w2 ⟨rfl, hb2⟩
  rw [HE.out]
  have HB2 := hid (HB.out.trans (hb2.mono HB.out.size))
  clear hb2
  go_wp2_with fail
  go_ret
  exact ⟨by rw [← HX.out, HE.out]; rfl, HB2.out.alloc HB2.out.size _⟩

set_option maxHeartbeats 1000000 in
theorem mcheck_major (p v : ByteArray) (A : Nat → Addr) (m : Int) (w : World) (hp : p.size < 4294967281) (hvs : v.size < 4294967281) (S : Te w A m) (h0 : pathErr p.data.toList = 0) (h1 : verErr v.data.toList = 0) (h2 : fitsB (nAt v.data.toList 0) (pathN p.data.toList) = false) :
    Calls Tryz.prog 89 #[.agg #[.string p, .string v]] w fun e w' => e = .returned (.iface 279 (.pointer (some (A 3)))) ∧ Below w.heap.size w w' := by
  have HV := hid h1
  have HF := hid h2
  clear h1 h2
  have HB0 := hid ((Below.refl w.heap.size w).alloc (Nat.le_refl _) (.cells #[.string p, .string v] 26))
  have HS0 := hid (S.below HB0.out)
  have HP := hid (readPath_any p A m _ hp HS0.out)
  have H0 := hid h0
  clear S h0
  go_enter Tryz.func89, Tryz.ntmps89
  go_wp2_with fail
  refine HP.out.mono ?_
  rintro e w1 ⟨⟨H, n, ev, rfl, hv, hgood, _⟩, hb⟩
  obtain ⟨_, rfl⟩ := hgood H0.out
  rw [H0.out, errA0] at hv
  subst hv
  obtain ⟨⟨r0, r1⟩, rz⟩ := res2 (hb.mono (by simp))
  have HS1 := hid (HS0.out.below hb)
  have HB := hid (HB0.out.trans (hb.mono HB0.out.size))
  clear hb hgood
  go_wp2_with fail
  refine (vsplit_good v (A 0) (A 1) m w1 hvs HS1.out.vs HV.out).mono ?_
  rintro e w2 ⟨u, X, rfl, _, hst, hb2⟩
  obtain ⟨pa, na, ca, rfl⟩ := hst.slice
  have HB2 := hid (HB.out.trans (hb2.mono HB.out.size))
  have HS2 := hid (HS1.out.below hb2)
  have HBA := hid ((Below.refl w2.heap.size w2).alloc (Nat.le_refl _) (.cells #[.int .i64 (nAt v.data.toList 0), .int .i64 (nAt v.data.toList 1), .int .i64 (nAt v.data.toList 2), .slice pa na ca] 62))
  have HS3 := hid (HS2.out.below HBA.out)
  have HB3 := hid (HB2.out.trans (HBA.out.mono HB2.out.size))
  clear hb2 hst
  go_wp2_with fail
  refine (fits_any _ _ _).mono ?_
  rintro e w' ⟨rfl, rfl⟩
  rw [HF.out]
  have g3 := HS3.out.sen.g3
  go_wp2_with fail
  go_ret
  exact ⟨rfl, HB3.out⟩

set_option maxHeartbeats 1000000 in
theorem mcheck_ok (p v : ByteArray) (A : Nat → Addr) (m : Int) (w : World) (hp : p.size < 4294967281) (hvs : v.size < 4294967281) (S : Te w A m) (h0 : pathErr p.data.toList = 0) (h1 : verErr v.data.toList = 0) (h2 : fitsB (nAt v.data.toList 0) (pathN p.data.toList) = true) :
    Calls Tryz.prog 89 #[.agg #[.string p, .string v]] w fun e w' => e = .returned (.nilIface) ∧ Below w.heap.size w w' := by
  have HV := hid h1
  have HF := hid h2
  clear h1 h2
  have HB0 := hid ((Below.refl w.heap.size w).alloc (Nat.le_refl _) (.cells #[.string p, .string v] 26))
  have HS0 := hid (S.below HB0.out)
  have HP := hid (readPath_any p A m _ hp HS0.out)
  have H0 := hid h0
  clear S h0
  go_enter Tryz.func89, Tryz.ntmps89
  go_wp2_with fail
  refine HP.out.mono ?_
  rintro e w1 ⟨⟨H, n, ev, rfl, hv, hgood, _⟩, hb⟩
  obtain ⟨_, rfl⟩ := hgood H0.out
  rw [H0.out, errA0] at hv
  subst hv
  obtain ⟨⟨r0, r1⟩, rz⟩ := res2 (hb.mono (by simp))
  have HS1 := hid (HS0.out.below hb)
  have HB := hid (HB0.out.trans (hb.mono HB0.out.size))
  clear hb hgood
  go_wp2_with fail
  refine (vsplit_good v (A 0) (A 1) m w1 hvs HS1.out.vs HV.out).mono ?_
  rintro e w2 ⟨u, X, rfl, _, hst, hb2⟩
  obtain ⟨pa, na, ca, rfl⟩ := hst.slice
  have HB2 := hid (HB.out.trans (hb2.mono HB.out.size))
  have HS2 := hid (HS1.out.below hb2)
  have HBA := hid ((Below.refl w2.heap.size w2).alloc (Nat.le_refl _) (.cells #[.int .i64 (nAt v.data.toList 0), .int .i64 (nAt v.data.toList 1), .int .i64 (nAt v.data.toList 2), .slice pa na ca] 62))
  have HS3 := hid (HS2.out.below HBA.out)
  have HB3 := hid (HB2.out.trans (HBA.out.mono HB2.out.size))
  clear hb2 hst
  go_wp2_with fail
  refine (fits_any _ _ _).mono ?_
  rintro e w' ⟨rfl, rfl⟩
  rw [HF.out]
  go_wp2_with fail
  go_ret
  exact ⟨rfl, HB3.out⟩

theorem mcheck_any (p v : ByteArray) (A : Nat → Addr) (m : Int) (w : World) (hp : p.size < 4294967281) (hv : v.size < 4294967281) (S : Te w A m) :
    Calls Tryz.prog 89 #[.agg #[.string p, .string v]] w fun e w' => e = .returned (errA A (modErr p.data.toList v.data.toList)) ∧ Below w.heap.size w w' := by
  unfold modErr
  by_cases h0 : pathErr p.data.toList = 0
  · rw [if_pos h0]
    by_cases h1 : verErr v.data.toList = 0
    · rw [if_pos h1]
      cases h2 : fitsB (nAt v.data.toList 0) (pathN p.data.toList)
      · exact mcheck_major p v A m w hp hv S h0 h1 h2
      · exact mcheck_ok p v A m w hp hv S h0 h1 h2
    · rw [if_neg h1]; exact mcheck_ver p v A m w hp hv S h0 h1
  · rw [if_neg h0]; exact mcheck_path p v A m w hp S h0

/-- Text: the text, or nothing. -/
def modText (p v : List UInt8) : List UInt8 := if modErr p v = 0 then p ++ 64 :: v else []
end Ve
end Go.Proofs.YtmgpbejekglipabGreatDoor

/-
  The order on parts, pres and versions, as plain functions: what compare of package ver and the document's order compute. No Go here.
-/
namespace Go.Proofs.YtmgpbejekglipabGreatDoor
namespace Ve

theorem cb_range : ∀ (a b : List UInt8), Lib.compareBytes a b = -1 ∨ Lib.compareBytes a b = 0 ∨ Lib.compareBytes a b = 1
  | [], [] => by simp [Lib.compareBytes]
  | [], _ :: _ => by simp [Lib.compareBytes]
  | _ :: _, [] => by simp [Lib.compareBytes]
  | a :: x, b :: y => by
    unfold Lib.compareBytes
    split
    · simp
    · split
      · simp
      · exact cb_range x y
theorem u8_eq {a b : UInt8} (h1 : ¬ a < b) (h2 : ¬ b < a) : a = b := UInt8.le_antisymm (UInt8.not_lt.1 h2) (UInt8.not_lt.1 h1)
theorem cb_zero : ∀ (a b : List UInt8), Lib.compareBytes a b = 0 ↔ a = b
  | [], [] => by simp [Lib.compareBytes]
  | [], _ :: _ => by simp [Lib.compareBytes]
  | _ :: _, [] => by simp [Lib.compareBytes]
  | a :: x, b :: y => by
    unfold Lib.compareBytes
    by_cases h : a < b
    · rw [if_pos h]
      constructor
      · intro e; cases e
      · intro e; injection e with e1 _; subst e1; exact absurd h (UInt8.lt_irrefl a)
    · rw [if_neg h]
      by_cases h2 : b < a
      · rw [if_pos h2]
        constructor
        · intro e; cases e
        · intro e; injection e with e1 _; subst e1; exact absurd h2 (UInt8.lt_irrefl a)
      · rw [if_neg h2, cb_zero x y, u8_eq h h2]
        simp
theorem cb_swap : ∀ (a b : List UInt8), Lib.compareBytes b a = -Lib.compareBytes a b
  | [], [] => by simp [Lib.compareBytes]
  | [], _ :: _ => by simp [Lib.compareBytes]
  | _ :: _, [] => by simp [Lib.compareBytes]
  | a :: x, b :: y => by
    unfold Lib.compareBytes
    by_cases h : a < b
    · have h2 : ¬ b < a := fun h3 => UInt8.lt_irrefl a (UInt8.lt_trans h h3)
      rw [if_pos h, if_neg h2, if_pos h]; rfl
    · by_cases h2 : b < a
      · rw [if_pos h2, if_neg h, if_pos h2]
      · rw [if_neg h, if_neg h2, if_neg h2, if_neg h]; exact cb_swap x y
theorem cb_less : ∀ (a b : List UInt8), Op.bytesLess a b = decide (Lib.compareBytes a b < 0)
  | [], [] => by simp [Lib.compareBytes, Op.bytesLess]
  | [], _ :: _ => by simp [Lib.compareBytes, Op.bytesLess]
  | _ :: _, [] => by simp [Lib.compareBytes, Op.bytesLess]
  | a :: x, b :: y => by
    unfold Lib.compareBytes Op.bytesLess
    by_cases h : a < b
    · rw [if_pos h]; simp [h]
    · rw [if_neg h]
      by_cases h2 : b < a
      · rw [if_pos h2]
        have : (a == b) = false := by
          cases e : (a == b)
          · rfl
          · have := eq_of_beq e; subst this; exact absurd h2 (UInt8.lt_irrefl a)
        simp [h, this]
      · rw [if_neg h2, u8_eq h h2, cb_less x y]
        simp [UInt8.lt_irrefl]
theorem cb_more (a b : List UInt8) : (!(Op.bytesLess a b || a == b)) = decide (0 < Lib.compareBytes a b) := by
  rw [cb_less]
  have e : (a == b) = decide (Lib.compareBytes a b = 0) := by
    rw [Bool.eq_iff_iff]; simp [cb_zero]
  rw [e]
  rcases cb_range a b with h | h | h <;> rw [h] <;> rfl

theorem ci_range (x y : Int) : Lib.compareInt x y = -1 ∨ Lib.compareInt x y = 0 ∨ Lib.compareInt x y = 1 := by
  unfold Lib.compareInt; split
  · simp
  · split <;> simp
theorem ci_zero (x y : Int) : Lib.compareInt x y = 0 ↔ x = y := by
  unfold Lib.compareInt; split
  · constructor <;> intro h <;> omega
  · split
    · constructor <;> intro h <;> omega
    · constructor <;> intro h <;> omega
theorem ci_swap (x y : Int) : Lib.compareInt y x = -Lib.compareInt x y := by
  unfold Lib.compareInt
  by_cases h : x < y
  · rw [if_pos h, if_neg (by omega), if_pos h]; rfl
  · by_cases h2 : y < x
    · rw [if_pos h2, if_neg h, if_pos h2]
    · rw [if_neg h2, if_neg h, if_neg h, if_neg h2]; rfl
theorem ci_lt {x y : Int} (h : x < y) : Lib.compareInt x y = -1 := by unfold Lib.compareInt; rw [if_pos h]
theorem ci_gt {x y : Int} (h : y < x) : Lib.compareInt x y = 1 := by unfold Lib.compareInt; rw [if_neg (by omega), if_pos h]
theorem ci_self (x : Int) : Lib.compareInt x x = 0 := (ci_zero x x).2 rfl

/-- The first that is not nought. -/
def fst (a b : Int) : Int := if a = 0 then b else a
theorem fst0 (b : Int) : fst 0 b = b := rfl
theorem fst_ne {a : Int} (b : Int) (h : a ≠ 0) : fst a b = a := by unfold fst; rw [if_neg h]
theorem fst_range {a b : Int} (ha : a = -1 ∨ a = 0 ∨ a = 1) (hb : b = -1 ∨ b = 0 ∨ b = 1) : fst a b = -1 ∨ fst a b = 0 ∨ fst a b = 1 := by
  unfold fst; split <;> assumption
theorem fst_swap {a b a' b' : Int} (ha : a' = -a) (hb : b' = -b) : fst a' b' = -fst a b := by
  subst ha; subst hb
  unfold fst
  by_cases h : a = 0
  · rw [if_pos h, if_pos (by omega)]
  · rw [if_neg h, if_neg (by omega)]
theorem fst_zero {a b : Int} : fst a b = 0 ↔ a = 0 ∧ b = 0 := by
  unfold fst
  by_cases h : a = 0
  · rw [if_pos h]; simp [h]
  · rw [if_neg h]; simp [h]

/-- Two parts: digits by how many, then by bytes; digits ahead of all else; else by bytes. -/
def ordPart (a b : List UInt8) : Int :=
  if digs a then (if digs b then fst (Lib.compareInt a.length b.length) (Lib.compareBytes a b) else -1) else if digs b then 1 else Lib.compareBytes a b
/-- Part by part. -/
def ordPs : List (List UInt8) → List (List UInt8) → Int
  | [], [] => 0
  | [], _ :: _ => -1
  | _ :: _, [] => 1
  | x :: xs, y :: ys => fst (ordPart x y) (ordPs xs ys)
/-- Two pres: none at all is the greatest. -/
def ordPre (a b : List (List UInt8)) : Int := if a = [] ∨ b = [] then Lib.compareInt b.length a.length else ordPs a b
/-- Two versions. -/
def ordN (x y z : Int) (p : List (List UInt8)) (x' y' z' : Int) (q : List (List UInt8)) : Int :=
  fst (Lib.compareInt x x') (fst (Lib.compareInt y y') (fst (Lib.compareInt z z') (ordPre p q)))
def ordV (s t : List UInt8) : Int := ordN (nAt s 0) (nAt s 1) (nAt s 2) (preOf s) (nAt t 0) (nAt t 1) (nAt t 2) (preOf t)

theorem ordPart_range (a b : List UInt8) : ordPart a b = -1 ∨ ordPart a b = 0 ∨ ordPart a b = 1 := by
  unfold ordPart
  split
  · split
    · exact fst_range (ci_range _ _) (cb_range _ _)
    · simp
  · split
    · simp
    · exact cb_range _ _
theorem ordPs_range : ∀ (a b : List (List UInt8)), ordPs a b = -1 ∨ ordPs a b = 0 ∨ ordPs a b = 1
  | [], [] => by simp [ordPs]
  | [], _ :: _ => by simp [ordPs]
  | _ :: _, [] => by simp [ordPs]
  | a :: x, b :: y => fst_range (ordPart_range a b) (ordPs_range x y)
theorem ordPre_range (a b : List (List UInt8)) : ordPre a b = -1 ∨ ordPre a b = 0 ∨ ordPre a b = 1 := by
  unfold ordPre; split
  · exact ci_range _ _
  · exact ordPs_range _ _
theorem ordN_range (x y z : Int) (p : List (List UInt8)) (x' y' z' : Int) (q : List (List UInt8)) : ordN x y z p x' y' z' q = -1 ∨ ordN x y z p x' y' z' q = 0 ∨ ordN x y z p x' y' z' q = 1 :=
  fst_range (ci_range _ _) (fst_range (ci_range _ _) (fst_range (ci_range _ _) (ordPre_range _ _)))

/-- Texts of digits of one length, as numbers. -/
theorem valTo_cmp : ∀ (p q : List UInt8) (n m : Int), p.length = q.length → p.all dig = true → q.all dig = true →
    (n < m → valTo n p < valTo m q) ∧ (m < n → valTo m q < valTo n p) ∧ (n = m → Lib.compareInt (valTo n p) (valTo m q) = Lib.compareBytes p q)
  | [], [], n, m, _, _, _ => ⟨fun h => h, fun h => h, fun h => by subst h; exact ci_self _⟩
  | [], _ :: _, _, _, h, _, _ => by simp at h
  | _ :: _, [], _, _, h, _, _ => by simp at h
  | c :: p, d :: q, n, m, h, hp, hq => by
    simp only [List.all_cons, Bool.and_eq_true] at hp hq
    have hc := dig_bd hp.1
    have hd := dig_bd hq.1
    obtain ⟨i1, i2, i3⟩ := valTo_cmp p q (10 * n + ((c.toNat : Int) - 48)) (10 * m + ((d.toNat : Int) - 48)) (by simpa using h) hp.2 hq.2
    have e1 : valTo n (c :: p) = valTo (10 * n + ((c.toNat : Int) - 48)) p := rfl
    have e2 : valTo m (d :: q) = valTo (10 * m + ((d.toNat : Int) - 48)) q := rfl
    rw [e1, e2]
    refine ⟨fun h => i1 (by omega), fun h => i2 (by omega), fun h => ?_⟩
    subst h
    unfold Lib.compareBytes
    by_cases h1 : c < d
    · rw [if_pos h1]
      have : c.toNat < d.toNat := UInt8.lt_iff_toNat_lt.1 h1
      exact ci_lt (i1 (by omega))
    · rw [if_neg h1]
      by_cases h2 : d < c
      · rw [if_pos h2]
        have : d.toNat < c.toNat := UInt8.lt_iff_toNat_lt.1 h2
        exact ci_gt (i2 (by omega))
      · rw [if_neg h2]
        have := u8_eq h1 h2
        subst this
        exact i3 rfl

theorem num0 {p : List UInt8} (h : (num p).2 = 0) : digs p = true ∧ zero p = false ∧ (num p).1 = valTo 0 p ∧ p.all dig = true := by
  have hd : digs p = true := by
    cases e : digs p
    · unfold num at h; rw [e] at h; simp at h
    · rfl
  have hz : zero p = false := by
    cases e : zero p
    · rfl
    · unfold num at h; rw [e] at h; simp at h
  have h6 := num_six p hd hz
  have : ¬ 6 < p.length := by
    intro hh; rw [if_pos hh] at h6; rw [h6] at h; cases h
  rw [if_neg this] at h6
  refine ⟨hd, hz, by rw [h6], ?_⟩
  unfold digs at hd
  simp only [Bool.and_eq_true] at hd
  exact hd.2

theorem val_len {p q : List UInt8} (hp : p.all dig = true) (hq : q.all dig = true) (hz : zero q = false) (h : p.length < q.length) (h0 : 0 < p.length) : valTo 0 p < valTo 0 q := by
  have b1 := (valTo_bd p 0 hp (by omega)).2
  cases q with
  | nil => simp at h
  | cons c r =>
    simp only [List.all_cons, Bool.and_eq_true] at hq
    have hc := dig_bd hq.1
    have hr : 1 < (c :: r).length := by simp at h ⊢; omega
    have hne : c ≠ 48 := by
      intro e
      unfold zero at hz
      rw [decide_eq_true hr, e] at hz
      simp at hz
    have hn : c.toNat ≠ 48 := fun e => hne (UInt8.toNat_inj.1 (by rw [e]; rfl))
    have b2 := (valTo_bd r (10 * 0 + ((c.toNat : Int) - 48)) hq.2 (by omega)).1
    have e : valTo 0 (c :: r) = valTo (10 * 0 + ((c.toNat : Int) - 48)) r := rfl
    rw [e]
    have h4 : (10 : Int) ^ p.length ≤ 10 ^ r.length := by
      have : (10 : Nat) ^ p.length ≤ 10 ^ r.length := Nat.pow_le_pow_right (by omega) (by simp at h; omega)
      exact_mod_cast this
    have h5 : (1 : Int) * 10 ^ r.length ≤ (10 * 0 + ((c.toNat : Int) - 48)) * 10 ^ r.length := Int.mul_le_mul_of_nonneg_right (by omega) (by
      have : (0 : Int) < 10 ^ r.length := Int.pow_pos (by omega)
      omega)
    omega

theorem num_cmp {p q : List UInt8} (hp : (num p).2 = 0) (hq : (num q).2 = 0) : Lib.compareInt (num p).1 (num q).1 = fst (Lib.compareInt p.length q.length) (Lib.compareBytes p q) := by
  obtain ⟨p1, p2, p3, p4⟩ := num0 hp
  obtain ⟨q1, q2, q3, q4⟩ := num0 hq
  have lp : 0 < p.length := by unfold digs at p1; simp at p1; exact p1.1
  have lq : 0 < q.length := by unfold digs at q1; simp at q1; exact q1.1
  rw [p3, q3]
  rcases Nat.lt_trichotomy p.length q.length with h | h | h
  · rw [ci_lt (val_len p4 q4 q2 h lp), ci_lt (by omega)]; rfl
  · rw [h, ci_self, fst0]
    exact (valTo_cmp p q 0 0 h p4 q4).2.2 rfl
  · rw [ci_gt (val_len q4 p4 p2 h lq), ci_gt (by omega)]; rfl

theorem part_num {p : List UInt8} (h : part p = 0) (hd : digs p = true) : (num p).2 = 0 := by
  unfold part at h
  split at h
  · cases h
  · rw [if_neg (by rw [hd]; simp)] at h; exact h

/-- The order on parts as the document has it: digits as numbers. -/
def ordPartN (a b : List UInt8) : Int :=
  if digs a then (if digs b then Lib.compareInt (num a).1 (num b).1 else -1) else if digs b then 1 else Lib.compareBytes a b
theorem ordPart_num {a b : List UInt8} (ha : part a = 0) (hb : part b = 0) : ordPartN a b = ordPart a b := by
  unfold ordPartN ordPart
  by_cases h1 : digs a = true
  · rw [if_pos h1, if_pos h1]
    by_cases h2 : digs b = true
    · rw [if_pos h2, if_pos h2, num_cmp (part_num ha h1) (part_num hb h2)]
    · rw [if_neg h2, if_neg h2]
  · rw [if_neg h1, if_neg h1]

end Ve
end Go.Proofs.YtmgpbejekglipabGreatDoor

/-
  What comparePart of package ver answers: the order on parts; nothing old in memory turns.
-/
namespace Go.Proofs.YtmgpbejekglipabGreatDoor
open Go.RowKit
namespace Ve

theorem below_drew {w w' : World} (h : Below w.heap.size w w') (n : Nat) : Below w.heap.size w (w'.drewN n) := h.trans ((below_drawn w' n).mono h.size)
/-- Nothing below B turns, and what was drawn stays drawn. -/
structure Bw (B : Nat) (w w' : World) : Prop where
  be : Below B w w'
  dr : w.drawn ≤ w'.drawn
theorem Bw.refl (B : Nat) (w : World) : Bw B w w := ⟨Below.refl _ _, Nat.le_refl _⟩
theorem Bw.trans {B : Nat} {a b c : World} (h : Bw B a b) (k : Bw B b c) : Bw B a c := ⟨h.be.trans k.be, Nat.le_trans h.dr k.dr⟩
theorem Bw.mono {B B' : Nat} {w w' : World} (h : Bw B w w') (hB : B' ≤ B) : Bw B' w w' := ⟨h.be.mono hB, h.dr⟩
theorem Bw.size {B : Nat} {w w' : World} (h : Bw B w w') : w.heap.size ≤ w'.heap.size := h.be.size
theorem Bw.alloc {B : Nat} {w w' : World} (h : Bw B w w') (hB : B ≤ w'.heap.size) (o : Obj) : Bw B w (w'.alloc o) := ⟨h.be.alloc hB o, h.dr⟩
theorem bw_drew {w w' : World} (h : Bw w.heap.size w w') (n : Nat) : Bw w.heap.size w (w'.drewN n) := ⟨below_drew h.be n, Nat.le_trans h.dr (Nat.le_add_right _ _)⟩

theorem p1_any (s t : ByteArray) (A B : Nat) (w : World) (a0 : w.cell? ⟨A, 0, none⟩ = some (.string s)) (b0 : w.cell? ⟨B, 0, none⟩ = some (.string t)) :
    Calls Tryz.prog 207 #[.pointer (some ⟨A, 0, none⟩), .pointer (some ⟨B, 0, none⟩)] w fun e w' => e = .returned (.int .i64 (Lib.compareInt (s.size : Int) (t.size : Int))) ∧ w' = w := by
  have HC := hid (Tryz.cmp_Compare_int (s.size : Int) (t.size : Int) w)
  go_enter Tryz.func207, Tryz.ntmps207
  go_wp2_with fail
  refine HC.out.mono ?_
  rintro e w' ⟨rfl, rfl⟩
  go_wp2_with fail
  go_ret
  exact ⟨rfl, rfl⟩
theorem p2_any (s t : ByteArray) (A B : Nat) (w : World) (a0 : w.cell? ⟨A, 0, none⟩ = some (.string s)) (b0 : w.cell? ⟨B, 0, none⟩ = some (.string t)) :
    Calls Tryz.prog 208 #[.pointer (some ⟨A, 0, none⟩), .pointer (some ⟨B, 0, none⟩)] w fun e w' => e = .returned (.int .i64 (Lib.compareBytes s.data.toList t.data.toList)) ∧ w' = w := by
  have HC := hid (Tryz.strings_Compare s t w)
  go_enter Tryz.func208, Tryz.ntmps208
  go_wp2_with fail
  refine HC.out.mono ?_
  rintro e w' ⟨rfl, rfl⟩
  go_wp2_with fail
  go_ret
  exact ⟨rfl, rfl⟩

set_option maxHeartbeats 2000000 in
theorem first_two (k1 k2 : Int) (A B F : Nat) (w : World)
    (h1 : Calls Tryz.prog 207 #[.pointer (some ⟨A, 0, none⟩), .pointer (some ⟨B, 0, none⟩)] w fun e w' => e = .returned (.int .i64 k1) ∧ w' = w)
    (h2 : Calls Tryz.prog 208 #[.pointer (some ⟨A, 0, none⟩), .pointer (some ⟨B, 0, none⟩)] w fun e w' => e = .returned (.int .i64 k2) ∧ w' = w)
    (f0 : w.cell? ⟨F, 0, none⟩ = some (.func (.func 207) #[] #[.pointer (some ⟨A, 0, none⟩), .pointer (some ⟨B, 0, none⟩)])) (f1 : w.cell? ⟨F, 1, none⟩ = some (.func (.func 208) #[] #[.pointer (some ⟨A, 0, none⟩), .pointer (some ⟨B, 0, none⟩)])) :
    Calls Tryz.prog 128 #[.slice (some ⟨F, 0, none⟩) 2 2] w fun e w' => e = .returned (.int .i64 (fst k1 k2)) ∧ w' = w := by
  have HX := hid h1
  have HY := hid h2
  clear h1 h2
  by_cases z1 : k1 = 0
  · subst z1
    by_cases z2 : k2 = 0
    · subst z2
      go_enter Tryz.func128, Tryz.ntmps128
      go_wp2_with fail
      refine wp_loop_rounds 3 ?_
      rw [rounds_succ]
      go_wp2_with fail
      refine HX.out.mono ?_
      rintro e w' ⟨rfl, rfl⟩
      go_wp2_with fail
      rw [rounds_succ]
      go_wp2_with fail
      refine HY.out.mono ?_
      rintro e w' ⟨rfl, rfl⟩
      go_wp2_with fail
      rw [rounds_succ]
      go_wp2_with fail
      go_ret
      exact ⟨rfl, rfl⟩
    · have b2 : (k2 == 0) = false := beq_eq_false_iff_ne.2 z2
      have HF := hid (fst0 k2)
      clear z2
      go_enter Tryz.func128, Tryz.ntmps128
      go_wp2_with fail
      refine wp_loop_rounds 2 ?_
      rw [rounds_succ]
      go_wp2_with fail
      refine HX.out.mono ?_
      rintro e w' ⟨rfl, rfl⟩
      go_wp2_with fail
      rw [rounds_succ]
      go_wp2_with fail
      refine HY.out.mono ?_
      rintro e w' ⟨rfl, rfl⟩
      go_wp2_with fail
      go_ret
      exact ⟨ret_int HF.out.symm, rfl⟩
  · have b1 : (k1 == 0) = false := beq_eq_false_iff_ne.2 z1
    have HF := hid (fst_ne k2 z1)
    clear z1
    go_enter Tryz.func128, Tryz.ntmps128
    go_wp2_with fail
    refine wp_loop_rounds 1 ?_
    rw [rounds_succ]
    go_wp2_with fail
    refine HX.out.mono ?_
    rintro e w' ⟨rfl, rfl⟩
    go_wp2_with fail
    go_ret
    exact ⟨ret_int HF.out.symm, rfl⟩

theorem three' (w : World) (A B C : Array Value) (T U : TypeId) (j : Nat) :
    (((w.alloc (.cells A T)).alloc (.cells B T)).alloc (.cells C U)).cell? ⟨w.heap.size, j, none⟩ = A[j]? ∧ (((w.alloc (.cells A T)).alloc (.cells B T)).alloc (.cells C U)).cell? ⟨w.heap.size + 1, j, none⟩ = B[j]? ∧
    (((w.alloc (.cells A T)).alloc (.cells B T)).alloc (.cells C U)).cell? ⟨w.heap.size + 1 + 1, j, none⟩ = C[j]? := three w A B C T U j

set_option maxHeartbeats 2000000 in
theorem cpart_bw (s t : ByteArray) (w : World) (hs : s.size ≤ maxLen) (ht : t.size ≤ maxLen) :
    Calls Tryz.prog 178 #[.string s, .string t] w fun e w' => e = .returned (.int .i64 (ordPart s.data.toList t.data.toList)) ∧ Bw w.heap.size w w' := by
  have hmf : ∀ (fn : Fn) (first cap : Array Value) (w : World), (Instr.makeFunc fn first cap).run Tryz.prog w = .ok (.func fn first cap) w := fun _ _ _ _ => rfl
  have HO := hid (show ordPart s.data.toList t.data.toList = if digs s.data.toList then (if digs t.data.toList then fst (Lib.compareInt (s.size : Int) (t.size : Int)) (Lib.compareBytes s.data.toList t.data.toList) else -1) else if digs t.data.toList then 1 else Lib.compareBytes s.data.toList t.data.toList by
    unfold ordPart; rw [len_eq, len_eq])
  have HS := hid (fun W => digits_any s W hs)
  have HT := hid (fun W => digits_any t W ht)
  have HC := hid (fun W => Tryz.strings_Compare s t W)
  have HB := hid (((Bw.refl w.heap.size w).alloc (Nat.le_refl _) (.cells #[.string s] 9)).alloc (by simp) (.cells #[.string t] 9))
  clear hs ht
  cases h1 : digs s.data.toList
  all_goals cases h2 : digs t.data.toList
  all_goals rw [h1] at HS HO
  all_goals rw [h2] at HT HO
  all_goals clear h1 h2
  · go_enter Tryz.func178, Tryz.ntmps178
    go_wp2_with fail
    go_quiet (first
      | (go_at_call_of 170 (Value.string s); refine Calls.quiet_of_same (HS.out _))
      | (go_at_call_of 170 (Value.string t); refine Calls.quiet_of_same (HT.out _)))
    go_wp2_with fail
    refine (HC.out _).mono ?_
    rintro e w' ⟨rfl, rfl⟩
    go_wp2_with fail
    go_ret
    exact ⟨ret_int (by rw [HO.out]; rfl), bw_drew HB.out _⟩
  · go_enter Tryz.func178, Tryz.ntmps178
    go_wp2_with fail
    go_quiet (first
      | (go_at_call_of 170 (Value.string s); refine Calls.quiet_of_same (HS.out _))
      | (go_at_call_of 170 (Value.string t); refine Calls.quiet_of_same (HT.out _)))
    go_wp2_with fail
    go_ret
    exact ⟨ret_int (by rw [HO.out]; rfl), bw_drew HB.out _⟩
  · go_enter Tryz.func178, Tryz.ntmps178
    go_wp2_with fail
    go_quiet (first
      | (go_at_call_of 170 (Value.string s); refine Calls.quiet_of_same (HS.out _))
      | (go_at_call_of 170 (Value.string t); refine Calls.quiet_of_same (HT.out _)))
    go_wp2_with fail
    go_ret
    exact ⟨ret_int (by rw [HO.out]; rfl), bw_drew HB.out _⟩
  · go_enter Tryz.func178, Tryz.ntmps178
    go_wp2_with fail
    go_quiet (first
      | (go_at_call_of 170 (Value.string s); refine Calls.quiet_of_same (HS.out _))
      | (go_at_call_of 170 (Value.string t); refine Calls.quiet_of_same (HT.out _)))
    go_wp2_with fail
    refine (first_two (Lib.compareInt (s.size : Int) (t.size : Int)) (Lib.compareBytes s.data.toList t.data.toList) w.heap.size (w.heap.size + 1) (w.heap.size + 1 + 1) _ (p1_any s t _ _ _ ?_ ?_) (p2_any s t _ _ _ ?_ ?_) ?_ ?_).mono ?_
    · exact (three' w _ _ _ _ _ 0).1.trans rfl
    · exact (three' w _ _ _ _ _ 0).2.1.trans rfl
    · exact (three' w _ _ _ _ _ 0).1.trans rfl
    · exact (three' w _ _ _ _ _ 0).2.1.trans rfl
    · exact (three' w _ _ _ _ _ 0).2.2.trans rfl
    · exact (three' w _ _ _ _ _ 1).2.2.trans rfl
    rintro e w' ⟨rfl, rfl⟩
    go_wp2_with fail
    go_ret
    exact ⟨ret_int (by rw [HO.out]; rfl), (bw_drew HB.out nq).alloc (by simp [World.drewN]; omega) _⟩
end Ve
end Go.Proofs.YtmgpbejekglipabGreatDoor
