/-
  What the document's answer says of a text with a pre that has not three numbers ahead of it (VerOf); where the first dash stands.
-/
import Derived.Test.YtpafkniapacfdaaGreatDoorSs11
import Derived.Test.YtpafkniapacfdaaGreatDoorSs9
import Derived.Laws.IdiomStrings
namespace Go.Proofs.YtpafkniapacfdaaGreatDoor
open Go.RowKit
namespace Ve

theorem one_yes {c : UInt8} {l : List UInt8} (h : l.contains c = true) : ∃ j, ∃ hj : j < l.length, l[j] = c ∧ (∀ k (hk : k < l.length), k < j → l[k] ≠ c) ∧ (one c l).1 = l.take j ∧ (one c l).2.1 = l.drop (j + 1) := by
  induction l with
  | nil => simp at h
  | cons a r ih =>
    by_cases e : a = c
    · subst e
      exact ⟨0, by simp, rfl, fun k hk h0 => absurd h0 (by omega), by simp [one], by simp [one]⟩
    · have hr : r.contains c = true := by
        simp at h ⊢
        rcases h with h | h
        · exact absurd h.symm e
        · exact h
      obtain ⟨j, hj, h1, h2, h3, h4⟩ := ih hr
      refine ⟨j + 1, by simp; omega, by simpa using h1, ?_, ?_, ?_⟩
      · intro k hk hkj
        cases k with
        | zero => simpa using e
        | succ k => simpa using h2 k (by simp at hk; omega) (by omega)
      · have : (a != c) = true := by simp [e]
        simp only [one, List.takeWhile_cons, this, if_true, List.take_succ_cons] at h3 ⊢
        rw [h3]
      · have : (a != c) = true := by simp [e]
        simp only [one, List.dropWhile_cons, this, if_true, List.drop_succ_cons] at h4 ⊢
        rw [h4]
theorem dash {s : ByteArray} (hm : marked s.data.toList = true) (h : hasPre s.data.toList = true) : ∃ dj : Nat, ∃ _ : 1 ≤ dj, ∃ hdl : dj < s.size, ((s[dj].toNat : Int) == 45) = true ∧ (∀ k, k < dj → ∀ hk : k < s.size, ((s[k].toNat : Int) == 45) = false) ∧
    (s.extract 1 dj).data.toList = (one 45 (s.data.toList.drop 1)).1 ∧ (s.extract (dj + 1) s.size).data.toList = (one 45 (s.data.toList.drop 1)).2.1 ∧ coreOf s.data.toList = cutAt 46 (s.extract 1 dj).data.toList := by
  have hr := rest_drop hm
  obtain ⟨hp, hv⟩ := marked_pos hm
  have hc : (s.data.toList.drop 1).contains 45 = true := by unfold hasPre one at h; rw [hr] at h; exact h
  obtain ⟨j, hj, h1, h2, h3, h4⟩ := one_yes hc
  have hl : (s.data.toList.drop 1).length = s.size - 1 := by simp
  have hjs : j + 1 < s.size := by omega
  have at_ : ∀ k (hk : k < (s.data.toList.drop 1).length), (s.data.toList.drop 1)[k] = s[k + 1]'(by omega) := by
    intro k hk
    rw [List.getElem_drop]
    simp only [Nat.add_comm 1 k]
    rfl
  have e2 : (s.extract 1 (j + 1)).data.toList = (one 45 (s.data.toList.drop 1)).1 := by rw [h3, extract_list]; rfl
  refine ⟨j + 1, by omega, hjs, ?_, ?_, e2, ?_, ?_⟩
  · rw [← at_ j hj, h1]; rfl
  · intro k hk hks
    rw [beq_eq_false_iff_ne]
    intro e
    have e3 : s[k] = 45 := by apply UInt8.toNat_inj.1; show s[k].toNat = 45; omega
    cases k with
    | zero => rw [e3] at hv; cases hv
    | succ k => exact h2 k (by omega) (by omega) (by rw [at_ k (by omega)]; exact e3)
  · rw [h4, ext_drop, List.drop_drop, Nat.add_comm 1 (j + 1)]
  · rw [e2]; unfold coreOf; rw [hr]

set_option maxRecDepth 100000 in
set_option maxHeartbeats 1000000 in
theorem verOf_B1 (s : ByteArray) (w : World) (hs : s.size < 4294967281) (hmk : marked s.data.toList = true) (hp : hasPre s.data.toList = true) (h3 : (coreOf s.data.toList).length ≠ 3) :
    Calls Tryz.prog 88 #[.string s] w fun e w' => e = .returned (.tuple #[.agg #[.int .i64 0, .int .i64 0, .int .i64 0, .slice none 0 0], .int .i64 1]) ∧ Below w.heap.size w w' := by
  have H3 := hid h3
  clear h3
  obtain ⟨dj, hd1, hdl, hdc, hdn, hd2, hd3, hcore⟩ := dash hmk hp
  obtain ⟨hpos, hv0⟩ := marked_pos hmk
  have HDN := hid hdn
  have HD2 := hid hd2
  have HD3 := hid hd3
  have HCO := hid hcore
  have h0b : ((s.size : Int) == 0) = false := beq_eq_false_iff_ne.2 (by omega)
  have HMK := hid hmk
  have HPP := hid hp
  clear hdn hd2 hd3 hcore hmk hp
  go_enter Tryz.func88, Tryz.ntmps88
  go_wp2_with fail
  go_loop [4, 5, 6, 7] (fun hd pr hs i => (∃ k : Nat, k ≤ dj ∧ i = .int .i64 k ∧ hd = .string (s.extract 1 s.size) ∧ pr = .string ⟨#[]⟩ ∧ hs = .bool false) ∨ (i = .int .i64 ((dj : Int) + 1) ∧ hd = .string (s.extract 1 dj) ∧ pr = .string (s.extract (dj + 1) s.size) ∧ hs = .bool true)) (fun _ _ _ i => s.size + 1 - (intOf i).toNat)
  case atStart => exact Or.inl ⟨0, Nat.zero_le _, rfl, rfl, rfl, rfl⟩
  case round =>
    rcases hrel with ⟨k, hk, rfl, rfl, rfl, rfl⟩ | ⟨rfl, rfl, rfl, rfl⟩
    · have hlt : k < s.size := by omega
      by_cases hkd : k = dj
      · subst hkd
        have h1k : (1 : Int) ≤ (k : Int) := by omega
        have h2k : (k : Int) ≤ (s.size : Int) := by omega
        go_wp2_with fail
        go_round
        case rel => exact Or.inr ⟨rfl, rfl, rfl, rfl⟩
        case measure => simp [intOf]; omega
      · have hn := HDN.out k (by omega) hlt
        go_wp2_with fail
        go_round
        case rel => exact Or.inl ⟨k + 1, by omega, by go_num, rfl, rfl, rfl⟩
        case measure => simp [intOf]; omega
    · have hes : (s.extract 1 dj).size < 4294967281 := by rw [ByteArray.size_extract]; omega
      have hps : (s.extract (dj + 1) s.size).size < 4294967281 := by rw [ByteArray.size_extract]; omega
      have HEX := HD2
      generalize s.extract 1 dj = C at *
      generalize s.extract (dj + 1) s.size = D at *
      have HZZ := hid hdl
      by_cases hx : (dj : Int) + 1 < (s.size : Int)
      all_goals
        have HB0 := hid ((Below.refl w.heap.size w).alloc (Nat.le_refl _) (.cells #[.int .i64 0, .int .i64 0, .int .i64 0, .slice none 0 0] 142))
        go_wp2_with fail
        refine (rcut46 C _ hes).mono ?_
        rintro e w2 ⟨v, X, rfl, hX, hown, hb⟩
        have hXc : bl X = coreOf s.data.toList := by rw [hX, HCO.out]
        have HXC := hid hXc
        have HB2 := hid (show Below (w.heap.size + 1) (w.alloc (.cells #[.int .i64 0, .int .i64 0, .int .i64 0, .slice none 0 0] 142)) w2 from hb.mono (by simp))
        have HXN := hid (show X ≠ [] from fun h => by subst h; exact cutAt_ne _ _ hX.symm)
        have hXl : X.length = (coreOf s.data.toList).length := by rw [← hXc, bl_len]
        have HXZ := hid (show ∀ x, x ∈ X → x.size ≤ maxLen from fun x hx => by have := piece_le hX hx; unfold maxLen; omega)
        obtain ⟨g, cap, rfl, hg, hgz, hcells⟩ := owned_cells hown HXN.out
        have HG := hid hg
        have HGZ := hid hgz
        have HCE := hid hcells
        have HXL := hid hXl
        have hXle := many_le hX
        clear hX hXc hown hb hXl hg hgz hcells
        have h3b : ((X.length : Int) == 3) = false := beq_eq_false_iff_ne.2 (by have := H3.out; have := HXL.out; omega)
        obtain ⟨⟨r0, r1, r2, r3⟩, rf, rz⟩ := res4 HB2.out
        have HBF := hid (HB0.out.trans (HB2.out.mono (by omega)))
        go_wp2_with fail
        refine bodyPost_ret (v := .tuple #[.agg #[.int .i64 0, .int .i64 0, .int .i64 0, .slice none 0 0], .int .i64 1]) (by simp [results, Tryz.results88, go_sem, r0, r1, r2, r3]) rfl ⟨rfl, ?_⟩
        exact (((HBF.out.setCell (Nat.le_refl _) _).setCell (Nat.le_refl _) _).setCell (Nat.le_refl _) _).setCell (Nat.le_refl _) _
end Ve
end Go.Proofs.YtpafkniapacfdaaGreatDoor

/-
  What Split of package ver answers, all its ways together.
-/
namespace Go.Proofs.YtpafkniapacfdaaGreatDoor
open Go.RowKit
namespace Ve

theorem errV_ne {c : Nat} (aT aB : Addr) (h : c ≠ 0) : ∃ a, errV aT aB c = .iface 291 (.pointer (some a)) := by
  unfold errV
  rw [if_neg h]
  split
  · exact ⟨aT, rfl⟩
  · exact ⟨aB, rfl⟩
theorem StrsAt.slice {w : World} {v : Value} {X : List ByteArray} (h : StrsAt w v X) : ∃ p n c, v = .slice p n c := by
  rcases h with ⟨_, rfl⟩ | ⟨_, b, rfl, _⟩ <;> exact ⟨_, _, _, rfl⟩

/-- Split, all its ways together. -/
def SplitP (aT aB : Addr) (s : ByteArray) (w w' : World) (e : Ending) : Prop :=
  (verErr s.data.toList ≠ 0 ∧ e = .returned (.tuple #[.agg #[.int .i64 0, .int .i64 0, .int .i64 0, .slice none 0 0], errV aT aB (verErr s.data.toList)]) ∨
    verErr s.data.toList = 0 ∧ ∃ v X, e = .returned (.tuple #[.agg #[.int .i64 (nAt s.data.toList 0), .int .i64 (nAt s.data.toList 1), .int .i64 (nAt s.data.toList 2), v], .nilIface]) ∧ bl X = preOf s.data.toList ∧ StrsAt w' v X) ∧ Below w.heap.size w w'
theorem vsplit_any (s : ByteArray) (aT aB : Addr) (m : Int) (w : World) (hs : s.size < 4294967281) (S : Vs w aT aB m) : Calls Tryz.prog 106 #[.string s] w fun e w' => SplitP aT aB s w w' e := by
  by_cases h : verErr s.data.toList = 0
  · exact (vsplit_good s aT aB m w hs S h).mono fun e w' ⟨v, X, h1, h2, h3, h4⟩ => ⟨Or.inr ⟨h, v, X, h1, h2, h3⟩, h4⟩
  · exact (vsplit_bad s aT aB m w hs S h).mono fun e w' ⟨h1, h2⟩ => ⟨Or.inl ⟨h, h1⟩, h2⟩

/-- What Split answers for a version. -/
def GoodP (w w' : World) (e : Ending) (x y z : Int) (X : List ByteArray) : Prop :=
  ∃ v, e = .returned (.tuple #[.agg #[.int .i64 x, .int .i64 y, .int .i64 z, v], .nilIface]) ∧ StrsAt w' v X ∧ Below w.heap.size w w'
theorem vsplit_is (s : ByteArray) (aT aB : Addr) (m : Int) (w : World) (hs : s.size < 4294967281) (S : Vs w aT aB m) (h : verErr s.data.toList = 0) (X : List ByteArray) (hX : bl X = preOf s.data.toList) :
    Calls Tryz.prog 106 #[.string s] w fun e w' => GoodP w w' e (nAt s.data.toList 0) (nAt s.data.toList 1) (nAt s.data.toList 2) X :=
  (vsplit_good s aT aB m w hs S h).mono fun e w' ⟨v, X2, h1, h2, h3, h4⟩ => by
    obtain rfl : X2 = X := bl_inj (h2.trans hX.symm)
    exact ⟨v, h1, h3, h4⟩
/-- What Split answers for what is none. -/
def BadP (w w' : World) (e : Ending) : Prop :=
  ∃ a, e = .returned (.tuple #[.agg #[.int .i64 0, .int .i64 0, .int .i64 0, .slice none 0 0], .iface 291 (.pointer (some a))]) ∧ Below w.heap.size w w'
theorem vsplit_not (s : ByteArray) (aT aB : Addr) (m : Int) (w : World) (hs : s.size < 4294967281) (S : Vs w aT aB m) (h : verErr s.data.toList ≠ 0) :
    Calls Tryz.prog 106 #[.string s] w fun e w' => BadP w w' e :=
  (vsplit_bad s aT aB m w hs S h).mono fun e w' ⟨h1, h2⟩ => by
    obtain ⟨a, ha⟩ := errV_ne aT aB h
    exact ⟨a, by rw [h1, ha], h2⟩

/-- The texts of bytes. -/
def strs (ps : List (List UInt8)) : List ByteArray := ps.map fun p => ⟨p.toArray⟩
theorem bl_strs (ps : List (List UInt8)) : bl (strs ps) = ps := by
  unfold bl strs
  rw [List.map_map]
  conv => rhs; rw [← List.map_id ps]
  apply List.map_congr_left
  intro p _
  rfl
theorem pre_len {l : List UInt8} : (preOf l).length ≤ l.length + 1 := by
  unfold preOf
  split
  · have := cutAt_many 46 (one 45 (restOf l)).2.1
    have h2 := (one_le 45 (restOf l)).2
    have h3 := restOf_le l
    omega
  · simp
theorem pre_size {l p : List UInt8} (h : p ∈ preOf l) : p.length ≤ l.length := by
  unfold preOf at h
  split at h
  · have := cutAt_le 46 _ p h
    have h2 := (one_le 45 (restOf l)).2
    have h3 := restOf_le l
    omega
  · simp at h

end Ve
end Go.Proofs.YtpafkniapacfdaaGreatDoor

/-
  The order on parts, pres and versions, as plain functions: what compare of package ver and the document's order compute. No Go here.
-/
namespace Go.Proofs.YtpafkniapacfdaaGreatDoor
namespace Ve

theorem cb_range : ∀ (a b : List UInt8), Lib.compareBytes a b = -1 ∨ Lib.compareBytes a b = 0 ∨ Lib.compareBytes a b = 1
  | [], [] => by simp [Lib.compareBytes]
  | [], _ :: _ => by simp [Lib.compareBytes]
  | _ :: _, [] => by simp [Lib.compareBytes]
  | a :: x, b :: y => by
    unfold Lib.compareBytes
    split
    · simp
    · split
      · simp
      · exact cb_range x y
theorem u8_eq {a b : UInt8} (h1 : ¬ a < b) (h2 : ¬ b < a) : a = b := UInt8.le_antisymm (UInt8.not_lt.1 h2) (UInt8.not_lt.1 h1)
theorem cb_zero : ∀ (a b : List UInt8), Lib.compareBytes a b = 0 ↔ a = b
  | [], [] => by simp [Lib.compareBytes]
  | [], _ :: _ => by simp [Lib.compareBytes]
  | _ :: _, [] => by simp [Lib.compareBytes]
  | a :: x, b :: y => by
    unfold Lib.compareBytes
    by_cases h : a < b
    · rw [if_pos h]
      constructor
      · intro e; cases e
      · intro e; injection e with e1 _; subst e1; exact absurd h (UInt8.lt_irrefl a)
    · rw [if_neg h]
      by_cases h2 : b < a
      · rw [if_pos h2]
        constructor
        · intro e; cases e
        · intro e; injection e with e1 _; subst e1; exact absurd h2 (UInt8.lt_irrefl a)
      · rw [if_neg h2, cb_zero x y, u8_eq h h2]
        simp
theorem cb_swap : ∀ (a b : List UInt8), Lib.compareBytes b a = -Lib.compareBytes a b
  | [], [] => by simp [Lib.compareBytes]
  | [], _ :: _ => by simp [Lib.compareBytes]
  | _ :: _, [] => by simp [Lib.compareBytes]
  | a :: x, b :: y => by
    unfold Lib.compareBytes
    by_cases h : a < b
    · have h2 : ¬ b < a := fun h3 => UInt8.lt_irrefl a (UInt8.lt_trans h h3)
      rw [if_pos h, if_neg h2, if_pos h]; rfl
    · by_cases h2 : b < a
      · rw [if_pos h2, if_neg h, if_pos h2]
      · rw [if_neg h, if_neg h2, if_neg h2, if_neg h]; exact cb_swap x y
theorem cb_less : ∀ (a b : List UInt8), Op.bytesLess a b = decide (Lib.compareBytes a b < 0)
  | [], [] => by simp [Lib.compareBytes, Op.bytesLess]
  | [], _ :: _ => by simp [Lib.compareBytes, Op.bytesLess]
  | _ :: _, [] => by simp [Lib.compareBytes, Op.bytesLess]
  | a :: x, b :: y => by
    unfold Lib.compareBytes Op.bytesLess
    by_cases h : a < b
    · rw [if_pos h]; simp [h]
    · rw [if_neg h]
      by_cases h2 : b < a
      · rw [if_pos h2]
        have : (a == b) = false := by
          cases e : (a == b)
          · rfl
          · have := eq_of_beq e; subst this; exact absurd h2 (UInt8.lt_irrefl a)
        simp [h, this]
      · rw [if_neg h2, u8_eq h h2, cb_less x y]
        simp [UInt8.lt_irrefl]
theorem cb_more (a b : List UInt8) : (!(Op.bytesLess a b || a == b)) = decide (0 < Lib.compareBytes a b) := by
  rw [cb_less]
  have e : (a == b) = decide (Lib.compareBytes a b = 0) := by
    rw [Bool.eq_iff_iff]; simp [cb_zero]
  rw [e]
  rcases cb_range a b with h | h | h <;> rw [h] <;> rfl

theorem ci_range (x y : Int) : Lib.compareInt x y = -1 ∨ Lib.compareInt x y = 0 ∨ Lib.compareInt x y = 1 := by
  unfold Lib.compareInt; split
  · simp
  · split <;> simp
theorem ci_zero (x y : Int) : Lib.compareInt x y = 0 ↔ x = y := by
  unfold Lib.compareInt; split
  · constructor <;> intro h <;> omega
  · split
    · constructor <;> intro h <;> omega
    · constructor <;> intro h <;> omega
theorem ci_swap (x y : Int) : Lib.compareInt y x = -Lib.compareInt x y := by
  unfold Lib.compareInt
  by_cases h : x < y
  · rw [if_pos h, if_neg (by omega), if_pos h]; rfl
  · by_cases h2 : y < x
    · rw [if_pos h2, if_neg h, if_pos h2]
    · rw [if_neg h2, if_neg h, if_neg h, if_neg h2]; rfl
theorem ci_lt {x y : Int} (h : x < y) : Lib.compareInt x y = -1 := by unfold Lib.compareInt; rw [if_pos h]
theorem ci_gt {x y : Int} (h : y < x) : Lib.compareInt x y = 1 := by unfold Lib.compareInt; rw [if_neg (by omega), if_pos h]
theorem ci_self (x : Int) : Lib.compareInt x x = 0 := (ci_zero x x).2 rfl

/-- The first that is not nought. -/
def fst (a b : Int) : Int := if a = 0 then b else a
theorem fst0 (b : Int) : fst 0 b = b := rfl
theorem fst_ne {a : Int} (b : Int) (h : a ≠ 0) : fst a b = a := by unfold fst; rw [if_neg h]
theorem fst_range {a b : Int} (ha : a = -1 ∨ a = 0 ∨ a = 1) (hb : b = -1 ∨ b = 0 ∨ b = 1) : fst a b = -1 ∨ fst a b = 0 ∨ fst a b = 1 := by
  unfold fst; split <;> assumption
theorem fst_swap {a b a' b' : Int} (ha : a' = -a) (hb : b' = -b) : fst a' b' = -fst a b := by
  subst ha; subst hb
  unfold fst
  by_cases h : a = 0
  · rw [if_pos h, if_pos (by omega)]
  · rw [if_neg h, if_neg (by omega)]
theorem fst_zero {a b : Int} : fst a b = 0 ↔ a = 0 ∧ b = 0 := by
  unfold fst
  by_cases h : a = 0
  · rw [if_pos h]; simp [h]
  · rw [if_neg h]; simp [h]

/-- Two parts: digits by how many, then by bytes; digits ahead of all else; else by bytes. -/
def ordPart (a b : List UInt8) : Int :=
  if digs a then (if digs b then fst (Lib.compareInt a.length b.length) (Lib.compareBytes a b) else -1) else if digs b then 1 else Lib.compareBytes a b
/-- Part by part. -/
def ordPs : List (List UInt8) → List (List UInt8) → Int
  | [], [] => 0
  | [], _ :: _ => -1
  | _ :: _, [] => 1
  | x :: xs, y :: ys => fst (ordPart x y) (ordPs xs ys)
/-- Two pres: none at all is the greatest. -/
def ordPre (a b : List (List UInt8)) : Int := if a = [] ∨ b = [] then Lib.compareInt b.length a.length else ordPs a b
/-- Two versions. -/
def ordN (x y z : Int) (p : List (List UInt8)) (x' y' z' : Int) (q : List (List UInt8)) : Int :=
  fst (Lib.compareInt x x') (fst (Lib.compareInt y y') (fst (Lib.compareInt z z') (ordPre p q)))
def ordV (s t : List UInt8) : Int := ordN (nAt s 0) (nAt s 1) (nAt s 2) (preOf s) (nAt t 0) (nAt t 1) (nAt t 2) (preOf t)

theorem ordPart_range (a b : List UInt8) : ordPart a b = -1 ∨ ordPart a b = 0 ∨ ordPart a b = 1 := by
  unfold ordPart
  split
  · split
    · exact fst_range (ci_range _ _) (cb_range _ _)
    · simp
  · split
    · simp
    · exact cb_range _ _
theorem ordPs_range : ∀ (a b : List (List UInt8)), ordPs a b = -1 ∨ ordPs a b = 0 ∨ ordPs a b = 1
  | [], [] => by simp [ordPs]
  | [], _ :: _ => by simp [ordPs]
  | _ :: _, [] => by simp [ordPs]
  | a :: x, b :: y => fst_range (ordPart_range a b) (ordPs_range x y)
theorem ordPre_range (a b : List (List UInt8)) : ordPre a b = -1 ∨ ordPre a b = 0 ∨ ordPre a b = 1 := by
  unfold ordPre; split
  · exact ci_range _ _
  · exact ordPs_range _ _
theorem ordN_range (x y z : Int) (p : List (List UInt8)) (x' y' z' : Int) (q : List (List UInt8)) : ordN x y z p x' y' z' q = -1 ∨ ordN x y z p x' y' z' q = 0 ∨ ordN x y z p x' y' z' q = 1 :=
  fst_range (ci_range _ _) (fst_range (ci_range _ _) (fst_range (ci_range _ _) (ordPre_range _ _)))

/-- Texts of digits of one length, as numbers. -/
theorem valTo_cmp : ∀ (p q : List UInt8) (n m : Int), p.length = q.length → p.all dig = true → q.all dig = true →
    (n < m → valTo n p < valTo m q) ∧ (m < n → valTo m q < valTo n p) ∧ (n = m → Lib.compareInt (valTo n p) (valTo m q) = Lib.compareBytes p q)
  | [], [], n, m, _, _, _ => ⟨fun h => h, fun h => h, fun h => by subst h; exact ci_self _⟩
  | [], _ :: _, _, _, h, _, _ => by simp at h
  | _ :: _, [], _, _, h, _, _ => by simp at h
  | c :: p, d :: q, n, m, h, hp, hq => by
    simp only [List.all_cons, Bool.and_eq_true] at hp hq
    have hc := dig_bd hp.1
    have hd := dig_bd hq.1
    obtain ⟨i1, i2, i3⟩ := valTo_cmp p q (10 * n + ((c.toNat : Int) - 48)) (10 * m + ((d.toNat : Int) - 48)) (by simpa using h) hp.2 hq.2
    have e1 : valTo n (c :: p) = valTo (10 * n + ((c.toNat : Int) - 48)) p := rfl
    have e2 : valTo m (d :: q) = valTo (10 * m + ((d.toNat : Int) - 48)) q := rfl
    rw [e1, e2]
    refine ⟨fun h => i1 (by omega), fun h => i2 (by omega), fun h => ?_⟩
    subst h
    unfold Lib.compareBytes
    by_cases h1 : c < d
    · rw [if_pos h1]
      have : c.toNat < d.toNat := UInt8.lt_iff_toNat_lt.1 h1
      exact ci_lt (i1 (by omega))
    · rw [if_neg h1]
      by_cases h2 : d < c
      · rw [if_pos h2]
        have : d.toNat < c.toNat := UInt8.lt_iff_toNat_lt.1 h2
        exact ci_gt (i2 (by omega))
      · rw [if_neg h2]
        have := u8_eq h1 h2
        subst this
        exact i3 rfl

theorem num0 {p : List UInt8} (h : (num p).2 = 0) : digs p = true ∧ zero p = false ∧ (num p).1 = valTo 0 p ∧ p.all dig = true := by
  have hd : digs p = true := by
    cases e : digs p
    · unfold num at h; rw [e] at h; simp at h
    · rfl
  have hz : zero p = false := by
    cases e : zero p
    · rfl
    · unfold num at h; rw [e] at h; simp at h
  have h6 := num_six p hd hz
  have : ¬ 6 < p.length := by
    intro hh; rw [if_pos hh] at h6; rw [h6] at h; cases h
  rw [if_neg this] at h6
  refine ⟨hd, hz, by rw [h6], ?_⟩
  unfold digs at hd
  simp only [Bool.and_eq_true] at hd
  exact hd.2

theorem val_len {p q : List UInt8} (hp : p.all dig = true) (hq : q.all dig = true) (hz : zero q = false) (h : p.length < q.length) (h0 : 0 < p.length) : valTo 0 p < valTo 0 q := by
  have b1 := (valTo_bd p 0 hp (by omega)).2
  cases q with
  | nil => simp at h
  | cons c r =>
    simp only [List.all_cons, Bool.and_eq_true] at hq
    have hc := dig_bd hq.1
    have hr : 1 < (c :: r).length := by simp at h ⊢; omega
    have hne : c ≠ 48 := by
      intro e
      unfold zero at hz
      rw [decide_eq_true hr, e] at hz
      simp at hz
    have hn : c.toNat ≠ 48 := fun e => hne (UInt8.toNat_inj.1 (by rw [e]; rfl))
    have b2 := (valTo_bd r (10 * 0 + ((c.toNat : Int) - 48)) hq.2 (by omega)).1
    have e : valTo 0 (c :: r) = valTo (10 * 0 + ((c.toNat : Int) - 48)) r := rfl
    rw [e]
    have h4 : (10 : Int) ^ p.length ≤ 10 ^ r.length := by
      have : (10 : Nat) ^ p.length ≤ 10 ^ r.length := Nat.pow_le_pow_right (by omega) (by simp at h; omega)
      exact_mod_cast this
    have h5 : (1 : Int) * 10 ^ r.length ≤ (10 * 0 + ((c.toNat : Int) - 48)) * 10 ^ r.length := Int.mul_le_mul_of_nonneg_right (by omega) (by
      have : (0 : Int) < 10 ^ r.length := Int.pow_pos (by omega)
      omega)
    omega

theorem num_cmp {p q : List UInt8} (hp : (num p).2 = 0) (hq : (num q).2 = 0) : Lib.compareInt (num p).1 (num q).1 = fst (Lib.compareInt p.length q.length) (Lib.compareBytes p q) := by
  obtain ⟨p1, p2, p3, p4⟩ := num0 hp
  obtain ⟨q1, q2, q3, q4⟩ := num0 hq
  have lp : 0 < p.length := by unfold digs at p1; simp at p1; exact p1.1
  have lq : 0 < q.length := by unfold digs at q1; simp at q1; exact q1.1
  rw [p3, q3]
  rcases Nat.lt_trichotomy p.length q.length with h | h | h
  · rw [ci_lt (val_len p4 q4 q2 h lp), ci_lt (by omega)]; rfl
  · rw [h, ci_self, fst0]
    exact (valTo_cmp p q 0 0 h p4 q4).2.2 rfl
  · rw [ci_gt (val_len q4 p4 p2 h lq), ci_gt (by omega)]; rfl

theorem part_num {p : List UInt8} (h : part p = 0) (hd : digs p = true) : (num p).2 = 0 := by
  unfold part at h
  split at h
  · cases h
  · rw [if_neg (by rw [hd]; simp)] at h; exact h

/-- The order on parts as the document has it: digits as numbers. -/
def ordPartN (a b : List UInt8) : Int :=
  if digs a then (if digs b then Lib.compareInt (num a).1 (num b).1 else -1) else if digs b then 1 else Lib.compareBytes a b
theorem ordPart_num {a b : List UInt8} (ha : part a = 0) (hb : part b = 0) : ordPartN a b = ordPart a b := by
  unfold ordPartN ordPart
  by_cases h1 : digs a = true
  · rw [if_pos h1, if_pos h1]
    by_cases h2 : digs b = true
    · rw [if_pos h2, if_pos h2, num_cmp (part_num ha h1) (part_num hb h2)]
    · rw [if_neg h2, if_neg h2]
  · rw [if_neg h1, if_neg h1]

end Ve
end Go.Proofs.YtpafkniapacfdaaGreatDoor


namespace Go.Proofs.YtpafkniapacfdaaGreatDoor
open Go.RowKit
namespace Ve
set_option maxHeartbeats 400000 in
theorem byte_any (n : Int) (w : World) (h0 : 0 ≤ n) (h1 : n ≤ 255) :
    Calls Tryz.prog 127 #[.int .i64 n] w fun e w' => ∃ S : ByteArray, e = .returned (.string S) ∧ S.data.toList = [UInt8.ofNat n.toNat] ∧ S.size = 1 ∧ Below w.heap.size w w' := by
  have hcv : (convert 77 9 (.slice (some ⟨w.heap.size, 0, none⟩) 1 1)).run Tryz.prog (w.alloc (.cells #[.int .u8 n] 5)) = .ok (.string ⟨[UInt8.ofNat n.toNat].toArray⟩) (w.alloc (.cells #[.int .u8 n] 5)) :=
    run_convert_bytes_back (P := Tryz.prog) (w.alloc (.cells #[.int .u8 n] 5)) 77 9 5 ⟨w.heap.size, 0, none⟩ 1 [UInt8.ofNat n.toNat] Tryz.underlying77 Tryz.underlying5 Tryz.underlying9 (fun j hj => by
      match j, hj with
      | 0, _ =>
        simp [Addr.add]
        omega)
  generalize hS : (⟨[UInt8.ofNat n.toNat].toArray⟩ : ByteArray) = S at *
  have HS := hid hS
  clear hS
  go_enter Tryz.func127, Tryz.ntmps127
  go_wp2
  go_ret
  exact ⟨_, rfl, by rw [← HS.out], by rw [← HS.out]; rfl, (Below.refl _ _).alloc (Nat.le_refl _) _⟩
set_option maxHeartbeats 1000000 in
theorem below_small (u : Nat) (w : World) (hu : u < 10) :
    Calls Tryz.prog 91 #[.int .i64 (-(u : Int))] w fun e w' => ∃ S : ByteArray, e = .returned (.string S) ∧ S.data.toList = Lib.decDigits u ∧ Below w.heap.size w w' := by
  have HB := hid (fun W => byte_any (48 - -(u : Int)) W (by omega) (by omega))
  have HD := hid (Lib.decDigits_one hu)
  have hgt : decide (-10 < -(u : Int)) = true := by simp; omega
  generalize hn : -(u : Int) = n at *
  have HN := hid hn
  have hn0 : n ≤ 0 := by omega
  have hn1 : -10 < n := by omega
  clear hn hu
  go_enter Tryz.func91, Tryz.ntmps91
  go_wp2_with fail
  refine (HB.out _).mono ?_
  rintro e w1 ⟨S, rfl, hS, _, hb⟩
  have HS := hid hS
  have HBB := hid hb
  clear hS hb
  go_wp2_with fail
  go_ret
  refine ⟨S, rfl, ?_, HBB.out⟩
  rw [HS.out, HD.out]
  have := HN.out
  rw [show (48 - n).toNat = 48 + u by omega]
theorem neg_tdiv (u : Nat) : (-(u : Int)).tdiv 10 = -((u / 10 : Nat) : Int) := by
  rw [Int.neg_tdiv, Int.tdiv_eq_ediv_of_nonneg (by omega)]; omega
theorem neg_tmod (u : Nat) : (-(u : Int)).tmod 10 = -((u % 10 : Nat) : Int) := by
  rw [Int.neg_tmod, Int.tmod_eq_emod_of_nonneg (by omega)]; omega
end Ve
end Go.Proofs.YtpafkniapacfdaaGreatDoor
