/-
  PreT SplitAny VerR ModB
-/
import Derived.Test.YtiebgeamfblbdaaGreatDoorFb10
import Derived.Test.YtiebgeamfblbdaaGreatDoorFb4
import Derived.Test.YtiebgeamfblbdaaGreatDoorFb9
import Derived.Test.YtiebgeamfblbdaaGreatDoorFb8
import Derived.Test.YtiebgeamfblbdaaGreatDoorFb11
namespace Go.Proofs.YtiebgeamfblbdaaGreatDoor
open Go.RowKit
namespace Ve
theorem bl_inj {X Y : List ByteArray} (h : bl X = bl Y) : X = Y := by
  induction X generalizing Y with
  | nil => cases Y with
    | nil => rfl
    | cons y r => simp [bl] at h
  | cons x r ih => cases Y with
    | nil => simp [bl] at h
    | cons y s =>
      simp only [bl, List.map_cons, List.cons.injEq] at h
      rw [str_ext h.1, ih h.2]
end Ve
end Go.Proofs.YtiebgeamfblbdaaGreatDoor
namespace Go.Proofs.YtiebgeamfblbdaaGreatDoor
open Go.RowKit
namespace Ve
theorem errV_ne {c : Nat} (aT aB : Addr) (h : c ≠ 0) : ∃ a, errV aT aB c = .iface 169 (.pointer (some a)) := by
  unfold errV
  rw [if_neg h]
  split
  · exact ⟨aT, rfl⟩
  · exact ⟨aB, rfl⟩
theorem StrsAt.slice {w : World} {v : Value} {X : List ByteArray} (h : StrsAt w v X) : ∃ p n c, v = .slice p n c := by
  rcases h with ⟨_, rfl⟩ | ⟨_, b, rfl, _⟩ <;> exact ⟨_, _, _, rfl⟩
def GoodP (w w' : World) (e : Ending) (x y z : Int) (X : List ByteArray) : Prop :=
  ∃ v, e = .returned (.tuple #[.agg #[.int .i64 x, .int .i64 y, .int .i64 z, v], .nilIface]) ∧ StrsAt w' v X ∧ Below w.heap.size w w'
theorem vsplit_is (s : ByteArray) (aT aB : Addr) (m : Int) (w : World) (hs : s.size < 4294967281) (S : Vs w aT aB m) (h : verErr s.data.toList = 0) (X : List ByteArray) (hX : bl X = preOf s.data.toList) :
    Calls Tryz.prog 57 #[.string s] w fun e w' => GoodP w w' e (nAt s.data.toList 0) (nAt s.data.toList 1) (nAt s.data.toList 2) X :=
  (vsplit_good s aT aB m w hs S h).mono fun e w' ⟨v, X2, h1, h2, h3, h4⟩ => by
    obtain rfl : X2 = X := bl_inj (h2.trans hX.symm)
    exact ⟨v, h1, h3, h4⟩
def BadP (w w' : World) (e : Ending) : Prop :=
  ∃ a, e = .returned (.tuple #[.agg #[.int .i64 0, .int .i64 0, .int .i64 0, .slice none 0 0], .iface 169 (.pointer (some a))]) ∧ Below w.heap.size w w'
theorem vsplit_not (s : ByteArray) (aT aB : Addr) (m : Int) (w : World) (hs : s.size < 4294967281) (S : Vs w aT aB m) (h : verErr s.data.toList ≠ 0) :
    Calls Tryz.prog 57 #[.string s] w fun e w' => BadP w w' e :=
  (vsplit_bad s aT aB m w hs S h).mono fun e w' ⟨h1, h2⟩ => by
    obtain ⟨a, ha⟩ := errV_ne aT aB h
    exact ⟨a, by rw [h1, ha], h2⟩
def strs (ps : List (List UInt8)) : List ByteArray := ps.map fun p => ⟨p.toArray⟩
theorem bl_strs (ps : List (List UInt8)) : bl (strs ps) = ps := by
  unfold bl strs
  rw [List.map_map]
  conv => rhs; rw [← List.map_id ps]
  apply List.map_congr_left
  intro p _
  rfl
theorem pre_len {l : List UInt8} : (preOf l).length ≤ l.length + 1 := by
  unfold preOf
  split
  · have := cutAt_many 46 (one 45 (restOf l)).2.1
    have h2 := (one_le 45 (restOf l)).2
    have h3 := restOf_le l
    omega
  · simp
theorem pre_size {l p : List UInt8} (h : p ∈ preOf l) : p.length ≤ l.length := by
  unfold preOf at h
  split at h
  · have := cutAt_le 46 _ p h
    have h2 := (one_le 45 (restOf l)).2
    have h3 := restOf_le l
    omega
  · simp at h
end Ve
end Go.Proofs.YtiebgeamfblbdaaGreatDoor
namespace Go.Proofs.YtiebgeamfblbdaaGreatDoor
namespace Ve
theorem cb_range : ∀ (a b : List UInt8), Lib.compareBytes a b = -1 ∨ Lib.compareBytes a b = 0 ∨ Lib.compareBytes a b = 1
  | [], [] => by simp [Lib.compareBytes]
  | [], _ :: _ => by simp [Lib.compareBytes]
  | _ :: _, [] => by simp [Lib.compareBytes]
  | a :: x, b :: y => by
    unfold Lib.compareBytes
    split
    · simp
    · split
      · simp
      · exact cb_range x y
theorem u8_eq {a b : UInt8} (h1 : ¬ a < b) (h2 : ¬ b < a) : a = b := UInt8.le_antisymm (UInt8.not_lt.1 h2) (UInt8.not_lt.1 h1)
theorem cb_zero : ∀ (a b : List UInt8), Lib.compareBytes a b = 0 ↔ a = b
  | [], [] => by simp [Lib.compareBytes]
  | [], _ :: _ => by simp [Lib.compareBytes]
  | _ :: _, [] => by simp [Lib.compareBytes]
  | a :: x, b :: y => by
    unfold Lib.compareBytes
    by_cases h : a < b
    · rw [if_pos h]
      constructor
      · intro e; cases e
      · intro e; injection e with e1 _; subst e1; exact absurd h (UInt8.lt_irrefl a)
    · rw [if_neg h]
      by_cases h2 : b < a
      · rw [if_pos h2]
        constructor
        · intro e; cases e
        · intro e; injection e with e1 _; subst e1; exact absurd h2 (UInt8.lt_irrefl a)
      · rw [if_neg h2, cb_zero x y, u8_eq h h2]
        simp
theorem cb_swap : ∀ (a b : List UInt8), Lib.compareBytes b a = -Lib.compareBytes a b
  | [], [] => by simp [Lib.compareBytes]
  | [], _ :: _ => by simp [Lib.compareBytes]
  | _ :: _, [] => by simp [Lib.compareBytes]
  | a :: x, b :: y => by
    unfold Lib.compareBytes
    by_cases h : a < b
    · have h2 : ¬ b < a := fun h3 => UInt8.lt_irrefl a (UInt8.lt_trans h h3)
      rw [if_pos h, if_neg h2, if_pos h]; rfl
    · by_cases h2 : b < a
      · rw [if_pos h2, if_neg h, if_pos h2]
      · rw [if_neg h, if_neg h2, if_neg h2, if_neg h]; exact cb_swap x y
theorem cb_less : ∀ (a b : List UInt8), Op.bytesLess a b = decide (Lib.compareBytes a b < 0)
  | [], [] => by simp [Lib.compareBytes, Op.bytesLess]
  | [], _ :: _ => by simp [Lib.compareBytes, Op.bytesLess]
  | _ :: _, [] => by simp [Lib.compareBytes, Op.bytesLess]
  | a :: x, b :: y => by
    unfold Lib.compareBytes Op.bytesLess
    by_cases h : a < b
    · rw [if_pos h]; simp [h]
    · rw [if_neg h]
      by_cases h2 : b < a
      · rw [if_pos h2]
        have : (a == b) = false := by
          cases e : (a == b)
          · rfl
          · have := eq_of_beq e; subst this; exact absurd h2 (UInt8.lt_irrefl a)
        simp [h, this]
      · rw [if_neg h2, u8_eq h h2, cb_less x y]
        simp [UInt8.lt_irrefl]
def fst (a b : Int) : Int := if a = 0 then b else a
theorem fst0 (b : Int) : fst 0 b = b := rfl
theorem fst_ne {a : Int} (b : Int) (h : a ≠ 0) : fst a b = a := by unfold fst; rw [if_neg h]
def ordPart (a b : List UInt8) : Int :=
  if digs a then (if digs b then fst (Lib.compareInt a.length b.length) (Lib.compareBytes a b) else -1) else if digs b then 1 else Lib.compareBytes a b
def ordPs : List (List UInt8) → List (List UInt8) → Int
  | [], [] => 0
  | [], _ :: _ => -1
  | _ :: _, [] => 1
  | x :: xs, y :: ys => fst (ordPart x y) (ordPs xs ys)
def ordPre (a b : List (List UInt8)) : Int := if a = [] ∨ b = [] then Lib.compareInt b.length a.length else ordPs a b
def ordN (x y z : Int) (p : List (List UInt8)) (x' y' z' : Int) (q : List (List UInt8)) : Int :=
  fst (Lib.compareInt x x') (fst (Lib.compareInt y y') (fst (Lib.compareInt z z') (ordPre p q)))
def ordV (s t : List UInt8) : Int := ordN (nAt s 0) (nAt s 1) (nAt s 2) (preOf s) (nAt t 0) (nAt t 1) (nAt t 2) (preOf t)
theorem num0 {p : List UInt8} (h : (num p).2 = 0) : digs p = true ∧ zero p = false ∧ (num p).1 = valTo 0 p ∧ p.all dig = true := by
  have hd : digs p = true := by
    cases e : digs p
    · unfold num at h; rw [e] at h; simp at h
    · rfl
  have hz : zero p = false := by
    cases e : zero p
    · rfl
    · unfold num at h; rw [e] at h; simp at h
  have h6 := num_six p hd hz
  have : ¬ 6 < p.length := by
    intro hh; rw [if_pos hh] at h6; rw [h6] at h; cases h
  rw [if_neg this] at h6
  refine ⟨hd, hz, by rw [h6], ?_⟩
  unfold digs at hd
  simp only [Bool.and_eq_true] at hd
  exact hd.2
end Ve
end Go.Proofs.YtiebgeamfblbdaaGreatDoor
namespace Go.Proofs.YtiebgeamfblbdaaGreatDoor
open Go.RowKit
namespace Ve
def sufOk (l : List UInt8) : Bool := decide ((num (restOf l)).2 = 0) && decide (2 ≤ (num (restOf l)).1)
theorem trimV_any (s : ByteArray) (w : World) : Calls Tryz.prog 75 #[.string s, .string ⟨#[118]⟩] w fun e w' => ∃ R : ByteArray, e = .returned (.string R) ∧ R.data.toList = restOf s.data.toList ∧ w' = w :=
  (Tryz.strings_TrimPrefix s ⟨#[118]⟩ w).mono fun e w' ⟨h1, h2⟩ => ⟨_, h1, by
    have e0 : (⟨#[118]⟩ : ByteArray).data.toList = [118] := rfl
    rw [e0, trimPrefix_v], h2⟩
set_option maxHeartbeats 1000000 in
theorem suffix_any (s : ByteArray) (A : Nat → Addr) (m : Int) (w : World) (hs : s.size < 4294967281) (S : Te w A m) :
    Calls Tryz.prog 55 #[.string s] w fun e w' => e = .returned (.tuple #[.int .i64 (if sufOk s.data.toList then (num (restOf s.data.toList)).1 else 0), if sufOk s.data.toList then .nilIface else .iface 169 (.pointer (some (A 3)))]) ∧ Below w.heap.size w w' := by
  have HO := hid (show sufOk s.data.toList = (decide ((num (restOf s.data.toList)).2 = 0) && decide (2 ≤ (num (restOf s.data.toList)).1)) from rfl)
  have HS := hid S
  have HT := hid (trimV_any s w)
  have HN := hid (fun (R : ByteArray) (h : R.data.toList = restOf s.data.toList) W (SW : Te W A m) => num_any R (A 0) (A 1) m W (by
      have h1 := size_of h
      have h2 := restOf_le s.data.toList
      simp at h2; unfold maxLen; omega) SW.vs)
  have HE := hid (num_err (restOf s.data.toList))
  clear S
  by_cases h1 : (num (restOf s.data.toList)).2 = 0
  · by_cases h2 : 2 ≤ (num (restOf s.data.toList)).1
    · have HK := hid (show sufOk s.data.toList = true by rw [HO.out, decide_eq_true h1, decide_eq_true h2]; rfl)
      have H1 := hid h1
      rw [HK.out]
      clear h1
      go_enter Tryz.func55, Tryz.ntmps55
      go_wp2_with fail
      refine HT.out.mono ?_
      rintro e w' ⟨R, rfl, hR, rfl⟩
      have HR := hid hR
      clear hR
      go_wp2_with fail
      refine (HN.out R HR.out _ HS.out).mono ?_
      rintro e w1 ⟨rfl, hb1⟩
      rw [HR.out, H1.out, errV0]
      have HB := hid hb1
      clear hb1
      generalize hn : (num (restOf s.data.toList)).1 = n at *
      have HNN := hid hn
      clear hn
      go_wp2_with fail
      go_ret2
      exact ⟨by rw [← HNN.out]; rfl, HB.out⟩
    · have HK := hid (show sufOk s.data.toList = false by rw [HO.out, decide_eq_false h2]; simp)
      have H1 := hid h1
      rw [HK.out]
      clear h1
      go_enter Tryz.func55, Tryz.ntmps55
      go_wp2_with fail
      refine HT.out.mono ?_
      rintro e w' ⟨R, rfl, hR, rfl⟩
      have HR := hid hR
      clear hR
      go_wp2_with fail
      refine (HN.out R HR.out _ HS.out).mono ?_
      rintro e w1 ⟨rfl, hb1⟩
      rw [HR.out, H1.out, errV0]
      have HB := hid hb1
      have g3 := (HS.out.below hb1).sen.g3
      clear hb1
      generalize (num (restOf s.data.toList)).1 = n at *
      go_wp2_with fail
      go_quiet (fail)
      go_wp2_with fail
      go_ret2
      exact ⟨rfl, HB.out.trans ((below_drawn _ _).mono HB.out.size)⟩
  · have HK := hid (show sufOk s.data.toList = false by rw [HO.out, decide_eq_false h1]; rfl)
    have H1 := hid h1
    rw [HK.out]
    clear h1
    go_enter Tryz.func55, Tryz.ntmps55
    go_wp2_with fail
    refine HT.out.mono ?_
    rintro e w' ⟨R, rfl, hR, rfl⟩
    have HR := hid hR
    clear hR
    go_wp2_with fail
    refine (HN.out R HR.out _ HS.out).mono ?_
    rintro e w1 ⟨rfl, hb1⟩
    rw [HR.out]
    have HB := hid hb1
    have g3 := (HS.out.below hb1).sen.g3
    clear hb1
    obtain ⟨a9, ha9⟩ : ∃ a, errV (A 0) (A 1) (num (restOf s.data.toList)).2 = .iface 169 (.pointer (some a)) := by
      rcases HE.out with h | h | h
      · exact absurd h H1.out
      · exact ⟨_, by rw [h]; rfl⟩
      · exact ⟨_, by rw [h]; rfl⟩
    rw [ha9]
    clear ha9
    generalize (num (restOf s.data.toList)).1 = n at *
    go_wp2_with fail
    go_quiet (fail)
    go_wp2_with fail
    go_ret2
    exact ⟨rfl, HB.out.trans ((below_drawn _ _).mono HB.out.size)⟩
end Ve
end Go.Proofs.YtiebgeamfblbdaaGreatDoor
