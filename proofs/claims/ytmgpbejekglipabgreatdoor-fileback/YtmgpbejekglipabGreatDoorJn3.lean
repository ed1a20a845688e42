/-
  What Split of package ver answers for any text (of fewer than 4294967281 bytes): its parts, or the error; nothing old in memory turns.
-/
import Derived.Test.YtmgpbejekglipabGreatDoorJn2
import Derived.Shelf.Strings.Builder1
import Derived.Shelf.Strings.Builder2
import Derived.Shelf.Strings.OnBuilder
import Derived.Shelf.Strings.Trim
import Derived.Shelf.Small.Utf8
import Derived.Shelf.Small.Bits
import Derived.Shelf.Small.Strs
import Derived.Shelf.Small.Wraps
import Derived.Shelf.Strconv.Itoa0
import Derived.Shelf.Strconv.Itoa1
import Derived.Shelf.LaysM
import Derived.Shelf.Strconv.Itoa2
import Derived.Shelf.Strconv.Itoa3
import Derived.Shelf.Strings.Search1
import Derived.Shelf.Strings.Search2
import Derived.Shelf.Strings.Search3
import Derived.Shelf.Strings.Cut
import Derived.Shelf.Strings.Count
import Derived.Shelf.Strings.Shaped
import Derived.Shelf.Strings.Prefix
import Derived.Shelf.Strings.Split
import Derived.Shelf.Strings.Runes
import Derived.Shelf.Strings.AsciiSet
import Derived.Shelf.Unicode.DecodeSlow
import Derived.Shelf.Slices.Equal
import Derived.Shelf.Slices.Empties2
import Derived.Test.YtmgpbejekglipabGreatDoorProg
namespace Go.Proofs.YtmgpbejekglipabGreatDoor
open Go.RowKit
namespace Ve

/-- A text's mark, and what is behind it. -/
def marked (l : List UInt8) : Bool := l.headD 0 == 118
def restOf (l : List UInt8) : List UInt8 := if marked l then l.drop 1 else l
theorem hasPrefix_v (l : List UInt8) : Lib.hasPrefix l [118] = marked l := by
  cases l with
  | nil => rfl
  | cons b l =>
    show ([118] : List UInt8).isPrefixOf (b :: l) = (b == 118)
    simp only [List.isPrefixOf, Bool.and_true]
    exact Bool.beq_comm
theorem trimPrefix_v (l : List UInt8) : Lib.trimPrefix l [118] = restOf l := by
  unfold Lib.trimPrefix restOf
  rw [hasPrefix_v]; rfl
theorem restOf_le (l : List UInt8) : (restOf l).length ≤ l.length := by unfold restOf; split <;> simp
/-- The pieces of a version's text. -/
def coreOf (l : List UInt8) : List (List UInt8) := cutAt 46 (one 45 (restOf l)).1
def hasPre (l : List UInt8) : Bool := (one 45 (restOf l)).2.2
def preOf (l : List UInt8) : List (List UInt8) := if hasPre l then cutAt 46 (one 45 (restOf l)).2.1 else []
/-- Split's error. -/
def verErr (l : List UInt8) : Nat :=
  if marked l = false ∨ (coreOf l).length ≠ 3 then 1
  else if hasPre l then worse (numsErr (coreOf l)) (pre (preOf l)) else numsErr (coreOf l)

theorem cutPrefix_any (s : ByteArray) (w : World) :
    Calls Tryz.prog 74 #[.string s, .string ⟨#[118]⟩] w fun e w' => ∃ R : ByteArray, e = .returned (.tuple #[.string R, .bool (marked s.data.toList)]) ∧ R.data.toList = restOf s.data.toList ∧ w' = w :=
  (Tryz.strings_CutPrefix s ⟨#[118]⟩ w).mono fun e w' ⟨h1, h2⟩ => by
    have e0 : (⟨#[118]⟩ : ByteArray).data.toList = [118] := rfl
    rw [e0, trimPrefix_v, hasPrefix_v] at h1
    exact ⟨⟨(restOf s.data.toList).toArray⟩, h1, by simp, h2⟩
theorem cut_any (s : ByteArray) (m : Int) (w : World) (hs : s.size < 4294967281) (hm : w.cell? ⟨11, 0, none⟩ = some (.int .i64 m)) :
    Calls Tryz.prog 75 #[.string s, .string ⟨#[45]⟩] w fun e w' => ∃ C T : ByteArray, e = .returned (.tuple #[.string C, .string T, .bool (one 45 s.data.toList).2.2]) ∧ C.data.toList = (one 45 s.data.toList).1 ∧ T.data.toList = (one 45 s.data.toList).2.1 ∧ Below w.heap.size w w' :=
  (Tryz.strings_Cut s ⟨#[45]⟩ m w hs hm).mono fun e w' ⟨h1, n, h2⟩ => by
    have e0 : (⟨#[45]⟩ : ByteArray).data.toList = [45] := rfl
    rw [e0, cut_one] at h1
    exact ⟨⟨(one 45 s.data.toList).1.toArray⟩, ⟨(one 45 s.data.toList).2.1.toArray⟩, h1, by simp, by simp, by rw [h2]; exact below_drawn w n⟩
theorem one_le (c : UInt8) (l : List UInt8) : (one c l).1.length ≤ l.length ∧ (one c l).2.1.length ≤ l.length := by
  unfold one
  have h := congrArg List.length (List.takeWhile_append_dropWhile (p := (· != c)) (l := l))
  simp only [List.length_append] at h
  simp only [List.length_drop]
  omega
theorem size_of {s : ByteArray} {l : List UInt8} (h : s.data.toList = l) : s.size = l.length := by rw [← h]; simp

/-- The block of the result, later. -/
theorem res4 {w w3 : World} {a b c d : Value} {T : TypeId} (hb : Below (w.heap.size + 1) (w.alloc (.cells #[a, b, c, d] T)) w3) :
    (w3.cell? ⟨w.heap.size, 0, none⟩ = some a ∧ w3.cell? ⟨w.heap.size, 1, none⟩ = some b ∧ w3.cell? ⟨w.heap.size, 2, none⟩ = some c ∧ w3.cell? ⟨w.heap.size, 3, none⟩ = some d) ∧
    (∀ o, w3.frozen? ⟨w.heap.size, o, none⟩ = false) ∧ w.heap.size < w3.heap.size := by
  refine ⟨⟨?_, ?_, ?_, ?_⟩, ?_, ?_⟩
  · rw [hb.cell (by simp)]; simp
  · rw [hb.cell (by simp)]; simp
  · rw [hb.cell (by simp)]; simp
  · rw [hb.cell (by simp)]; simp
  · intro o; rw [hb.frozen (by simp)]; simp
  · have := hb.size; simp at this; omega

set_option maxHeartbeats 1000000 in
theorem vsplit_shape (s : ByteArray) (aT aB : Addr) (m : Int) (w : World) (hs : s.size < 4294967281) (S : Vs w aT aB m) (h0 : marked s.data.toList = false ∨ (coreOf s.data.toList).length ≠ 3) :
    Calls Tryz.prog 32 #[.string s] w fun e w' => e = .returned (.tuple #[.agg #[.int .i64 0, .int .i64 0, .int .i64 0, .slice none 0 0], .iface 279 (.pointer (some aT))]) ∧ Below w.heap.size w w' := by
  have HB0 := hid ((Below.refl w.heap.size w).alloc (Nat.le_refl _) (.cells #[.int .i64 0, .int .i64 0, .int .i64 0, .slice none 0 0] 62))
  have HS := hid (S.below HB0.out)
  have H0 := hid h0
  have hne1 : ¬ w.heap.size = 3 := by have := lt_of_cell S.t; simp at this; omega
  have hne2 : ¬ 3 = w.heap.size := fun h => hne1 h.symm
  clear S h0
  go_enter Tryz.func32, Tryz.ntmps32
  go_wp2_with fail
  refine (cutPrefix_any s _).mono ?_
  rintro e w1 ⟨R, rfl, hR, rfl⟩
  have HR := hid hR
  have hRs : R.size < 4294967281 := by
    have h1 := size_of hR
    have h2 := restOf_le s.data.toList
    simp at h2; omega
  clear hR
  go_wp2_with fail
  refine (cut_any R m _ hRs HS.out.ml).mono ?_
  rintro e w2 ⟨C, T, rfl, hC, hT, hb2⟩
  have HC := hid hC
  have hCs : C.size < 4294967281 := by
    have h1 := size_of hC
    have h2 := (one_le 45 R.data.toList).1
    simp at h2; omega
  have HB2 := hid (show Below (w.heap.size + 1) (w.alloc (.cells #[.int .i64 0, .int .i64 0, .int .i64 0, .slice none 0 0] 62)) w2 from hb2.mono (by simp))
  have HS2 := hid (HS.out.below hb2)
  clear hC hT hb2
  go_wp2_with fail
  refine (nums_any C aT aB m w2 hCs HS2.out).mono ?_
  rintro e w3 ⟨v, rfl, hown, hb3⟩
  have HO := hid hown
  have HB3 := hid (HB2.out.trans (hb3.mono (by have := HB2.out.size; simpa using this)))
  obtain ⟨⟨r0, r1, r2, r3⟩, rf, rz⟩ := res4 HB3.out
  have HS3 := hid (HS2.out.below hb3)
  have g := HS3.out.t
  have HBF := hid (HB0.out.trans (HB3.out.mono (by omega)))
  have hCC : cutAt 46 C.data.toList = coreOf s.data.toList := by rw [HC.out, HR.out]; rfl
  rw [hCC] at HO
  clear hown hb3 hCC
  cases hmk : marked s.data.toList
  · clear hmk
    go_wp2_with fail
    go_region
    all_goals (try go_wp2)
    all_goals
      refine bodyPost_ret (v := .tuple #[.agg #[.int .i64 0, .int .i64 0, .int .i64 0, .slice none 0 0], .iface 279 (.pointer (some aT))]) (by simp [results, Tryz.results32, go_sem, r0, r1, r2, r3]) rfl ⟨rfl, ?_⟩
      exact ((((HBF.out.setCell (Nat.le_refl _) _).setCell (Nat.le_refl _) _).setCell (Nat.le_refl _) _).setCell (Nat.le_refl _) _).drew
  · have h3 : (((coreOf s.data.toList).length : Int) == 3) = false := by
      rcases H0.out with h | h
      · rw [hmk] at h; cases h
      · simp; omega
    clear hmk
    obtain ⟨_, ⟨_, hn0⟩ | ⟨g9, cap, cur, hv, _⟩⟩ := HO.out
    · exact absurd (List.length_eq_zero_iff.1 hn0) (cutAt_ne _ _)
    · subst hv
      generalize (coreOf s.data.toList).length = n at *
      go_wp2_with fail
      go_region
      all_goals (try go_wp2)
      all_goals
        refine bodyPost_ret (v := .tuple #[.agg #[.int .i64 0, .int .i64 0, .int .i64 0, .slice none 0 0], .iface 279 (.pointer (some aT))]) (by simp [results, Tryz.results32, go_sem, r0, r1, r2, r3]) rfl ⟨rfl, ?_⟩
        exact ((((HBF.out.setCell (Nat.le_refl _) _).setCell (Nat.le_refl _) _).setCell (Nat.le_refl _) _).setCell (Nat.le_refl _) _).drew

/-- Texts in memory. -/
def StrsAt (w : World) (v : Value) (X : List ByteArray) : Prop :=
  (X = [] ∧ v = .slice none 0 0) ∨ (X ≠ [] ∧ ∃ b, v = .slice (some ⟨b, 0, none⟩) X.length X.length ∧ b < w.heap.size ∧ ∀ j (h : j < X.length), w.cell? ⟨b, 0 + j, none⟩ = some (.string X[j]))
theorem StrsAt.below {w w' : World} {v : Value} {X : List ByteArray} (h : StrsAt w v X) (hb : Below w.heap.size w w') : StrsAt w' v X := by
  rcases h with h | ⟨h, b, e1, e2, e3⟩
  · exact Or.inl h
  · exact Or.inr ⟨h, b, e1, Nat.lt_of_lt_of_le e2 hb.size, fun j hj => cell_below hb (e3 j hj)⟩
/-- The three numbers. -/
def nAt (l : List UInt8) (i : Nat) : Int := (numsOf (coreOf l)).getD i 0
theorem n_three {l : List UInt8} (h : (coreOf l).length = 3) : numsOf (coreOf l) = [nAt l 0, nAt l 1, nAt l 2] := by
  unfold nAt
  have : (numsOf (coreOf l)).length = 3 := by rw [numsOf_len, h]
  match hq : numsOf (coreOf l), this with
  | [a, b, c], _ => rfl

theorem three_cells {w : World} {g : Nat} {cur : Array Value} {e : TypeId} {a b c : Int} (hb : w.heap[g]? = some (.cells cur e (0, 0))) (ht : cur.toList.take (3 * 1) = [a, b, c].map (Value.int .i64)) :
    w.cell? ⟨g, 0, none⟩ = some (.int .i64 a) ∧ w.cell? ⟨g, 1, none⟩ = some (.int .i64 b) ∧ w.cell? ⟨g, 2, none⟩ = some (.int .i64 c) := by
  have key : ∀ i, i < 3 → cur[i]? = ([a, b, c].map (Value.int .i64))[i]? := fun i hi => by
    rw [← ht, List.getElem?_take, if_pos (by omega)]; simp
  have k0 := key 0 (by omega)
  have k1 := key 1 (by omega)
  have k2 := key 2 (by omega)
  simp at k0 k1 k2
  simp [World.cell?, hb, k0, k1, k2]

set_option maxHeartbeats 1000000 in
/-- No pre, but a number that is none. -/
theorem vsplit_num (s : ByteArray) (aT aB : Addr) (m : Int) (w : World) (hs : s.size < 4294967281) (S : Vs w aT aB m) (hmk : marked s.data.toList = true) (h3 : (coreOf s.data.toList).length = 3) (hp : hasPre s.data.toList = false) (hq : numsErr (coreOf s.data.toList) ≠ 0) :
    Calls Tryz.prog 32 #[.string s] w fun e w' => e = .returned (.tuple #[.agg #[.int .i64 0, .int .i64 0, .int .i64 0, .slice none 0 0], errV aT aB (numsErr (coreOf s.data.toList))]) ∧ Below w.heap.size w w' := by
  have HQ := hid hq
  clear hq
  have HB0 := hid ((Below.refl w.heap.size w).alloc (Nat.le_refl _) (.cells #[.int .i64 0, .int .i64 0, .int .i64 0, .slice none 0 0] 62))
  have HS := hid (S.below HB0.out)
  have hne1 : ¬ w.heap.size = 3 := by have := lt_of_cell S.t; simp at this; omega
  have hne2 : ¬ 3 = w.heap.size := fun h => hne1 h.symm
  have HM := hid hmk
  have H3 := hid h3
  have HP := hid hp
  clear S hmk h3 hp
  go_enter Tryz.func32, Tryz.ntmps32
  go_wp2_with fail
  refine (cutPrefix_any s _).mono ?_
  rintro e w1 ⟨R, rfl, hR, rfl⟩
  rw [HM.out]
  have HR := hid hR
  have hRs : R.size < 4294967281 := by
    have h1 := size_of hR
    have h2 := restOf_le s.data.toList
    simp at h2; omega
  clear hR
  go_wp2_with fail
  refine (cut_any R m _ hRs HS.out.ml).mono ?_
  rintro e w2 ⟨C, T, rfl, hC, hT, hb2⟩
  rw [show (one 45 R.data.toList).2.2 = false by rw [HR.out]; exact HP.out]
  have HC := hid hC
  have HT := hid hT
  have hCs : C.size < 4294967281 := by
    have h1 := size_of hC
    have h2 := (one_le 45 R.data.toList).1
    simp at h2; omega
  have hTs : T.size < 4294967281 := by
    have h1 := size_of hT
    have h2 := (one_le 45 R.data.toList).2
    simp at h2; omega
  have HB2 := hid (show Below (w.heap.size + 1) (w.alloc (.cells #[.int .i64 0, .int .i64 0, .int .i64 0, .slice none 0 0] 62)) w2 from hb2.mono (by simp))
  have HS2 := hid (HS.out.below hb2)
  clear hC hT hb2
  go_wp2_with fail
  refine (nums_any C aT aB m w2 hCs HS2.out).mono ?_
  rintro e w3 ⟨v, rfl, hown, hb3⟩
  have hCC : cutAt 46 C.data.toList = coreOf s.data.toList := by rw [HC.out, HR.out]; rfl
  rw [hCC] at hown ⊢
  rw [H3.out, n_three H3.out] at hown
  have HB3 := hid (HB2.out.trans (hb3.mono (by have := HB2.out.size; simpa using this)))
  have HS3 := hid (HS2.out.below hb3)
  have HZ := hid (show w.heap.size + 1 ≤ w2.heap.size by have := HB2.out.size; simpa using this)
  obtain ⟨_, ⟨_, hn0⟩ | ⟨g9, cap, cur, hv, hg9, hblk, hcap, hcm, hcs, hct⟩⟩ := hown
  · cases hn0
  subst hv
  have HK := hid (show w3.cell? ⟨g9, 0, none⟩ = some (.int .i64 (nAt s.data.toList 0)) ∧ w3.cell? ⟨g9, 1, none⟩ = some (.int .i64 (nAt s.data.toList 1)) ∧ w3.cell? ⟨g9, 2, none⟩ = some (.int .i64 (nAt s.data.toList 2)) from three_cells hblk hct)
  have HG := hid hg9
  clear hg9 hblk hcap hcm hcs hct hb3 hCC
  have HE := hid (numsErr_err (coreOf s.data.toList))
  rcases HE.out with h | h | h
  · exact absurd h HQ.out
  · have HH := hid h
    rw [h, errV1]
    clear h
    obtain ⟨⟨r0, r1, r2, r3⟩, rf, rz⟩ := res4 HB3.out
    have HBF := hid (HB0.out.trans (HB3.out.mono (by omega)))
    go_wp2_with fail
    refine bodyPost_ret (v := .tuple #[.agg #[.int .i64 0, .int .i64 0, .int .i64 0, .slice none 0 0], .iface 279 (.pointer (some aT))]) (by simp [results, Tryz.results32, go_sem, r0, r1, r2, r3]) rfl ⟨by rw [HH.out]; rfl, ?_⟩
    exact (((HBF.out.setCell (Nat.le_refl _) _).setCell (Nat.le_refl _) _).setCell (Nat.le_refl _) _).setCell (Nat.le_refl _) _
  · have HH := hid h
    rw [h, errV2]
    clear h
    obtain ⟨⟨r0, r1, r2, r3⟩, rf, rz⟩ := res4 HB3.out
    have HBF := hid (HB0.out.trans (HB3.out.mono (by omega)))
    go_wp2_with fail
    refine bodyPost_ret (v := .tuple #[.agg #[.int .i64 0, .int .i64 0, .int .i64 0, .slice none 0 0], .iface 279 (.pointer (some aB))]) (by simp [results, Tryz.results32, go_sem, r0, r1, r2, r3]) rfl ⟨by rw [HH.out]; rfl, ?_⟩
    exact (((HBF.out.setCell (Nat.le_refl _) _).setCell (Nat.le_refl _) _).setCell (Nat.le_refl _) _).setCell (Nat.le_refl _) _

set_option maxHeartbeats 1000000 in
/-- No pre, and right. -/
theorem vsplit_plain (s : ByteArray) (aT aB : Addr) (m : Int) (w : World) (hs : s.size < 4294967281) (S : Vs w aT aB m) (hmk : marked s.data.toList = true) (h3 : (coreOf s.data.toList).length = 3) (hp : hasPre s.data.toList = false) (hq : numsErr (coreOf s.data.toList) = 0) :
    Calls Tryz.prog 32 #[.string s] w fun e w' => e = .returned (.tuple #[.agg #[.int .i64 (nAt s.data.toList 0), .int .i64 (nAt s.data.toList 1), .int .i64 (nAt s.data.toList 2), .slice none 0 0], .nilIface]) ∧ Below w.heap.size w w' := by
  have HQ := hid hq
  clear hq
  have HB0 := hid ((Below.refl w.heap.size w).alloc (Nat.le_refl _) (.cells #[.int .i64 0, .int .i64 0, .int .i64 0, .slice none 0 0] 62))
  have HS := hid (S.below HB0.out)
  have hne1 : ¬ w.heap.size = 3 := by have := lt_of_cell S.t; simp at this; omega
  have hne2 : ¬ 3 = w.heap.size := fun h => hne1 h.symm
  have HM := hid hmk
  have H3 := hid h3
  have HP := hid hp
  clear S hmk h3 hp
  go_enter Tryz.func32, Tryz.ntmps32
  go_wp2_with fail
  refine (cutPrefix_any s _).mono ?_
  rintro e w1 ⟨R, rfl, hR, rfl⟩
  rw [HM.out]
  have HR := hid hR
  have hRs : R.size < 4294967281 := by
    have h1 := size_of hR
    have h2 := restOf_le s.data.toList
    simp at h2; omega
  clear hR
  go_wp2_with fail
  refine (cut_any R m _ hRs HS.out.ml).mono ?_
  rintro e w2 ⟨C, T, rfl, hC, hT, hb2⟩
  rw [show (one 45 R.data.toList).2.2 = false by rw [HR.out]; exact HP.out]
  have HC := hid hC
  have HT := hid hT
  have hCs : C.size < 4294967281 := by
    have h1 := size_of hC
    have h2 := (one_le 45 R.data.toList).1
    simp at h2; omega
  have hTs : T.size < 4294967281 := by
    have h1 := size_of hT
    have h2 := (one_le 45 R.data.toList).2
    simp at h2; omega
  have HB2 := hid (show Below (w.heap.size + 1) (w.alloc (.cells #[.int .i64 0, .int .i64 0, .int .i64 0, .slice none 0 0] 62)) w2 from hb2.mono (by simp))
  have HS2 := hid (HS.out.below hb2)
  clear hC hT hb2
  go_wp2_with fail
  refine (nums_any C aT aB m w2 hCs HS2.out).mono ?_
  rintro e w3 ⟨v, rfl, hown, hb3⟩
  have hCC : cutAt 46 C.data.toList = coreOf s.data.toList := by rw [HC.out, HR.out]; rfl
  rw [hCC] at hown ⊢
  rw [H3.out, n_three H3.out] at hown
  have HB3 := hid (HB2.out.trans (hb3.mono (by have := HB2.out.size; simpa using this)))
  have HS3 := hid (HS2.out.below hb3)
  have HZ := hid (show w.heap.size + 1 ≤ w2.heap.size by have := HB2.out.size; simpa using this)
  obtain ⟨_, ⟨_, hn0⟩ | ⟨g9, cap, cur, hv, hg9, hblk, hcap, hcm, hcs, hct⟩⟩ := hown
  · cases hn0
  subst hv
  have HK := hid (show w3.cell? ⟨g9, 0, none⟩ = some (.int .i64 (nAt s.data.toList 0)) ∧ w3.cell? ⟨g9, 1, none⟩ = some (.int .i64 (nAt s.data.toList 1)) ∧ w3.cell? ⟨g9, 2, none⟩ = some (.int .i64 (nAt s.data.toList 2)) from three_cells hblk hct)
  have HG := hid hg9
  clear hg9 hblk hcap hcm hcs hct hb3 hCC
  rw [HQ.out, errV0]
  obtain ⟨⟨r0, r1, r2, r3⟩, rf, rz⟩ := res4 HB3.out
  have HBF := hid (HB0.out.trans (HB3.out.mono (by omega)))
  obtain ⟨k0, k1, k2⟩ := HK.out
  have hg9 : ¬ g9 = w.heap.size := by have h1 := HG.out; have h2 := HZ.out; omega
  have hg9' : ¬ w.heap.size = g9 := fun h => hg9 h.symm
  generalize hn0 : nAt s.data.toList 0 = n0 at *
  generalize hn1 : nAt s.data.toList 1 = n1 at *
  generalize hn2 : nAt s.data.toList 2 = n2 at *
  have HN0 := hid hn0
  have HN1 := hid hn1
  have HN2 := hid hn2
  clear hn0 hn1 hn2
  go_wp2_with fail
  go_region
  all_goals (try go_wp2)
  all_goals
    refine bodyPost_ret (v := .tuple #[.agg #[.int .i64 n0, .int .i64 n1, .int .i64 n2, .slice none 0 0], .nilIface]) (by simp [results, Tryz.results32, go_sem, r0, r1, r2, r3]) rfl ⟨by rw [HN0.out, HN1.out, HN2.out], ?_⟩
    exact ((((HBF.out.setCell (Nat.le_refl _) _).setCell (Nat.le_refl _) _).setCell (Nat.le_refl _) _).setCell (Nat.le_refl _) _).drew
end Ve
end Go.Proofs.YtmgpbejekglipabGreatDoor

/-
  Contracts of library functions, laid at this program out of the compiled library, each by one application.
-/
namespace Go.Proofs
open Go.Shelf
def Tryz.lays160_ren : Go.Shelf.Ren := ⟨fun | 160 => 184 | 232 => 210 | 231 => 209 | 227 => 211 | 234 => 213 | 233 => 212 | 236 => 215 | 235 => 214 | 228 => 242 | 271 => 244 | 151 => 243 | 197 => 204 | 120 => 257 | 152 => 256 | 260 => 241 | 137 => 264 | 119 => 265 | 224 => 200 | 225 => 199 | 217 => 198 | 266 => 239 | n => n, fun | 9 => 9 | 4 => 4 | 3 => 3 | 5 => 5 | 117 => 228 | 116 => 227 | 0 => 0 | 124 => 231 | 21 => 21 | 105 => 223 | 46 => 183 | 119 => 261 | 139 => 264 | 138 => 263 | n => n, fun | 3 => 12 | 4 => 13 | n => n⟩
theorem Tryz.lays160 : Go.Proofs.Lays.n160 Tryz.prog Tryz.lays160_ren := {
  mixed := by kernel_rfl
  f119 := Tryz.func265.trans (congrArg some (by kernel_rfl))
  f120 := Tryz.func257.trans (congrArg some (by kernel_rfl))
  f137 := Tryz.func264.trans (congrArg some (by kernel_rfl))
  f151 := Tryz.func243.trans (congrArg some (by kernel_rfl))
  f152 := Tryz.func256.trans (congrArg some (by kernel_rfl))
  f160 := Tryz.func184.trans (congrArg some (by kernel_rfl))
  f197 := Tryz.func204.trans (congrArg some (by kernel_rfl))
  f217 := Tryz.func198.trans (congrArg some (by kernel_rfl))
  f224 := Tryz.func200.trans (congrArg some (by kernel_rfl))
  f225 := Tryz.func199.trans (congrArg some (by kernel_rfl))
  f227 := Tryz.func211.trans (congrArg some (by kernel_rfl))
  f228 := Tryz.func242.trans (congrArg some (by kernel_rfl))
  f231 := Tryz.func209.trans (congrArg some (by kernel_rfl))
  f232 := Tryz.func210.trans (congrArg some (by kernel_rfl))
  f233 := Tryz.func212.trans (congrArg some (by kernel_rfl))
  f234 := Tryz.func213.trans (congrArg some (by kernel_rfl))
  f235 := Tryz.func214.trans (congrArg some (by kernel_rfl))
  f236 := Tryz.func215.trans (congrArg some (by kernel_rfl))
  f260 := Tryz.func241.trans (congrArg some (by kernel_rfl))
  f266 := Tryz.func239.trans (congrArg some (by kernel_rfl))
  f271 := Tryz.func244.trans (congrArg some (by kernel_rfl))
  t0 := Tryz.underlying0
  a0 := Tryz.isAgg0
  z0 := Tryz.sizeOf0
  v0 := Tryz.zeroValue0
  t3 := Tryz.underlying3
  a3 := Tryz.isAgg3
  z3 := Tryz.sizeOf3
  v3 := Tryz.zeroValue3
  t4 := Tryz.underlying4
  a4 := Tryz.isAgg4
  z4 := Tryz.sizeOf4
  v4 := Tryz.zeroValue4
  t5 := Tryz.underlying5
  a5 := Tryz.isAgg5
  z5 := Tryz.sizeOf5
  v5 := Tryz.zeroValue5
  t9 := Tryz.underlying9
  a9 := Tryz.isAgg9
  z9 := Tryz.sizeOf9
  v9 := Tryz.zeroValue9
  t21 := Tryz.underlying21
  a21 := Tryz.isAgg21
  z21 := Tryz.sizeOf21
  v21 := Tryz.zeroValue21
  t46 := Tryz.underlying183
  a46 := Tryz.isAgg183
  z46 := Tryz.sizeOf183
  v46 := Tryz.zeroValue183
  t105 := Tryz.underlying223
  a105 := Tryz.isAgg223
  z105 := Tryz.sizeOf223
  v105 := Tryz.zeroValue223
  t116 := Tryz.underlying227
  a116 := Tryz.isAgg227
  z116 := Tryz.sizeOf227
  t117 := Tryz.underlying228
  a117 := Tryz.isAgg228
  z117 := Tryz.sizeOf228
  v117 := Tryz.zeroValue228
  t119 := Tryz.underlying261
  a119 := Tryz.isAgg261
  z119 := Tryz.sizeOf261
  t124 := Tryz.underlying231
  a124 := Tryz.isAgg231
  z124 := Tryz.sizeOf231
  v124 := Tryz.zeroValue231
  t138 := Tryz.underlying263
  a138 := Tryz.isAgg263
  z138 := Tryz.sizeOf263
  v138 := Tryz.zeroValue263
  t139 := Tryz.underlying264
  a139 := Tryz.isAgg264
  z139 := Tryz.sizeOf264
  v139 := Tryz.zeroValue264
  g3 := by kernel_rfl
  g4 := by kernel_rfl }
open Go.RowKit in
theorem Tryz.strings_Trim_one (s : ByteArray) (c : UInt8) (hc : c.toNat < 128) (w : World) (hs : s.size ≤ 9223372036854775807) :
    Calls Tryz.prog 184 #[.string s, .string ⟨#[c]⟩] w fun e w' => e = .returned (.string ⟨(Lib.trimB s.data.toList c).toArray⟩) ∧ (w' = w ∨ w' = w.drew) := Any.strings_Trim_one Tryz.lays160 s c hc w hs
def Tryz.lays144_ren : Go.Shelf.Ren := ⟨fun | 144 => 185 | 143 => 173 | 219 => 169 | 217 => 198 | 225 => 199 | 224 => 200 | 267 => 201 | 266 => 239 | 314 => 240 | n => n, fun | 9 => 9 | 4 => 4 | 3 => 3 | 5 => 5 | 46 => 183 | 146 => 248 | 51 => 240 | n => n, fun | 1 => 11 | n => n⟩
theorem Tryz.lays144 : Go.Proofs.Lays.n144 Tryz.prog Tryz.lays144_ren := {
  mixed := by kernel_rfl
  f143 := Tryz.func173.trans (congrArg some (by kernel_rfl))
  f144 := Tryz.func185.trans (congrArg some (by kernel_rfl))
  f217 := Tryz.func198.trans (congrArg some (by kernel_rfl))
  f219 := Tryz.func169.trans (congrArg some (by kernel_rfl))
  f224 := Tryz.func200.trans (congrArg some (by kernel_rfl))
  f225 := Tryz.func199.trans (congrArg some (by kernel_rfl))
  f266 := Tryz.func239.trans (congrArg some (by kernel_rfl))
  f267 := Tryz.func201.trans (congrArg some (by kernel_rfl))
  f314 := Tryz.func240.trans (congrArg some (by kernel_rfl))
  t3 := Tryz.underlying3
  a3 := Tryz.isAgg3
  z3 := Tryz.sizeOf3
  v3 := Tryz.zeroValue3
  t4 := Tryz.underlying4
  a4 := Tryz.isAgg4
  z4 := Tryz.sizeOf4
  v4 := Tryz.zeroValue4
  t5 := Tryz.underlying5
  a5 := Tryz.isAgg5
  z5 := Tryz.sizeOf5
  v5 := Tryz.zeroValue5
  t9 := Tryz.underlying9
  a9 := Tryz.isAgg9
  z9 := Tryz.sizeOf9
  v9 := Tryz.zeroValue9
  t46 := Tryz.underlying183
  a46 := Tryz.isAgg183
  z46 := Tryz.sizeOf183
  v46 := Tryz.zeroValue183
  t51 := Tryz.underlying240
  a51 := Tryz.isAgg240
  z51 := Tryz.sizeOf240
  v51 := Tryz.zeroValue240
  t146 := Tryz.underlying248
  a146 := Tryz.isAgg248
  z146 := Tryz.sizeOf248
  v146 := Tryz.zeroValue248
  g1 := by kernel_rfl }
open Go.RowKit Go.Lib in
theorem Tryz.strings_Contains (s sub : ByteArray) (m : Int) (w : World) (hs : s.size < 4294967281) (hm : w.cell? ⟨11, 0, none⟩ = some (.int .i64 m)) :
    Calls Tryz.prog 185 #[.string s, .string sub] w fun e w' => e = .returned (.bool (Lib.contains s.data.toList sub.data.toList)) ∧ w' = w := Any.strings_Contains Tryz.lays144 s sub m w hs hm
def Tryz.lays138_ren : Go.Shelf.Ren := ⟨fun | 138 => 172 | 195 => 203 | 218 => 205 | 143 => 173 | 219 => 169 | 217 => 198 | 225 => 199 | 224 => 200 | 267 => 201 | 266 => 239 | 314 => 240 | n => n, fun | 9 => 9 | 3 => 3 | 4 => 4 | 5 => 5 | 0 => 0 | 46 => 183 | 146 => 248 | 51 => 240 | n => n, fun | 1 => 11 | n => n⟩
theorem Tryz.lays138 : Go.Proofs.Lays.n138 Tryz.prog Tryz.lays138_ren := {
  mixed := by kernel_rfl
  f138 := Tryz.func172.trans (congrArg some (by kernel_rfl))
  f143 := Tryz.func173.trans (congrArg some (by kernel_rfl))
  f195 := Tryz.func203.trans (congrArg some (by kernel_rfl))
  f217 := Tryz.func198.trans (congrArg some (by kernel_rfl))
  f218 := Tryz.func205.trans (congrArg some (by kernel_rfl))
  f219 := Tryz.func169.trans (congrArg some (by kernel_rfl))
  f224 := Tryz.func200.trans (congrArg some (by kernel_rfl))
  f225 := Tryz.func199.trans (congrArg some (by kernel_rfl))
  f266 := Tryz.func239.trans (congrArg some (by kernel_rfl))
  f267 := Tryz.func201.trans (congrArg some (by kernel_rfl))
  f314 := Tryz.func240.trans (congrArg some (by kernel_rfl))
  t0 := Tryz.underlying0
  a0 := Tryz.isAgg0
  z0 := Tryz.sizeOf0
  v0 := Tryz.zeroValue0
  t3 := Tryz.underlying3
  a3 := Tryz.isAgg3
  z3 := Tryz.sizeOf3
  v3 := Tryz.zeroValue3
  t4 := Tryz.underlying4
  a4 := Tryz.isAgg4
  z4 := Tryz.sizeOf4
  v4 := Tryz.zeroValue4
  t5 := Tryz.underlying5
  a5 := Tryz.isAgg5
  z5 := Tryz.sizeOf5
  v5 := Tryz.zeroValue5
  t9 := Tryz.underlying9
  a9 := Tryz.isAgg9
  z9 := Tryz.sizeOf9
  v9 := Tryz.zeroValue9
  t46 := Tryz.underlying183
  a46 := Tryz.isAgg183
  z46 := Tryz.sizeOf183
  v46 := Tryz.zeroValue183
  t51 := Tryz.underlying240
  a51 := Tryz.isAgg240
  z51 := Tryz.sizeOf240
  v51 := Tryz.zeroValue240
  t146 := Tryz.underlying248
  a146 := Tryz.isAgg248
  z146 := Tryz.sizeOf248
  v146 := Tryz.zeroValue248
  g1 := by kernel_rfl }
open Go.RowKit Go.Lib in
theorem Tryz.strings_Count_one (s : ByteArray) (c : UInt8) (w : World) :
    Calls Tryz.prog 172 #[.string s, .string ⟨#[c]⟩] w fun e w' => e = .returned (.int .i64 (Lib.countByte s.data.toList c)) ∧ w' = w := Any.strings_Count_one Tryz.lays138 s c w
def Tryz.lays101_ren : Go.Shelf.Ren := ⟨fun | 101 => 187 | 208 => 216 | 206 => 168 | n => n, fun | 9 => 9 | 4 => 4 | 3 => 3 | n => n, fun | n => n⟩
theorem Tryz.lays101 : Go.Proofs.Lays.n101 Tryz.prog Tryz.lays101_ren := {
  mixed := by kernel_rfl
  f101 := Tryz.func187.trans (congrArg some (by kernel_rfl))
  f206 := Tryz.func168.trans (congrArg some (by kernel_rfl))
  f208 := Tryz.func216.trans (congrArg some (by kernel_rfl))
  t3 := Tryz.underlying3
  a3 := Tryz.isAgg3
  z3 := Tryz.sizeOf3
  v3 := Tryz.zeroValue3
  t4 := Tryz.underlying4
  a4 := Tryz.isAgg4
  z4 := Tryz.sizeOf4
  v4 := Tryz.zeroValue4
  t9 := Tryz.underlying9
  a9 := Tryz.isAgg9
  z9 := Tryz.sizeOf9
  v9 := Tryz.zeroValue9 }
open Go.RowKit Go.Lib in
theorem Tryz.strings_TrimPrefix (s p : ByteArray) (w : World) :
    Calls Tryz.prog 187 #[.string s, .string p] w fun e w' => e = .returned (.string ⟨(Lib.trimPrefix s.data.toList p.data.toList).toArray⟩) ∧ w' = w := Any.strings_TrimPrefix Tryz.lays101 s p w
end Go.Proofs
