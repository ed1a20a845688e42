/-
  VerE RefB
-/
import Derived.Test.YtiebgeamfblbdaaGreatDoorFb6
import Derived.Test.YtiebgeamfblbdaaGreatDoorFb4
namespace Go.Proofs.YtiebgeamfblbdaaGreatDoor
open Go.RowKit
namespace Ve
def marked (l : List UInt8) : Bool := l.headD 0 == 118
def restOf (l : List UInt8) : List UInt8 := if marked l then l.drop 1 else l
theorem hasPrefix_v (l : List UInt8) : Lib.hasPrefix l [118] = marked l := by
  cases l with
  | nil => rfl
  | cons b l =>
    show ([118] : List UInt8).isPrefixOf (b :: l) = (b == 118)
    simp only [List.isPrefixOf, Bool.and_true]
    exact Bool.beq_comm
theorem trimPrefix_v (l : List UInt8) : Lib.trimPrefix l [118] = restOf l := by
  unfold Lib.trimPrefix restOf
  rw [hasPrefix_v]; rfl
theorem restOf_le (l : List UInt8) : (restOf l).length ≤ l.length := by unfold restOf; split <;> simp
def coreOf (l : List UInt8) : List (List UInt8) := cutAt 46 (one 45 (restOf l)).1
def hasPre (l : List UInt8) : Bool := (one 45 (restOf l)).2.2
def preOf (l : List UInt8) : List (List UInt8) := if hasPre l then cutAt 46 (one 45 (restOf l)).2.1 else []
def verErr (l : List UInt8) : Nat :=
  if marked l = false ∨ (coreOf l).length ≠ 3 then 1
  else if hasPre l then worse (numsErr (coreOf l)) (pre (preOf l)) else numsErr (coreOf l)
theorem cutPrefix_any (s : ByteArray) (w : World) :
    Calls Tryz.prog 72 #[.string s, .string ⟨#[118]⟩] w fun e w' => ∃ R : ByteArray, e = .returned (.tuple #[.string R, .bool (marked s.data.toList)]) ∧ R.data.toList = restOf s.data.toList ∧ w' = w :=
  (Tryz.strings_CutPrefix s ⟨#[118]⟩ w).mono fun e w' ⟨h1, h2⟩ => by
    have e0 : (⟨#[118]⟩ : ByteArray).data.toList = [118] := rfl
    rw [e0, trimPrefix_v, hasPrefix_v] at h1
    exact ⟨⟨(restOf s.data.toList).toArray⟩, h1, by simp, h2⟩
theorem cut_any (s : ByteArray) (m : Int) (w : World) (hs : s.size < 4294967281) (hm : w.cell? ⟨9, 0, none⟩ = some (.int .i64 m)) :
    Calls Tryz.prog 77 #[.string s, .string ⟨#[45]⟩] w fun e w' => ∃ C T : ByteArray, e = .returned (.tuple #[.string C, .string T, .bool (one 45 s.data.toList).2.2]) ∧ C.data.toList = (one 45 s.data.toList).1 ∧ T.data.toList = (one 45 s.data.toList).2.1 ∧ Below w.heap.size w w' :=
  (Tryz.strings_Cut s ⟨#[45]⟩ m w hs hm).mono fun e w' ⟨h1, n, h2⟩ => by
    have e0 : (⟨#[45]⟩ : ByteArray).data.toList = [45] := rfl
    rw [e0, cut_one] at h1
    exact ⟨⟨(one 45 s.data.toList).1.toArray⟩, ⟨(one 45 s.data.toList).2.1.toArray⟩, h1, by simp, by simp, by rw [h2]; exact below_drawn w n⟩
theorem one_le (c : UInt8) (l : List UInt8) : (one c l).1.length ≤ l.length ∧ (one c l).2.1.length ≤ l.length := by
  unfold one
  have h := congrArg List.length (List.takeWhile_append_dropWhile (p := (· != c)) (l := l))
  simp only [List.length_append] at h
  simp only [List.length_drop]
  omega
theorem size_of {s : ByteArray} {l : List UInt8} (h : s.data.toList = l) : s.size = l.length := by rw [← h]; simp
theorem res4 {w w3 : World} {a b c d : Value} {T : TypeId} (hb : Below (w.heap.size + 1) (w.alloc (.cells #[a, b, c, d] T)) w3) :
    (w3.cell? ⟨w.heap.size, 0, none⟩ = some a ∧ w3.cell? ⟨w.heap.size, 1, none⟩ = some b ∧ w3.cell? ⟨w.heap.size, 2, none⟩ = some c ∧ w3.cell? ⟨w.heap.size, 3, none⟩ = some d) ∧
    (∀ o, w3.frozen? ⟨w.heap.size, o, none⟩ = false) ∧ w.heap.size < w3.heap.size := by
  refine ⟨⟨?_, ?_, ?_, ?_⟩, ?_, ?_⟩
  · rw [hb.cell (by simp)]; simp
  · rw [hb.cell (by simp)]; simp
  · rw [hb.cell (by simp)]; simp
  · rw [hb.cell (by simp)]; simp
  · intro o; rw [hb.frozen (by simp)]; simp
  · have := hb.size; simp at this; omega
set_option maxHeartbeats 1000000 in
theorem vsplit_shape (s : ByteArray) (aT aB : Addr) (m : Int) (w : World) (hs : s.size < 4294967281) (S : Vs w aT aB m) (h0 : marked s.data.toList = false ∨ (coreOf s.data.toList).length ≠ 3) :
    Calls Tryz.prog 57 #[.string s] w fun e w' => e = .returned (.tuple #[.agg #[.int .i64 0, .int .i64 0, .int .i64 0, .slice none 0 0], .iface 169 (.pointer (some aT))]) ∧ Below w.heap.size w w' := by
  have HB0 := hid ((Below.refl w.heap.size w).alloc (Nat.le_refl _) (.cells #[.int .i64 0, .int .i64 0, .int .i64 0, .slice none 0 0] 85))
  have HS := hid (S.below HB0.out)
  have H0 := hid h0
  have hne1 : ¬ w.heap.size = 6 := by have := lt_of_cell S.t; simp at this; omega
  have hne2 : ¬ 6 = w.heap.size := fun h => hne1 h.symm
  clear S h0
  go_enter Tryz.func57, Tryz.ntmps57
  go_wp2_with fail
  refine (cutPrefix_any s _).mono ?_
  rintro e w1 ⟨R, rfl, hR, rfl⟩
  have HR := hid hR
  have hRs : R.size < 4294967281 := by
    have h1 := size_of hR
    have h2 := restOf_le s.data.toList
    simp at h2; omega
  clear hR
  go_wp2_with fail
  refine (cut_any R m _ hRs HS.out.ml).mono ?_
  rintro e w2 ⟨C, T, rfl, hC, hT, hb2⟩
  have HC := hid hC
  have hCs : C.size < 4294967281 := by
    have h1 := size_of hC
    have h2 := (one_le 45 R.data.toList).1
    simp at h2; omega
  have HB2 := hid (show Below (w.heap.size + 1) (w.alloc (.cells #[.int .i64 0, .int .i64 0, .int .i64 0, .slice none 0 0] 85)) w2 from hb2.mono (by simp))
  have HS2 := hid (HS.out.below hb2)
  clear hC hT hb2
  go_wp2_with fail
  refine (nums_any C aT aB m w2 hCs HS2.out).mono ?_
  rintro e w3 ⟨v, rfl, hown, hb3⟩
  have HO := hid hown
  have HB3 := hid (HB2.out.trans (hb3.mono (by have := HB2.out.size; simpa using this)))
  obtain ⟨⟨r0, r1, r2, r3⟩, rf, rz⟩ := res4 HB3.out
  have HS3 := hid (HS2.out.below hb3)
  have g := HS3.out.t
  have HBF := hid (HB0.out.trans (HB3.out.mono (by omega)))
  have hCC : cutAt 46 C.data.toList = coreOf s.data.toList := by rw [HC.out, HR.out]; rfl
  rw [hCC] at HO
  clear hown hb3 hCC
  cases hmk : marked s.data.toList
  · clear hmk
    go_wp2_with fail
    go_region
    all_goals (try go_wp2)
    all_goals
      refine bodyPost_ret (v := .tuple #[.agg #[.int .i64 0, .int .i64 0, .int .i64 0, .slice none 0 0], .iface 169 (.pointer (some aT))]) (by simp [results, Tryz.results57, go_sem, r0, r1, r2, r3]) rfl ⟨rfl, ?_⟩
      exact ((((HBF.out.setCell (Nat.le_refl _) _).setCell (Nat.le_refl _) _).setCell (Nat.le_refl _) _).setCell (Nat.le_refl _) _).drew
  · have h3 : (((coreOf s.data.toList).length : Int) == 3) = false := by
      rcases H0.out with h | h
      · rw [hmk] at h; cases h
      · simp; omega
    clear hmk
    obtain ⟨_, ⟨_, hn0⟩ | ⟨g9, cap, cur, hv, _⟩⟩ := HO.out
    · exact absurd (List.length_eq_zero_iff.1 hn0) (cutAt_ne _ _)
    · subst hv
      generalize (coreOf s.data.toList).length = n at *
      go_wp2_with fail
      go_region
      all_goals (try go_wp2)
      all_goals
        refine bodyPost_ret (v := .tuple #[.agg #[.int .i64 0, .int .i64 0, .int .i64 0, .slice none 0 0], .iface 169 (.pointer (some aT))]) (by simp [results, Tryz.results57, go_sem, r0, r1, r2, r3]) rfl ⟨rfl, ?_⟩
        exact ((((HBF.out.setCell (Nat.le_refl _) _).setCell (Nat.le_refl _) _).setCell (Nat.le_refl _) _).setCell (Nat.le_refl _) _).drew
def StrsAt (w : World) (v : Value) (X : List ByteArray) : Prop :=
  (X = [] ∧ v = .slice none 0 0) ∨ (X ≠ [] ∧ ∃ b, v = .slice (some ⟨b, 0, none⟩) X.length X.length ∧ b < w.heap.size ∧ ∀ j (h : j < X.length), w.cell? ⟨b, 0 + j, none⟩ = some (.string X[j]))
theorem StrsAt.below {w w' : World} {v : Value} {X : List ByteArray} (h : StrsAt w v X) (hb : Below w.heap.size w w') : StrsAt w' v X := by
  rcases h with h | ⟨h, b, e1, e2, e3⟩
  · exact Or.inl h
  · exact Or.inr ⟨h, b, e1, Nat.lt_of_lt_of_le e2 hb.size, fun j hj => cell_below hb (e3 j hj)⟩
def nAt (l : List UInt8) (i : Nat) : Int := (numsOf (coreOf l)).getD i 0
theorem n_three {l : List UInt8} (h : (coreOf l).length = 3) : numsOf (coreOf l) = [nAt l 0, nAt l 1, nAt l 2] := by
  unfold nAt
  have : (numsOf (coreOf l)).length = 3 := by rw [numsOf_len, h]
  match hq : numsOf (coreOf l), this with
  | [a, b, c], _ => rfl
theorem three_cells {w : World} {g : Nat} {cur : Array Value} {e : TypeId} {a b c : Int} (hb : w.heap[g]? = some (.cells cur e (0, 0))) (ht : cur.toList.take (3 * 1) = [a, b, c].map (Value.int .i64)) :
    w.cell? ⟨g, 0, none⟩ = some (.int .i64 a) ∧ w.cell? ⟨g, 1, none⟩ = some (.int .i64 b) ∧ w.cell? ⟨g, 2, none⟩ = some (.int .i64 c) := by
  have key : ∀ i, i < 3 → cur[i]? = ([a, b, c].map (Value.int .i64))[i]? := fun i hi => by
    rw [← ht, List.getElem?_take, if_pos (by omega)]; simp
  have k0 := key 0 (by omega)
  have k1 := key 1 (by omega)
  have k2 := key 2 (by omega)
  simp at k0 k1 k2
  simp [World.cell?, hb, k0, k1, k2]
set_option maxHeartbeats 1000000 in
theorem vsplit_num (s : ByteArray) (aT aB : Addr) (m : Int) (w : World) (hs : s.size < 4294967281) (S : Vs w aT aB m) (hmk : marked s.data.toList = true) (h3 : (coreOf s.data.toList).length = 3) (hp : hasPre s.data.toList = false) (hq : numsErr (coreOf s.data.toList) ≠ 0) :
    Calls Tryz.prog 57 #[.string s] w fun e w' => e = .returned (.tuple #[.agg #[.int .i64 0, .int .i64 0, .int .i64 0, .slice none 0 0], errV aT aB (numsErr (coreOf s.data.toList))]) ∧ Below w.heap.size w w' := by
  have HQ := hid hq
  clear hq
  have HB0 := hid ((Below.refl w.heap.size w).alloc (Nat.le_refl _) (.cells #[.int .i64 0, .int .i64 0, .int .i64 0, .slice none 0 0] 85))
  have HS := hid (S.below HB0.out)
  have hne1 : ¬ w.heap.size = 6 := by have := lt_of_cell S.t; simp at this; omega
  have hne2 : ¬ 6 = w.heap.size := fun h => hne1 h.symm
  have HM := hid hmk
  have H3 := hid h3
  have HP := hid hp
  clear S hmk h3 hp
  go_enter Tryz.func57, Tryz.ntmps57
  go_wp2_with fail
  refine (cutPrefix_any s _).mono ?_
  rintro e w1 ⟨R, rfl, hR, rfl⟩
  rw [HM.out]
  have HR := hid hR
  have hRs : R.size < 4294967281 := by
    have h1 := size_of hR
    have h2 := restOf_le s.data.toList
    simp at h2; omega
  clear hR
  go_wp2_with fail
  refine (cut_any R m _ hRs HS.out.ml).mono ?_
  rintro e w2 ⟨C, T, rfl, hC, hT, hb2⟩
  rw [show (one 45 R.data.toList).2.2 = false by rw [HR.out]; exact HP.out]
  have HC := hid hC
  have HT := hid hT
  have hCs : C.size < 4294967281 := by
    have h1 := size_of hC
    have h2 := (one_le 45 R.data.toList).1
    simp at h2; omega
  have hTs : T.size < 4294967281 := by
    have h1 := size_of hT
    have h2 := (one_le 45 R.data.toList).2
    simp at h2; omega
  have HB2 := hid (show Below (w.heap.size + 1) (w.alloc (.cells #[.int .i64 0, .int .i64 0, .int .i64 0, .slice none 0 0] 85)) w2 from hb2.mono (by simp))
  have HS2 := hid (HS.out.below hb2)
  clear hC hT hb2
  go_wp2_with fail
  refine (nums_any C aT aB m w2 hCs HS2.out).mono ?_
  rintro e w3 ⟨v, rfl, hown, hb3⟩
  have hCC : cutAt 46 C.data.toList = coreOf s.data.toList := by rw [HC.out, HR.out]; rfl
  rw [hCC] at hown ⊢
  rw [H3.out, n_three H3.out] at hown
  have HB3 := hid (HB2.out.trans (hb3.mono (by have := HB2.out.size; simpa using this)))
  have HS3 := hid (HS2.out.below hb3)
  have HZ := hid (show w.heap.size + 1 ≤ w2.heap.size by have := HB2.out.size; simpa using this)
  obtain ⟨_, ⟨_, hn0⟩ | ⟨g9, cap, cur, hv, hg9, hblk, hcap, hcm, hcs, hct⟩⟩ := hown
  · cases hn0
  subst hv
  have HK := hid (show w3.cell? ⟨g9, 0, none⟩ = some (.int .i64 (nAt s.data.toList 0)) ∧ w3.cell? ⟨g9, 1, none⟩ = some (.int .i64 (nAt s.data.toList 1)) ∧ w3.cell? ⟨g9, 2, none⟩ = some (.int .i64 (nAt s.data.toList 2)) from three_cells hblk hct)
  have HG := hid hg9
  clear hg9 hblk hcap hcm hcs hct hb3 hCC
  have HE := hid (numsErr_err (coreOf s.data.toList))
  rcases HE.out with h | h | h
  · exact absurd h HQ.out
  · have HH := hid h
    rw [h, errV1]
    clear h
    obtain ⟨⟨r0, r1, r2, r3⟩, rf, rz⟩ := res4 HB3.out
    have HBF := hid (HB0.out.trans (HB3.out.mono (by omega)))
    go_wp2_with fail
    refine bodyPost_ret (v := .tuple #[.agg #[.int .i64 0, .int .i64 0, .int .i64 0, .slice none 0 0], .iface 169 (.pointer (some aT))]) (by simp [results, Tryz.results57, go_sem, r0, r1, r2, r3]) rfl ⟨by rw [HH.out]; rfl, ?_⟩
    exact (((HBF.out.setCell (Nat.le_refl _) _).setCell (Nat.le_refl _) _).setCell (Nat.le_refl _) _).setCell (Nat.le_refl _) _
  · have HH := hid h
    rw [h, errV2]
    clear h
    obtain ⟨⟨r0, r1, r2, r3⟩, rf, rz⟩ := res4 HB3.out
    have HBF := hid (HB0.out.trans (HB3.out.mono (by omega)))
    go_wp2_with fail
    refine bodyPost_ret (v := .tuple #[.agg #[.int .i64 0, .int .i64 0, .int .i64 0, .slice none 0 0], .iface 169 (.pointer (some aB))]) (by simp [results, Tryz.results57, go_sem, r0, r1, r2, r3]) rfl ⟨by rw [HH.out]; rfl, ?_⟩
    exact (((HBF.out.setCell (Nat.le_refl _) _).setCell (Nat.le_refl _) _).setCell (Nat.le_refl _) _).setCell (Nat.le_refl _) _
set_option maxHeartbeats 1000000 in
theorem vsplit_plain (s : ByteArray) (aT aB : Addr) (m : Int) (w : World) (hs : s.size < 4294967281) (S : Vs w aT aB m) (hmk : marked s.data.toList = true) (h3 : (coreOf s.data.toList).length = 3) (hp : hasPre s.data.toList = false) (hq : numsErr (coreOf s.data.toList) = 0) :
    Calls Tryz.prog 57 #[.string s] w fun e w' => e = .returned (.tuple #[.agg #[.int .i64 (nAt s.data.toList 0), .int .i64 (nAt s.data.toList 1), .int .i64 (nAt s.data.toList 2), .slice none 0 0], .nilIface]) ∧ Below w.heap.size w w' := by
  have HQ := hid hq
  clear hq
  have HB0 := hid ((Below.refl w.heap.size w).alloc (Nat.le_refl _) (.cells #[.int .i64 0, .int .i64 0, .int .i64 0, .slice none 0 0] 85))
  have HS := hid (S.below HB0.out)
  have hne1 : ¬ w.heap.size = 6 := by have := lt_of_cell S.t; simp at this; omega
  have hne2 : ¬ 6 = w.heap.size := fun h => hne1 h.symm
  have HM := hid hmk
  have H3 := hid h3
  have HP := hid hp
  clear S hmk h3 hp
  go_enter Tryz.func57, Tryz.ntmps57
  go_wp2_with fail
  refine (cutPrefix_any s _).mono ?_
  rintro e w1 ⟨R, rfl, hR, rfl⟩
  rw [HM.out]
  have HR := hid hR
  have hRs : R.size < 4294967281 := by
    have h1 := size_of hR
    have h2 := restOf_le s.data.toList
    simp at h2; omega
  clear hR
  go_wp2_with fail
  refine (cut_any R m _ hRs HS.out.ml).mono ?_
  rintro e w2 ⟨C, T, rfl, hC, hT, hb2⟩
  rw [show (one 45 R.data.toList).2.2 = false by rw [HR.out]; exact HP.out]
  have HC := hid hC
  have HT := hid hT
  have hCs : C.size < 4294967281 := by
    have h1 := size_of hC
    have h2 := (one_le 45 R.data.toList).1
    simp at h2; omega
  have hTs : T.size < 4294967281 := by
    have h1 := size_of hT
    have h2 := (one_le 45 R.data.toList).2
    simp at h2; omega
  have HB2 := hid (show Below (w.heap.size + 1) (w.alloc (.cells #[.int .i64 0, .int .i64 0, .int .i64 0, .slice none 0 0] 85)) w2 from hb2.mono (by simp))
  have HS2 := hid (HS.out.below hb2)
  clear hC hT hb2
  go_wp2_with fail
  refine (nums_any C aT aB m w2 hCs HS2.out).mono ?_
  rintro e w3 ⟨v, rfl, hown, hb3⟩
  have hCC : cutAt 46 C.data.toList = coreOf s.data.toList := by rw [HC.out, HR.out]; rfl
  rw [hCC] at hown ⊢
  rw [H3.out, n_three H3.out] at hown
  have HB3 := hid (HB2.out.trans (hb3.mono (by have := HB2.out.size; simpa using this)))
  have HS3 := hid (HS2.out.below hb3)
  have HZ := hid (show w.heap.size + 1 ≤ w2.heap.size by have := HB2.out.size; simpa using this)
  obtain ⟨_, ⟨_, hn0⟩ | ⟨g9, cap, cur, hv, hg9, hblk, hcap, hcm, hcs, hct⟩⟩ := hown
  · cases hn0
  subst hv
  have HK := hid (show w3.cell? ⟨g9, 0, none⟩ = some (.int .i64 (nAt s.data.toList 0)) ∧ w3.cell? ⟨g9, 1, none⟩ = some (.int .i64 (nAt s.data.toList 1)) ∧ w3.cell? ⟨g9, 2, none⟩ = some (.int .i64 (nAt s.data.toList 2)) from three_cells hblk hct)
  have HG := hid hg9
  clear hg9 hblk hcap hcm hcs hct hb3 hCC
  rw [HQ.out, errV0]
  obtain ⟨⟨r0, r1, r2, r3⟩, rf, rz⟩ := res4 HB3.out
  have HBF := hid (HB0.out.trans (HB3.out.mono (by omega)))
  obtain ⟨k0, k1, k2⟩ := HK.out
  have hg9 : ¬ g9 = w.heap.size := by have h1 := HG.out; have h2 := HZ.out; omega
  have hg9' : ¬ w.heap.size = g9 := fun h => hg9 h.symm
  generalize hn0 : nAt s.data.toList 0 = n0 at *
  generalize hn1 : nAt s.data.toList 1 = n1 at *
  generalize hn2 : nAt s.data.toList 2 = n2 at *
  have HN0 := hid hn0
  have HN1 := hid hn1
  have HN2 := hid hn2
  clear hn0 hn1 hn2
  go_wp2_with fail
  go_region
  all_goals (try go_wp2)
  all_goals
    refine bodyPost_ret (v := .tuple #[.agg #[.int .i64 n0, .int .i64 n1, .int .i64 n2, .slice none 0 0], .nilIface]) (by simp [results, Tryz.results57, go_sem, r0, r1, r2, r3]) rfl ⟨by rw [HN0.out, HN1.out, HN2.out], ?_⟩
    exact ((((HBF.out.setCell (Nat.le_refl _) _).setCell (Nat.le_refl _) _).setCell (Nat.le_refl _) _).setCell (Nat.le_refl _) _).drew
end Ve
end Go.Proofs.YtiebgeamfblbdaaGreatDoor
namespace Go.Proofs.YtiebgeamfblbdaaGreatDoor
open Go.RowKit
namespace Ve
end Ve
end Go.Proofs.YtiebgeamfblbdaaGreatDoor
