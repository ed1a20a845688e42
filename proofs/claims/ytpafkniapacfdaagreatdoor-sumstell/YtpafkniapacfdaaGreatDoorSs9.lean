/-
  What Split of package ver answers where there is a pre; and, out of all its ways, for any text (of fewer than 4294967281 bytes).
-/
import Derived.Test.YtpafkniapacfdaaGreatDoorSs7
import Derived.Test.YtpafkniapacfdaaGreatDoorSs8
import Derived.Test.YtpafkniapacfdaaGreatDoorSs1
import Derived.Test.YtpafkniapacfdaaGreatDoorSs4
import Derived.TacticsInMore
import Derived.LoopNIn
import Derived.LoopIn
import Derived.RegionIn
import Derived.RangeFuncLeaves
namespace Go.Proofs.YtpafkniapacfdaaGreatDoor
open Go.RowKit
namespace Ve

set_option maxHeartbeats 1000000 in
/-- A pre, but something is wrong. -/
theorem vsplit_pbad (s : ByteArray) (aT aB : Addr) (m : Int) (w : World) (hs : s.size < 4294967281) (S : Vs w aT aB m) (hmk : marked s.data.toList = true) (h3 : (coreOf s.data.toList).length = 3) (hp : hasPre s.data.toList = true) (hq : worse (numsErr (coreOf s.data.toList)) (pre (preOf s.data.toList)) ≠ 0) :
    Calls Tryz.prog 106 #[.string s] w fun e w' => e = .returned (.tuple #[.agg #[.int .i64 0, .int .i64 0, .int .i64 0, .slice none 0 0], errV aT aB (worse (numsErr (coreOf s.data.toList)) (pre (preOf s.data.toList)))]) ∧ Below w.heap.size w w' := by
  have HQ := hid hq
  clear hq
  have HB0 := hid ((Below.refl w.heap.size w).alloc (Nat.le_refl _) (.cells #[.int .i64 0, .int .i64 0, .int .i64 0, .slice none 0 0] 162))
  have HS := hid (S.below HB0.out)
  have hne1 : ¬ w.heap.size = 4 := by have := lt_of_cell S.t; simp at this; omega
  have hne2 : ¬ 4 = w.heap.size := fun h => hne1 h.symm
  have HM := hid hmk
  have H3 := hid h3
  have HP := hid hp
  clear S hmk h3 hp
  go_enter Tryz.func106, Tryz.ntmps106
  go_wp2_with fail
  refine (cutPrefix_any s _).mono ?_
  rintro e w1 ⟨R, rfl, hR, rfl⟩
  rw [HM.out]
  have HR := hid hR
  have hRs : R.size < 4294967281 := by
    have h1 := size_of hR
    have h2 := restOf_le s.data.toList
    simp at h2; omega
  clear hR
  go_wp2_with fail
  refine (cut_any R m _ hRs HS.out.ml).mono ?_
  rintro e w2 ⟨C, T, rfl, hC, hT, hb2⟩
  rw [show (one 45 R.data.toList).2.2 = true by rw [HR.out]; exact HP.out]
  have HC := hid hC
  have HT := hid hT
  have hCs : C.size < 4294967281 := by
    have h1 := size_of hC
    have h2 := (one_le 45 R.data.toList).1
    simp at h2; omega
  have hTs : T.size < 4294967281 := by
    have h1 := size_of hT
    have h2 := (one_le 45 R.data.toList).2
    simp at h2; omega
  have HB2 := hid (show Below (w.heap.size + 1) (w.alloc (.cells #[.int .i64 0, .int .i64 0, .int .i64 0, .slice none 0 0] 162)) w2 from hb2.mono (by simp))
  have HS2 := hid (HS.out.below hb2)
  clear hC hT hb2
  go_wp2_with fail
  refine (nums_any C aT aB m w2 hCs HS2.out).mono ?_
  rintro e w3 ⟨v, rfl, hown, hb3⟩
  have hCC : cutAt 46 C.data.toList = coreOf s.data.toList := by rw [HC.out, HR.out]; rfl
  rw [hCC] at hown ⊢
  rw [H3.out, n_three H3.out] at hown
  have HB3 := hid (HB2.out.trans (hb3.mono (by have := HB2.out.size; simpa using this)))
  have HS3 := hid (HS2.out.below hb3)
  have HZ := hid (show w.heap.size + 1 ≤ w2.heap.size by have := HB2.out.size; simpa using this)
  obtain ⟨_, ⟨_, hn0⟩ | ⟨g9, cap, cur, hv, hg9, hblk, hcap, hcm, hcs, hct⟩⟩ := hown
  · cases hn0
  subst hv
  have HK := hid (show w3.cell? ⟨g9, 0, none⟩ = some (.int .i64 (nAt s.data.toList 0)) ∧ w3.cell? ⟨g9, 1, none⟩ = some (.int .i64 (nAt s.data.toList 1)) ∧ w3.cell? ⟨g9, 2, none⟩ = some (.int .i64 (nAt s.data.toList 2)) from three_cells hblk hct)
  have HG := hid hg9
  clear hg9 hblk hcap hcm hcs hct hb3 hCC
  go_wp2_with fail
  refine (split_any 46 T m w3 hTs HS3.out.ml).mono ?_
  rintro e w4 ⟨X, rfl, hX, hxc, hb4, hz4⟩
  have hPX : bl X = preOf s.data.toList := by rw [hX, HT.out, HR.out]; unfold preOf; rw [HP.out]; rfl
  have HX := hid hX
  have HPX := hid hPX
  have HXC := hid hxc
  have HS4 := hid (HS3.out.below hb4)
  have HB4 := hid hb4
  have HZ3 := hid HB3.out.size
  have hn := many_le hX
  have HXS : Hid (∀ x, x ∈ X → x.size ≤ maxLen) := fun x hx => by have := piece_le HX.out hx; unfold maxLen; omega
  have HZ4 := hid hz4
  clear hX hxc hb4 hPX hz4
  go_wp2_with fail
  refine (pre_some w3.heap.size 0 X.length X aT aB m w4 HS4.out (by omega) HXS.out HXC.out).mono ?_
  rintro e w5 ⟨rfl, hb5⟩
  rw [HPX.out]
  have HS5 := hid (HS4.out.below hb5)
  have HB5 := hid (HB4.out.trans (hb5.mono HB4.out.size))
  have HX5 := hid (show ∀ j (h : j < X.length), w5.cell? ⟨w3.heap.size, 0 + j, none⟩ = some (.string X[j]) from fun j h => cell_below hb5 (HXC.out j h))
  have HZ5 := hid (show w3.heap.size < w5.heap.size from Nat.lt_of_lt_of_le HZ4.out hb5.size)
  clear hb5
  have HE1 := hid (numsErr_err (coreOf s.data.toList))
  have HE2 := hid (pre_err (preOf s.data.toList))
  go_wp2_with fail
  refine (worse_any _ _ aT aB m w5 HS5.out HE1.out HE2.out).mono ?_
  rintro e w6 ⟨rfl, hw6⟩
  have HB6 := hid (show Below (w.heap.size + 1) (w.alloc (.cells #[.int .i64 0, .int .i64 0, .int .i64 0, .slice none 0 0] 162)) w6 by
    rw [hw6]; exact HB3.out.trans (HB5.out.mono (by have := HZ3.out; simp at this; omega)))
  have HE := hid (worse_err HE1.out HE2.out)
  rcases HE.out with h | h | h
  · exact absurd h HQ.out
  · have HH := hid h
    rw [h, errV1]
    clear h hw6
    obtain ⟨⟨r0, r1, r2, r3⟩, rf, rz⟩ := res4 HB6.out
    have HBF := hid (HB0.out.trans (HB6.out.mono (by omega)))
    go_wp2_with fail
    refine bodyPost_ret (v := .tuple #[.agg #[.int .i64 0, .int .i64 0, .int .i64 0, .slice none 0 0], .iface 291 (.pointer (some aT))]) (by simp [results, Tryz.results106, go_sem, r0, r1, r2, r3]) rfl ⟨by rw [HH.out]; rfl, ?_⟩
    exact (((HBF.out.setCell (Nat.le_refl _) _).setCell (Nat.le_refl _) _).setCell (Nat.le_refl _) _).setCell (Nat.le_refl _) _
  · have HH := hid h
    rw [h, errV2]
    clear h hw6
    obtain ⟨⟨r0, r1, r2, r3⟩, rf, rz⟩ := res4 HB6.out
    have HBF := hid (HB0.out.trans (HB6.out.mono (by omega)))
    go_wp2_with fail
    refine bodyPost_ret (v := .tuple #[.agg #[.int .i64 0, .int .i64 0, .int .i64 0, .slice none 0 0], .iface 291 (.pointer (some aB))]) (by simp [results, Tryz.results106, go_sem, r0, r1, r2, r3]) rfl ⟨by rw [HH.out]; rfl, ?_⟩
    exact (((HBF.out.setCell (Nat.le_refl _) _).setCell (Nat.le_refl _) _).setCell (Nat.le_refl _) _).setCell (Nat.le_refl _) _

set_option maxHeartbeats 1000000 in
/-- A pre, and right. -/
theorem vsplit_pgood (s : ByteArray) (aT aB : Addr) (m : Int) (w : World) (hs : s.size < 4294967281) (S : Vs w aT aB m) (hmk : marked s.data.toList = true) (h3 : (coreOf s.data.toList).length = 3) (hp : hasPre s.data.toList = true) (hq : worse (numsErr (coreOf s.data.toList)) (pre (preOf s.data.toList)) = 0) :
    Calls Tryz.prog 106 #[.string s] w fun e w' => ∃ b X, e = .returned (.tuple #[.agg #[.int .i64 (nAt s.data.toList 0), .int .i64 (nAt s.data.toList 1), .int .i64 (nAt s.data.toList 2), .slice (some ⟨b, 0, none⟩) X.length X.length], .nilIface]) ∧
      bl X = preOf s.data.toList ∧ b < w'.heap.size ∧ (∀ j (h : j < X.length), w'.cell? ⟨b, 0 + j, none⟩ = some (.string X[j])) ∧ Below w.heap.size w w' := by
  have HQ := hid hq
  clear hq
  have HB0 := hid ((Below.refl w.heap.size w).alloc (Nat.le_refl _) (.cells #[.int .i64 0, .int .i64 0, .int .i64 0, .slice none 0 0] 162))
  have HS := hid (S.below HB0.out)
  have hne1 : ¬ w.heap.size = 4 := by have := lt_of_cell S.t; simp at this; omega
  have hne2 : ¬ 4 = w.heap.size := fun h => hne1 h.symm
  have HM := hid hmk
  have H3 := hid h3
  have HP := hid hp
  clear S hmk h3 hp
  go_enter Tryz.func106, Tryz.ntmps106
  go_wp2_with fail
  refine (cutPrefix_any s _).mono ?_
  rintro e w1 ⟨R, rfl, hR, rfl⟩
  rw [HM.out]
  have HR := hid hR
  have hRs : R.size < 4294967281 := by
    have h1 := size_of hR
    have h2 := restOf_le s.data.toList
    simp at h2; omega
  clear hR
  go_wp2_with fail
  refine (cut_any R m _ hRs HS.out.ml).mono ?_
  rintro e w2 ⟨C, T, rfl, hC, hT, hb2⟩
  rw [show (one 45 R.data.toList).2.2 = true by rw [HR.out]; exact HP.out]
  have HC := hid hC
  have HT := hid hT
  have hCs : C.size < 4294967281 := by
    have h1 := size_of hC
    have h2 := (one_le 45 R.data.toList).1
    simp at h2; omega
  have hTs : T.size < 4294967281 := by
    have h1 := size_of hT
    have h2 := (one_le 45 R.data.toList).2
    simp at h2; omega
  have HB2 := hid (show Below (w.heap.size + 1) (w.alloc (.cells #[.int .i64 0, .int .i64 0, .int .i64 0, .slice none 0 0] 162)) w2 from hb2.mono (by simp))
  have HS2 := hid (HS.out.below hb2)
  clear hC hT hb2
  go_wp2_with fail
  refine (nums_any C aT aB m w2 hCs HS2.out).mono ?_
  rintro e w3 ⟨v, rfl, hown, hb3⟩
  have hCC : cutAt 46 C.data.toList = coreOf s.data.toList := by rw [HC.out, HR.out]; rfl
  rw [hCC] at hown ⊢
  rw [H3.out, n_three H3.out] at hown
  have HB3 := hid (HB2.out.trans (hb3.mono (by have := HB2.out.size; simpa using this)))
  have HS3 := hid (HS2.out.below hb3)
  have HZ := hid (show w.heap.size + 1 ≤ w2.heap.size by have := HB2.out.size; simpa using this)
  obtain ⟨_, ⟨_, hn0⟩ | ⟨g9, cap, cur, hv, hg9, hblk, hcap, hcm, hcs, hct⟩⟩ := hown
  · cases hn0
  subst hv
  have HK := hid (show w3.cell? ⟨g9, 0, none⟩ = some (.int .i64 (nAt s.data.toList 0)) ∧ w3.cell? ⟨g9, 1, none⟩ = some (.int .i64 (nAt s.data.toList 1)) ∧ w3.cell? ⟨g9, 2, none⟩ = some (.int .i64 (nAt s.data.toList 2)) from three_cells hblk hct)
  have HG := hid hg9
  clear hg9 hblk hcap hcm hcs hct hb3 hCC
  go_wp2_with fail
  refine (split_any 46 T m w3 hTs HS3.out.ml).mono ?_
  rintro e w4 ⟨X, rfl, hX, hxc, hb4, hz4⟩
  have hPX : bl X = preOf s.data.toList := by rw [hX, HT.out, HR.out]; unfold preOf; rw [HP.out]; rfl
  have HX := hid hX
  have HPX := hid hPX
  have HXC := hid hxc
  have HS4 := hid (HS3.out.below hb4)
  have HB4 := hid hb4
  have HZ3 := hid HB3.out.size
  have hn := many_le hX
  have HXS : Hid (∀ x, x ∈ X → x.size ≤ maxLen) := fun x hx => by have := piece_le HX.out hx; unfold maxLen; omega
  have HZ4 := hid hz4
  clear hX hxc hb4 hPX hz4
  go_wp2_with fail
  refine (pre_some w3.heap.size 0 X.length X aT aB m w4 HS4.out (by omega) HXS.out HXC.out).mono ?_
  rintro e w5 ⟨rfl, hb5⟩
  rw [HPX.out]
  have HS5 := hid (HS4.out.below hb5)
  have HB5 := hid (HB4.out.trans (hb5.mono HB4.out.size))
  have HX5 := hid (show ∀ j (h : j < X.length), w5.cell? ⟨w3.heap.size, 0 + j, none⟩ = some (.string X[j]) from fun j h => cell_below hb5 (HXC.out j h))
  have HZ5 := hid (show w3.heap.size < w5.heap.size from Nat.lt_of_lt_of_le HZ4.out hb5.size)
  clear hb5
  have HE1 := hid (numsErr_err (coreOf s.data.toList))
  have HE2 := hid (pre_err (preOf s.data.toList))
  go_wp2_with fail
  refine (worse_any _ _ aT aB m w5 HS5.out HE1.out HE2.out).mono ?_
  rintro e w6 ⟨rfl, hw6⟩
  have HB6 := hid (show Below (w.heap.size + 1) (w.alloc (.cells #[.int .i64 0, .int .i64 0, .int .i64 0, .slice none 0 0] 162)) w6 by
    rw [hw6]; exact HB3.out.trans (HB5.out.mono (by have := HZ3.out; simp at this; omega)))
  rw [HQ.out, errV0]
  obtain ⟨⟨r0, r1, r2, r3⟩, rf, rz⟩ := res4 HB6.out
  have HBF := hid (HB0.out.trans (HB6.out.mono (by omega)))
  obtain ⟨k0, k1, k2⟩ := HK.out
  have hg9 : ¬ g9 = w.heap.size := by have h1 := HG.out; have h2 := HZ.out; omega
  have hg9' : ¬ w.heap.size = g9 := fun h => hg9 h.symm
  have hb9 : ¬ w3.heap.size = w.heap.size := by have h1 := HZ3.out; simp at h1; omega
  have c0 : w6.cell? ⟨g9, 0, none⟩ = some (.int .i64 (nAt s.data.toList 0)) := by rw [hw6]; exact cell_below HB5.out k0
  have c1 : w6.cell? ⟨g9, 1, none⟩ = some (.int .i64 (nAt s.data.toList 1)) := by rw [hw6]; exact cell_below HB5.out k1
  have c2 : w6.cell? ⟨g9, 2, none⟩ = some (.int .i64 (nAt s.data.toList 2)) := by rw [hw6]; exact cell_below HB5.out k2
  have HX6 := hid (show ∀ j (h : j < X.length), w6.cell? ⟨w3.heap.size, 0 + j, none⟩ = some (.string X[j]) from hw6 ▸ HX5.out)
  have HZ6 := hid (show w3.heap.size < w6.heap.size from hw6 ▸ HZ5.out)
  clear hw6 k0 k1 k2
  generalize hn0 : nAt s.data.toList 0 = n0 at *
  generalize hn1 : nAt s.data.toList 1 = n1 at *
  generalize hn2 : nAt s.data.toList 2 = n2 at *
  have HN0 := hid hn0
  have HN1 := hid hn1
  have HN2 := hid hn2
  clear hn0 hn1 hn2
  go_wp2_with fail
  go_region
  all_goals (try go_wp2)
  all_goals
    refine bodyPost_ret (v := .tuple #[.agg #[.int .i64 n0, .int .i64 n1, .int .i64 n2, .slice (some ⟨w3.heap.size, 0, none⟩) X.length X.length], .nilIface]) (by simp [results, Tryz.results106, go_sem, r0, r1, r2, r3]) rfl ⟨w3.heap.size, X, by rw [HN0.out, HN1.out, HN2.out], HPX.out, ?_, ?_, ?_⟩
    · simpa using HZ6.out
    · intro j h
      have := HX6.out j h
      simpa [World.cell?_setCell_other, hb9, fun h : w.heap.size = w3.heap.size => hb9 h.symm] using this
    · exact ((((HBF.out.setCell (Nat.le_refl _) _).setCell (Nat.le_refl _) _).setCell (Nat.le_refl _) _).setCell (Nat.le_refl _) _).drew

/-- Split of what is no version. -/
theorem vsplit_bad (s : ByteArray) (aT aB : Addr) (m : Int) (w : World) (hs : s.size < 4294967281) (S : Vs w aT aB m) (h : verErr s.data.toList ≠ 0) :
    Calls Tryz.prog 106 #[.string s] w fun e w' => e = .returned (.tuple #[.agg #[.int .i64 0, .int .i64 0, .int .i64 0, .slice none 0 0], errV aT aB (verErr s.data.toList)]) ∧ Below w.heap.size w w' := by
  by_cases h0 : marked s.data.toList = false ∨ (coreOf s.data.toList).length ≠ 3
  · have e : verErr s.data.toList = 1 := by unfold verErr; rw [if_pos h0]
    rw [e]; exact vsplit_shape s aT aB m w hs S h0
  · have h1 : marked s.data.toList = true := by
      cases hm : marked s.data.toList
      · exact absurd (Or.inl hm) h0
      · rfl
    have h3 : (coreOf s.data.toList).length = 3 := Decidable.byContradiction fun hn => h0 (Or.inr hn)
    cases hp : hasPre s.data.toList
    · have e : verErr s.data.toList = numsErr (coreOf s.data.toList) := by unfold verErr; rw [if_neg h0, hp]; rfl
      rw [e] at h ⊢; exact vsplit_num s aT aB m w hs S h1 h3 hp h
    · have e : verErr s.data.toList = worse (numsErr (coreOf s.data.toList)) (pre (preOf s.data.toList)) := by unfold verErr; rw [if_neg h0, hp]; rfl
      rw [e] at h ⊢; exact vsplit_pbad s aT aB m w hs S h1 h3 hp h

/-- Split of a version. -/
theorem vsplit_good (s : ByteArray) (aT aB : Addr) (m : Int) (w : World) (hs : s.size < 4294967281) (S : Vs w aT aB m) (h : verErr s.data.toList = 0) :
    Calls Tryz.prog 106 #[.string s] w fun e w' => ∃ v X, e = .returned (.tuple #[.agg #[.int .i64 (nAt s.data.toList 0), .int .i64 (nAt s.data.toList 1), .int .i64 (nAt s.data.toList 2), v], .nilIface]) ∧
      bl X = preOf s.data.toList ∧ StrsAt w' v X ∧ Below w.heap.size w w' := by
  by_cases h0 : marked s.data.toList = false ∨ (coreOf s.data.toList).length ≠ 3
  · unfold verErr at h; rw [if_pos h0] at h; cases h
  · have h1 : marked s.data.toList = true := by
      cases hm : marked s.data.toList
      · exact absurd (Or.inl hm) h0
      · rfl
    have h3 : (coreOf s.data.toList).length = 3 := Decidable.byContradiction fun hn => h0 (Or.inr hn)
    cases hp : hasPre s.data.toList
    · have e : verErr s.data.toList = numsErr (coreOf s.data.toList) := by unfold verErr; rw [if_neg h0, hp]; rfl
      rw [e] at h
      refine (vsplit_plain s aT aB m w hs S h1 h3 hp h).mono fun e w' ⟨e1, e2⟩ => ⟨.slice none 0 0, [], e1, ?_, Or.inl ⟨rfl, rfl⟩, e2⟩
      unfold preOf; rw [hp]; rfl
    · have e : verErr s.data.toList = worse (numsErr (coreOf s.data.toList)) (pre (preOf s.data.toList)) := by unfold verErr; rw [if_neg h0, hp]; rfl
      rw [e] at h
      refine (vsplit_pgood s aT aB m w hs S h1 h3 hp h).mono fun e w' ⟨b, X, e1, e2, e3, e4, e5⟩ => ⟨_, X, e1, e2, Or.inr ⟨?_, b, rfl, e3, e4⟩, e5⟩
      intro hX
      subst hX
      have : preOf s.data.toList = [] := e2.symm
      unfold preOf at this
      rw [hp] at this
      exact cutAt_ne _ _ this
end Ve
end Go.Proofs.YtpafkniapacfdaaGreatDoor

/-
  Plain lemmas on errors by their numbers; and what the document's answer says of a text that is no version by its first byte (VerOf).
-/
namespace Go.Proofs.YtpafkniapacfdaaGreatDoor
open Go.RowKit
namespace Ve

/-- The worst of errors, at once. -/
def worst (b : Nat) (cs : List Nat) : Nat := if b = 1 ∨ 1 ∈ cs then 1 else if b = 2 ∨ 2 ∈ cs then 2 else 0
theorem worst_fold {α : Type} (f : α → Nat) (hf : ∀ x, f x = 0 ∨ f x = 1 ∨ f x = 2) : ∀ (ps : List α) (b : Nat), (b = 0 ∨ b = 1 ∨ b = 2) → ps.foldl (fun b p => worse b (f p)) b = worst b (ps.map f) := by
  intro ps
  induction ps with
  | nil =>
    intro b hb
    rcases hb with rfl | rfl | rfl <;> simp [worst]
  | cons p r ih =>
    intro b hb
    rw [List.foldl_cons, ih _ (worse_err hb (hf p))]
    rcases hb with rfl | rfl | rfl <;> rcases hf p with h | h | h <;> simp [worst, worse, h]
theorem numsErr_worst (ps : List (List UInt8)) : numsErr ps = worst 0 (ps.map fun p => (num p).2) := worst_fold _ num_err ps 0 (Or.inl rfl)
theorem preTo_worst (b : Nat) (hb : b = 0 ∨ b = 1 ∨ b = 2) (ps : List (List UInt8)) : preTo b ps = worst b (ps.map part) := worst_fold _ part_err ps b hb

set_option maxRecDepth 100000 in
set_option maxHeartbeats 1000000 in
theorem verOf_head (s : ByteArray) (w : World) (hs : s.size < 4294967281) (h : marked s.data.toList = false) :
    Calls Tryz.prog 88 #[.string s] w fun e w' => e = .returned (.tuple #[.agg #[.int .i64 0, .int .i64 0, .int .i64 0, .slice none 0 0], .int .i64 1]) ∧ Below w.heap.size w w' := by
  have HM := hid h
  clear h
  by_cases h0 : s.size = 0
  · have h0b : ((s.size : Int) == 0) = true := beq_iff_eq.2 (by omega)
    go_enter Tryz.func88, Tryz.ntmps88
    go_wp2_with fail
    exact bodyPost_ret (v := .tuple #[.agg #[.int .i64 0, .int .i64 0, .int .i64 0, .slice none 0 0], .int .i64 1]) (by simp [results, Tryz.results88, go_sem]) rfl ⟨rfl, (Below.refl _ _).alloc (Nat.le_refl _) _⟩
  · have h0b : ((s.size : Int) == 0) = false := beq_eq_false_iff_ne.2 (by omega)
    have hp : 0 < s.size := by omega
    have hv : ((s[0].toNat : Int) == 118) = false := by
      have := HM.out
      unfold marked at this
      rw [List.headD_eq_head?_getD, List.head?_eq_getElem?, List.getElem?_eq_getElem (by simpa using hp)] at this
      simp at this ⊢
      intro e
      apply this
      apply UInt8.toNat_inj.1
      show s[0].toNat = 118
      omega
    go_enter Tryz.func88, Tryz.ntmps88
    go_wp2_with fail
    exact bodyPost_ret (v := .tuple #[.agg #[.int .i64 0, .int .i64 0, .int .i64 0, .slice none 0 0], .int .i64 1]) (by simp [results, Tryz.results88, go_sem]) rfl ⟨rfl, (Below.refl _ _).alloc (Nat.le_refl _) _⟩
end Ve
end Go.Proofs.YtpafkniapacfdaaGreatDoor


namespace Go.Proofs.YtpafkniapacfdaaGreatDoor
open Go.RowKit
namespace Ve
def TxAt (w : World) (v : Value) (X : List ByteArray) : Prop :=
  ∃ (a : Option Addr) (c : Nat), v = .slice a X.length c ∧ X.length ≤ c ∧ (X ≠ [] → ∃ b o, a = some ⟨b, o, none⟩ ∧ ∀ j (h : j < X.length), w.cell? ⟨b, o + j, none⟩ = some (.string X[j]))
theorem TxAt.below {w w' : World} {v : Value} {X : List ByteArray} (h : TxAt w v X) (hb : Below w.heap.size w w') : TxAt w' v X := by
  obtain ⟨a, c, e, hc, h⟩ := h
  refine ⟨a, c, e, hc, fun hL => ?_⟩
  obtain ⟨b, o, e2, h2⟩ := h hL
  exact ⟨b, o, e2, fun j hj => cell_below hb (h2 j hj)⟩
theorem own_tx {w : World} {B : Nat} {e : TypeId} {v : Value} {X : List ByteArray} (h : w.ownsRow B e 1 v X.length (X.map Value.string)) : TxAt w v X := by
  obtain ⟨_, ⟨hv, hn0⟩ | ⟨g, cap, cur, hv, hg, hblk, hcap, hcm, hcs, hct⟩⟩ := h
  · exact ⟨none, 0, by rw [hv, hn0], by omega, fun hL => absurd (List.length_eq_zero_iff.1 hn0) hL⟩
  · refine ⟨_, cap, hv, hcap, fun _ => ⟨g, 0, rfl, fun j hj => ?_⟩⟩
    have h1 : (X.map Value.string)[j]? = some (.string X[j]) := by simp [hj]
    rw [← hct, List.getElem?_take, if_pos (by omega)] at h1
    simp only [World.cell?, hblk]
    rw [← h1]; simp
theorem tx_cellK {W : World} {a : Option Addr} {n c : Nat} {X : List ByteArray} (h : TxAt W (.slice a n c) X) {k : Nat} (hk : k < X.length) : ∃ b o, a = some ⟨b, o, none⟩ ∧ W.cell? ⟨b, o + k, none⟩ = some (.string X[k]) := by
  obtain ⟨a', c', e, _, h⟩ := h
  injection e with e1 e2 e3
  subst e1
  obtain ⟨b', o', e4, h4⟩ := h (by intro h0; rw [h0] at hk; simp at hk)
  exact ⟨b', o', e4, h4 k hk⟩
end Ve
end Go.Proofs.YtpafkniapacfdaaGreatDoor


namespace Go.Proofs.YtpafkniapacfdaaGreatDoor
open Go.RowKit Go.Shelf Go.Maps Go.Sort
namespace Ve
attribute [local go_sem] Oper.semAt_some
def szV : Option Value → Nat
  | some (.string s) => s.size
  | _ => 0
def boxN (b : Nat) (W : World) : Nat := match W.heap[b]? with
  | some (.cells cs _ _) => szV cs[0]?
  | _ => 0
theorem boxN_is {b : Nat} {W : World} {s : ByteArray} {T : TypeId} (h : W.heap[b]? = some (.cells #[.string s] T (0, 0))) : boxN b W = s.size := by unfold boxN; rw [h]; rfl
theorem ixb_ge (s : ByteArray) : -1 ≤ Lib.indexByte s.data.toList 10 := Lib.indexByte_ge _ _
theorem sxt_take (s : ByteArray) (k : Nat) : (s.extract 0 k).data.toList = s.data.toList.take k := by
  rw [extract_list]; simp
theorem sxt_drop (s : ByteArray) (k : Nat) : (s.extract k s.size).data.toList = s.data.toList.drop k := by
  rw [extract_list, List.take_of_length_le (by rw [List.length_drop, len_eq]; exact Nat.le_refl _)]
set_option maxRecDepth 100000 in
set_option maxHeartbeats 4000000 in
theorem ln1_in (n : Nat) (hn : 2 ≤ n) (l b0 N : Nat) (s : ByteArray) (hs : s.size ≤ 1000000) (J : List (List UInt8) → World → Prop)
    (hJd : ∀ pre W, J pre W → J pre W.drew) (hJs : ∀ pre W v, J pre W → J pre (W.setCell ⟨b0, 0, none⟩ v))
    (hY : ∀ pre x W, J pre W → pre.length < N → YieldAt Fence.wide (n - 1) Tryz.prog l #[encStr x] W fun e W' => e = .returned (.bool true) ∧ J (pre ++ [x]) W' ∧ W'.heap[b0]? = W.heap[b0]?)
    (W : World) (h0 : J [] W) (hb : W.heap[b0]? = some (.cells #[.string s] 9 (0, 0))) (hN : (linesL s.data.toList).length ≤ N) :
    CallsIn Fence.wide n Tryz.prog 75 #[.func (.yield l) #[] #[], .pointer (some ⟨b0, 0, none⟩)] W fun e W' => (∃ v, e = .returned v) ∧ J (linesL s.data.toList) W' := by
  have hn1 : 1 ≤ n := by omega
  have HB := hid hb
  have H0 := hid h0
  have HN := hid hN
  clear hb h0 hN
  refine callsIn_of_wp Tryz.func75 rfl trivial ?_ rfl
  simp only [Tryz.ntmps75, List.size_toArray, List.length_cons, List.length_nil, Nat.reduceAdd, Nat.reduceSub, Array.replicate_succ, Array.replicate_zero, List.push_toArray, List.append_toArray, List.nil_append, List.cons_append]
  gi_wp2
  gi_loopw [4] (fun _ wr => ∃ (rest : ByteArray) (pre : List (List UInt8)), Hid (wr.heap[b0]? = some (.cells #[.string rest] 9 (0, 0)) ∧ linesL s.data.toList = pre ++ linesL rest.data.toList ∧ J pre wr ∧ rest.size ≤ 1000000)) (fun _ wr => boxN b0 wr)
  case atStart => exact ⟨s, [], hid ⟨HB.out, rfl, H0.out, hs⟩⟩
  case round =>
    obtain ⟨rest, pre, HR⟩ := hrel
    have cR : wr.cell? ⟨b0, 0, none⟩ = some (.string rest) := by rw [Lib.cell_of_heap HR.out.1]; rfl
    have fR : ∀ o, wr.frozen? ⟨b0, o, none⟩ = false := fun o => Lib.frozen_of_heap HR.out.1 o
    by_cases h0 : 0 < rest.size
    · have h0I : (0 : Int) < (rest.size : Int) := by omega
      have HI := hid (Tryz.strings_IndexByte rest 10 wr)
      rcases Int.lt_or_le (Lib.indexByte rest.data.toList 10) 0 with hi | hi
      · have hi1 : Lib.indexByte rest.data.toList 10 = -1 := by have := ixb_ge rest; omega
        have HLN := hid (lines_none rest.data.toList (fun e => by have h := len_eq rest; rw [e] at h; simp at h; omega) hi1)
        have hid0 : ¬ (0 : Int) ≤ -1 := by omega
        rw [show (10 : Int).toNat.toUInt8 = (10 : UInt8) from rfl, hi1] at HI
        have HJ2 := hid (hJs pre wr (.string ⟨#[]⟩) HR.out.2.2.1)
        have HC2 := hid (cell1_set (x := .string ⟨#[]⟩) HR.out.1)
        have HLE := hid (show pre.length < N by
          have := HN.out
          rw [HR.out.2.1, HLN.out] at this
          simp at this; omega)
        obtain ⟨fn, tmps, assign, body, hy, hR⟩ := hY pre rest.data.toList _ HJ2.out HLE.out
        rw [show encStr rest.data.toList = Value.string rest from by simp [encStr]] at hy
        have HBX := hid (boxN_is HR.out.1)
        clear hi hi1
        gi_wp2_with (refine ⟨trivial, ?_⟩; gi_at_call 76; refine (callsIn_wide.2 HI.out).mono ?_; rintro e W1 ⟨rfl, rfl⟩)
        refine hR.mono ?_
        rintro e W3 ⟨rfl, hJ3, hk3⟩
        gi_wp2
        go_roundw
        case rel => exact ⟨⟨#[]⟩, pre ++ [rest.data.toList], hid ⟨by rw [hk3]; exact HC2.out, by rw [HR.out.2.1, HLN.out]; simp [linesL], hJ3, by decide⟩⟩
        case measure => rw [HBX.out, boxN_is (hk3.trans HC2.out)]; exact h0
      · obtain ⟨i, hi1⟩ : ∃ i : Nat, Lib.indexByte rest.data.toList 10 = (i : Int) := ⟨(Lib.indexByte rest.data.toList 10).toNat, by omega⟩
        obtain ⟨hil, hln⟩ := lines_some rest.data.toList i hi1
        rw [len_eq] at hil
        have HLN := hid hln
        rw [show (10 : Int).toNat.toUInt8 = (10 : UInt8) from rfl, hi1] at HI
        have q0 : (0 : Int) ≤ (i : Int) := by omega
        have q1 : (0 : Int) ≤ (i : Int) + 1 := by omega
        have q2 : (i : Int) + 1 ≤ (rest.size : Int) := by omega
        have q3 : ((i : Int) + 1).toNat = i + 1 := by omega
        have qw : wrap64 ((i : Int) + 1) = (i : Int) + 1 := IntWalk.wrap64_in _ (by have := HR.out.2.2.2; omega)
        clear hi hi1 hln
        gi_wp2_with (refine ⟨trivial, ?_⟩; gi_at_call 76; refine (callsIn_wide.2 HI.out).mono ?_; rintro e W1 ⟨rfl, rfl⟩)
        gi_region
        have HJ2 := hid (hJd _ _ (hJs pre W1 (.string (rest.extract (i + 1) rest.size)) HR.out.2.2.1))
        have HC2 := hid (show ((W1.setCell ⟨b0, 0, none⟩ (.string (rest.extract (i + 1) rest.size))).drew).heap[b0]? = some (.cells #[.string (rest.extract (i + 1) rest.size)] 9 (0, 0)) from cell1_set (x := .string (rest.extract (i + 1) rest.size)) HR.out.1)
        have HLE := hid (show pre.length < N by
          have := HN.out
          rw [HR.out.2.1, HLN.out] at this
          simp at this; omega)
        obtain ⟨fn, tmps, assign, body, hy, hR⟩ := hY pre (rest.data.toList.take (i + 1)) _ HJ2.out HLE.out
        rw [show encStr (rest.data.toList.take (i + 1)) = Value.string (rest.extract 0 (i + 1)) from by unfold encStr; congr 1; exact str_ext (by rw [sxt_take])] at hy
        have HBX := hid (boxN_is HR.out.1)
        gi_wp2
        refine hR.mono ?_
        rintro e W3 ⟨rfl, hJ3, hk3⟩
        gi_wp2
        go_roundw
        case rel => exact ⟨_, pre ++ [rest.data.toList.take (i + 1)], hid ⟨hk3.trans HC2.out, by rw [HR.out.2.1, HLN.out, sxt_drop]; simp, hJ3, by have := HR.out.2.2.2; rw [← len_eq, sxt_drop]; simp; omega⟩⟩
        case measure => rw [HBX.out, boxN_is (hk3.trans HC2.out), ← len_eq, sxt_drop]; simp; omega
    · have hz : rest.data.toList = [] := List.eq_nil_of_length_eq_zero (by rw [len_eq]; omega)
      have h0I : ¬ (0 : Int) < (rest.size : Int) := by omega
      gi_wp2
      go_end0
      exact ⟨⟨_, rfl⟩, by rw [HR.out.2.1, hz]; simpa [linesL] using HR.out.2.2.1⟩
section
variable {P : Program} {ρ : Ren}
theorem below_set {b0 n : Nat} {W0 W : World} {v : Value} (h : Below n W0 W) : Below n (W0.setCell ⟨b0, 0, none⟩ v) (W.setCell ⟨b0, 0, none⟩ v) := by
  refine ⟨h.os, h.tape, h.output, by rw [cell1_size, cell1_size]; exact h.size, fun k hk => ?_⟩
  simp only [World.setCell, Array.getElem?_modify]
  rw [h.block k hk]
theorem apAt_set {W0 W : World} {b0 : Nat} {fn : FuncId} {sv v : Value} {Bs l D : Nat} {ss : List (List UInt8)} (h : AnyZ.ApAt ρ W0 fn sv Bs l D ss W) (hb : b0 < W0.heap.size) (h1 : Bs ≠ b0) (h2 : l ≠ b0) (h3 : D ≠ b0) :
    AnyZ.ApAt ρ (W0.setCell ⟨b0, 0, none⟩ v) fn sv Bs l D ss (W.setCell ⟨b0, 0, none⟩ v) := by
  obtain ⟨x, hx, hr, hn⟩ := h.box
  refine ⟨⟨x, (cell1_far h1).trans hx, ?_, hn⟩, (cell1_far h2).trans h.L, (cell1_far h3).trans h.K, ?_⟩
  · rw [cell1_size]
    refine hr.kept (grownBy_setCell0_a W b0 v) (Or.inr fun e => ?_)
    have := (hr.lt b0 e).1
    omega
  · rw [cell1_size]; exact below_set h.below
set_option maxRecDepth 100000 in
set_option maxHeartbeats 4000000 in
theorem appendSrc_in (L : SlLaysZ.n11 P ρ) (F : Fence) (n : Nat) (h11 : F.fn (ρ.f 11)) (hro : F.round = none) (hn : 2 ≤ n) (g : Nat) (lb : Array Value) (hFg : F.fn g) (eg : ∀ args w, (callFunc g args).run P w = .ok (.enter g args) w)
    (X : List (List UInt8)) (N : Nat) (hN : N ≤ maxLen) (hNb : N * 16 ≤ 140737488355328) (w : World) (b0 : Nat) (hb0 : b0 < w.heap.size)
    (hseq : ∀ (l : Nat) (J : List (List UInt8) → World → Prop) (W : World), Below w.heap.size w W → (∀ pre W, J pre W → J pre W.drew) → (∀ pre W v, J pre W → J pre (W.setCell ⟨b0, 0, none⟩ v)) →
      (∀ pre x W1, J pre W1 → pre.length < N → YieldAt F (n - 1 - 1) P l #[encStr x] W1 fun e W' => e = .returned (.bool true) ∧ J (pre ++ [x]) W' ∧ W'.heap[b0]? = W1.heap[b0]?) → J [] W →
      CallsIn F (n - 1) P g (#[.func (.yield l) #[] #[]] ++ lb) W fun e W' => (∃ v, e = .returned v) ∧ J X W') :
    CallsIn F n P (ρ.f 11) #[.slice none 0 0, .func (.func g) #[] lb] w fun e w' => ∃ v, e = .returned v ∧ w'.ownsRow w.heap.size (ρ.t 26) 1 v X.length (X.map encStr) ∧ Below b0 w w' := by
  have h1 : 1 ≤ n := by omega
  have mixed := L.mixed; have t0 := L.t0; have a0 := L.a0; have z0 := L.z0; have v0 := L.v0; have t24 := L.t24; have a24 := L.a24; have z24 := L.z24; have v24 := L.v24; have t26 := L.t26; have a26 := L.a26; have z26 := L.z26; have v26 := L.v26; have t28 := L.t28; have a28 := L.a28; have z28 := L.z28; have v28 := L.v28
  have hne : ρ.t 24 ≠ ρ.t 26 := fun e => by have h := L.t24; rw [e, L.t26] at h; cases h
  have u0 := run_underlying L.t0; have u24 := run_underlying L.t24; have u26 := run_underlying L.t26; have u28 := run_underlying L.t28
  obtain ⟨_, _, FG⟩ := L.f11
  refine callsIn_of_wp_marks FG rfl h11 ?_ hro
  simp only [SlBodyZ.n11_ntmps ρ, List.size_toArray, List.length_cons, List.length_nil, Nat.reduceAdd, Nat.reduceSub, Array.replicate_succ, Array.replicate_zero, List.push_toArray, List.append_toArray, List.nil_append, List.cons_append]
  gi_wp2
  refine wpIn_rangeFunc ?_
  intro fn hfn
  rw [hro]
  obtain ⟨W0, hW0⟩ : ∃ W0, w.alloc (.cells #[.slice none 0 0] (ρ.t 24)) = W0 := ⟨_, rfl⟩
  have hs0 : W0.heap.size = w.heap.size + 1 := by rw [← hW0]; simp
  have hv0 : W0.heap[w.heap.size]? = some (.cells #[.slice none 0 0] (ρ.t 24) (0, 0)) := by rw [← hW0]; exact World.alloc_heap_new w _
  have hb0' : Below w.heap.size w W0 := by rw [← hW0]; exact (Below.refl _ w).alloc (Nat.le_refl _) _
  rw [hW0]
  obtain ⟨W1, hW1⟩ : ∃ W1, (W0.alloc (.deferred (some []))).alloc (.loop (AnyZ.apRec ρ fn (.func (.func g) #[] lb) w.heap.size W0.heap.size .ready none)) = W1 := ⟨_, rfl⟩
  have hold : ∀ k, k < W0.heap.size → W1.heap[k]? = W0.heap[k]? := fun k hk => by
    rw [← hW1]; exact (Below.heap_alloc _ _ k (by simp; omega)).trans (Below.heap_alloc _ _ k hk)
  have hb1 : Below w.heap.size w W1 := by rw [← hW1]; exact (hb0'.alloc hb0'.size _).alloc (by have := hb0'.size; simp; omega) _
  have hs1 : W1.heap.size = W0.heap.size + 2 := by rw [← hW1]; simp
  have hM : AnyZ.ApAt ρ w fn (.func (.func g) #[] lb) w.heap.size (W0.heap.size + 1) W0.heap.size [] W1 :=
    ⟨⟨_, (hold w.heap.size (by omega)).trans hv0, ⟨rfl, .inl ⟨rfl, rfl⟩⟩, by simp⟩,
     by rw [← hW1]; have := World.alloc_heap_new (W0.alloc (.deferred (some []))) (.loop (AnyZ.apRec ρ fn (.func (.func g) #[] lb) w.heap.size W0.heap.size .ready none)); rwa [World.size_alloc] at this,
     by rw [← hW1]; exact (Below.heap_alloc _ _ _ (by simp)).trans (World.alloc_heap_new W0 _), hb1⟩
  refine ⟨W0.heap.size + 1, [{ target := .collected W0.heap.size, args := #[] }], W1, { target := .fn (.func g) lb, args := #[.func (.yield (W0.heap.size + 1)) #[] #[]] }, W1, g,
    #[.func (.yield (W0.heap.size + 1)) #[] #[]] ++ lb, W1, ?_, ?_, ?_, ?_, fun _ => h1, ?_⟩
  · rw [← hW1]; exact run_enterLoop_outer _ _ _ _ _
  · simp [resolve, go_sem]
  · intro f' hf'; simp [Target.leads] at hf'; subst hf'; exact hFg
  · simp [invoke, go_sem, eg]
  · refine (hseq (W0.heap.size + 1) (fun ss W => ∃ Wk : World, Wk.heap.size = w.heap.size ∧ AnyZ.ApAt ρ Wk fn (.func (.func g) #[] lb) w.heap.size (W0.heap.size + 1) W0.heap.size ss W ∧ Below b0 w Wk) W1 hb1
      (fun pre W ⟨Wk, hk, h, hb⟩ => ⟨Wk, hk, ⟨h.box, h.L, h.K, ⟨h.below.os, h.below.tape, h.below.output, h.below.size, h.below.block⟩⟩, hb⟩)
      (fun pre W v ⟨Wk, hk, h, hb⟩ => ⟨Wk.setCell ⟨b0, 0, none⟩ v, by rw [cell1_size]; exact hk, apAt_set h (by omega) (by omega) (by omega) (by omega), hb.setCell (p := ⟨b0, 0, none⟩) (Nat.le_refl _) _⟩)
      (fun pre x W ⟨Wk, hk, h, hb⟩ hl => by
        obtain ⟨fn', tmps, assign, body, hy, hR⟩ := AnyZ.apYield { L with } F (n - 1 - 1) Wk fn hfn _ w.heap.size (W0.heap.size + 1) W0.heap.size (by omega) (by omega) (by omega) (by omega) (by omega) N hN hNb pre x W h hl
        exact ⟨fn', tmps, assign, body, hy, hR.mono fun e W' ⟨e1, h2, _⟩ => ⟨e1, ⟨Wk, hk, h2, hb⟩, (h2.below.block b0 (by omega)).trans (h.below.block b0 (by omega)).symm⟩⟩)
      ⟨w, rfl, hM, Below.refl _ _⟩).mono ?_
    rintro e W2 ⟨⟨v0, rfl⟩, Wk, hk, h2, hbk⟩
    obtain ⟨v, hv, hrow, hnil⟩ := h2.box
    have hend := run_endLoop (P := P) h2.L (by simp [AnyZ.apRec])
    obtain ⟨W3, hW3⟩ : ∃ W3, W2.putObj (W0.heap.size + 1) (.loop { AnyZ.apRec ρ fn (.func (.func g) #[] lb) w.heap.size W0.heap.size .ready none with state := .exhausted }) = W3 := ⟨_, rfl⟩
    rw [hW3] at hend
    have hg3 : W2.grownBy W3 (some (W0.heap.size + 1)) := by rw [← hW3]; exact grownBy_putObj_a _ _ _
    have hv3 : W3.heap[w.heap.size]? = some (.cells #[v] (ρ.t 24) (0, 0)) := by rw [← hW3]; exact (World.putObj_heap_other (by omega)).trans hv
    have hK3 : W3.heap[W0.heap.size]? = some (.deferred (some [])) := by rw [← hW3]; exact (World.putObj_heap_other (by omega)).trans h2.K
    rw [hk] at hrow
    have hrow3 := hrow.kept hg3 (ownsRow_ne_a hrow h2.L (fun cur e => by first | cases e | exact hne (Obj.cells.inj e).2.1))
    have hb3 : Below b0 w W3 := (hbk.trans (h2.below.mono (by omega))).grown hg3 (by have := h2.below.size; omega) (fun k e => by cases e; omega)
    obtain ⟨hc3, hf3⟩ := cell_of_box_a hv3
    clear hW3
    refine ⟨none, W3, hend, ?_⟩
    gi_wp2
    rw [← hs0]
    refine ⟨by simp, .inl ⟨_, _, rfl, run_takeDeferred hK3, ?_⟩⟩
    exact ⟨_, results_tmp rfl _ _ _, v, rfl, hrow3.kept (grownBy_putObj_a _ _ _) (ownsRow_ne_a hrow3 hK3 (fun cur e => by first | cases e | exact hne (Obj.cells.inj e).2.1)), hb3.grown (grownBy_putObj_a _ _ _) (by have := hb3.size; omega) (fun k e => by cases e; omega)⟩
set_option maxHeartbeats 1000000 in
theorem collectSrc_in (L : SlLaysZ.n8 P ρ) (F : Fence) (n : Nat) (h8 : F.fn (ρ.f 8)) (h11 : F.fn (ρ.f 11)) (hro : F.round = none) (hn : 3 ≤ n) (g : Nat) (lb : Array Value) (hFg : F.fn g) (eg : ∀ args w, (callFunc g args).run P w = .ok (.enter g args) w)
    (X : List (List UInt8)) (N : Nat) (hN : N ≤ maxLen) (hNb : N * 16 ≤ 140737488355328) (w : World) (b0 : Nat) (hb0 : b0 < w.heap.size)
    (hseq : ∀ (l : Nat) (J : List (List UInt8) → World → Prop) (W : World), Below w.heap.size w W → (∀ pre W, J pre W → J pre W.drew) → (∀ pre W v, J pre W → J pre (W.setCell ⟨b0, 0, none⟩ v)) →
      (∀ pre x W1, J pre W1 → pre.length < N → YieldAt F (n - 1 - 1 - 1) P l #[encStr x] W1 fun e W' => e = .returned (.bool true) ∧ J (pre ++ [x]) W' ∧ W'.heap[b0]? = W1.heap[b0]?) → J [] W →
      CallsIn F (n - 1 - 1) P g (#[.func (.yield l) #[] #[]] ++ lb) W fun e W' => (∃ v, e = .returned v) ∧ J X W') :
    CallsIn F n P (ρ.f 8) #[.func (.func g) #[] lb] w fun e w' => ∃ v, e = .returned v ∧ w'.ownsRow w.heap.size (ρ.t 26) 1 v X.length (X.map encStr) ∧ Below b0 w w' := by
  have h1 : 1 ≤ n := by omega
  have e11 : ∀ args w, (callFunc (ρ.f 11) args).run P w = .ok (.enter (ρ.f 11) args) w := L.f11.enters rfl
  have mixed := L.mixed; have t0 := L.t0; have a0 := L.a0; have z0 := L.z0; have v0 := L.v0; have t24 := L.t24; have a24 := L.a24; have z24 := L.z24; have v24 := L.v24; have t26 := L.t26; have a26 := L.a26; have z26 := L.z26; have v26 := L.v26; have t28 := L.t28; have a28 := L.a28; have z28 := L.z28; have v28 := L.v28
  have u0 := run_underlying L.t0; have u24 := run_underlying L.t24; have u26 := run_underlying L.t26; have u28 := run_underlying L.t28
  obtain ⟨_, _, FG⟩ := L.f8
  refine callsIn_of_wp FG rfl h8 ?_ hro
  simp only [SlBodyZ.n8_ntmps ρ, List.size_toArray, List.length_cons, List.length_nil, Nat.reduceAdd, Nat.reduceSub, Array.replicate_succ, Array.replicate_zero, List.push_toArray, List.append_toArray, List.nil_append, List.cons_append]
  gi_wp2_with (gi_at_fn (ρ.f 11); refine (appendSrc_in { L with } F (n - 1) h11 hro (by omega) g lb hFg eg X N hN hNb _ b0 hb0 hseq).mono ?_; rintro e w' ⟨v, rfl, hrow, hb⟩)
  go_ret
  exact ⟨v, rfl, hrow, hb⟩
end
theorem col_any (b0 : Nat) (s : ByteArray) (hs : s.size ≤ 1000000) (w : World) (hb : w.heap[b0]? = some (.cells #[.string s] 9 (0, 0))) :
    Calls Tryz.prog 40 #[.func (.func 75) #[] #[.pointer (some ⟨b0, 0, none⟩)]] w fun e w' => ∃ v, e = .returned v ∧ w'.ownsRow w.heap.size 9 1 v (linesL s.data.toList).length ((linesL s.data.toList).map encStr) ∧ Below b0 w w' := by
  have hl := lines_len s.data.toList
  rw [len_eq] at hl
  have hlt : b0 < w.heap.size := (Array.getElem?_eq_some_iff.1 hb).1
  have c := collectSrc_in Tryz.collectS Fence.wide 9 trivial trivial rfl (by omega) 75 #[.pointer (some ⟨b0, 0, none⟩)] trivial (enters_of Tryz.func75 (by kernel_rfl) rfl) (linesL s.data.toList) 1000000 (by unfold maxLen; omega) (by omega) w b0 hlt
    (fun l J W hW hd hst hY h0 => ln1_in 7 (by omega) l b0 1000000 s hs J hd hst hY W h0 ((hW.block b0 hlt).trans hb) (by omega))
  change CallsIn _ _ Tryz.prog 40 _ _ _ at c
  exact ((callsIn_wide (n := 9)).1 c)
set_option maxHeartbeats 400000 in
theorem slines_any (s : ByteArray) (w : World) :
    Calls Tryz.prog 41 #[.string s] w fun e w' => e = .returned (.func (.func 75) #[] #[.pointer (some ⟨w.heap.size, 0, none⟩)]) ∧ w' = w.alloc (.cells #[.string s] 9) := by
  go_enter Tryz.func41, Tryz.ntmps41
  go_wp2_with fail
  go_ret
  exact ⟨rfl, rfl⟩
end Ve
end Go.Proofs.YtpafkniapacfdaaGreatDoor
