/-
  VerF RefE
-/
import Derived.Test.YtiebgeamfblbdaaGreatDoorFb7
namespace Go.Proofs.YtiebgeamfblbdaaGreatDoor
open Go.RowKit
namespace Ve
set_option maxHeartbeats 1000000 in
theorem vsplit_pbad (s : ByteArray) (aT aB : Addr) (m : Int) (w : World) (hs : s.size < 4294967281) (S : Vs w aT aB m) (hmk : marked s.data.toList = true) (h3 : (coreOf s.data.toList).length = 3) (hp : hasPre s.data.toList = true) (hq : worse (numsErr (coreOf s.data.toList)) (pre (preOf s.data.toList)) ≠ 0) :
    Calls Tryz.prog 57 #[.string s] w fun e w' => e = .returned (.tuple #[.agg #[.int .i64 0, .int .i64 0, .int .i64 0, .slice none 0 0], errV aT aB (worse (numsErr (coreOf s.data.toList)) (pre (preOf s.data.toList)))]) ∧ Below w.heap.size w w' := by
  have HQ := hid hq
  clear hq
  have HB0 := hid ((Below.refl w.heap.size w).alloc (Nat.le_refl _) (.cells #[.int .i64 0, .int .i64 0, .int .i64 0, .slice none 0 0] 85))
  have HS := hid (S.below HB0.out)
  have hne1 : ¬ w.heap.size = 6 := by have := lt_of_cell S.t; simp at this; omega
  have hne2 : ¬ 6 = w.heap.size := fun h => hne1 h.symm
  have HM := hid hmk
  have H3 := hid h3
  have HP := hid hp
  clear S hmk h3 hp
  go_enter Tryz.func57, Tryz.ntmps57
  go_wp2_with fail
  refine (cutPrefix_any s _).mono ?_
  rintro e w1 ⟨R, rfl, hR, rfl⟩
  rw [HM.out]
  have HR := hid hR
  have hRs : R.size < 4294967281 := by
    have h1 := size_of hR
    have h2 := restOf_le s.data.toList
    simp at h2; omega
  clear hR
  go_wp2_with fail
  refine (cut_any R m _ hRs HS.out.ml).mono ?_
  rintro e w2 ⟨C, T, rfl, hC, hT, hb2⟩
  rw [show (one 45 R.data.toList).2.2 = true by rw [HR.out]; exact HP.out]
  have HC := hid hC
  have HT := hid hT
  have hCs : C.size < 4294967281 := by
    have h1 := size_of hC
    have h2 := (one_le 45 R.data.toList).1
    simp at h2; omega
  have hTs : T.size < 4294967281 := by
    have h1 := size_of hT
    have h2 := (one_le 45 R.data.toList).2
    simp at h2; omega
  have HB2 := hid (show Below (w.heap.size + 1) (w.alloc (.cells #[.int .i64 0, .int .i64 0, .int .i64 0, .slice none 0 0] 85)) w2 from hb2.mono (by simp))
  have HS2 := hid (HS.out.below hb2)
  clear hC hT hb2
  go_wp2_with fail
  refine (nums_any C aT aB m w2 hCs HS2.out).mono ?_
  rintro e w3 ⟨v, rfl, hown, hb3⟩
  have hCC : cutAt 46 C.data.toList = coreOf s.data.toList := by rw [HC.out, HR.out]; rfl
  rw [hCC] at hown ⊢
  rw [H3.out, n_three H3.out] at hown
  have HB3 := hid (HB2.out.trans (hb3.mono (by have := HB2.out.size; simpa using this)))
  have HS3 := hid (HS2.out.below hb3)
  have HZ := hid (show w.heap.size + 1 ≤ w2.heap.size by have := HB2.out.size; simpa using this)
  obtain ⟨_, ⟨_, hn0⟩ | ⟨g9, cap, cur, hv, hg9, hblk, hcap, hcm, hcs, hct⟩⟩ := hown
  · cases hn0
  subst hv
  have HK := hid (show w3.cell? ⟨g9, 0, none⟩ = some (.int .i64 (nAt s.data.toList 0)) ∧ w3.cell? ⟨g9, 1, none⟩ = some (.int .i64 (nAt s.data.toList 1)) ∧ w3.cell? ⟨g9, 2, none⟩ = some (.int .i64 (nAt s.data.toList 2)) from three_cells hblk hct)
  have HG := hid hg9
  clear hg9 hblk hcap hcm hcs hct hb3 hCC
  go_wp2_with fail
  refine (split_any 46 T m w3 hTs HS3.out.ml).mono ?_
  rintro e w4 ⟨X, rfl, hX, hxc, hb4, hz4⟩
  have hPX : bl X = preOf s.data.toList := by rw [hX, HT.out, HR.out]; unfold preOf; rw [HP.out]; rfl
  have HX := hid hX
  have HPX := hid hPX
  have HXC := hid hxc
  have HS4 := hid (HS3.out.below hb4)
  have HB4 := hid hb4
  have HZ3 := hid HB3.out.size
  have hn := many_le hX
  have HXS : Hid (∀ x, x ∈ X → x.size ≤ maxLen) := fun x hx => by have := piece_le HX.out hx; unfold maxLen; omega
  have HZ4 := hid hz4
  clear hX hxc hb4 hPX hz4
  go_wp2_with fail
  refine (pre_some w3.heap.size 0 X.length X aT aB m w4 HS4.out (by omega) HXS.out HXC.out).mono ?_
  rintro e w5 ⟨rfl, hb5⟩
  rw [HPX.out]
  have HS5 := hid (HS4.out.below hb5)
  have HB5 := hid (HB4.out.trans (hb5.mono HB4.out.size))
  have HX5 := hid (show ∀ j (h : j < X.length), w5.cell? ⟨w3.heap.size, 0 + j, none⟩ = some (.string X[j]) from fun j h => cell_below hb5 (HXC.out j h))
  have HZ5 := hid (show w3.heap.size < w5.heap.size from Nat.lt_of_lt_of_le HZ4.out hb5.size)
  clear hb5
  have HE1 := hid (numsErr_err (coreOf s.data.toList))
  have HE2 := hid (pre_err (preOf s.data.toList))
  go_wp2_with fail
  refine (worse_any _ _ aT aB m w5 HS5.out HE1.out HE2.out).mono ?_
  rintro e w6 ⟨rfl, hw6⟩
  have HB6 := hid (show Below (w.heap.size + 1) (w.alloc (.cells #[.int .i64 0, .int .i64 0, .int .i64 0, .slice none 0 0] 85)) w6 by
    rw [hw6]; exact HB3.out.trans (HB5.out.mono (by have := HZ3.out; simp at this; omega)))
  have HE := hid (worse_err HE1.out HE2.out)
  rcases HE.out with h | h | h
  · exact absurd h HQ.out
  · have HH := hid h
    rw [h, errV1]
    clear h hw6
    obtain ⟨⟨r0, r1, r2, r3⟩, rf, rz⟩ := res4 HB6.out
    have HBF := hid (HB0.out.trans (HB6.out.mono (by omega)))
    go_wp2_with fail
    refine bodyPost_ret (v := .tuple #[.agg #[.int .i64 0, .int .i64 0, .int .i64 0, .slice none 0 0], .iface 169 (.pointer (some aT))]) (by simp [results, Tryz.results57, go_sem, r0, r1, r2, r3]) rfl ⟨by rw [HH.out]; rfl, ?_⟩
    exact (((HBF.out.setCell (Nat.le_refl _) _).setCell (Nat.le_refl _) _).setCell (Nat.le_refl _) _).setCell (Nat.le_refl _) _
  · have HH := hid h
    rw [h, errV2]
    clear h hw6
    obtain ⟨⟨r0, r1, r2, r3⟩, rf, rz⟩ := res4 HB6.out
    have HBF := hid (HB0.out.trans (HB6.out.mono (by omega)))
    go_wp2_with fail
    refine bodyPost_ret (v := .tuple #[.agg #[.int .i64 0, .int .i64 0, .int .i64 0, .slice none 0 0], .iface 169 (.pointer (some aB))]) (by simp [results, Tryz.results57, go_sem, r0, r1, r2, r3]) rfl ⟨by rw [HH.out]; rfl, ?_⟩
    exact (((HBF.out.setCell (Nat.le_refl _) _).setCell (Nat.le_refl _) _).setCell (Nat.le_refl _) _).setCell (Nat.le_refl _) _
set_option maxHeartbeats 1000000 in
theorem vsplit_pgood (s : ByteArray) (aT aB : Addr) (m : Int) (w : World) (hs : s.size < 4294967281) (S : Vs w aT aB m) (hmk : marked s.data.toList = true) (h3 : (coreOf s.data.toList).length = 3) (hp : hasPre s.data.toList = true) (hq : worse (numsErr (coreOf s.data.toList)) (pre (preOf s.data.toList)) = 0) :
    Calls Tryz.prog 57 #[.string s] w fun e w' => ∃ b X, e = .returned (.tuple #[.agg #[.int .i64 (nAt s.data.toList 0), .int .i64 (nAt s.data.toList 1), .int .i64 (nAt s.data.toList 2), .slice (some ⟨b, 0, none⟩) X.length X.length], .nilIface]) ∧
      bl X = preOf s.data.toList ∧ b < w'.heap.size ∧ (∀ j (h : j < X.length), w'.cell? ⟨b, 0 + j, none⟩ = some (.string X[j])) ∧ Below w.heap.size w w' := by
  have HQ := hid hq
  clear hq
  have HB0 := hid ((Below.refl w.heap.size w).alloc (Nat.le_refl _) (.cells #[.int .i64 0, .int .i64 0, .int .i64 0, .slice none 0 0] 85))
  have HS := hid (S.below HB0.out)
  have hne1 : ¬ w.heap.size = 6 := by have := lt_of_cell S.t; simp at this; omega
  have hne2 : ¬ 6 = w.heap.size := fun h => hne1 h.symm
  have HM := hid hmk
  have H3 := hid h3
  have HP := hid hp
  clear S hmk h3 hp
  go_enter Tryz.func57, Tryz.ntmps57
  go_wp2_with fail
  refine (cutPrefix_any s _).mono ?_
  rintro e w1 ⟨R, rfl, hR, rfl⟩
  rw [HM.out]
  have HR := hid hR
  have hRs : R.size < 4294967281 := by
    have h1 := size_of hR
    have h2 := restOf_le s.data.toList
    simp at h2; omega
  clear hR
  go_wp2_with fail
  refine (cut_any R m _ hRs HS.out.ml).mono ?_
  rintro e w2 ⟨C, T, rfl, hC, hT, hb2⟩
  rw [show (one 45 R.data.toList).2.2 = true by rw [HR.out]; exact HP.out]
  have HC := hid hC
  have HT := hid hT
  have hCs : C.size < 4294967281 := by
    have h1 := size_of hC
    have h2 := (one_le 45 R.data.toList).1
    simp at h2; omega
  have hTs : T.size < 4294967281 := by
    have h1 := size_of hT
    have h2 := (one_le 45 R.data.toList).2
    simp at h2; omega
  have HB2 := hid (show Below (w.heap.size + 1) (w.alloc (.cells #[.int .i64 0, .int .i64 0, .int .i64 0, .slice none 0 0] 85)) w2 from hb2.mono (by simp))
  have HS2 := hid (HS.out.below hb2)
  clear hC hT hb2
  go_wp2_with fail
  refine (nums_any C aT aB m w2 hCs HS2.out).mono ?_
  rintro e w3 ⟨v, rfl, hown, hb3⟩
  have hCC : cutAt 46 C.data.toList = coreOf s.data.toList := by rw [HC.out, HR.out]; rfl
  rw [hCC] at hown ⊢
  rw [H3.out, n_three H3.out] at hown
  have HB3 := hid (HB2.out.trans (hb3.mono (by have := HB2.out.size; simpa using this)))
  have HS3 := hid (HS2.out.below hb3)
  have HZ := hid (show w.heap.size + 1 ≤ w2.heap.size by have := HB2.out.size; simpa using this)
  obtain ⟨_, ⟨_, hn0⟩ | ⟨g9, cap, cur, hv, hg9, hblk, hcap, hcm, hcs, hct⟩⟩ := hown
  · cases hn0
  subst hv
  have HK := hid (show w3.cell? ⟨g9, 0, none⟩ = some (.int .i64 (nAt s.data.toList 0)) ∧ w3.cell? ⟨g9, 1, none⟩ = some (.int .i64 (nAt s.data.toList 1)) ∧ w3.cell? ⟨g9, 2, none⟩ = some (.int .i64 (nAt s.data.toList 2)) from three_cells hblk hct)
  have HG := hid hg9
  clear hg9 hblk hcap hcm hcs hct hb3 hCC
  go_wp2_with fail
  refine (split_any 46 T m w3 hTs HS3.out.ml).mono ?_
  rintro e w4 ⟨X, rfl, hX, hxc, hb4, hz4⟩
  have hPX : bl X = preOf s.data.toList := by rw [hX, HT.out, HR.out]; unfold preOf; rw [HP.out]; rfl
  have HX := hid hX
  have HPX := hid hPX
  have HXC := hid hxc
  have HS4 := hid (HS3.out.below hb4)
  have HB4 := hid hb4
  have HZ3 := hid HB3.out.size
  have hn := many_le hX
  have HXS : Hid (∀ x, x ∈ X → x.size ≤ maxLen) := fun x hx => by have := piece_le HX.out hx; unfold maxLen; omega
  have HZ4 := hid hz4
  clear hX hxc hb4 hPX hz4
  go_wp2_with fail
  refine (pre_some w3.heap.size 0 X.length X aT aB m w4 HS4.out (by omega) HXS.out HXC.out).mono ?_
  rintro e w5 ⟨rfl, hb5⟩
  rw [HPX.out]
  have HS5 := hid (HS4.out.below hb5)
  have HB5 := hid (HB4.out.trans (hb5.mono HB4.out.size))
  have HX5 := hid (show ∀ j (h : j < X.length), w5.cell? ⟨w3.heap.size, 0 + j, none⟩ = some (.string X[j]) from fun j h => cell_below hb5 (HXC.out j h))
  have HZ5 := hid (show w3.heap.size < w5.heap.size from Nat.lt_of_lt_of_le HZ4.out hb5.size)
  clear hb5
  have HE1 := hid (numsErr_err (coreOf s.data.toList))
  have HE2 := hid (pre_err (preOf s.data.toList))
  go_wp2_with fail
  refine (worse_any _ _ aT aB m w5 HS5.out HE1.out HE2.out).mono ?_
  rintro e w6 ⟨rfl, hw6⟩
  have HB6 := hid (show Below (w.heap.size + 1) (w.alloc (.cells #[.int .i64 0, .int .i64 0, .int .i64 0, .slice none 0 0] 85)) w6 by
    rw [hw6]; exact HB3.out.trans (HB5.out.mono (by have := HZ3.out; simp at this; omega)))
  rw [HQ.out, errV0]
  obtain ⟨⟨r0, r1, r2, r3⟩, rf, rz⟩ := res4 HB6.out
  have HBF := hid (HB0.out.trans (HB6.out.mono (by omega)))
  obtain ⟨k0, k1, k2⟩ := HK.out
  have hg9 : ¬ g9 = w.heap.size := by have h1 := HG.out; have h2 := HZ.out; omega
  have hg9' : ¬ w.heap.size = g9 := fun h => hg9 h.symm
  have hb9 : ¬ w3.heap.size = w.heap.size := by have h1 := HZ3.out; simp at h1; omega
  have c0 : w6.cell? ⟨g9, 0, none⟩ = some (.int .i64 (nAt s.data.toList 0)) := by rw [hw6]; exact cell_below HB5.out k0
  have c1 : w6.cell? ⟨g9, 1, none⟩ = some (.int .i64 (nAt s.data.toList 1)) := by rw [hw6]; exact cell_below HB5.out k1
  have c2 : w6.cell? ⟨g9, 2, none⟩ = some (.int .i64 (nAt s.data.toList 2)) := by rw [hw6]; exact cell_below HB5.out k2
  have HX6 := hid (show ∀ j (h : j < X.length), w6.cell? ⟨w3.heap.size, 0 + j, none⟩ = some (.string X[j]) from hw6 ▸ HX5.out)
  have HZ6 := hid (show w3.heap.size < w6.heap.size from hw6 ▸ HZ5.out)
  clear hw6 k0 k1 k2
  generalize hn0 : nAt s.data.toList 0 = n0 at *
  generalize hn1 : nAt s.data.toList 1 = n1 at *
  generalize hn2 : nAt s.data.toList 2 = n2 at *
  have HN0 := hid hn0
  have HN1 := hid hn1
  have HN2 := hid hn2
  clear hn0 hn1 hn2
  go_wp2_with fail
  go_region
  all_goals (try go_wp2)
  all_goals
    refine bodyPost_ret (v := .tuple #[.agg #[.int .i64 n0, .int .i64 n1, .int .i64 n2, .slice (some ⟨w3.heap.size, 0, none⟩) X.length X.length], .nilIface]) (by simp [results, Tryz.results57, go_sem, r0, r1, r2, r3]) rfl ⟨w3.heap.size, X, by rw [HN0.out, HN1.out, HN2.out], HPX.out, ?_, ?_, ?_⟩
    · simpa using HZ6.out
    · intro j h
      have := HX6.out j h
      simpa [World.cell?_setCell_other, hb9, fun h : w.heap.size = w3.heap.size => hb9 h.symm] using this
    · exact ((((HBF.out.setCell (Nat.le_refl _) _).setCell (Nat.le_refl _) _).setCell (Nat.le_refl _) _).setCell (Nat.le_refl _) _).drew
theorem vsplit_bad (s : ByteArray) (aT aB : Addr) (m : Int) (w : World) (hs : s.size < 4294967281) (S : Vs w aT aB m) (h : verErr s.data.toList ≠ 0) :
    Calls Tryz.prog 57 #[.string s] w fun e w' => e = .returned (.tuple #[.agg #[.int .i64 0, .int .i64 0, .int .i64 0, .slice none 0 0], errV aT aB (verErr s.data.toList)]) ∧ Below w.heap.size w w' := by
  by_cases h0 : marked s.data.toList = false ∨ (coreOf s.data.toList).length ≠ 3
  · have e : verErr s.data.toList = 1 := by unfold verErr; rw [if_pos h0]
    rw [e]; exact vsplit_shape s aT aB m w hs S h0
  · have h1 : marked s.data.toList = true := by
      cases hm : marked s.data.toList
      · exact absurd (Or.inl hm) h0
      · rfl
    have h3 : (coreOf s.data.toList).length = 3 := Decidable.byContradiction fun hn => h0 (Or.inr hn)
    cases hp : hasPre s.data.toList
    · have e : verErr s.data.toList = numsErr (coreOf s.data.toList) := by unfold verErr; rw [if_neg h0, hp]; rfl
      rw [e] at h ⊢; exact vsplit_num s aT aB m w hs S h1 h3 hp h
    · have e : verErr s.data.toList = worse (numsErr (coreOf s.data.toList)) (pre (preOf s.data.toList)) := by unfold verErr; rw [if_neg h0, hp]; rfl
      rw [e] at h ⊢; exact vsplit_pbad s aT aB m w hs S h1 h3 hp h
theorem vsplit_good (s : ByteArray) (aT aB : Addr) (m : Int) (w : World) (hs : s.size < 4294967281) (S : Vs w aT aB m) (h : verErr s.data.toList = 0) :
    Calls Tryz.prog 57 #[.string s] w fun e w' => ∃ v X, e = .returned (.tuple #[.agg #[.int .i64 (nAt s.data.toList 0), .int .i64 (nAt s.data.toList 1), .int .i64 (nAt s.data.toList 2), v], .nilIface]) ∧
      bl X = preOf s.data.toList ∧ StrsAt w' v X ∧ Below w.heap.size w w' := by
  by_cases h0 : marked s.data.toList = false ∨ (coreOf s.data.toList).length ≠ 3
  · unfold verErr at h; rw [if_pos h0] at h; cases h
  · have h1 : marked s.data.toList = true := by
      cases hm : marked s.data.toList
      · exact absurd (Or.inl hm) h0
      · rfl
    have h3 : (coreOf s.data.toList).length = 3 := Decidable.byContradiction fun hn => h0 (Or.inr hn)
    cases hp : hasPre s.data.toList
    · have e : verErr s.data.toList = numsErr (coreOf s.data.toList) := by unfold verErr; rw [if_neg h0, hp]; rfl
      rw [e] at h
      refine (vsplit_plain s aT aB m w hs S h1 h3 hp h).mono fun e w' ⟨e1, e2⟩ => ⟨.slice none 0 0, [], e1, ?_, Or.inl ⟨rfl, rfl⟩, e2⟩
      unfold preOf; rw [hp]; rfl
    · have e : verErr s.data.toList = worse (numsErr (coreOf s.data.toList)) (pre (preOf s.data.toList)) := by unfold verErr; rw [if_neg h0, hp]; rfl
      rw [e] at h
      refine (vsplit_pgood s aT aB m w hs S h1 h3 hp h).mono fun e w' ⟨b, X, e1, e2, e3, e4, e5⟩ => ⟨_, X, e1, e2, Or.inr ⟨?_, b, rfl, e3, e4⟩, e5⟩
      intro hX
      subst hX
      have : preOf s.data.toList = [] := e2.symm
      unfold preOf at this
      rw [hp] at this
      exact cutAt_ne _ _ this
end Ve
end Go.Proofs.YtiebgeamfblbdaaGreatDoor
namespace Go.Proofs.YtiebgeamfblbdaaGreatDoor
open Go.RowKit
namespace Ve
def worst (b : Nat) (cs : List Nat) : Nat := if b = 1 ∨ 1 ∈ cs then 1 else if b = 2 ∨ 2 ∈ cs then 2 else 0
theorem worst_fold {α : Type} (f : α → Nat) (hf : ∀ x, f x = 0 ∨ f x = 1 ∨ f x = 2) : ∀ (ps : List α) (b : Nat), (b = 0 ∨ b = 1 ∨ b = 2) → ps.foldl (fun b p => worse b (f p)) b = worst b (ps.map f) := by
  intro ps
  induction ps with
  | nil =>
    intro b hb
    rcases hb with rfl | rfl | rfl <;> simp [worst]
  | cons p r ih =>
    intro b hb
    rw [List.foldl_cons, ih _ (worse_err hb (hf p))]
    rcases hb with rfl | rfl | rfl <;> rcases hf p with h | h | h <;> simp [worst, worse, h]
theorem numsErr_worst (ps : List (List UInt8)) : numsErr ps = worst 0 (ps.map fun p => (num p).2) := worst_fold _ num_err ps 0 (Or.inl rfl)
theorem preTo_worst (b : Nat) (hb : b = 0 ∨ b = 1 ∨ b = 2) (ps : List (List UInt8)) : preTo b ps = worst b (ps.map part) := worst_fold _ part_err ps b hb
end Ve
end Go.Proofs.YtiebgeamfblbdaaGreatDoor
