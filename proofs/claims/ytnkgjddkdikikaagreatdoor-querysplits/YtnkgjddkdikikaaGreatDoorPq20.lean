/-
  RefH
-/
import Derived.Test.YtnkgjddkdikikaaGreatDoorPq2
import Derived.Test.YtnkgjddkdikikaaGreatDoorPq3
import Derived.Test.YtnkgjddkdikikaaGreatDoorPq7
import Derived.Test.YtnkgjddkdikikaaGreatDoorPq16
import Derived.Test.YtnkgjddkdikikaaGreatDoorPq5
namespace Go.Proofs.YtnkgjddkdikikaaGreatDoor
open Go.RowKit
namespace Ve
theorem dash {s : ByteArray} (hm : marked s.data.toList = true) (h : hasPre s.data.toList = true) : ∃ dj : Nat, ∃ _ : 1 ≤ dj, ∃ hdl : dj < s.size, ((s[dj].toNat : Int) == 45) = true ∧ (∀ k, k < dj → ∀ hk : k < s.size, ((s[k].toNat : Int) == 45) = false) ∧
    (s.extract 1 dj).data.toList = (one 45 (s.data.toList.drop 1)).1 ∧ (s.extract (dj + 1) s.size).data.toList = (one 45 (s.data.toList.drop 1)).2.1 ∧ coreOf s.data.toList = cutAt 46 (s.extract 1 dj).data.toList := by
  have hr := rest_drop hm
  obtain ⟨hp, hv⟩ := marked_pos hm
  have hc : (s.data.toList.drop 1).contains 45 = true := by unfold hasPre one at h; rw [hr] at h; exact h
  obtain ⟨j, hj, h1, h2, h3, h4⟩ := one_yes hc
  have hl : (s.data.toList.drop 1).length = s.size - 1 := by simp
  have hjs : j + 1 < s.size := by omega
  have at_ : ∀ k (hk : k < (s.data.toList.drop 1).length), (s.data.toList.drop 1)[k] = s[k + 1]'(by omega) := by
    intro k hk
    rw [List.getElem_drop]
    simp only [Nat.add_comm 1 k]
    rfl
  have e2 : (s.extract 1 (j + 1)).data.toList = (one 45 (s.data.toList.drop 1)).1 := by rw [h3, extract_list]; rfl
  refine ⟨j + 1, by omega, hjs, ?_, ?_, e2, ?_, ?_⟩
  · rw [← at_ j hj, h1]; rfl
  · intro k hk hks
    rw [beq_eq_false_iff_ne]
    intro e
    have e3 : s[k] = 45 := by apply UInt8.toNat_inj.1; show s[k].toNat = 45; omega
    cases k with
    | zero => rw [e3] at hv; cases hv
    | succ k => exact h2 k (by omega) (by omega) (by rw [at_ k (by omega)]; exact e3)
  · rw [h4, ext_drop, List.drop_drop, Nat.add_comm 1 (j + 1)]
  · rw [e2]; unfold coreOf; rw [hr]
set_option maxRecDepth 100000 in
set_option maxHeartbeats 1000000 in
theorem verOf_B1 (s : ByteArray) (w : World) (hs : s.size < 4294967281) (hmk : marked s.data.toList = true) (hp : hasPre s.data.toList = true) (h3 : (coreOf s.data.toList).length ≠ 3) :
    Calls Tryz.prog 39 #[.string s] w fun e w' => e = .returned (.tuple #[.agg #[.int .i64 0, .int .i64 0, .int .i64 0, .slice none 0 0], .int .i64 1]) ∧ Below w.heap.size w w' := by
  have H3 := hid h3
  clear h3
  obtain ⟨dj, hd1, hdl, hdc, hdn, hd2, hd3, hcore⟩ := dash hmk hp
  obtain ⟨hpos, hv0⟩ := marked_pos hmk
  have HDN := hid hdn
  have HD2 := hid hd2
  have HD3 := hid hd3
  have HCO := hid hcore
  have h0b : ((s.size : Int) == 0) = false := beq_eq_false_iff_ne.2 (by omega)
  have HMK := hid hmk
  have HPP := hid hp
  clear hdn hd2 hd3 hcore hmk hp
  go_enter Tryz.func39, Tryz.ntmps39
  go_wp2_with fail
  go_loop [4, 5, 6, 7] (fun hd pr hs i => (∃ k : Nat, k ≤ dj ∧ i = .int .i64 k ∧ hd = .string (s.extract 1 s.size) ∧ pr = .string ⟨#[]⟩ ∧ hs = .bool false) ∨ (i = .int .i64 ((dj : Int) + 1) ∧ hd = .string (s.extract 1 dj) ∧ pr = .string (s.extract (dj + 1) s.size) ∧ hs = .bool true)) (fun _ _ _ i => s.size + 1 - (intOf i).toNat)
  case atStart => exact Or.inl ⟨0, Nat.zero_le _, rfl, rfl, rfl, rfl⟩
  case round =>
    rcases hrel with ⟨k, hk, rfl, rfl, rfl, rfl⟩ | ⟨rfl, rfl, rfl, rfl⟩
    · have hlt : k < s.size := by omega
      by_cases hkd : k = dj
      · subst hkd
        have h1k : (1 : Int) ≤ (k : Int) := by omega
        have h2k : (k : Int) ≤ (s.size : Int) := by omega
        go_wp2_with fail
        go_round
        case rel => exact Or.inr ⟨rfl, rfl, rfl, rfl⟩
        case measure => simp [intOf]; omega
      · have hn := HDN.out k (by omega) hlt
        go_wp2_with fail
        go_round
        case rel => exact Or.inl ⟨k + 1, by omega, by go_num, rfl, rfl, rfl⟩
        case measure => simp [intOf]; omega
    · have hes : (s.extract 1 dj).size < 4294967281 := by rw [ByteArray.size_extract]; omega
      have hps : (s.extract (dj + 1) s.size).size < 4294967281 := by rw [ByteArray.size_extract]; omega
      have HEX := HD2
      generalize s.extract 1 dj = C at *
      generalize s.extract (dj + 1) s.size = D at *
      have HZZ := hid hdl
      by_cases hx : (dj : Int) + 1 < (s.size : Int)
      all_goals
        have HB0 := hid ((Below.refl w.heap.size w).alloc (Nat.le_refl _) (.cells #[.int .i64 0, .int .i64 0, .int .i64 0, .slice none 0 0] 68))
        go_wp2_with fail
        refine (rcut46 C _ hes).mono ?_
        rintro e w2 ⟨v, X, rfl, hX, hown, hb⟩
        have hXc : bl X = coreOf s.data.toList := by rw [hX, HCO.out]
        have HXC := hid hXc
        have HB2 := hid (show Below (w.heap.size + 1) (w.alloc (.cells #[.int .i64 0, .int .i64 0, .int .i64 0, .slice none 0 0] 68)) w2 from hb.mono (by simp))
        have HXN := hid (show X ≠ [] from fun h => by subst h; exact cutAt_ne _ _ hX.symm)
        have hXl : X.length = (coreOf s.data.toList).length := by rw [← hXc, bl_len]
        have HXZ := hid (show ∀ x, x ∈ X → x.size ≤ maxLen from fun x hx => by have := piece_le hX hx; unfold maxLen; omega)
        obtain ⟨g, cap, rfl, hg, hgz, hcells⟩ := owned_cells hown HXN.out
        have HG := hid hg
        have HGZ := hid hgz
        have HCE := hid hcells
        have HXL := hid hXl
        have hXle := many_le hX
        clear hX hXc hown hb hXl hg hgz hcells
        have h3b : ((X.length : Int) == 3) = false := beq_eq_false_iff_ne.2 (by have := H3.out; have := HXL.out; omega)
        obtain ⟨⟨r0, r1, r2, r3⟩, rf, rz⟩ := res4 HB2.out
        have HBF := hid (HB0.out.trans (HB2.out.mono (by omega)))
        go_wp2_with fail
        refine bodyPost_ret (v := .tuple #[.agg #[.int .i64 0, .int .i64 0, .int .i64 0, .slice none 0 0], .int .i64 1]) (by simp [results, Tryz.results39, go_sem, r0, r1, r2, r3]) rfl ⟨rfl, ?_⟩
        exact (((HBF.out.setCell (Nat.le_refl _) _).setCell (Nat.le_refl _) _).setCell (Nat.le_refl _) _).setCell (Nat.le_refl _) _
end Ve
end Go.Proofs.YtnkgjddkdikikaaGreatDoor
