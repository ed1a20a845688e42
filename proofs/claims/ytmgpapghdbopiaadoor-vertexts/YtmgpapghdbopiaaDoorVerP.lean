/-
  pewholderlaw1.VerTexts answers true, whatever it is given.
-/
import Derived.Test.YtmgpapghdbopiaaDoorVerN
import Derived.Test.YtmgpapghdbopiaaDoorVerO
import Derived.Test.YtmgpapghdbopiaaDoorVerOA
import Derived.Test.YtmgpapghdbopiaaDoorRefD
import Derived.Test.YtmgpapghdbopiaaDoorSameT
namespace Go.Proofs.YtmgpapghdbopiaaDoor
open Go.RowKit
namespace Ve

theorem lens_le (n : Nat) : ∀ ps : List (List UInt8), (∀ p, p ∈ ps → p.length ≤ n) → Lib.lens ps ≤ n * ps.length
  | [], _ => by simp [Lib.lens]
  | p :: r, h => by
    have h1 := h p (by simp)
    have h2 := lens_le n r fun q hq => h q (by simp [hq])
    have h3 : Lib.lens (p :: r) = p.length + Lib.lens r := by simp [Lib.lens]
    rw [h3, List.length_cons, Nat.mul_add]
    omega
theorem preText_le (X : List ByteArray) (h8 : X.length ≤ 8) (h : ∀ x, x ∈ X → x.size ≤ 20) : (preText (bl X)).length ≤ 200 := by
  have h20 : ∀ p, p ∈ bl X → p.length ≤ 20 := by
    intro p hp
    obtain ⟨x, hx, rfl⟩ := List.mem_map.1 hp
    rw [len_eq]; exact h x hx
  have hl := lens_le 20 (bl X) h20
  have hb := bl_len X
  cases e : bl X with
  | nil => simp [preText]
  | cons p r =>
    rw [e] at hl hb
    simp only [preText, List.length_append, Lib.join_length]
    simp at hb hl ⊢
    omega
theorem core3_le (a b c : Int) (a0 : 0 ≤ a) (a1 : a ≤ 999999) (b0 : 0 ≤ b) (b1 : b ≤ 999999) (c0 : 0 ≤ c) (c1 : c ≤ 999999) : (core3 a b c).length ≤ 21 := by
  have h1 := itoa_le a a0 a1
  have h2 := itoa_le b b0 b1
  have h3 := itoa_le c c0 c1
  simp [core3]; omega
set_option maxRecDepth 100000 in
set_option maxHeartbeats 4000000 in
theorem verTexts_any (a b c : Int) (sa : Option Addr) (cp : Nat) (X : List ByteArray) (aT aB : Addr) (m : Int) (w : World) (S : Vs w aT aB m) (htab : Lib.TabIs Tryd.prog w powName .u64 Lib.pow10Tab)
    (hsa : X ≠ [] → ∃ bk o, sa = some ⟨bk, o, none⟩ ∧ ∀ j (h : j < X.length), w.cell? ⟨bk, o + j, none⟩ = some (.string X[j])) :
    Calls Tryd.prog 3 #[.int .i64 a, .int .i64 b, .int .i64 c, .slice sa X.length cp] w fun e w' => e = .returned (.bool true) ∧ Below w.heap.size w w' := by
  obtain ⟨i0, hi, hz0, hz1, hz2⟩ := info_parts infoStr
  have HS := hid S
  have HTB := hid htab
  have HSA := hid hsa
  have HV := hid (versed_any aT aB m w S htab)
  clear S htab hsa
  go_enter Tryd.func3, Tryd.ntmps3
  go_wp2_with fail
  refine HV.out.mono ?_
  rintro e w1 ⟨rfl, hb1⟩
  have HB1 := hid hb1
  clear hb1 HV
  by_cases h8 : (8 : Int) < (X.length : Int)
  · go_wp2_with fail
    go_ret
    exact ⟨rfl, HB1.out⟩
  · go_wp2_with fail
    go_loopw [10, 11] (fun v i wr => ∃ k : Nat, k ≤ X.length ∧ i = .int .i64 k ∧ Hid (∀ x, x ∈ X.take k → x.size ≤ 20) ∧ Hid (k = 0 → v = .slice none 0 0) ∧
        wr.ownsRow w1.heap.size 9 1 v k ((X.take k).map Value.string) ∧ Below w1.heap.size w1 wr) (fun _ i _ => X.length - (intOf i).toNat)
    case atStart => exact ⟨0, Nat.zero_le _, rfl, hid (by simp), hid (fun _ => rfl), World.ownsRow_nil _ _ _ _, Below.refl _ _⟩
    case round =>
      obtain ⟨k, hk, rfl, H20, HZ, hown, hbr⟩ := hrel
      have HO := hid hown
      have HBR := hid hbr
      have hzz := hbr.size
      have HW := hid (HB1.out.trans (hbr.mono HB1.out.size))
      clear hown hbr
      by_cases hlt : k < X.length
      · obtain ⟨bk, o, hsa, hcell⟩ := HSA.out (by intro h; subst h; simp at hlt)
        have hc := cell_below HW.out (hcell k hlt)
        subst hsa
        clear hcell
        by_cases h20 : (20 : Int) < (X[k].size : Int)
        · go_wp2_with fail
          go_ret
          exact ⟨rfl, HW.out⟩
        · have H20' := hid (show ∀ x, x ∈ X.take (k + 1) → x.size ≤ 20 by
            rw [List.take_succ_eq_append_getElem hlt]
            intro x hx
            rcases List.mem_append.1 hx with h | h
            · exact H20.out x h
            · rw [List.mem_singleton.1 h]; omega)
          have HTK := hid (show (X.take (k + 1)).map Value.string = (X.take k).map Value.string ++ [.string X[k]] by rw [List.take_succ_eq_append_getElem hlt, List.map_append]; rfl)
          go_wp2_with (at_builtin; refine wpList_append_own _ rfl _ _ 22 rfl w1.heap.size 9 i0 (.string ByteArray.empty) 1 16 Tryd.underlying22 hi hz0 hz1 hz2 rfl (by decide) _ _ _ rfl (HO.out.alloc _) ⟨wr.heap.size, 0, none⟩ 1 1 [.string X[k]] rfl rfl ?c1 ?c2 ?c3 ?c4 ?c5 ?_)
          case c2 => rfl
          case c3 => unfold maxLen; omega
          case c4 => omega
          case c5 => omega
          intro v' w3 hown' hgrow _
          have HR := hid (rel_app hzz HBR.out HO.out (Below.refl _ _) hgrow)
          have HO' := hid hown'
          clear hown' hgrow
          go_wp2_with fail
          go_roundw
          case rel => exact ⟨k + 1, by omega, by go_num, H20', hid (fun h => by omega), by rw [HTK.out, List.map_take]; exact HO'.out, HR.out⟩
          case measure => simp [intOf]; omega
      · have hkk : X.take k = X := List.take_of_length_le (by omega)
        have hkl : k = X.length := by omega
        rw [hkk] at HO H20
        subst hkl
        have HPT := hid (preText_le X (by omega) H20.out)
        obtain ⟨sv, sn, sc, rfl⟩ := owned_slice HO.out
        have HTX := hid (text_any a b c X _ aT aB m wr (HS.out.below HW.out) (tab_below HTB.out HW.out) (by omega) (fun x hx => by have := H20.out x hx; unfold maxLen; omega) (by have := HPT.out; omega) (owned_full HO.out (fun h => HZ.out (by rw [h]; rfl))))
        clear hkk HO HZ HBR
        go_wp2_with fail
        refine HTX.out.mono ?_
        rintro e w2 ⟨T0, rfl, hT0, hb2⟩
        have HT0 := hid hT0
        have HW2 := hid (HW.out.trans (hb2.mono HW.out.size))
        clear hT0 hb2 HTX
        go_upto_region 13 with fail
        go_cut [71] (fun bv wx => bv = .bool (inBB a && inBB b && inBB c) ∧ wx = w2)
        case first =>
          by_cases a0 : 0 ≤ a
          · by_cases a1 : a ≤ 999999
            · by_cases b0 : 0 ≤ b
              · by_cases b1 : b ≤ 999999
                · by_cases d0 : 0 ≤ c
                  · by_cases d1 : c ≤ 999999
                    · go_wp2_with fail
                      go_meet
                      exact ⟨congrArg Value.bool (by simp [inBB]; omega), rfl⟩
                    · go_wp2_with fail
                      go_meet
                      exact ⟨congrArg Value.bool (by simp [inBB]; omega), rfl⟩
                  · go_wp2_with fail
                    go_meet
                    exact ⟨congrArg Value.bool (by simp [inBB]; omega), rfl⟩
                · go_wp2_with fail
                  go_meet
                  exact ⟨congrArg Value.bool (by simp [inBB]; omega), rfl⟩
              · go_wp2_with fail
                go_meet
                exact ⟨congrArg Value.bool (by simp [inBB]; omega), rfl⟩
            · go_wp2_with fail
              go_meet
              exact ⟨congrArg Value.bool (by simp [inBB]; omega), rfl⟩
          · go_wp2_with fail
            go_meet
            exact ⟨congrArg Value.bool (by simp [inBB]; omega), rfl⟩
        case rest =>
          obtain ⟨rfl, rfl⟩ := hcut
          cases hin : (inBB a && inBB b && inBB c)
          · have hT : T0 = ⟨#[]⟩ := str_ext (by rw [HT0.out, textOf_out a b c _ hin])
            subst hT
            go_wp2_with fail
            go_ret
            exact ⟨rfl, HW2.out⟩
          · have hbb : (0 ≤ a ∧ a ≤ 999999) ∧ (0 ≤ b ∧ b ≤ 999999) ∧ 0 ≤ c ∧ c ≤ 999999 := by
              simp only [inBB, Bool.and_eq_true, decide_eq_true_eq] at hin
              exact ⟨hin.1.1, hin.1.2, hin.2⟩
            obtain ⟨⟨a0, a1⟩, ⟨b0, b1⟩, d0, d1⟩ := hbb
            have HVT := hid (vtext_any a b c sa cp X wc a0 a1 b0 b1 d0 d1 (by omega) (fun h => by
              obtain ⟨bk, o, h1, h2⟩ := HSA.out h
              exact ⟨bk, o, h1, fun j hj => cell_below HW2.out (h2 j hj)⟩) (by have := HPT.out; omega))
            have HLAW := hid (textOf_law a b c (bl X) a0 a1 b0 b1 d0 d1)
            have HC3 := hid (core3_le a b c a0 a1 b0 b1 d0 d1)
            clear a0 a1 b0 b1 d0 d1
            go_wp2_with fail
            refine HVT.out.mono ?_
            rintro e w3 ⟨T, rfl, hT, hb3⟩
            have HW3 := hid (HW2.out.trans (hb3.mono HW2.out.size))
            have hTs : T.size < 4294967281 := by
              have h1 := size_of hT
              have h2 := HC3.out
              have h3 := HPT.out
              rw [List.length_append] at h1
              omega
            rw [← hT] at HLAW
            have HVO := hid (verOf_any T w3 hTs)
            clear hT hb3 HVT hTs
            go_wp2_with fail
            refine HVO.out.mono ?_
            rintro e w4 ⟨hcase, hb4⟩
            have HW4 := hid (HW3.out.trans (hb4.mono HW3.out.size))
            clear hb4 HVO
            rcases hcase with ⟨hne, rfl⟩ | ⟨hz, sx, cx, X2, rfl, hX2, hcells⟩
            · have hT : T0 = ⟨#[]⟩ := str_ext (by rw [HT0.out, HLAW.out.2 (Or.inl hne)])
              have hpos : (0 : Int) < (verErr T.data.toList : Int) := by omega
              generalize verErr T.data.toList = q at *
              subst hT
              have HBF := hid (HW4.out.alloc HW4.out.size (.cells #[.int .i64 0, .int .i64 0, .int .i64 0, .slice none 0 0] 30))
              go_wp2_with fail
              go_ret
              exact ⟨rfl, HBF.out⟩
            · have hba : Below w4.heap.size w4 (w4.alloc (.cells #[.int .i64 (nAt T.data.toList 0), .int .i64 (nAt T.data.toList 1), .int .i64 (nAt T.data.toList 2), .slice sx X2.length cx] 30)) := (Below.refl _ _).alloc (Nat.le_refl _) _
              have HBF := hid (HW4.out.trans (hba.mono HW4.out.size))
              have HSM := hid (same_all sx sa cx cp X2 X _ (by omega) (hcells.imp id fun ⟨g, h1, h2⟩ => ⟨g, h1, fun j hj => cell_below hba (h2 j hj)⟩) (fun h => by
                obtain ⟨bk, o, h1, h2⟩ := HSA.out h
                exact ⟨bk, o, h1, fun j hj => cell_below HBF.out (h2 j hj)⟩))
              have HX2 := hid hX2
              have HZ2 := hid hz
              clear hX2 hcells hz hba
              go_wp2_with fail
              refine HSM.out.mono ?_
              rintro e w5 ⟨rfl, hb5⟩
              have HB5 := hid (HBF.out.trans (hb5.mono HBF.out.size))
              clear hb5 HSM
              by_cases hxx : X2 = X
              · have hT : T0 = T := str_ext (by rw [HT0.out]; exact HLAW.out.1 HZ2.out (by rw [← HX2.out, hxx]))
                rw [decide_eq_true hxx]
                clear hxx
                subst hT
                go_wp2_with fail
                go_ret
                exact ⟨rfl, HB5.out⟩
              · have hT : T0 = ⟨#[]⟩ := str_ext (by rw [HT0.out]; exact HLAW.out.2 (Or.inr fun h => hxx (bl_inj (HX2.out.trans h))))
                rw [decide_eq_false hxx]
                clear hxx
                subst hT
                go_wp2_with fail
                go_ret
                exact ⟨rfl, HB5.out⟩
end Ve
end Go.Proofs.YtmgpapghdbopiaaDoor
