
import Derived.Test.YtemhofbhmnnijaaGreatDoorPj22
import Derived.Laws.EntriesVeiled
namespace Go.Proofs.YtemhofbhmnnijaaGreatDoor
open Go.RowKit
namespace Ve
theorem cut_le (s a : List UInt8) : (Lib.cut s a).2.1.length ≤ s.length := by
  unfold Lib.cut
  split
  · show (s.drop _).length ≤ _
    rw [List.length_drop]; omega
  · exact Nat.zero_le _
theorem blP_drop {X : List ByteArray} {k : Nat} (h : k < X.length) : bl (X.drop k) = X[k].data.toList :: bl (X.drop (k + 1)) := by
  rw [List.drop_eq_getElem_cons h]; rfl
set_option maxHeartbeats 4000000 in
set_option maxRecDepth 100000 in
theorem pcK2_any (s : ByteArray) (X : List ByteArray) (g b c : Nat) (m : Int) (W : World) (z : Bool) (hs : s.size ≤ 100) (hX : 2 ≤ X.length) (hX9 : X.length ≤ 1000) (hm : W.cell? ⟨11, 0, none⟩ = some (.int .i64 m))
    (h0 : W.cell? ⟨b, 0, none⟩ = some (.slice (some ⟨g, 0, none⟩) X.length X.length)) (h1 : W.cell? ⟨c, 0, none⟩ = some (.int .i64 ((X.length - 1 : Nat) : Int))) (hc : ∀ j (h : j < X.length), W.cell? ⟨g, j, none⟩ = some (.string X[j]))
    (hz : z = (Lib.hasPrefix s.data.toList (X[0]'(by omega)).data.toList && grd (bl (X.drop 1)) (Lib.trimPrefix s.data.toList (X[0]'(by omega)).data.toList))) :
    Calls Tryz.prog 49 (#[.string s] ++ #[.pointer (some ⟨b, 0, none⟩), .pointer (some ⟨c, 0, none⟩)]) W fun e W' => e = .returned (.bool z) ∧ Below W.heap.size W W' := by
  show Calls Tryz.prog 49 #[.string s, .pointer (some ⟨b, 0, none⟩), .pointer (some ⟨c, 0, none⟩)] W _
  have x0 := hc 0 (by omega)
  have HC := hid hc
  have HP := hid (Tryz.strings_CutPrefix s (X[0]'(by omega)) W)
  have HZ := hid hz
  have l0 : (0 : Int) < (X.length : Int) := by omega
  have l1 : (1 : Int) ≤ ((X.length - 1 : Nat) : Int) := by omega
  have l2 : ((X.length - 1 : Nat) : Int) ≤ (X.length : Int) := by omega
  clear hc hz
  go_enter Tryz.func49, Tryz.ntmps49
  go_wp2_with fail
  refine HP.out.mono ?_
  rintro e w1 ⟨rfl, rfl⟩
  have HR0 := hid (show (⟨(Lib.trimPrefix s.data.toList (X[0]'(by omega)).data.toList).toArray⟩ : ByteArray).size ≤ 100 by
    have := Lib.trimPrefix_le s.data.toList (X[0]'(by omega)).data.toList
    rw [len_eq] at this
    show (Lib.trimPrefix s.data.toList (X[0]'(by omega)).data.toList).toArray.size ≤ 100
    rw [List.size_toArray]; omega)
  have HZ0 := hid (show z = (Lib.hasPrefix s.data.toList (X[0]'(by omega)).data.toList && grd (bl (X.drop (0 + 1))) (⟨(Lib.trimPrefix s.data.toList (X[0]'(by omega)).data.toList).toArray⟩ : ByteArray).data.toList) by rw [HZ.out])
  clear HZ HP
  generalize (⟨(Lib.trimPrefix s.data.toList (X[0]'(by omega)).data.toList).toArray⟩ : ByteArray) = R0 at *
  generalize Lib.hasPrefix s.data.toList (X[0]'(by omega)).data.toList = f0 at *
  go_wp2_with fail
  clear x0
  go_loopw [5, 6, 21] (fun rv fv iv wr => ∃ (k : Nat) (R : ByteArray) (fd : Bool), k ≤ X.length - 1 - 1 ∧ iv = .int .i64 k ∧ rv = .string R ∧ fv = .bool fd ∧ R.size ≤ 100 ∧ Hid (z = (fd && grd (bl (X.drop (k + 1))) R.data.toList)) ∧ Hid (Below w1.heap.size w1 wr)) (fun _ _ iv _ => X.length - 1 - 1 - (intOf iv).toNat)
  case atStart => exact ⟨0, R0, f0, Nat.zero_le _, rfl, rfl, rfl, HR0.out, HZ0, hid (Below.refl _ _)⟩
  case round =>
    obtain ⟨k, R, fd, hk, rfl, rfl, rfl, hR, HZK, HB⟩ := hrel
    clear HR0 HZ0
    by_cases hlt : k < X.length - 1 - 1
    · have hkI := ix_lt hlt
      have hk0 := ix_pos k
      have HLT := hid hlt
      have y0 : wr.cell? ⟨g, 1 + k, none⟩ = some (.string (X[k + 1]'(by omega))) := by rw [Nat.add_comm 1 k]; exact cell_below HB.out (HC.out (k + 1) (by omega))
      have HCT := hid (Tryz.strings_Cut R (X[k + 1]'(by omega)) m wr (by omega) (cell_below HB.out hm))
      have HG := hid (show grd (bl (X.drop (k + 1))) R.data.toList = ((Lib.cut R.data.toList (X[k + 1]'(by omega)).data.toList).2.2 && grd (bl (X.drop (k + 1 + 1))) (Lib.cut R.data.toList (X[k + 1]'(by omega)).data.toList).2.1) by
        rw [blP_drop (show k + 1 < X.length by omega)]
        exact grd_cons _ (by intro h; have := congrArg List.length h; rw [bl_len, List.length_drop] at this; simp at this; omega) _)
      have HSZ := hid (show (⟨(Lib.cut R.data.toList (X[k + 1]'(by omega)).data.toList).2.1.toArray⟩ : ByteArray).size ≤ 100 by
        have := cut_le R.data.toList (X[k + 1]'(by omega)).data.toList
        rw [len_eq] at this
        show (Lib.cut R.data.toList (X[k + 1]'(by omega)).data.toList).2.1.toArray.size ≤ 100
        rw [List.size_toArray]; omega)
      generalize X[k + 1]'(by omega) = x at *
      clear hlt
      cases fd
      · go_wp2_with fail
        go_ret
        exact ⟨by rw [HZK.out]; rfl, HB.out⟩
      · go_wp2_with fail
        refine HCT.out.mono ?_
        rintro e w2 ⟨rfl, n2, rfl⟩
        have HB2 := hid (HB.out.trans ((below_drawn wr n2).mono HB.out.size))
        go_wp2_with fail
        go_roundw
        case rel => exact ⟨k + 1, _, _, HLT.out, by first | exact nr_idx k | exact nx_idx HLT.out (by omega : X.length - 1 - 1 ≤ 1000000), rfl, rfl, HSZ.out, hid (by rw [HZK.out, HG.out]; rfl), HB2⟩
        case measure => first | exact nr_meas HLT.out | exact nx_meas HLT.out (by omega : X.length - 1 - 1 ≤ 1000000)
    · have hkI := ix_nlt hlt
      have hke : k = X.length - 1 - 1 := by omega
      have HG := hid (show grd (bl (X.drop (k + 1))) R.data.toList = Lib.hasSuffix R.data.toList (X[X.length - 1]'(by omega)).data.toList by
        have e : bl (X.drop (k + 1)) = [(X[X.length - 1]'(by omega)).data.toList] := by
          have e1 : k + 1 = X.length - 1 := by omega
          rw [e1, blP_drop (show X.length - 1 < X.length by omega), List.drop_eq_nil_of_le (by omega)]; rfl
        rw [e]; rfl)
      have y0 := cell_below HB.out (HC.out (X.length - 1) (by omega))
      have z0 := cell_below HB.out h0
      have z1 := cell_below HB.out h1
      have l3 : (0 : Int) ≤ ((X.length - 1 : Nat) : Int) := by omega
      have l4 : ((X.length - 1 : Nat) : Int) < (X.length : Int) := by omega
      have HH := hid (Tryz.strings_HasSuffix R (X[X.length - 1]'(by omega)) wr (by omega))
      generalize X[X.length - 1]'(by omega) = x at *
      clear hlt hke
      cases fd
      · go_wp2_with fail
        go_ret
        exact ⟨by rw [HZK.out]; rfl, HB.out⟩
      · go_wp2_with fail
        refine HH.out.mono ?_
        rintro e w2 ⟨rfl, rfl⟩
        go_wp2_with fail
        go_ret
        exact ⟨by rw [HZK.out, HG.out]; rfl, HB.out⟩
theorem pcs_many (l : List UInt8) : (pcs l).length ≤ l.length + 1 := by
  have h := Lib.splitB_all ⟨#[46, 46, 46]⟩ (by decide) 0 _ (⟨l.toArray⟩ : ByteArray) rfl
  have h2 := Lib.countB_le ⟨#[46, 46, 46]⟩ (by decide) _ (⟨l.toArray⟩ : ByteArray) (Nat.le_refl _)
  have h3 := bl_split3 (⟨l.toArray⟩ : ByteArray)
  have h4 := congrArg List.length h3
  rw [bl_len, h] at h4
  have h5 : (⟨l.toArray⟩ : ByteArray).size = l.length := by show l.toArray.size = _; simp
  have h6 : (⟨l.toArray⟩ : ByteArray).data.toList = l := rfl
  rw [h6] at h4
  omega
theorem eq_list (s p : ByteArray) : (s.toList == p.toList) = decide (s.data.toList = p.data.toList) := by
  rw [ByteArray.toList_eq, ByteArray.toList_eq, Bool.eq_iff_iff, beq_iff_eq, decide_eq_true_iff]
set_option maxHeartbeats 4000000 in
set_option maxRecDepth 100000 in
theorem pieces_any (p : ByteArray) (m : Int) (w : World) (hp : p.size ≤ 100) (hm : w.cell? ⟨11, 0, none⟩ = some (.int .i64 m)) :
    Calls Tryz.prog 29 #[.string p] w fun e w' => ∃ f, e = .returned f ∧ TstC w' f (matB p) ∧ Below w.heap.size w w' := by
  have HB0 := hid ((Below.refl w.heap.size w).alloc (Nat.le_refl _) (.cells #[.string p] 9))
  have HSP := hid (split3_any p m (w.alloc (.cells #[.string p] 9)) (by omega) (cell_below HB0.out hm))
  have HM := hid (fun W (h : Below w.heap.size w W) => cell_below h hm)
  have hc0 : (w.alloc (.cells #[.string p] 9)).cell? ⟨w.heap.size, 0, none⟩ = some (.string p) := by simp
  have HCM := hid (pcs_many p.data.toList)
  clear hm
  go_enter Tryz.func29, Tryz.ntmps29
  go_wp2_with fail
  refine HSP.out.mono ?_
  rintro e w1 ⟨X, rfl, hX, hcl, hb⟩
  have HB1 := hid (HB0.out.trans (hb.mono HB0.out.size))
  have x0 := cell_below hb hc0
  have HX := hid hX
  have HCL := hid hcl
  have HL := hid (show X.length = (pcs p.data.toList).length by rw [← hX, bl_len])
  have HL9 := hid (show X.length ≤ 1000 by have h1 := HL.out; have h2 := HCM.out; rw [len_eq] at h2; omega)
  have HLP := hid (show 0 < X.length by rw [HL.out]; exact List.length_pos_iff.2 (pcs_ne _))
  have HW1 := hid (show w1.heap.size > 0 from Nat.lt_of_le_of_lt (Nat.zero_le _) (lt_of_cell x0))
  have hl1 : wrap64 ((X.length : Int) - 1) = ((X.length - 1 : Nat) : Int) := by
    have h1 := HLP.out; have h2 := HL9.out
    rw [IntWalk.wrap64_in _ (by omega)]; omega
  clear hX hcl hb hc0 HB0 HSP HCM
  have HCL1 := hid (show ∀ (j : Nat) (h : j < X.length), w1.cell? ⟨w.heap.size + 1, j, none⟩ = some (.string X[j]) from fun j h => by simpa using HCL.out j h)
  have HBA := hid (HB1.out.alloc HB1.out.size (.cells #[.slice (some ⟨w.heap.size + 1, 0, none⟩) X.length X.length] 22))
  have HBB := hid (HBA.out.alloc HBA.out.size (.cells #[.int .i64 ((X.length - 1 : Nat) : Int)] 3))
  have HNA := hid ((Below.refl w1.heap.size w1).alloc (Nat.le_refl _) (.cells #[.slice (some ⟨w.heap.size + 1, 0, none⟩) X.length X.length] 22))
  have HNB := hid (HNA.out.alloc HNA.out.size (.cells #[.int .i64 ((X.length - 1 : Nat) : Int)] 3))
  clear HCL
  by_cases h1 : X.length = 1
  · have d1 : ((((X.length - 1 : Nat) : Int)) == 0) = true := by rw [h1]; rfl
    have HZ := hid (fun s => mat_one (s := s) (p := p.data.toList) (by rw [← HL.out]; exact h1))
    clear h1
    go_wp2_with fail
    go_ret
    refine ⟨_, rfl, ⟨48, #[.pointer (some ⟨w.heap.size, 0, none⟩)], rfl, enPc1, fun W s hW hs => ?_⟩, HBB.out⟩
    refine (pcK1_any s p w.heap.size W (cell_below hW (cell_below HNB.out x0))).mono fun e W' ⟨he, hb⟩ => ⟨?_, hb⟩
    rw [he, eq_list]
    show _ = Ending.returned (.bool (mtB (tok p.data.toList) s.data.toList))
    rw [HZ.out]
  · have h2 : 2 ≤ X.length := by have := HLP.out; omega
    have d1 : ((((X.length - 1 : Nat) : Int)) == 0) = false := by rw [beq_eq_false_iff_ne]; omega
    have HZ := hid (fun s => mat_more (s := s) (p := p.data.toList) (a := (X[0]'(by omega)).data.toList) (r := bl (X.drop 1)) (by rw [← HX.out]; exact blP_drop (k := 0) (by omega)) (by intro h; have := congrArg List.length h; rw [bl_len, List.length_drop] at this; simp at this; omega))
    have H2 := hid h2
    clear h1
    go_wp2_with fail
    go_ret
    refine ⟨_, rfl, ⟨49, #[.pointer (some ⟨w1.heap.size, 0, none⟩), .pointer (some ⟨w1.heap.size + 1, 0, none⟩)], rfl, enPc2, fun W s hW hs => ?_⟩, HBB.out⟩
    exact pcK2_any s X (w.heap.size + 1) w1.heap.size (w1.heap.size + 1) m W (matB p s) hs H2.out HL9.out (HM.out W (HBB.out.trans (hW.mono HBB.out.size))) (cell_below hW (by simp)) (cell_below hW (by simp)) (fun j h => cell_below hW (cell_below HNB.out (HCL1.out j h))) (HZ.out _)
theorem TstC.call {w : World} {f : Value} {P : ByteArray → Bool} (h : TstC w f P) : ∃ K cb, f = .func (.func K) #[] cb ∧ (∀ args w, (callFunc K args).run Tryz.prog w = .ok (.enter K args) w) ∧ Hid (TstC w (.func (.func K) #[] cb) P) := by
  obtain ⟨K, cb, e, en, hK⟩ := h
  exact ⟨K, cb, e, en, ⟨K, cb, rfl, en, hK⟩⟩
theorem ism_shut {p s : ByteArray} (h : Lib.hasSuffix p.data.toList slashDots = false) : ismB p s = matB p s := by
  rw [← Lib.hasSuffix_of_drop] at h
  unfold ismB
  have e : (decide (4 ≤ p.size) && decide (p.data.toList.drop (p.size - 4) = slashDots)) = false := by
    rw [← h, len_eq, Bool.eq_iff_iff, Bool.and_eq_true, Bool.and_eq_true, decide_eq_true_iff, decide_eq_true_iff, decide_eq_true_iff, beq_iff_eq]; rfl
  rw [← Bool.and_assoc, e, Bool.false_and, Bool.or_false]
theorem ism_open {p s : ByteArray} (h : Lib.hasSuffix p.data.toList slashDots = true) : ismB p s = (matB p s || matB ⟨(Lib.trimSuffix p.data.toList slashDots).toArray⟩ s) := by
  have ht : Lib.trimSuffix p.data.toList slashDots = p.data.toList.take (p.size - 4) := by
    unfold Lib.trimSuffix
    rw [if_pos h, len_eq]; rfl
  have he : (⟨(Lib.trimSuffix p.data.toList slashDots).toArray⟩ : ByteArray) = p.extract 0 (p.size - 4) := by
    rw [ht, Lib.extract_eq]; simp
  rw [← Lib.hasSuffix_of_drop] at h
  unfold ismB
  have e : (decide (4 ≤ p.size) && decide (p.data.toList.drop (p.size - 4) = slashDots)) = true := by
    rw [← h, len_eq, Bool.eq_iff_iff, Bool.and_eq_true, Bool.and_eq_true, decide_eq_true_iff, decide_eq_true_iff, decide_eq_true_iff, beq_iff_eq]; rfl
  rw [← Bool.and_assoc, e, Bool.true_and, he]
set_option maxHeartbeats 4000000 in
set_option maxRecDepth 100000 in
theorem matcher_any (p : ByteArray) (m : Int) (w : World) (hp : p.size ≤ 100) (hm : w.cell? ⟨11, 0, none⟩ = some (.int .i64 m)) :
    Calls Tryz.prog 21 #[.string p] w fun e w' => ∃ f, e = .returned f ∧ TstC w' f (ismB p) ∧ Below w.heap.size w w' := by
  have HP := hid (pieces_any p m w hp hm)
  have HM := hid (fun W (h : Below w.heap.size w W) => cell_below h hm)
  have HCS := hid (fun W => Tryz.strings_CutSuffix p ⟨#[47, 46, 46, 46]⟩ W (by omega))
  have HTS := hid (show (⟨(Lib.trimSuffix p.data.toList slashDots).toArray⟩ : ByteArray).size ≤ 100 by
    have := Lib.trimSuffix_le p.data.toList slashDots
    rw [len_eq] at this
    show (Lib.trimSuffix p.data.toList slashDots).toArray.size ≤ 100
    rw [List.size_toArray]; omega)
  clear hm
  cases ho : Lib.hasSuffix p.data.toList slashDots
  · have HI := hid (show ismB p = matB p from funext fun s => ism_shut ho)
    have HO := hid (fun W => show Calls Tryz.prog 30 #[.string p, .string ⟨#[47, 46, 46, 46]⟩] W fun e w' => ∃ h, e = .returned (.tuple #[.string h, .bool false]) ∧ w' = W from (HCS.out W).mono fun e w' ⟨h1, h2⟩ => ⟨⟨(Lib.trimSuffix p.data.toList slashDots).toArray⟩, by
      rw [h1, ← ho]; rfl, h2⟩)
    clear HCS ho
    go_enter Tryz.func21, Tryz.ntmps21
    go_wp2_with fail
    refine HP.out.mono ?_
    rintro e w1 ⟨f, rfl, hf, hb⟩
    obtain ⟨K, cb, rfl, en, HF⟩ := hf.call
    have HB1 := hid hb
    have HN := hid ((Below.refl w1.heap.size w1).alloc (Nat.le_refl _) (.cells #[.func (.func K) #[] cb] 24))
    clear hf hb
    go_wp2_with fail
    refine (HO.out _).mono ?_
    rintro e w2 ⟨h, rfl, rfl⟩
    go_wp2_with fail
    go_ret
    exact ⟨_, rfl, by rw [HI.out]; exact HF.out.below HN.out, HB1.out.trans (HN.out.mono HB1.out.size)⟩
  · have HI := hid (fun s => ism_open (s := s) ho)
    have HO := hid (fun W => show Calls Tryz.prog 30 #[.string p, .string ⟨#[47, 46, 46, 46]⟩] W fun e w' => e = .returned (.tuple #[.string ⟨(Lib.trimSuffix p.data.toList slashDots).toArray⟩, .bool true]) ∧ w' = W from (HCS.out W).mono fun e w' ⟨h1, h2⟩ => ⟨by
      rw [h1, ← ho]; rfl, h2⟩)
    generalize (⟨(Lib.trimSuffix p.data.toList slashDots).toArray⟩ : ByteArray) = h at *
    have HP2 := hid (fun W (hb : Below w.heap.size w W) => pieces_any h m W HTS.out (HM.out W hb))
    clear HCS ho
    go_enter Tryz.func21, Tryz.ntmps21
    go_wp2_with fail
    refine HP.out.mono ?_
    rintro e w1 ⟨f, rfl, hf, hb⟩
    obtain ⟨K, cb, rfl, en, HF⟩ := hf.call
    have HB1 := hid hb
    have HN := hid ((Below.refl w1.heap.size w1).alloc (Nat.le_refl _) (.cells #[.func (.func K) #[] cb] 24))
    have HB2 := hid (HB1.out.trans (HN.out.mono HB1.out.size))
    have HF2 := hid (HF.out.below HN.out)
    have x0 : (w1.alloc (.cells #[.func (.func K) #[] cb] 24)).cell? ⟨w1.heap.size, 0, none⟩ = some (.func (.func K) #[] cb) := by simp
    clear hf hb HF
    go_wp2_with fail
    refine (HO.out _).mono ?_
    rintro e w2 ⟨rfl, rfl⟩
    go_wp2_with fail
    refine (HP2.out _ HB2.out).mono ?_
    rintro e w3 ⟨f, rfl, hf, hb⟩
    obtain ⟨K2, cb2, rfl, en2, HG⟩ := hf.call
    have HB3 := hid (HB2.out.trans (hb.mono HB2.out.size))
    have HF3 := hid (HF2.out.below hb)
    have x1 := cell_below hb x0
    have HM3 := hid ((Below.refl w3.heap.size w3).alloc (Nat.le_refl _) (.cells #[.func (.func K2) #[] cb2] 24))
    clear hf hb x0
    go_wp2_with fail
    go_ret
    refine ⟨_, rfl, ⟨31, #[.pointer (some ⟨w1.heap.size, 0, none⟩), .pointer (some ⟨w3.heap.size, 0, none⟩)], rfl, enMr1, fun W s hW hs => ?_⟩, HB3.out.trans (HM3.out.mono HB3.out.size)⟩
    rw [HI.out]
    exact mrK_any s (matB p) (matB h) _ _ w1.heap.size w3.heap.size W hs ((HF3.out.below HM3.out).below hW) ((HG.out.below HM3.out).below hW) (cell_below hW (cell_below HM3.out x1)) (cell_below hW (by simp))
theorem match_m (m : Int) : MatchC (fun w => w.cell? ⟨11, 0, none⟩ = some (.int .i64 m)) := fun p s w hp hs hm => by
  have HM := hid (matcher_any p m w hp hm)
  clear hm
  go_enter Tryz.func11, Tryz.ntmps11
  go_wp2_with fail
  refine HM.out.mono ?_
  rintro e w1 ⟨f, rfl, ⟨K, cb, rfl, en, hK⟩, hb⟩
  have HB1 := hid hb
  have HK := hid (hK w1 s (Below.refl _ _) hs)
  clear hb hK
  go_wp2_with fail
  refine HK.out.mono ?_
  rintro e w2 ⟨rfl, hb⟩
  have HB2 := hid (HB1.out.trans (hb.mono HB1.out.size))
  clear hb
  go_wp2_with fail
  go_ret
  exact ⟨rfl, HB2.out⟩
end Ve
end Go.Proofs.YtemhofbhmnnijaaGreatDoor
