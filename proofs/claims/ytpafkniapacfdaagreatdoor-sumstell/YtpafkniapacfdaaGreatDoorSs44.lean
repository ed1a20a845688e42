
import Derived.Test.YtpafkniapacfdaaGreatDoorSs43
import Derived.Test.YtpafkniapacfdaaGreatDoorSs15
import Derived.Test.YtpafkniapacfdaaGreatDoorSs36
import Derived.Deep.RegionHeld
namespace Go.Proofs.YtpafkniapacfdaaGreatDoor
open Go.RowKit
namespace Ve
theorem txF_bad {X : List Ln} {k : Nat} (h0 : ∀ j, j < k → txE X j = 0) (hk : k < X.length) (h : txE X k ≠ 0) : txF X = (txE X k, some k) := by
  have hf := fstE_some h0 h hk
  unfold txF
  rw [codeE_some hf, hf]
theorem txF_ok {X : List Ln} (h0 : ∀ j, j < X.length → txE X j = 0) : txF X = (0, none) := by
  have hf := fstE_none h0
  unfold txF
  rw [codeE_none hf, hf]
theorem txT_bad {X : List Ln} (h : (txF X).1 ≠ 0) : txT X = [] := by unfold txT; rw [if_neg h]
theorem txT_ok {X : List Ln} (h : (txF X).1 = 0) : txT X = X.flatMap lineT := by unfold txT; rw [if_pos h]
theorem join_line {U S : ByteArray} {P : List UInt8} {p v : ByteArray} {n : Nat} (hU : U.data.toList = P) (hS : S.data.toList = Lib.itoa (n : Int)) : ((((((U ++ p) ++ (⟨#[32]⟩ : ByteArray)) ++ v) ++ (⟨#[32]⟩ : ByteArray)) ++ S) ++ (⟨#[10]⟩ : ByteArray)).data.toList = P ++ lineT ((p, v), n) := by
  have e : Lib.itoa (n : Int) = Lib.decDigits n := by unfold Lib.itoa; rw [if_neg (by omega)]; rfl
  simp [hU, hS, e, lineT]
set_option maxRecDepth 100000 in
set_option maxHeartbeats 4000000 in
theorem rlt_any (X : List Ln) (lv : Value) (w : World) (hX : X.length ≤ 1000) (hs : shortN X) (hn : ∀ x, x ∈ X → x.2 ≤ 4294967295) (hv : LnAt .i64 w lv X) :
    Calls Tryz.prog 21 #[lv] w fun e w' => e = .returned (.tuple #[.string (bt (txT X)), faultV (txF X)]) ∧ Below w.heap.size w w' := by
  have HR0 := hid (Rp.start w)
  have HLN := hid (fun W (h : Below w.heap.size w W) => hv.below h)
  have HSN := hid hs
  have HNN := hid hn
  have HLB := hid (lines_bd hs hn)
  have HBAD := hid (fun k (h0 : ∀ j, j < k → txE X j = 0) (hk : k < X.length) (h : txE X k ≠ 0) => txF_bad h0 hk h)
  have HTB := hid (txT_bad (X := X))
  have HOK := hid (txF_ok (X := X))
  have HTO := hid (txT_ok (X := X))
  have HFN := hid (fun W => fine_any W)
  have HME := hid (fun (p v : ByteArray) (W : World) (h1 : p.size < 4294967281) (h2 : v.size < 4294967281) => modError_any p v W h1 h2)
  have HIA := hid (fun (p v q u : ByteArray) (W : World) (h1 : v.size < 999999) (h2 : u.size < 999999) => isAhead_any p v q u W h1 h2)
  have HDC := hid (fun (n : Nat) (W : World) (h : n ≤ 4294967295) => decimalB_any (n : Int) W (by omega) (by omega))
  obtain ⟨la, lc, rfl, -⟩ := id hv
  clear hs hn hv
  go_enter Tryz.func21, Tryz.ntmps21
  go_wp2_with fail
  go_loopw [4, 5] (fun u i wr => ∃ (k : Nat) (U : ByteArray), k ≤ X.length ∧ i = .int .i64 k ∧ u = .string U ∧ Hid (Rp w wr) ∧ Hid (U.data.toList = (X.take k).flatMap lineT) ∧ Hid (∀ j, j < k → txE X j = 0)) (fun _ i _ => X.length - (intOf i).toNat)
  case atStart => exact ⟨0, _, Nat.zero_le _, rfl, rfl, HR0, hid rfl, hid (fun j hj => absurd hj (Nat.not_lt_zero _))⟩
  case round =>
    obtain ⟨k, U, hk, rfl, rfl, HRP, HU, HZ⟩ := hrel
    by_cases hlt : k < X.length
    · obtain ⟨b, o, hla, y0, y1, y2⟩ := (HLN.out _ HRP.out.bl).cells hlt
      subst hla
      have hx := HSN.out X[k] (List.getElem_mem hlt)
      have hxn := HNN.out X[k] (List.getElem_mem hlt)
      have hus : U.size ≤ 2000020000 := by
        rw [← len_eq, HU.out]
        exact Nat.le_trans (HLB.out k) (by have : 2000020 * X.length ≤ 2000020 * 1000 := Nat.mul_le_mul_left _ hX; omega)
      have HFN1 := hid (flat_next lineT hlt)
      by_cases e0 : mErr X[k].1 = 0
      · have HM := hid (HME.out X[k].1.1 X[k].1.2 wr (by omega) (by omega))
        rw [show modErr X[k].1.1.data.toList X[k].1.2.data.toList = mErr X[k].1 from rfl, e0] at HM
        have HD := hid (fun W => HDC.out X[k].2 W hxn)
        cases k with
        | zero =>
          have HZN := hid (zero_nextS HZ.out (by rw [txE_0 hlt, exW_none e0]))
          have hkI : (0 : Int) < (X.length : Int) := by omega
          have HLK := hid hlt
          clear e0 HZ hk
          generalize X[0] = x at *
          clear hlt
          obtain ⟨⟨p, v⟩, n⟩ := x
          dsimp only at y0 y1 y2 HM HD hx HFN1
          rw [show ((0 : Nat) : Int) = 0 from rfl] at HM
          rw [Nat.zero_mul, Nat.add_zero] at y0 y1 y2
          go_wp2_with fail
          refine HM.out.mono ?_
          rintro e w1 ⟨rfl, hb⟩
          have HR1 := hid (HRP.out.below hb)
          have d0 := cell_below hb y0
          have d1 := cell_below hb y1
          have d2 := cell_below hb y2
          clear hb y0 y1 y2
          go_wp2_with fail
          have HT := hid (fun W' (hW : Below w1.heap.size w1 W') => (show (fun W' => W'.cell? ⟨b, o, none⟩ = some (.string p) ∧ W'.cell? ⟨b, o + 1, none⟩ = some (.string v) ∧ W'.cell? ⟨b, o + 2, none⟩ = some (.int .i64 (n : Nat))) W' from ⟨cell_below hW d0, cell_below hW d1, cell_below hW d2⟩))
          clear d0 d1 d2
          go_wp2_with fail
          go_region_held (fun W' => W'.cell? ⟨b, o, none⟩ = some (.string p) ∧ W'.cell? ⟨b, o + 1, none⟩ = some (.string v) ∧ W'.cell? ⟨b, o + 2, none⟩ = some (.int .i64 (n : Nat))) (first | exact HT.out _ HRa.out | exact HT.out _ (below_drawn _ 1)) (first
            | (go_at_call 54; refine (HD.out w1.drew).mono ?_; rintro e w5 ⟨S, rfl, hS, hz5, hb⟩; have HRa := hid ((below_drawn w1 1).trans (hb.mono (Nat.le_refl _))); have HS5 := hid hS; clear hS hb))
          all_goals
            have HRN := hid (HR1.out.below HRa.out)
            have HUN := hid (show ((((((U ++ p) ++ (⟨#[32]⟩ : ByteArray)) ++ v) ++ (⟨#[32]⟩ : ByteArray)) ++ S) ++ (⟨#[10]⟩ : ByteArray)).data.toList = (X.take (0 + 1)).flatMap lineT by rw [HFN1.out]; exact join_line HU.out HS5.out)
            go_wp2_with fail
            go_roundw
            case rel => first | exact ⟨0 + 1, _, HLK.out, nx_idx HLK.out (by omega), rfl, HRN, HUN, HZN⟩ | exact ⟨0 + 1, _, HLK.out, nr_idx (0), rfl, HRN, HUN, HZN⟩ | exact ⟨0 + 1, _, HLK.out, by congr 1; omega, rfl, HRN, HUN, HZN⟩
            case measure => first | exact nx_meas HLK.out (by omega) | exact nr_meas HLK.out | (simp [intOf]; omega)
        | succ j =>
          obtain ⟨b', o', hla', q0, q1, -⟩ := (HLN.out _ HRP.out.bl).cells (show j < X.length by omega)
          have hbo : b = b' ∧ o = o' := by injection hla' with h; injection h with h1 h2 h3; exact ⟨h1, h2⟩
          obtain ⟨rfl, rfl⟩ := hbo
          have hxq := HSN.out X[j] (List.getElem_mem (show j < X.length by omega))
          have hjl : j < X.length := by omega
          have ek : txE X (j + 1) = if mAhead X[j].1 X[j + 1].1 then 0 else 8 := by rw [txE_1 hlt, exW_some e0]
          have HBD := hid (fun h => HBAD.out (j + 1) HZ.out hlt h)
          have HZN := hid (fun h => zero_nextS (E := txE X) (k := j + 1) HZ.out h)
          have HA := hid (fun W => HIA.out X[j].1.1 X[j].1.2 X[j + 1].1.1 X[j + 1].1.2 W hxq.2 hx.2)
          rw [show aheadB X[j].1.1.data.toList X[j].1.2.data.toList X[j + 1].1.1.data.toList X[j + 1].1.2.data.toList = mAhead X[j].1 X[j + 1].1 from rfl] at HA
          have HLK := hid hlt
          clear e0 HZ hk hxq
          generalize mAhead X[j].1 X[j + 1].1 = z at *
          generalize X[j + 1] = x at *
          generalize X[j] = y at *
          clear hlt hjl
          obtain ⟨⟨p, v⟩, n⟩ := x
          obtain ⟨⟨q, u⟩, n'⟩ := y
          dsimp only at y0 y1 y2 q0 q1 HM HD HA hx HFN1
          have g0 : ((j + 1 : Nat) : Int) = (j : Int) + 1 := rfl
          have g1 : (0 : Int) ≤ (j : Int) := by omega
          have g2 : (j : Int) < (X.length : Int) := by have := HLK.out; omega
          have g3 : (j : Int) + 1 - 1 = (j : Int) := by omega
          have g4 : (0 : Int) < (j : Int) + 1 := by omega
          have g5 : (0 : Int) ≤ (j : Int) + 1 := by omega
          have g6 : (j : Int) + 1 < (X.length : Int) := by have := HLK.out; omega
          have g7 : ((j : Int) + 1).toNat = j + 1 := by omega
          have gw : IntKind.i64.wrap (j : Int) = (j : Int) := by rw [IntKind.wrap_i64]; omega
          rw [g0]
          cases z
          · rw [if_neg (by simp)] at ek
            have HF := hid (HBD.out (by rw [ek]; decide))
            rw [ek] at HF
            have HT := hid (HTB.out (by rw [HF.out]; exact (by decide : (8 : Nat) ≠ 0)))
            clear ek
            go_wp2_with fail
            refine HM.out.mono ?_
            rintro e w1 ⟨rfl, hb⟩
            have HR1 := hid (HRP.out.below hb)
            have d0 := cell_below hb y0
            have d1 := cell_below hb y1
            have d2 := cell_below hb y2
            have d3 := cell_below hb q0
            have d4 := cell_below hb q1
            clear hb y0 y1 y2 q0 q1
            have HT7 := hid (fun W' (hW : Below w1.heap.size w1 W') => (show (fun W' => W'.cell? ⟨b, o + j * 3, none⟩ = some (.string q) ∧ W'.cell? ⟨b, o + j * 3 + 1, none⟩ = some (.string u) ∧ W'.cell? ⟨b, o + (j + 1) * 3, none⟩ = some (.string p) ∧ W'.cell? ⟨b, o + (j + 1) * 3 + 1, none⟩ = some (.string v) ∧ W'.cell? ⟨b, o + (j + 1) * 3 + 2, none⟩ = some (.int .i64 (n : Nat))) W' from ⟨cell_below hW d3, cell_below hW d4, cell_below hW d0, cell_below hW d1, cell_below hW d2⟩))
            clear d0 d1 d2 d3 d4
            go_wp2_with fail
            go_region_held (fun W' => W'.cell? ⟨b, o + j * 3, none⟩ = some (.string q) ∧ W'.cell? ⟨b, o + j * 3 + 1, none⟩ = some (.string u) ∧ W'.cell? ⟨b, o + (j + 1) * 3, none⟩ = some (.string p) ∧ W'.cell? ⟨b, o + (j + 1) * 3 + 1, none⟩ = some (.string v) ∧ W'.cell? ⟨b, o + (j + 1) * 3 + 2, none⟩ = some (.int .i64 (n : Nat))) (first | exact HT7.out _ HRa.out | exact HT7.out _ (below_drawn _ 1)) (first
              | (go_at_call 53; refine (HA.out w1.drew).mono ?_; rintro e w5 ⟨rfl, hb⟩; have HRa := hid ((below_drawn w1 1).trans (hb.mono (Nat.le_refl _))); clear hb))
            all_goals
              have HRN := hid (HR1.out.below HRa.out)
              obtain ⟨s0, s1, sf⟩ := HRN.out.cells
              go_wp2_with fail
              refine bodyPost_ret (v := .tuple #[.string ⟨#[]⟩, .agg #[.int .i64 8, .int .i64 ((j : Int) + 1)]]) (by simp [results, Tryz.results21, go_sem, s0, s1]) rfl ⟨?_, put2S_below HRN.out.bl (Nat.le_refl _)⟩
              rw [HT.out, HF.out]; rfl
          · rw [if_pos rfl] at ek
            have HZN := hid (HZN.out ek)
            clear ek
            go_wp2_with fail
            refine HM.out.mono ?_
            rintro e w1 ⟨rfl, hb⟩
            have HR1 := hid (HRP.out.below hb)
            have d0 := cell_below hb y0
            have d1 := cell_below hb y1
            have d2 := cell_below hb y2
            have d3 := cell_below hb q0
            have d4 := cell_below hb q1
            clear hb y0 y1 y2 q0 q1
            have HT7 := hid (fun W' (hW : Below w1.heap.size w1 W') => (show (fun W' => W'.cell? ⟨b, o + j * 3, none⟩ = some (.string q) ∧ W'.cell? ⟨b, o + j * 3 + 1, none⟩ = some (.string u) ∧ W'.cell? ⟨b, o + (j + 1) * 3, none⟩ = some (.string p) ∧ W'.cell? ⟨b, o + (j + 1) * 3 + 1, none⟩ = some (.string v) ∧ W'.cell? ⟨b, o + (j + 1) * 3 + 2, none⟩ = some (.int .i64 (n : Nat))) W' from ⟨cell_below hW d3, cell_below hW d4, cell_below hW d0, cell_below hW d1, cell_below hW d2⟩))
            clear d0 d1 d2 d3 d4
            go_wp2_with fail
            go_region_held (fun W' => W'.cell? ⟨b, o + j * 3, none⟩ = some (.string q) ∧ W'.cell? ⟨b, o + j * 3 + 1, none⟩ = some (.string u) ∧ W'.cell? ⟨b, o + (j + 1) * 3, none⟩ = some (.string p) ∧ W'.cell? ⟨b, o + (j + 1) * 3 + 1, none⟩ = some (.string v) ∧ W'.cell? ⟨b, o + (j + 1) * 3 + 2, none⟩ = some (.int .i64 (n : Nat))) (first | exact HT7.out _ HRa.out | exact HT7.out _ (below_drawn _ 1)) (first
              | (go_at_call 53; refine (HA.out w1.drew).mono ?_; rintro e w5 ⟨rfl, hb⟩; have HRa := hid ((below_drawn w1 1).trans (hb.mono (Nat.le_refl _))); clear hb))
            all_goals
              have HR5 := hid (HR1.out.below HRa.out)
              obtain ⟨-, -, d0, d1, d2⟩ := HT7.out _ HRa.out
              clear HRa
              go_wp2_with fail
              have HT := hid (fun W' (hW : Below w5.heap.size w5 W') => (show (fun W' => W'.cell? ⟨b, o + (j + 1) * 3, none⟩ = some (.string p) ∧ W'.cell? ⟨b, o + (j + 1) * 3 + 1, none⟩ = some (.string v) ∧ W'.cell? ⟨b, o + (j + 1) * 3 + 2, none⟩ = some (.int .i64 (n : Nat))) W' from ⟨cell_below hW d0, cell_below hW d1, cell_below hW d2⟩))
              clear d0 d1 d2
              go_wp2_with fail
              go_region_held (fun W' => W'.cell? ⟨b, o + (j + 1) * 3, none⟩ = some (.string p) ∧ W'.cell? ⟨b, o + (j + 1) * 3 + 1, none⟩ = some (.string v) ∧ W'.cell? ⟨b, o + (j + 1) * 3 + 2, none⟩ = some (.int .i64 (n : Nat))) (first | exact HT.out _ HRa.out | exact HT.out _ (below_drawn _ 1)) (first
                | (go_at_call 54; refine (HD.out w5.drew).mono ?_; rintro e w6 ⟨S, rfl, hS, hz5, hb⟩; have HRa := hid ((below_drawn w5 1).trans (hb.mono (Nat.le_refl _))); have HS5 := hid hS; clear hS hb))
              all_goals
                have HRN := hid (HR5.out.below HRa.out)
                have HUN := hid (show ((((((U ++ p) ++ (⟨#[32]⟩ : ByteArray)) ++ v) ++ (⟨#[32]⟩ : ByteArray)) ++ S) ++ (⟨#[10]⟩ : ByteArray)).data.toList = (X.take ((j + 1) + 1)).flatMap lineT by rw [HFN1.out]; exact join_line HU.out HS5.out)
                go_wp2_with fail
                go_roundw
                case rel => first | exact ⟨(j + 1) + 1, _, HLK.out, nx_idx HLK.out (by omega), rfl, HRN, HUN, HZN⟩ | exact ⟨(j + 1) + 1, _, HLK.out, nr_idx ((j + 1)), rfl, HRN, HUN, HZN⟩ | exact ⟨(j + 1) + 1, _, HLK.out, by congr 1; omega, rfl, HRN, HUN, HZN⟩
                case measure => first | exact nx_meas HLK.out (by omega) | exact nr_meas HLK.out | (simp [intOf]; omega)
      · have ek : txE X k = mErr X[k].1 := by
          cases k with
          | zero => rw [txE_0 hlt, exW_bad e0]
          | succ j => rw [txE_1 hlt, exW_bad e0]
        have HF := hid (HBAD.out k HZ.out hlt (by rw [ek]; exact e0))
        rw [ek] at HF
        have HT := hid (HTB.out (by rw [HF.out]; exact e0))
        have HM := hid (HME.out X[k].1.1 X[k].1.2 wr (by omega) (by omega))
        rw [show modErr X[k].1.1.data.toList X[k].1.2.data.toList = mErr X[k].1 from rfl] at HM
        have hpos : (0 : Int) < ((mErr X[k].1 : Nat) : Int) := by omega
        have hne0 : (((mErr X[k].1 : Nat) : Int) == 0) = false := by rw [beq_eq_false_iff_ne]; omega
        have hkI := ix_lt hlt
        have hk0 := ix_pos k
        clear ek e0
        generalize mErr X[k].1 = c at *
        generalize X[k] = x at *
        clear hlt
        obtain ⟨⟨p, v⟩, n⟩ := x
        dsimp only at y0 y1 y2 HM
        go_wp2_with fail
        refine HM.out.mono ?_
        rintro e w1 ⟨rfl, hb⟩
        have HR1 := hid (HRP.out.below hb)
        clear hb y0 y1 y2
        obtain ⟨s0, s1, sf⟩ := HR1.out.cells
        go_wp2_with fail
        refine bodyPost_ret (v := .tuple #[.string ⟨#[]⟩, .agg #[.int .i64 (c : Int), .int .i64 (k : Int)]]) (by simp [results, Tryz.results21, go_sem, s0, s1]) rfl ⟨?_, put2S_below HR1.out.bl (Nat.le_refl _)⟩
        rw [HT.out, HF.out]; rfl
    · have hkI := ix_nlt hlt
      have hke : k = X.length := by omega
      have HF := hid (HOK.out (by rw [← hke]; exact HZ.out))
      have HT := hid (HTO.out (by rw [HF.out]))
      rw [List.take_of_length_le (by omega)] at HU
      have HUE := hid (show U = bt (X.flatMap lineT) from by rw [← HU.out, bt_of])
      go_wp2_with fail
      refine (HFN.out _).mono ?_
      rintro e w1 ⟨rfl, hb⟩
      have HR1 := hid (HRP.out.below hb)
      clear hb
      obtain ⟨s0, s1, sf⟩ := HR1.out.cells
      go_wp2_with fail
      refine bodyPost_ret (v := .tuple #[.string U, .agg #[.int .i64 0, .int .i64 (-1)]]) (by simp [results, Tryz.results21, go_sem, s0, s1]) rfl ⟨?_, put2S_below HR1.out.bl (Nat.le_refl _)⟩
      rw [HT.out, HF.out, ← HUE.out]; rfl
end Ve
end Go.Proofs.YtpafkniapacfdaaGreatDoor
