/-
  QtA
-/
import Derived.Test.YtnkgjddkdikikaaGreatDoorPq3
import Derived.Test.YtnkgjddkdikikaaGreatDoorPq4
import Derived.Test.YtnkgjddkdikikaaGreatDoorPq7
import Derived.Test.YtnkgjddkdikikaaGreatDoorPq10
import Derived.Test.YtnkgjddkdikikaaGreatDoorPq13
import Derived.Test.YtnkgjddkdikikaaGreatDoorPq23
import Derived.Test.YtnkgjddkdikikaaGreatDoorPq27
import Derived.Test.YtnkgjddkdikikaaGreatDoorPq24
import Derived.Test.YtnkgjddkdikikaaGreatDoorPq29
import Derived.Test.YtnkgjddkdikikaaGreatDoorPq31
import Derived.Test.YtnkgjddkdikikaaGreatDoorPq12
import Derived.Test.YtnkgjddkdikikaaGreatDoorPq5
import Derived.Test.YtnkgjddkdikikaaGreatDoorPq37
import Derived.Test.YtnkgjddkdikikaaGreatDoorPq32
import Derived.Test.YtnkgjddkdikikaaGreatDoorPq19
import Derived.Test.YtnkgjddkdikikaaGreatDoorPq61
import Derived.Test.YtnkgjddkdikikaaGreatDoorPq62
import Derived.Test.YtnkgjddkdikikaaGreatDoorPq66
import Derived.Test.YtnkgjddkdikikaaGreatDoorPq72
namespace Go.Proofs.YtnkgjddkdikikaaGreatDoor
open Go.RowKit Go.Maps
namespace Ve
set_option maxRecDepth 100000 in
set_option maxHeartbeats 8000000 in
theorem qs_main {T : World → Prop} (VC : VersC) (PC : PickC T) (KT : KeepT T) (Q0 : List Raw) (L : List Ent) (t x0 : ByteArray) (v : Value) (A : Nat → Addr) (m : Int) (w : World) (S : Te w A m) (hT : T w) (htab : Lib.TabIs Tryz.prog w powName .u64 Lib.pow10Tab) (I : Ixs w v Q0 L) (em : EmI Q0 L) (hok : okI L = true) (h30 : L.length ≤ 30) (ht : t.size ≤ 70) (hv : x0.size ≤ 50) :
    Calls Tryz.prog 8 #[v, .string t, .string x0] w fun e w' => e = .returned (.bool true) ∧ Below w.heap.size w w' := by
  obtain ⟨a0, c0, hv0, -⟩ := id I.es
  subst hv0
  have hq30 : ¬ (30 : Int) < (Q0.length : Int) := by rw [I.ln]; omega
  have g1 : ¬ (70 : Int) < (t.size : Int) := by omega
  have g2 : ¬ (50 : Int) < (x0.size : Int) := by omega
  have HIN := hid (picked_any PC KT A m w S hT)
  have HLO := hid (fun W (h : Below w.heap.size w W) => longI_any Q0 L _ W (I.below h))
  rw [if_pos hok] at HLO
  have HOW := hid (fun W (h : Below w.heap.size w W) => ownI_any Q0 L _ W (by omega) (I.below h) em (okI_fits hok))
  have HCK := hid (fun Q u W (h : Below w.heap.size w W) (J : Ixs W u Q L) => icheck_any Q L u A m W (by omega) (okI_sh hok) (S.below h) J)
  have HVS := hid (fun Q u W (h : Below w.heap.size w W) (J : Ixs W u Q L) => VC Q t u (A 0) (A 1) m W (by rw [J.ln]; omega) (okI_short J hok) (S.below h).vs (tab_below htab h) J.es)
  have HVO := hid (fun W => verOf_both x0 W (by omega))
  have HOV := hid (fun x W (h : x.size < 999999) (h1 : verErr x.data.toList = 0) (h2 : verErr x0.data.toList = 0) => orderVer_any x x0 W h (by omega) h1 h2)
  have HPT := hid (fun Q u W q X (P : ByteArray → Bool) (h : Below w.heap.size w W) (J : Ixs W u Q L) (hq : q.size ≤ 100) (hK : Kept (verL (ofP t Q)) (verL (ofP t Q)).length X) (hl : look Q L q) (hvx : ∀ x, x ∈ X → verErr x.data.toList = 0) (hup : ¬ q = bUpgrade) (hP : ∀ x, x ∈ X → okQ q ⟨#[]⟩ x = P x) (ha : X.any P = true) => pick_t PC (now := ⟨#[]⟩) (by omega) (okI_sh hok) (okI_short J hok) (by omega) hq (by decide) (S.below h) (KT w W hT h) J hK hl hvx hup hP ha)
  have HPF := hid (fun Q u W q X (P : ByteArray → Bool) (h : Below w.heap.size w W) (J : Ixs W u Q L) (hq : q.size ≤ 100) (hK : Kept (verL (ofP t Q)) (verL (ofP t Q)).length X) (hl : look Q L q) (hvx : ∀ x, x ∈ X → verErr x.data.toList = 0) (hP : ∀ x, x ∈ X → okQ q ⟨#[]⟩ x = P x) (ha : X.any P = false) => pick_f PC (now := ⟨#[]⟩) (by omega) (okI_sh hok) (okI_short J hok) (by omega) hq (by decide) (S.below h) (KT w W hT h) J hK hl hvx hP ha)
  have HSQ := hid (fun Q u W (J : Ixs W u Q L) => okI_short J hok)
  clear S I em hok PC KT hT htab VC
  go_enter Tryz.func8, Tryz.ntmps8
  go_wp2_with fail
  refine HIN.out.mono ?_
  rintro e w1 ⟨rfl, hb⟩
  have HB1 := hid hb
  clear hb
  go_wp2_with fail
  refine (HLO.out w1 HB1.out).mono ?_
  rintro e w2 ⟨rfl, hb⟩
  have HB2 := hid (HB1.out.trans (hb.mono HB1.out.size))
  clear hb
  go_wp2_with fail
  refine (HOW.out w2 HB2.out).mono ?_
  rintro e w3 ⟨u, Q, rfl, hO, hb⟩
  have HB3 := hid (HB2.out.trans (hb.mono HB2.out.size))
  have HIX := hid (fun W (h : Below w3.heap.size w3 W) => hO.ixs.below h)
  have HBW := hid (fun W (h : Below w3.heap.size w3 W) => HB3.out.trans (h.mono HB3.out.size))
  have HIQ := hid hO.ixs
  obtain ⟨oa, oc, hou, -⟩ := id hO.ixs.es
  subst hou
  clear hb hO HIN HLO HOW HB1 HB2
  go_wp2_with fail
  refine (HCK.out Q _ w3 HB3.out HIQ.out).mono ?_
  rintro e w4 ⟨y4, rfl, he, hb⟩
  have HB4 := hid hb
  rcases he.kind with ⟨hc0, rfl⟩ | ⟨-, Ty, ea, rfl⟩
  rotate_left
  · have HBe := hid (HBW.out _ HB4.out)
    clear he hb
    go_wp2_with fail
    go_ret
    exact ⟨rfl, HBe.out⟩
  have HC0 := hid hc0
  have HGD := hid (good_of HIQ.out hc0)
  clear he hb hc0 HCK
  go_wp2_with fail
  refine (HVO.out w4).mono ?_
  rintro e w5 ⟨n0, n1, n2, sa, sk, sc, rfl, -, hb⟩
  have HB5 := hid (HB4.out.trans (hb.mono HB4.out.size))
  have HB6 := hid (HB5.out.trans (((Below.refl w5.heap.size w5).alloc (Nat.le_refl _) (.cells #[.int .i64 n0, .int .i64 n1, .int .i64 n2, .slice sa sk sc] 68)).mono HB5.out.size))
  clear hb HVO
  by_cases hx0 : verErr x0.data.toList = 0
  rotate_left
  · have hp : (0 : Int) < ((verErr x0.data.toList : Nat) : Int) := by omega
    have HBe := hid (HBW.out _ HB6.out)
    generalize ((verErr x0.data.toList : Nat) : Int) = ve at *
    go_wp2_with fail
    go_ret
    exact ⟨rfl, HBe.out⟩
  have HX0 := hid hx0
  rw [hx0]
  clear hx0
  go_wp2_with fail
  generalize w5.alloc (.cells #[.int .i64 n0, .int .i64 n1, .int .i64 n2, .slice sa sk sc] 68) = w6 at *
  refine (HVS.out Q _ w6 (HBW.out _ HB6.out) (HIX.out _ HB6.out)).mono ?_
  rintro e w7 ⟨u7, rfl, X, ho, hK, hb⟩
  have HB7 := hid (HB6.out.trans (hb.mono HB6.out.size))
  have HK := hid hK
  have HT7 := hid (own_tx ho)
  have HXV := hid (show ∀ x, x ∈ X → verErr x.data.toList = 0 ∧ x.size < 999999 from fun x hx => by
    obtain ⟨r, hr, e⟩ := kept_has HGD.out ofP_sub hK hx
    have h1 := HGD.out.ofP_mem.1 hr
    refine ⟨?_, ?_⟩
    · rw [← e]; exact HGD.out.ver r h1.1
    · have := (HSQ.out Q _ w3 HIQ.out r h1.1).2; rw [← e]; omega)
  have HXL := hid (show X.length ≤ 30 by rw [kept_len HGD.out hK]; exact Nat.le_trans (ofP_len t Q) (by rw [HIQ.out.ln]; exact h30))
  have HXM := hid (show X.length ≤ 1000000 by have := HXL.out; omega)
  obtain ⟨ua, uc, hu7⟩ := own_slN ho
  subst hu7
  clear ho hK hb HVS HB4 HB5 HB6 HGD HSQ
  go_wp2_with fail
  go_loopw [12, 13, 14, 15] (fun lv mv sv iv wr => ∃ i : Nat, i ≤ X.length ∧ lv = .int .i64 (cntP (pLs x0) (X.take i)) ∧ mv = .int .i64 (cntP (pMr x0) (X.take i)) ∧ sv = .int .i64 (cntP (pSm x0) (X.take i)) ∧ iv = .int .i64 i ∧ Hid (Below w7.heap.size w7 wr)) (fun _ _ _ iv _ => X.length - (intOf iv).toNat)
  case atStart => exact ⟨0, Nat.zero_le _, rfl, rfl, rfl, rfl, hid (Below.refl _ _)⟩
  case round =>
    obtain ⟨i, hi, rfl, rfl, rfl, rfl, HBr⟩ := hrel
    by_cases hlt : i < X.length
    · have hiI := ix_lt hlt
      have hii := ix_pos i
      have HLI := hid hlt
      obtain ⟨xb, xo, hua, y0⟩ := tx_cellK (HT7.out.below HBr.out) hlt
      subst hua
      obtain ⟨hxv, hxs⟩ := HXV.out X[i] (List.getElem_mem hlt)
      have HOX := hid (HOV.out X[i] wr hxs hxv HX0.out)
      have HLY := hid (fun (h : decide (ordV X[i].data.toList x0.data.toList < 0) = true) => cntP_yes (P := pLs x0) hlt h)
      have HLN := hid (fun (h : decide (ordV X[i].data.toList x0.data.toList < 0) = false) => cntP_no (P := pLs x0) hlt h)
      have HMY := hid (fun (h : decide (0 < ordV X[i].data.toList x0.data.toList) = true) => cntP_yes (P := pMr x0) hlt h)
      have HMN := hid (fun (h : decide (0 < ordV X[i].data.toList x0.data.toList) = false) => cntP_no (P := pMr x0) hlt h)
      have HSY := hid (fun (h : decide (ordV X[i].data.toList x0.data.toList = 0) = true) => cntP_yes (P := pSm x0) hlt h)
      have HSN := hid (fun (h : decide (ordV X[i].data.toList x0.data.toList = 0) = false) => cntP_no (P := pSm x0) hlt h)
      have hcl : cntP (pLs x0) (X.take i) ≤ 30 := Nat.le_trans (cntP_le _ _) (Nat.le_trans (by rw [List.length_take]; omega) HXL.out)
      have hcm : cntP (pMr x0) (X.take i) ≤ 30 := Nat.le_trans (cntP_le _ _) (Nat.le_trans (by rw [List.length_take]; omega) HXL.out)
      have hcs : cntP (pSm x0) (X.take i) ≤ 30 := Nat.le_trans (cntP_le _ _) (Nat.le_trans (by rw [List.length_take]; omega) HXL.out)
      generalize X[i] = x at *
      generalize ordV x.data.toList x0.data.toList = n at *
      generalize hc1 : cntP (pLs x0) (X.take i) = c1 at *
      generalize hc2 : cntP (pMr x0) (X.take i) = c2 at *
      generalize hc3 : cntP (pSm x0) (X.take i) = c3 at *
      have HC1 := hid hc1
      have HC2 := hid hc2
      have HC3 := hid hc3
      have k1 := IntWalk.wrap64_in ((c1 : Int) + 1) (by omega)
      have k2 := IntWalk.wrap64_in ((c2 : Int) + 1) (by omega)
      have k3 := IntWalk.wrap64_in ((c3 : Int) + 1) (by omega)
      clear hlt hc1 hc2 hc3
      rcases Int.lt_trichotomy n 0 with hn | hn | hn
      · have E1 := hid ( HLY.out (decide_eq_true hn))
        have E2 := hid ( HMN.out (decide_eq_false (by omega)))
        have E3 := hid ( HSN.out (decide_eq_false (by omega)))
        clear HLY HLN HMY HMN HSY HSN
        go_wp2_with fail
        refine HOX.out.mono ?_
        rintro e w8 ⟨rfl, hb⟩
        have HB8 := hid (HBr.out.trans (hb.mono HBr.out.size))
        clear hb
        go_wp2_with fail
        go_roundw
        case rel => first | exact ⟨i + 1, HLI.out, by rw [show cntP _ (X.take (i + 1)) = _ from E1.out, k1]; first | rfl | (push_cast; rfl), by rw [show cntP _ (X.take (i + 1)) = _ from E2.out], by rw [show cntP _ (X.take (i + 1)) = _ from E3.out], nr_idx i, HB8⟩ | exact ⟨i + 1, HLI.out, by rw [show cntP _ (X.take (i + 1)) = _ from E1.out, k1]; first | rfl | (push_cast; rfl), by rw [show cntP _ (X.take (i + 1)) = _ from E2.out], by rw [show cntP _ (X.take (i + 1)) = _ from E3.out], nx_idx HLI.out HXM.out, HB8⟩
        case measure => first | exact nr_meas HLI.out | exact nx_meas HLI.out HXM.out
      · have E1 := hid ( HLN.out (decide_eq_false (by omega)))
        have E2 := hid ( HMN.out (decide_eq_false (by omega)))
        have E3 := hid ( HSY.out (decide_eq_true hn))
        have f1 : ¬ n < 0 := by omega
        have f2 : ¬ 0 < n := by omega
        clear HLY HLN HMY HMN HSY HSN
        go_wp2_with fail
        refine HOX.out.mono ?_
        rintro e w8 ⟨rfl, hb⟩
        have HB8 := hid (HBr.out.trans (hb.mono HBr.out.size))
        clear hb
        go_wp2_with fail
        go_roundw
        case rel => first | exact ⟨i + 1, HLI.out, by rw [show cntP _ (X.take (i + 1)) = _ from E1.out], by rw [show cntP _ (X.take (i + 1)) = _ from E2.out], by rw [show cntP _ (X.take (i + 1)) = _ from E3.out, k3]; first | rfl | (push_cast; rfl), nr_idx i, HB8⟩ | exact ⟨i + 1, HLI.out, by rw [show cntP _ (X.take (i + 1)) = _ from E1.out], by rw [show cntP _ (X.take (i + 1)) = _ from E2.out], by rw [show cntP _ (X.take (i + 1)) = _ from E3.out, k3]; first | rfl | (push_cast; rfl), nx_idx HLI.out HXM.out, HB8⟩
        case measure => first | exact nr_meas HLI.out | exact nx_meas HLI.out HXM.out
      · have E1 := hid ( HLN.out (decide_eq_false (by omega)))
        have E2 := hid ( HMY.out (decide_eq_true hn))
        have E3 := hid ( HSN.out (decide_eq_false (by omega)))
        have f1 : ¬ n < 0 := by omega
        clear HLY HLN HMY HMN HSY HSN
        go_wp2_with fail
        refine HOX.out.mono ?_
        rintro e w8 ⟨rfl, hb⟩
        have HB8 := hid (HBr.out.trans (hb.mono HBr.out.size))
        clear hb
        go_wp2_with fail
        go_roundw
        case rel => first | exact ⟨i + 1, HLI.out, by rw [show cntP _ (X.take (i + 1)) = _ from E1.out], by rw [show cntP _ (X.take (i + 1)) = _ from E2.out, k2]; first | rfl | (push_cast; rfl), by rw [show cntP _ (X.take (i + 1)) = _ from E3.out], nr_idx i, HB8⟩ | exact ⟨i + 1, HLI.out, by rw [show cntP _ (X.take (i + 1)) = _ from E1.out], by rw [show cntP _ (X.take (i + 1)) = _ from E2.out, k2]; first | rfl | (push_cast; rfl), by rw [show cntP _ (X.take (i + 1)) = _ from E3.out], nx_idx HLI.out HXM.out, HB8⟩
        case measure => first | exact nr_meas HLI.out | exact nx_meas HLI.out HXM.out
    · have hiI := ix_nlt hlt
      have hie : i = X.length := Nat.le_antisymm hi (Nat.le_of_not_lt hlt)
      subst hie
      rw [List.take_length]
      clear hlt HOV HT7
      have HBx := hid (HB7.out.trans (HBr.out.mono HB7.out.size))
      have hcl : cntP (pLs x0) X ≤ 30 := Nat.le_trans (cntP_le _ _) HXL.out
      have hcm : cntP (pMr x0) X ≤ 30 := Nat.le_trans (cntP_le _ _) HXL.out
      have hcs : cntP (pSm x0) X ≤ 30 := Nat.le_trans (cntP_le _ _) HXL.out
      have HXW := hid (fun x (h : x ∈ X) => (HXV.out x h).1)
      have Q1 := hid (vq_lt HX0.out)
      have Q2 := hid (vq_gt HX0.out)
      have Q3 := hid (vq_le HX0.out)
      have Q4 := hid (vq_ge HX0.out)
      have Q5 := hid (vq_v HX0.out)
      have z1 : (⟨#[60]⟩ ++ x0 : ByteArray).size ≤ 100 := by rw [app_size]; have : (⟨#[60]⟩ : ByteArray).size = 1 := rfl; omega
      have z2 : (⟨#[62]⟩ ++ x0 : ByteArray).size ≤ 100 := by rw [app_size]; have : (⟨#[62]⟩ : ByteArray).size = 1 := rfl; omega
      have z3 : (⟨#[60, 61]⟩ ++ x0 : ByteArray).size ≤ 100 := by rw [app_size]; have : (⟨#[60, 61]⟩ : ByteArray).size = 2 := rfl; omega
      have z4 : (⟨#[62, 61]⟩ ++ x0 : ByteArray).size ≤ 100 := by rw [app_size]; have : (⟨#[62, 61]⟩ : ByteArray).size = 2 := rfl; omega
      have T1 := hid (fun W (h : Below w3.heap.size w3 W) ha => HPT.out Q _ W (⟨#[60]⟩ ++ x0) X (pLs x0) (HBW.out _ h) (HIX.out _ h) z1 HK.out ⟨Q1.out.er, HC0.out, Q1.out.no⟩ HXW.out Q1.out.up (fun x hx => by rw [ok_lt Q1.out]; exact lt_v HX0.out (HXW.out x hx)) ha)
      have F1 := hid (fun W (h : Below w3.heap.size w3 W) ha => HPF.out Q _ W (⟨#[60]⟩ ++ x0) X (pLs x0) (HBW.out _ h) (HIX.out _ h) z1 HK.out ⟨Q1.out.er, HC0.out, Q1.out.no⟩ HXW.out (fun x hx => by rw [ok_lt Q1.out]; exact lt_v HX0.out (HXW.out x hx)) ha)
      have T2 := hid (fun W (h : Below w3.heap.size w3 W) ha => HPT.out Q _ W (⟨#[62]⟩ ++ x0) X (pMr x0) (HBW.out _ h) (HIX.out _ h) z2 HK.out ⟨Q2.out.er, HC0.out, Q2.out.no⟩ HXW.out Q2.out.up (fun x hx => by rw [ok_gt Q2.out]; exact gt_v HX0.out (HXW.out x hx)) ha)
      have F2 := hid (fun W (h : Below w3.heap.size w3 W) ha => HPF.out Q _ W (⟨#[62]⟩ ++ x0) X (pMr x0) (HBW.out _ h) (HIX.out _ h) z2 HK.out ⟨Q2.out.er, HC0.out, Q2.out.no⟩ HXW.out (fun x hx => by rw [ok_gt Q2.out]; exact gt_v HX0.out (HXW.out x hx)) ha)
      have T3 := hid (fun W (h : Below w3.heap.size w3 W) ha => HPT.out Q _ W (⟨#[60, 61]⟩ ++ x0) X (fun x => pLs x0 x || pSm x0 x) (HBW.out _ h) (HIX.out _ h) z3 HK.out ⟨Q3.out.er, HC0.out, Q3.out.no⟩ HXW.out Q3.out.up (fun x hx => by rw [ok_le Q3.out]; exact le_v HX0.out (HXW.out x hx)) ha)
      have F3 := hid (fun W (h : Below w3.heap.size w3 W) ha => HPF.out Q _ W (⟨#[60, 61]⟩ ++ x0) X (fun x => pLs x0 x || pSm x0 x) (HBW.out _ h) (HIX.out _ h) z3 HK.out ⟨Q3.out.er, HC0.out, Q3.out.no⟩ HXW.out (fun x hx => by rw [ok_le Q3.out]; exact le_v HX0.out (HXW.out x hx)) ha)
      have T4 := hid (fun W (h : Below w3.heap.size w3 W) ha => HPT.out Q _ W (⟨#[62, 61]⟩ ++ x0) X (fun x => pMr x0 x || pSm x0 x) (HBW.out _ h) (HIX.out _ h) z4 HK.out ⟨Q4.out.er, HC0.out, Q4.out.no⟩ HXW.out Q4.out.up (fun x hx => by rw [ok_ge Q4.out]; exact ge_v HX0.out (HXW.out x hx)) ha)
      have F4 := hid (fun W (h : Below w3.heap.size w3 W) ha => HPF.out Q _ W (⟨#[62, 61]⟩ ++ x0) X (fun x => pMr x0 x || pSm x0 x) (HBW.out _ h) (HIX.out _ h) z4 HK.out ⟨Q4.out.er, HC0.out, Q4.out.no⟩ HXW.out (fun x hx => by rw [ok_ge Q4.out]; exact ge_v HX0.out (HXW.out x hx)) ha)
      have T5 := hid (fun W (h : Below w3.heap.size w3 W) ha => HPT.out Q _ W (x0) X (pSm x0) (HBW.out _ h) (HIX.out _ h) (by omega) HK.out ⟨Q5.out.er, HC0.out, Q5.out.no⟩ HXW.out Q5.out.up (fun x hx => by rw [ok_v Q5.out HX0.out]; exact eq_v HX0.out (HXW.out x hx)) ha)
      have F5 := hid (fun W (h : Below w3.heap.size w3 W) ha => HPF.out Q _ W (x0) X (pSm x0) (HBW.out _ h) (HIX.out _ h) (by omega) HK.out ⟨Q5.out.er, HC0.out, Q5.out.no⟩ HXW.out (fun x hx => by rw [ok_v Q5.out HX0.out]; exact eq_v HX0.out (HXW.out x hx)) ha)
      rw [any_or] at T3 F3 T4 F4
      have HA1 := hid (fun h => cntP_any (P := pLs x0) (X := X) h)
      have HA2 := hid (fun h => cntP_any (P := pMr x0) (X := X) h)
      have HA3 := hid (fun h => cntP_any (P := pSm x0) (X := X) h)
      have HN1 := hid (fun h => cntP_none (P := pLs x0) (X := X) h)
      have HN2 := hid (fun h => cntP_none (P := pMr x0) (X := X) h)
      have HN3 := hid (fun h => cntP_none (P := pSm x0) (X := X) h)
      have HSE := hid (show ∀ z, z ∈ X → pSm x0 z = true → z = x0 from fun z hz hp => by
        rw [← eq_v HX0.out (HXW.out z hz)] at hp
        exact of_decide_eq_true hp)
      obtain ⟨s13, k1, j1, p13, n13⟩ := sum_two (p := X.any (pLs x0)) (q := X.any (pSm x0)) hcl hcs HA1.out HN1.out HA3.out HN3.out
      obtain ⟨s23, k2, j2, p23, n23⟩ := sum_two (p := X.any (pMr x0)) (q := X.any (pSm x0)) hcm hcs HA2.out HN2.out HA3.out HN3.out
      have P13 := hid p13
      have N13 := hid n13
      have P23 := hid p23
      have N23 := hid n23
      have O1 := hid (one_cnt HA1.out HN1.out)
      have O2 := hid (one_cnt HA2.out HN2.out)
      have O3 := hid (one_cnt HA3.out HN3.out)
      clear HA1 HA2 HA3 HN1 HN2 HN3 p13 n13 p23 n23 hcl hcm hcs
      generalize X.any (pLs x0) = b1 at *
      generalize X.any (pMr x0) = b2 at *
      generalize X.any (pSm x0) = b3 at *
      generalize ((cntP (pLs x0) X : Nat) : Int) = c1 at *
      generalize ((cntP (pMr x0) X : Nat) : Int) = c2 at *
      generalize ((cntP (pSm x0) X : Nat) : Int) = c3 at *
      clear HPT HPF HXV HXW Q1 Q2 Q3 Q4 Q5 HB7 HBr HK
      clear z1 z2 z3 z4
      cases b1 <;> cases b2 <;> cases b3
      ·
          have d1 := O1.out.2 (by first | rfl | trivial)
          have d2 := O2.out.2 (by first | rfl | trivial)
          have d3 := O3.out.2 (by first | rfl | trivial)
          have d4 := N13.out (by first | rfl | trivial)
          have d5 := N23.out (by first | rfl | trivial)
          clear O1 O2 O3 P13 N13 P23 N23
          go_wp2_with fail
          refine (F1.out wr HBx.out (by first | rfl | trivial)).mono ?_
          rintro e w11 ⟨ty1, pa1, rfl, hb⟩
          have HBw11 := hid (HBx.out.trans (hb.mono HBx.out.size))
          clear hb
          go_wp2_with fail
          refine (F2.out w11 HBw11.out (by first | rfl | trivial)).mono ?_
          rintro e w12 ⟨ty2, pa2, rfl, hb⟩
          have HBw12 := hid (HBw11.out.trans (hb.mono HBw11.out.size))
          clear hb
          go_wp2_with fail
          refine (F3.out w12 HBw12.out (by first | rfl | trivial)).mono ?_
          rintro e w13 ⟨ty3, pa3, rfl, hb⟩
          have HBw13 := hid (HBw12.out.trans (hb.mono HBw12.out.size))
          clear hb
          go_wp2_with fail
          refine (F4.out w13 HBw13.out (by first | rfl | trivial)).mono ?_
          rintro e w14 ⟨ty4, pa4, rfl, hb⟩
          have HBw14 := hid (HBw13.out.trans (hb.mono HBw13.out.size))
          clear hb
          go_wp2_with fail
          refine (F5.out w14 HBw14.out (by first | rfl | trivial)).mono ?_
          rintro e w15 ⟨ty5, pa5, rfl, hb⟩
          have HBw15 := hid (HBw14.out.trans (hb.mono HBw14.out.size))
          clear hb
          go_wp2_with fail
          go_ret
          exact ⟨rfl, HBW.out _ HBw15.out⟩
      ·
          have d1 := O1.out.2 (by first | rfl | trivial)
          have d2 := O2.out.2 (by first | rfl | trivial)
          have d3 := O3.out.1 (by first | rfl | trivial)
          have d4 := P13.out (by first | rfl | trivial)
          have d5 := P23.out (by first | rfl | trivial)
          clear O1 O2 O3 P13 N13 P23 N23
          have hs0 := str_refl x0
          go_wp2_with fail
          refine (F1.out wr HBx.out (by first | rfl | trivial)).mono ?_
          rintro e w11 ⟨ty1, pa1, rfl, hb⟩
          have HBw11 := hid (HBx.out.trans (hb.mono HBx.out.size))
          clear hb
          go_wp2_with fail
          refine (F2.out w11 HBw11.out (by first | rfl | trivial)).mono ?_
          rintro e w12 ⟨ty2, pa2, rfl, hb⟩
          have HBw12 := hid (HBw11.out.trans (hb.mono HBw11.out.size))
          clear hb
          go_wp2_with fail
          refine (T3.out w12 HBw12.out (by first | rfl | trivial)).mono ?_
          rintro e w13 ⟨p3, rfl, hz3, hp3, hb⟩
          have HBw13 := hid (HBw12.out.trans (hb.mono HBw12.out.size))
          clear hb
          clear hz3 hp3
          go_wp2_with fail
          refine (T4.out w13 HBw13.out (by first | rfl | trivial)).mono ?_
          rintro e w14 ⟨p4, rfl, hz4, hp4, hb⟩
          have HBw14 := hid (HBw13.out.trans (hb.mono HBw13.out.size))
          clear hb
          clear hz4 hp4
          go_wp2_with fail
          refine (T5.out w14 HBw14.out (by first | rfl | trivial)).mono ?_
          rintro e w15 ⟨p5, rfl, hz5, hp5, hb⟩
          have he5 := HSE.out p5 hz5 hp5
          rw [he5]
          clear he5
          have HBw15 := hid (HBw14.out.trans (hb.mono HBw14.out.size))
          clear hb
          clear hz5 hp5
          go_wp2_with fail
          go_ret
          exact ⟨rfl, HBW.out _ HBw15.out⟩
      ·
          have d1 := O1.out.2 (by first | rfl | trivial)
          have d2 := O2.out.1 (by first | rfl | trivial)
          have d3 := O3.out.2 (by first | rfl | trivial)
          have d4 := N13.out (by first | rfl | trivial)
          have d5 := P23.out (by first | rfl | trivial)
          clear O1 O2 O3 P13 N13 P23 N23
          go_wp2_with fail
          refine (F1.out wr HBx.out (by first | rfl | trivial)).mono ?_
          rintro e w11 ⟨ty1, pa1, rfl, hb⟩
          have HBw11 := hid (HBx.out.trans (hb.mono HBx.out.size))
          clear hb
          go_wp2_with fail
          refine (T2.out w11 HBw11.out (by first | rfl | trivial)).mono ?_
          rintro e w12 ⟨p2, rfl, hz2, hp2, hb⟩
          have HBw12 := hid (HBw11.out.trans (hb.mono HBw11.out.size))
          clear hb
          clear hz2 hp2
          go_wp2_with fail
          refine (F3.out w12 HBw12.out (by first | rfl | trivial)).mono ?_
          rintro e w13 ⟨ty3, pa3, rfl, hb⟩
          have HBw13 := hid (HBw12.out.trans (hb.mono HBw12.out.size))
          clear hb
          go_wp2_with fail
          refine (T4.out w13 HBw13.out (by first | rfl | trivial)).mono ?_
          rintro e w14 ⟨p4, rfl, hz4, hp4, hb⟩
          have HBw14 := hid (HBw13.out.trans (hb.mono HBw13.out.size))
          clear hb
          clear hz4 hp4
          go_wp2_with fail
          refine (F5.out w14 HBw14.out (by first | rfl | trivial)).mono ?_
          rintro e w15 ⟨ty5, pa5, rfl, hb⟩
          have HBw15 := hid (HBw14.out.trans (hb.mono HBw14.out.size))
          clear hb
          go_wp2_with fail
          go_ret
          exact ⟨rfl, HBW.out _ HBw15.out⟩
      ·
          have d1 := O1.out.2 (by first | rfl | trivial)
          have d2 := O2.out.1 (by first | rfl | trivial)
          have d3 := O3.out.1 (by first | rfl | trivial)
          have d4 := P13.out (by first | rfl | trivial)
          have d5 := P23.out (by first | rfl | trivial)
          clear O1 O2 O3 P13 N13 P23 N23
          have hs0 := str_refl x0
          go_wp2_with fail
          refine (F1.out wr HBx.out (by first | rfl | trivial)).mono ?_
          rintro e w11 ⟨ty1, pa1, rfl, hb⟩
          have HBw11 := hid (HBx.out.trans (hb.mono HBx.out.size))
          clear hb
          go_wp2_with fail
          refine (T2.out w11 HBw11.out (by first | rfl | trivial)).mono ?_
          rintro e w12 ⟨p2, rfl, hz2, hp2, hb⟩
          have HBw12 := hid (HBw11.out.trans (hb.mono HBw11.out.size))
          clear hb
          clear hz2 hp2
          go_wp2_with fail
          refine (T3.out w12 HBw12.out (by first | rfl | trivial)).mono ?_
          rintro e w13 ⟨p3, rfl, hz3, hp3, hb⟩
          have HBw13 := hid (HBw12.out.trans (hb.mono HBw12.out.size))
          clear hb
          clear hz3 hp3
          go_wp2_with fail
          refine (T4.out w13 HBw13.out (by first | rfl | trivial)).mono ?_
          rintro e w14 ⟨p4, rfl, hz4, hp4, hb⟩
          have HBw14 := hid (HBw13.out.trans (hb.mono HBw13.out.size))
          clear hb
          clear hz4 hp4
          go_wp2_with fail
          refine (T5.out w14 HBw14.out (by first | rfl | trivial)).mono ?_
          rintro e w15 ⟨p5, rfl, hz5, hp5, hb⟩
          have he5 := HSE.out p5 hz5 hp5
          rw [he5]
          clear he5
          have HBw15 := hid (HBw14.out.trans (hb.mono HBw14.out.size))
          clear hb
          clear hz5 hp5
          go_wp2_with fail
          go_ret
          exact ⟨rfl, HBW.out _ HBw15.out⟩
      ·
          have d1 := O1.out.1 (by first | rfl | trivial)
          have d2 := O2.out.2 (by first | rfl | trivial)
          have d3 := O3.out.2 (by first | rfl | trivial)
          have d4 := P13.out (by first | rfl | trivial)
          have d5 := N23.out (by first | rfl | trivial)
          clear O1 O2 O3 P13 N13 P23 N23
          go_wp2_with fail
          refine (T1.out wr HBx.out (by first | rfl | trivial)).mono ?_
          rintro e w11 ⟨p1, rfl, hz1, hp1, hb⟩
          have HBw11 := hid (HBx.out.trans (hb.mono HBx.out.size))
          clear hb
          clear hz1 hp1
          go_wp2_with fail
          refine (F2.out w11 HBw11.out (by first | rfl | trivial)).mono ?_
          rintro e w12 ⟨ty2, pa2, rfl, hb⟩
          have HBw12 := hid (HBw11.out.trans (hb.mono HBw11.out.size))
          clear hb
          go_wp2_with fail
          refine (T3.out w12 HBw12.out (by first | rfl | trivial)).mono ?_
          rintro e w13 ⟨p3, rfl, hz3, hp3, hb⟩
          have HBw13 := hid (HBw12.out.trans (hb.mono HBw12.out.size))
          clear hb
          clear hz3 hp3
          go_wp2_with fail
          refine (F4.out w13 HBw13.out (by first | rfl | trivial)).mono ?_
          rintro e w14 ⟨ty4, pa4, rfl, hb⟩
          have HBw14 := hid (HBw13.out.trans (hb.mono HBw13.out.size))
          clear hb
          go_wp2_with fail
          refine (F5.out w14 HBw14.out (by first | rfl | trivial)).mono ?_
          rintro e w15 ⟨ty5, pa5, rfl, hb⟩
          have HBw15 := hid (HBw14.out.trans (hb.mono HBw14.out.size))
          clear hb
          go_wp2_with fail
          go_ret
          exact ⟨rfl, HBW.out _ HBw15.out⟩
      ·
          have d1 := O1.out.1 (by first | rfl | trivial)
          have d2 := O2.out.2 (by first | rfl | trivial)
          have d3 := O3.out.1 (by first | rfl | trivial)
          have d4 := P13.out (by first | rfl | trivial)
          have d5 := P23.out (by first | rfl | trivial)
          clear O1 O2 O3 P13 N13 P23 N23
          have hs0 := str_refl x0
          go_wp2_with fail
          refine (T1.out wr HBx.out (by first | rfl | trivial)).mono ?_
          rintro e w11 ⟨p1, rfl, hz1, hp1, hb⟩
          have HBw11 := hid (HBx.out.trans (hb.mono HBx.out.size))
          clear hb
          clear hz1 hp1
          go_wp2_with fail
          refine (F2.out w11 HBw11.out (by first | rfl | trivial)).mono ?_
          rintro e w12 ⟨ty2, pa2, rfl, hb⟩
          have HBw12 := hid (HBw11.out.trans (hb.mono HBw11.out.size))
          clear hb
          go_wp2_with fail
          refine (T3.out w12 HBw12.out (by first | rfl | trivial)).mono ?_
          rintro e w13 ⟨p3, rfl, hz3, hp3, hb⟩
          have HBw13 := hid (HBw12.out.trans (hb.mono HBw12.out.size))
          clear hb
          clear hz3 hp3
          go_wp2_with fail
          refine (T4.out w13 HBw13.out (by first | rfl | trivial)).mono ?_
          rintro e w14 ⟨p4, rfl, hz4, hp4, hb⟩
          have HBw14 := hid (HBw13.out.trans (hb.mono HBw13.out.size))
          clear hb
          clear hz4 hp4
          go_wp2_with fail
          refine (T5.out w14 HBw14.out (by first | rfl | trivial)).mono ?_
          rintro e w15 ⟨p5, rfl, hz5, hp5, hb⟩
          have he5 := HSE.out p5 hz5 hp5
          rw [he5]
          clear he5
          have HBw15 := hid (HBw14.out.trans (hb.mono HBw14.out.size))
          clear hb
          clear hz5 hp5
          go_wp2_with fail
          go_ret
          exact ⟨rfl, HBW.out _ HBw15.out⟩
      ·
          have d1 := O1.out.1 (by first | rfl | trivial)
          have d2 := O2.out.1 (by first | rfl | trivial)
          have d3 := O3.out.2 (by first | rfl | trivial)
          have d4 := P13.out (by first | rfl | trivial)
          have d5 := P23.out (by first | rfl | trivial)
          clear O1 O2 O3 P13 N13 P23 N23
          go_wp2_with fail
          refine (T1.out wr HBx.out (by first | rfl | trivial)).mono ?_
          rintro e w11 ⟨p1, rfl, hz1, hp1, hb⟩
          have HBw11 := hid (HBx.out.trans (hb.mono HBx.out.size))
          clear hb
          clear hz1 hp1
          go_wp2_with fail
          refine (T2.out w11 HBw11.out (by first | rfl | trivial)).mono ?_
          rintro e w12 ⟨p2, rfl, hz2, hp2, hb⟩
          have HBw12 := hid (HBw11.out.trans (hb.mono HBw11.out.size))
          clear hb
          clear hz2 hp2
          go_wp2_with fail
          refine (T3.out w12 HBw12.out (by first | rfl | trivial)).mono ?_
          rintro e w13 ⟨p3, rfl, hz3, hp3, hb⟩
          have HBw13 := hid (HBw12.out.trans (hb.mono HBw12.out.size))
          clear hb
          clear hz3 hp3
          go_wp2_with fail
          refine (T4.out w13 HBw13.out (by first | rfl | trivial)).mono ?_
          rintro e w14 ⟨p4, rfl, hz4, hp4, hb⟩
          have HBw14 := hid (HBw13.out.trans (hb.mono HBw13.out.size))
          clear hb
          clear hz4 hp4
          go_wp2_with fail
          refine (F5.out w14 HBw14.out (by first | rfl | trivial)).mono ?_
          rintro e w15 ⟨ty5, pa5, rfl, hb⟩
          have HBw15 := hid (HBw14.out.trans (hb.mono HBw14.out.size))
          clear hb
          go_wp2_with fail
          go_ret
          exact ⟨rfl, HBW.out _ HBw15.out⟩
      ·
          have d1 := O1.out.1 (by first | rfl | trivial)
          have d2 := O2.out.1 (by first | rfl | trivial)
          have d3 := O3.out.1 (by first | rfl | trivial)
          have d4 := P13.out (by first | rfl | trivial)
          have d5 := P23.out (by first | rfl | trivial)
          clear O1 O2 O3 P13 N13 P23 N23
          have hs0 := str_refl x0
          go_wp2_with fail
          refine (T1.out wr HBx.out (by first | rfl | trivial)).mono ?_
          rintro e w11 ⟨p1, rfl, hz1, hp1, hb⟩
          have HBw11 := hid (HBx.out.trans (hb.mono HBx.out.size))
          clear hb
          clear hz1 hp1
          go_wp2_with fail
          refine (T2.out w11 HBw11.out (by first | rfl | trivial)).mono ?_
          rintro e w12 ⟨p2, rfl, hz2, hp2, hb⟩
          have HBw12 := hid (HBw11.out.trans (hb.mono HBw11.out.size))
          clear hb
          clear hz2 hp2
          go_wp2_with fail
          refine (T3.out w12 HBw12.out (by first | rfl | trivial)).mono ?_
          rintro e w13 ⟨p3, rfl, hz3, hp3, hb⟩
          have HBw13 := hid (HBw12.out.trans (hb.mono HBw12.out.size))
          clear hb
          clear hz3 hp3
          go_wp2_with fail
          refine (T4.out w13 HBw13.out (by first | rfl | trivial)).mono ?_
          rintro e w14 ⟨p4, rfl, hz4, hp4, hb⟩
          have HBw14 := hid (HBw13.out.trans (hb.mono HBw13.out.size))
          clear hb
          clear hz4 hp4
          go_wp2_with fail
          refine (T5.out w14 HBw14.out (by first | rfl | trivial)).mono ?_
          rintro e w15 ⟨p5, rfl, hz5, hp5, hb⟩
          have he5 := HSE.out p5 hz5 hp5
          rw [he5]
          clear he5
          have HBw15 := hid (HBw14.out.trans (hb.mono HBw14.out.size))
          clear hb
          clear hz5 hp5
          go_wp2_with fail
          go_ret
          exact ⟨rfl, HBW.out _ HBw15.out⟩
end Ve
end Go.Proofs.YtnkgjddkdikikaaGreatDoor
