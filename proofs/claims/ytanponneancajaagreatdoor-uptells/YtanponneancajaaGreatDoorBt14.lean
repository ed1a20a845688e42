
import Derived.Test.YtanponneancajaaGreatDoorBt13
import Derived.Deep.DeepCutAuto
import Derived.Deep.RegionHeld
import Derived.Test.YtanponneancajaaGreatDoorBt2
import Derived.Deep.SlicePairs
import Derived.Lib.SmallJoins
import Derived.SliceStrings
import Derived.ProofKit
import Derived.LaidMore
import Derived.Lay
import Derived.Stop.Joined
import Derived.HandedShaped
import Derived.LaidLaws
import Derived.Below
import Derived.Test.YtanponneancajaaGreatDoorRows
import Derived.Test.YtanponneancajaaGreatDoorCode
import Derived.Test.YtanponneancajaaGreatDoorVerG
import Derived.LaidHandle
import Derived.Stop.LaidTwo
import Derived.Shelf.Vars
import Derived.Carry
namespace Go.Proofs.YtanponneancajaaGreatDoor
open Go.RowKit Go.Maps
namespace Ve
theorem cell_set_neK {W : World} {b o g p : Nat} {x v : Value} (h : W.cell? ⟨b, o, none⟩ = some v) (hne : b ≠ g) : (W.setCell ⟨g, p, none⟩ x).cell? ⟨b, o, none⟩ = some v := by
  unfold World.cell? at h ⊢
  rw [Below.heap_setCell _ _ _ _ hne]
  exact h
theorem ErrAt.set2K {W : World} {A : Nat → Addr} {y : Value} {c : Nat} {o : Option Nat} {g : Nat} {z : Value} {n : Int} {T : TypeId} (h : ErrAt W A y c o) (hg : W.heap[g]? = some (.cells #[z, .int .i64 n] T (0, 0))) (a b : Value) : ErrAt ((W.setCell ⟨g, 0, none⟩ a).setCell ⟨g, 1, none⟩ b) A y c o := by
  cases o with
  | none => exact h
  | some i =>
    obtain ⟨h0, f, rfl, h1, h2⟩ := h
    have hne : f ≠ g := fun e => by
      subst e
      obtain ⟨_, g1, _⟩ := box_two hg
      rw [g1, errA_if A h0] at h2
      cases h2
    exact ⟨h0, f, rfl, cell_set_neK (cell_set_neK h1 hne) hne, cell_set_neK (cell_set_neK h2 hne) hne⟩
theorem box_put2 {W : World} {g : Nat} {x y : Value} {T : TypeId} (a b : Value) (h : W.heap[g]? = some (.cells #[x, y] T (0, 0))) : ((W.setCell ⟨g, 0, none⟩ a).setCell ⟨g, 1, none⟩ b).heap[g]? = some (.cells #[a, b] T (0, 0)) :=
  set_block (o := 1) (x := b) (set_block (o := 0) (x := a) h)
set_option maxRecDepth 100000 in
set_option maxHeartbeats 8000000 in
theorem ut_main (Q0 : List Raw) (L : List Ent) (roots : List Bm) (x : Bm) (sel : List Bm) (v u s : Value) (A : Nat → Addr) (m : Int) (w : World) (S : Te w A m) (N : Er.Sen w A) (htab : Lib.TabIs Tryz.prog w powName .u64 Lib.pow10Tab) (I : Ixs w v Q0 L) (em : EmI Q0 L) (hr : MsAt w u roots) (her : Em u roots) (hs : MsAt w s sel) (hes : Em s sel) (hok : okI L = true) (hrk : okLN 15 roots = true) (hsk : okLN 15 sel = true) (hx1 : x.1.size ≤ 70) (hx2 : x.2.size ≤ 60) :
    Calls Tryz.prog 6 #[v, u, .agg #[.string x.1, .string x.2], s] w fun e w' => e = .returned (.bool true) ∧ Below w.heap.size w w' := by
  obtain ⟨xp, xq⟩ := x
  simp only at hx1 hx2 ⊢
  obtain ⟨a0, c0, hv0, -⟩ := id I.es
  subst hv0
  obtain ⟨ra, rc, hu0, -⟩ := id hr
  subst hu0
  obtain ⟨sa, sc, hs0, -⟩ := id hs
  subst hs0
  have hn101 : L.length ≤ 101 := by rcases (okI_iff hok).1 with h | h <;> omega
  have hr15 : roots.length ≤ 15 := (okLN_iff hrk).1
  have hs15 : sel.length ≤ 15 := (okLN_iff hsk).1
  have HSZ := hid (show ∀ y, y ∈ sel → y.2.size < 999999 from fun y hy => by have := (okLN_iff hsk).2 y hy; omega)
  have HB0 := hid ((Below.refl w.heap.size w).alloc (Nat.le_refl _) (.cells #[.string xp, .string xq] 51))
  have HM0 := hid (heap_new w (.cells #[.string xp, .string xq] 51))
  have HIN := hid (upped_any A m _ (S.below HB0.out) (tab_below htab HB0.out))
  have HLO := hid (fun W (h : Below w.heap.size w W) => longI_any Q0 L _ W (I.below h))
  rw [if_pos hok] at HLO
  have HLM := hid (fun W (h : Below w.heap.size w W) => longN_any 15 (by decide) roots _ W (hr.below h))
  rw [if_pos hrk] at HLM
  have HLS := hid (fun W (h : Below w.heap.size w W) => longN_any 15 (by decide) sel _ W (hs.below h))
  rw [if_pos hsk] at HLS
  have HOW := hid (fun W (h : Below w.heap.size w W) => ownI_any Q0 L _ W (by omega) (I.below h) em (okI_fits hok))
  have HOM := hid (fun W (h : Below w.heap.size w W) => ownM_any _ roots W (by omega) (hr.below h) her)
  have HOS := hid (fun W (h : Below w.heap.size w W) => ownM_any _ sel W (by omega) (hs.below h) hes)
  have HS := hid (fun W (h : Below w.heap.size w W) => S.below h)
  have HN := hid (fun W (h : Below w.heap.size w W) => N.below h)
  have HT := hid (fun W (h : Below w.heap.size w W) => tab_below htab h)
  have HSH := hid (okI_sh hok)
  have HZ0 := hid (fun W v' Q' (J : Ixs W v' Q' L) => ixs_sz J hok)
  have HK0 := hid (keys_of I)
  have HOO := hid (fun W (h : Below w.heap.size w W) => oneO_all Q0 L roots (xp, xq) _ _ W (by omega) (by omega) (okI_sh hok) (I.below h) (hr.below h) her)
  have HAO := hid (fun W (h : Below w.heap.size w W) => allO_all Q0 L roots _ _ W (by omega) (by omega) (ixs_sz I hok) (okI_sh hok) (I.below h) (hr.below h))
  have HNO := hid (fun W (h : Below w.heap.size w W) => newsO_all Q0 L sel _ _ W (by omega) (by omega) (ixs_sz I hok) HSZ.out (okI_sh hok) (I.below h) (hs.below h))
  have hl1 : (xp.size : Int) ≤ 70 := by omega
  have hl2 : (xq.size : Int) ≤ 60 := by omega
  clear S N I em hok hr her hs hes hrk hsk htab
  go_enter Tryz.func6, Tryz.ntmps6
  go_wp2_with fail
  refine HIN.out.mono ?_
  rintro e w1 ⟨rfl, hb⟩
  have HB1 := hid (HB0.out.trans (hb.mono HB0.out.size))
  have HM1 := hid ((hb.block _ (lt_of_blk HM0.out)).trans HM0.out)
  clear hb
  go_wp2_with fail
  refine (HLO.out w1 HB1.out).mono ?_
  rintro e w2 ⟨rfl, hb⟩
  have HB2 := hid (HB1.out.trans (hb.mono HB1.out.size))
  have HM2 := hid ((hb.block _ (lt_of_blk HM1.out)).trans HM1.out)
  clear hb
  go_wp2_with fail
  refine (HLM.out w2 HB2.out).mono ?_
  rintro e w2' ⟨rfl, rfl⟩
  go_wp2_with fail
  refine (HLS.out w2' HB2.out).mono ?_
  rintro e w2s ⟨rfl, rfl⟩
  obtain ⟨p0, p1, pf⟩ := box_two HM2.out
  go_wp2_with fail
  refine (HOW.out w2s HB2.out).mono ?_
  rintro e w3 ⟨ou, Q, rfl, hO, hb⟩
  have HB3 := hid (HB2.out.trans (hb.mono HB2.out.size))
  have HM3 := hid ((hb.block _ (lt_of_blk HM2.out)).trans HM2.out)
  have HIX := hid (fun W (h : Below w3.heap.size w3 W) => hO.ixs.below h)
  have HZQ := hid (HZ0.out _ _ _ hO.ixs)
  have HKQ := hid (show Q.map keyR = Q0.map keyR by rw [keys_of hO.ixs, HK0.out])
  obtain ⟨oa, oc, hou, -⟩ := id hO.ixs.es
  subst hou
  have HBW := hid (fun W (h : Below w3.heap.size w3 W) => HB3.out.trans (h.mono HB3.out.size))
  have HP1 := hid (fun W a (h : Below w3.heap.size w3 W) (hR : MsAt W a roots) (eR : Em a roots) => one_all Q L roots (xp, xq) _ a A m W (by omega) (by omega) HSH.out (HS.out _ (HBW.out _ h)) (HIX.out _ h) hR eR)
  rw [oX_same (key_mod HKQ.out), oF_same (key_mod HKQ.out)] at HP1
  have HP2 := hid (fun W a (h : Below w3.heap.size w3 W) (hR : MsAt W a roots) => all_all Q Q0 L roots _ a A m W HKQ.out (by omega) (by omega) HZQ.out HSH.out (HS.out _ (HBW.out _ h)) (HT.out _ (HBW.out _ h)) (HIX.out _ h) hR)
  have HP3 := hid (fun W a (h : Below w3.heap.size w3 W) (hR : MsAt W a sel) => news_all Q L sel _ a A m W (by omega) (by omega) HZQ.out HSZ.out HSH.out (HS.out _ (HBW.out _ h)) (HT.out _ (HBW.out _ h)) (HIX.out _ h) hR)
  rw [nX_same HKQ.out, nF_same HKQ.out] at HP3
  have HF1 := hid (fun W y (h : Below w3.heap.size w3 W) (he : ErrAt W A y (oF Q0 L roots (xp, xq)).1 (oF Q0 L roots (xp, xq)).2) => faulted2_any A y (oF Q0 L roots (xp, xq)) W (HN.out _ (HBW.out _ h)) he (oF_le _ _ _ _))
  have HF2 := hid (fun W y (h : Below w3.heap.size w3 W) (he : ErrAt W A y (rF Q0 L roots).1 (rF Q0 L roots).2) => faulted2_any A y (rF Q0 L roots) W (HN.out _ (HBW.out _ h)) he (rF_le _ _ _))
  have HF3 := hid (fun W y (h : Below w3.heap.size w3 W) (he : ErrAt W A y (nF Q0 L sel).1 (nF Q0 L sel).2) => faulted2_any A y (nF Q0 L sel) W (HN.out _ (HBW.out _ h)) he (nF_le _ _ _))
  have HX1 := hid (show (oX Q0 L roots (xp, xq)).length ≤ 1000000 from Nat.le_trans oX_len (by omega))
  have HX2 := hid (show (allE Q0 L roots).length ≤ 1000000 from Nat.le_trans allE_len (by omega))
  have HX3 := hid (show (nX Q0 L sel).length ≤ 1000000 from Nat.le_trans nX_len (by omega))
  clear hb hO p0 p1 pf HLO HLM HLS HOW HIN HB1 HB2 HM0 HM1 HM2 HS HN HT HIX HZQ HKQ HK0 HZ0 HSH HSZ
  generalize oX Q0 L roots (xp, xq) = X1 at *
  generalize allE Q0 L roots = X2 at *
  generalize nX Q0 L sel = X3 at *
  obtain ⟨f1, hf1⟩ : ∃ f, f = oF Q0 L roots (xp, xq) := ⟨_, rfl⟩
  rw [← hf1] at HP1 HOO HF1
  obtain ⟨f2, hf2⟩ : ∃ f, f = rF Q0 L roots := ⟨_, rfl⟩
  rw [← hf2] at HP2 HAO HF2
  obtain ⟨f3, hf3⟩ : ∃ f, f = nF Q0 L sel := ⟨_, rfl⟩
  rw [← hf3] at HP3 HNO HF3
  clear hf1 hf2 hf3
  obtain ⟨a1, b1⟩ := f1
  obtain ⟨a2, b2⟩ := f2
  obtain ⟨a3, b3⟩ := f3
  unfold faultV at HOO HAO HNO HF1 HF2 HF3
  simp only at HP1 HP2 HP3 HOO HAO HNO HF1 HF2 HF3
  have HB3' := HB3
  clear HB3
  have HB3 := hid (Below.refl w3.heap.size w3)
  obtain ⟨q0, q1, qf⟩ := box_two HM3.out
  have HTT := hid (fun W' (hW : Below w3.heap.size w3 W') => (show (fun W' => W'.cell? ⟨w.heap.size, 0, none⟩ = some (.string xp) ∧ W'.cell? ⟨w.heap.size, 1, none⟩ = some (.string xq) ∧ Hid (Below w3.heap.size w3 W')) W' from ⟨cell_below hW q0, cell_below hW q1, hid hW⟩))
  go_wp2_with fail
  go_region_held (fun W' => W'.cell? ⟨w.heap.size, 0, none⟩ = some (.string xp) ∧ W'.cell? ⟨w.heap.size, 1, none⟩ = some (.string xq) ∧ Hid (Below w3.heap.size w3 W')) (first | exact HTT.out _ HRb.out | exact HTT.out _ HRa.out | exact HTT.out _ (below_drawn _ 1)) (first
    | (go_at_call 31; refine (HOM.out _ (HBW.out _ (below_drawn _ 1))).mono ?_; rintro e w4 ⟨u4, rfl, ho, -, hb⟩; have HRa := hid ((below_drawn w3 1).trans (hb.mono (Nat.le_refl _))); have HR4 := hid (mr_own ho hb); obtain ⟨a4, c4, hu4⟩ := HR4.out.sl; subst hu4; clear ho hb)
    | (go_at_call 36; refine (HP1.out w4 _ HRa.out HR4.out.ms HR4.out.em).mono ?_; rintro e w5 ⟨xa, xc, y5, rfl, hm5, he5, hb⟩; have HRb := hid (HRa.out.trans (hb.mono HRa.out.size)); have HMX5 := hid hm5; have HE5 := hid he5; clear hm5 he5 hb))
  all_goals
    have HB5 := HRb
    have HM5 := hid ((HRb.out.block _ (lt_of_blk HM3.out)).trans HM3.out)
    clear q0 q1 qf HTT HRa HR4
    obtain ⟨q0, q1, qf⟩ := box_two HM5.out
    go_wp2_with fail
    refine (HOO.out w5 (HBW.out _ HB5.out)).mono ?_
    rintro e w6 ⟨wa, wc, rfl, hm6, hb⟩
    have HB6 := hid (HB5.out.trans (hb.mono HB5.out.size))
    have HMX6 := hid (HMX5.out.below hb)
    have HMW := hid hm6
    have HE6 := hid (HE5.out.below hb)
    clear hm6 hb HOO q0 q1 qf
    have HA7 := hid ((Below.refl w6.heap.size w6).alloc (Nat.le_refl _) (.cells #[.int .i64 (a1 : Nat), .int .i64 (atOf b1)] 64))
    have HB7 := hid (HB6.out.trans (HA7.out.mono HB6.out.size))
    have HF7 := hid (heap_new w6 (.cells #[.int .i64 (a1 : Nat), .int .i64 (atOf b1)] 64))
    have HMX7 := hid (HMX6.out.below HA7.out)
    have HMW7 := hid (HMW.out.below HA7.out)
    have HE7 := hid (HE6.out.below HA7.out)
    have HSG := hid (show w3.heap.size ≤ w6.heap.size from HB6.out.size)
    generalize hf1 : ((a1 : Nat) : Int) = F1 at *
    generalize atOf b1 = F2 at *
    go_wp2_with fail
    generalize w6.alloc (.cells #[.int .i64 F1, .int .i64 F2] 64) = w7 at *
    generalize w6.heap.size = g at *
    clear HA7 HE6 HMW HMX6 HB6 HB5 HMX5 HE5 HM5 HRb
    refine (HF1.out w7 y5 HB7.out HE7.out).mono ?_
    rintro e w8 ⟨rfl, hb⟩
    have HB8 := hid (HB7.out.trans (hb.mono HB7.out.size))
    have HF8 := hid ((hb.block _ (lt_of_blk HF7.out)).trans HF7.out)
    have HSA := hid (sameM_any X1 _ _ w8 HX1.out (HMX7.out.below hb) (HMW7.out.below hb))
    clear hb HE7 HMX7 HMW7 HF7 HB7 HF1
    go_wp2_with fail
    refine HSA.out.mono ?_
    rintro e w9 ⟨rfl, hb⟩
    have HB9 := hid (HB8.out.trans (hb.mono HB8.out.size))
    have HF9 := hid ((hb.block _ (lt_of_blk HF8.out)).trans HF8.out)
    clear hb HSA HF8 HB8
    go_wp2_with fail
    refine (HOM.out w9 (HBW.out _ HB9.out)).mono ?_
    rintro e w10 ⟨u10, rfl, ho, -, hb⟩
    have HB10 := hid (HB9.out.trans (hb.mono HB9.out.size))
    have HF10 := hid ((hb.block _ (lt_of_blk HF9.out)).trans HF9.out)
    have HR10 := hid (mr_own ho hb)
    obtain ⟨a10, c10, hu10⟩ := HR10.out.sl
    subst hu10
    clear ho hb HB9 HF9
    go_wp2_with fail
    refine (HP2.out w10 _ HB10.out HR10.out.ms).mono ?_
    rintro e w11 ⟨xa10, xc10, y10, rfl, hm, he, hb⟩
    have HB11 := hid (HB10.out.trans (hb.mono HB10.out.size))
    have HF11 := hid ((hb.block _ (lt_of_blk HF10.out)).trans HF10.out)
    have HMX11 := hid hm
    have HE11 := hid he
    clear hm he hb HB10 HF10 HR10 HP2
    go_wp2_with fail
    refine (HAO.out w11 (HBW.out _ HB11.out)).mono ?_
    rintro e w12 ⟨wa10, wc10, rfl, hm, hb⟩
    have HB12 := hid (HB11.out.trans (hb.mono HB11.out.size))
    have HF12 := hid ((hb.block _ (lt_of_blk HF11.out)).trans HF11.out)
    have HMX12 := hid (HMX11.out.below hb)
    have HMW12 := hid hm
    have HE12 := hid (HE11.out.below hb)
    clear hm hb HB11 HF11 HMX11 HE11 HAO
    obtain ⟨q0, q1, qf⟩ := box_two HF12.out
    have HB13 := hid (put2_below (x := .int .i64 ((a2 : Nat) : Int)) (y := .int .i64 (atOf b2)) HB12.out HSG.out)
    have HF13 := hid (box_put2 (.int .i64 ((a2 : Nat) : Int)) (.int .i64 (atOf b2)) HF12.out)
    have HE13 := hid (HE12.out.set2K HF12.out (.int .i64 ((a2 : Nat) : Int)) (.int .i64 (atOf b2)))
    have HMX13 := hid (ms_put2 (x := .int .i64 ((a2 : Nat) : Int)) (y := .int .i64 (atOf b2)) HMX12.out HF12.out)
    have HMW13 := hid (ms_put2 (x := .int .i64 ((a2 : Nat) : Int)) (y := .int .i64 (atOf b2)) HMW12.out HF12.out)
    go_wp2_with fail
    generalize (w12.setCell ⟨g, 0, none⟩ (.int .i64 ((a2 : Nat) : Int))).setCell ⟨g, 1, none⟩ (.int .i64 (atOf b2)) = w13 at *
    clear HB12 HF12 HMX12 HMW12 HE12 q0 q1 qf
    generalize hf : ((a2 : Nat) : Int) = G1 at *
    generalize atOf b2 = G2 at *
    refine (HF2.out w13 y10 HB13.out HE13.out).mono ?_
    rintro e w14 ⟨rfl, hb⟩
    have HB14 := hid (HB13.out.trans (hb.mono HB13.out.size))
    have HF14 := hid ((hb.block _ (lt_of_blk HF13.out)).trans HF13.out)
    have HSA := hid (sameM_any X2 _ _ w14 HX2.out (HMX13.out.below hb) (HMW13.out.below hb))
    clear hb HB13 HF13 HMX13 HMW13 HE13 HF2 hf
    go_wp2_with fail
    refine HSA.out.mono ?_
    rintro e w15 ⟨rfl, hb⟩
    have HB15 := hid (HB14.out.trans (hb.mono HB14.out.size))
    have HF15 := hid ((hb.block _ (lt_of_blk HF14.out)).trans HF14.out)
    clear hb HSA HF14 HB14
    go_wp2_with fail
    refine (HOS.out w15 (HBW.out _ HB15.out)).mono ?_
    rintro e w16 ⟨u16, rfl, ho, -, hb⟩
    have HB16 := hid (HB15.out.trans (hb.mono HB15.out.size))
    have HF16 := hid ((hb.block _ (lt_of_blk HF15.out)).trans HF15.out)
    have HR16 := hid (mr_own ho hb)
    obtain ⟨a16, c16, hu16⟩ := HR16.out.sl
    subst hu16
    clear ho hb HB15 HF15
    go_wp2_with fail
    refine (HP3.out w16 _ HB16.out HR16.out.ms).mono ?_
    rintro e w17 ⟨xa16, xc16, y16, rfl, hm, he, hb⟩
    have HB17 := hid (HB16.out.trans (hb.mono HB16.out.size))
    have HF17 := hid ((hb.block _ (lt_of_blk HF16.out)).trans HF16.out)
    have HMX17 := hid hm
    have HE17 := hid he
    clear hm he hb HB16 HF16 HR16 HP3
    go_wp2_with fail
    refine (HNO.out w17 (HBW.out _ HB17.out)).mono ?_
    rintro e w18 ⟨wa16, wc16, rfl, hm, hb⟩
    have HB18 := hid (HB17.out.trans (hb.mono HB17.out.size))
    have HF18 := hid ((hb.block _ (lt_of_blk HF17.out)).trans HF17.out)
    have HMX18 := hid (HMX17.out.below hb)
    have HMW18 := hid hm
    have HE18 := hid (HE17.out.below hb)
    clear hm hb HB17 HF17 HMX17 HE17 HNO
    obtain ⟨q0, q1, qf⟩ := box_two HF18.out
    have HB19 := hid (put2_below (x := .int .i64 ((a3 : Nat) : Int)) (y := .int .i64 (atOf b3)) HB18.out HSG.out)
    have HF19 := hid (box_put2 (.int .i64 ((a3 : Nat) : Int)) (.int .i64 (atOf b3)) HF18.out)
    have HE19 := hid (HE18.out.set2K HF18.out (.int .i64 ((a3 : Nat) : Int)) (.int .i64 (atOf b3)))
    have HMX19 := hid (ms_put2 (x := .int .i64 ((a3 : Nat) : Int)) (y := .int .i64 (atOf b3)) HMX18.out HF18.out)
    have HMW19 := hid (ms_put2 (x := .int .i64 ((a3 : Nat) : Int)) (y := .int .i64 (atOf b3)) HMW18.out HF18.out)
    go_wp2_with fail
    generalize (w18.setCell ⟨g, 0, none⟩ (.int .i64 ((a3 : Nat) : Int))).setCell ⟨g, 1, none⟩ (.int .i64 (atOf b3)) = w19 at *
    clear HB18 HF18 HMX18 HMW18 HE18 q0 q1 qf
    generalize hf : ((a3 : Nat) : Int) = H1 at *
    generalize atOf b3 = H2 at *
    refine (HF3.out w19 y16 HB19.out HE19.out).mono ?_
    rintro e w20 ⟨rfl, hb⟩
    have HB20 := hid (HB19.out.trans (hb.mono HB19.out.size))
    have HF20 := hid ((hb.block _ (lt_of_blk HF19.out)).trans HF19.out)
    have HSA := hid (sameM_any X3 _ _ w20 HX3.out (HMX19.out.below hb) (HMW19.out.below hb))
    clear hb HB19 HF19 HMX19 HMW19 HE19 HF3 hf
    go_wp2_with fail
    refine HSA.out.mono ?_
    rintro e w21 ⟨rfl, hb⟩
    have HBe := hid (HBW.out _ (HB20.out.trans (hb.mono HB20.out.size)))
    clear hb
    go_wp2_with fail
    go_ret
    exact ⟨rfl, HBe.out⟩
set_option maxRecDepth 100000 in
set_option maxHeartbeats 2000000 in
theorem ut_long1 (Q0 : List Raw) (L : List Ent) (roots : List Bm) (x : Bm) (sel : List Bm) (v u s : Value) (A : Nat → Addr) (m : Int) (w : World) (S : Te w A m) (htab : Lib.TabIs Tryz.prog w powName .u64 Lib.pow10Tab) (I : Ixs w v Q0 L) (hr : MsAt w u roots) (hs : MsAt w s sel) (hok : okI L = false) :
    Calls Tryz.prog 6 #[v, u, .agg #[.string x.1, .string x.2], s] w fun e w' => e = .returned (.bool true) ∧ Below w.heap.size w w' := by
  obtain ⟨xp, xq⟩ := x
  obtain ⟨a0, c0, hv0, -⟩ := id I.es
  subst hv0
  obtain ⟨ra, rc, hu0, -⟩ := id hr
  subst hu0
  obtain ⟨sa, sc, hs0, -⟩ := id hs
  subst hs0
  have HB0 := hid ((Below.refl w.heap.size w).alloc (Nat.le_refl _) (.cells #[.string xp, .string xq] 51))
  have HM0 := hid (heap_new w (.cells #[.string xp, .string xq] 51))
  have HIN := hid (upped_any A m _ (S.below HB0.out) (tab_below htab HB0.out))
  have HLO := hid (fun W (h : Below w.heap.size w W) => longI_any Q0 L _ W (I.below h))
  rw [hok] at HLO
  clear S htab I hok hr hs
  go_enter Tryz.func6, Tryz.ntmps6
  go_wp2_with fail
  refine HIN.out.mono ?_
  rintro e w1 ⟨rfl, hb⟩
  have HB1 := hid (HB0.out.trans (hb.mono HB0.out.size))
  have HM1 := hid ((hb.block _ (lt_of_blk HM0.out)).trans HM0.out)
  clear hb
  go_wp2_with fail
  refine (HLO.out w1 HB1.out).mono ?_
  rintro e w2 ⟨rfl, hb⟩
  have HB2 := hid (HB1.out.trans (hb.mono HB1.out.size))
  have HM2 := hid ((hb.block _ (lt_of_blk HM1.out)).trans HM1.out)
  clear hb
  go_wp2_with fail
  go_ret
  exact ⟨rfl, HB2.out⟩
set_option maxRecDepth 100000 in
set_option maxHeartbeats 2000000 in
theorem ut_long2 (Q0 : List Raw) (L : List Ent) (roots : List Bm) (x : Bm) (sel : List Bm) (v u s : Value) (A : Nat → Addr) (m : Int) (w : World) (S : Te w A m) (htab : Lib.TabIs Tryz.prog w powName .u64 Lib.pow10Tab) (I : Ixs w v Q0 L) (hr : MsAt w u roots) (hs : MsAt w s sel) (a b : Int) (hok : okI L = true) (hx : (if okLN 15 roots then (0 : Int) else 1) = a) (hy : (if okLN 15 sel then (0 : Int) else 1) = b) (hxy : (a = 1 ∧ b = 0) ∨ (a = 0 ∧ b = 1) ∨ (a = 1 ∧ b = 1)) :
    Calls Tryz.prog 6 #[v, u, .agg #[.string x.1, .string x.2], s] w fun e w' => e = .returned (.bool true) ∧ Below w.heap.size w w' := by
  obtain ⟨xp, xq⟩ := x
  obtain ⟨a0, c0, hv0, -⟩ := id I.es
  subst hv0
  obtain ⟨ra, rc, hu0, -⟩ := id hr
  subst hu0
  obtain ⟨sa, sc, hs0, -⟩ := id hs
  subst hs0
  have HB0 := hid ((Below.refl w.heap.size w).alloc (Nat.le_refl _) (.cells #[.string xp, .string xq] 51))
  have HM0 := hid (heap_new w (.cells #[.string xp, .string xq] 51))
  have HIN := hid (upped_any A m _ (S.below HB0.out) (tab_below htab HB0.out))
  have HLO := hid (fun W (h : Below w.heap.size w W) => longI_any Q0 L _ W (I.below h))
  rw [if_pos hok] at HLO
  have HLM := hid (fun W (h : Below w.heap.size w W) => longN_any 15 (by decide) roots _ W (hr.below h))
  rw [hx] at HLM
  have HLS := hid (fun W (h : Below w.heap.size w W) => longN_any 15 (by decide) sel _ W (hs.below h))
  rw [hy] at HLS
  clear S htab I hok hr hs hx hy
  rcases hxy with ⟨rfl, rfl⟩ | ⟨rfl, rfl⟩ | ⟨rfl, rfl⟩
  all_goals
    go_enter Tryz.func6, Tryz.ntmps6
    go_wp2_with fail
    refine HIN.out.mono ?_
    rintro e w1 ⟨rfl, hb⟩
    have HB1 := hid (HB0.out.trans (hb.mono HB0.out.size))
    have HM1 := hid ((hb.block _ (lt_of_blk HM0.out)).trans HM0.out)
    clear hb
    go_wp2_with fail
    refine (HLO.out w1 HB1.out).mono ?_
    rintro e w2 ⟨rfl, hb⟩
    have HB2 := hid (HB1.out.trans (hb.mono HB1.out.size))
    have HM2 := hid ((hb.block _ (lt_of_blk HM1.out)).trans HM1.out)
    clear hb
    go_wp2_with fail
    refine (HLM.out w2 HB2.out).mono ?_
    rintro e w2a ⟨rfl, rfl⟩
    go_wp2_with fail
    refine (HLS.out w2a HB2.out).mono ?_
    rintro e w2b ⟨rfl, rfl⟩
    go_wp2_with fail
    go_ret
    exact ⟨rfl, HB2.out⟩
set_option maxRecDepth 100000 in
set_option maxHeartbeats 2000000 in
theorem ut_long3 (Q0 : List Raw) (L : List Ent) (roots : List Bm) (x : Bm) (sel : List Bm) (v u s : Value) (A : Nat → Addr) (m : Int) (w : World) (S : Te w A m) (htab : Lib.TabIs Tryz.prog w powName .u64 Lib.pow10Tab) (I : Ixs w v Q0 L) (hr : MsAt w u roots) (hs : MsAt w s sel) (hok : okI L = true) (hrk : okLN 15 roots = true) (hsk : okLN 15 sel = true) (hx1 : ¬ x.1.size ≤ 70) :
    Calls Tryz.prog 6 #[v, u, .agg #[.string x.1, .string x.2], s] w fun e w' => e = .returned (.bool true) ∧ Below w.heap.size w w' := by
  obtain ⟨xp, xq⟩ := x
  simp only at hx1 ⊢
  obtain ⟨a0, c0, hv0, -⟩ := id I.es
  subst hv0
  obtain ⟨ra, rc, hu0, -⟩ := id hr
  subst hu0
  obtain ⟨sa, sc, hs0, -⟩ := id hs
  subst hs0
  have HB0 := hid ((Below.refl w.heap.size w).alloc (Nat.le_refl _) (.cells #[.string xp, .string xq] 51))
  have HM0 := hid (heap_new w (.cells #[.string xp, .string xq] 51))
  have HIN := hid (upped_any A m _ (S.below HB0.out) (tab_below htab HB0.out))
  have HLO := hid (fun W (h : Below w.heap.size w W) => longI_any Q0 L _ W (I.below h))
  rw [if_pos hok] at HLO
  have HLM := hid (fun W (h : Below w.heap.size w W) => longN_any 15 (by decide) roots _ W (hr.below h))
  rw [if_pos hrk] at HLM
  have HLS := hid (fun W (h : Below w.heap.size w W) => longN_any 15 (by decide) sel _ W (hs.below h))
  rw [if_pos hsk] at HLS
  have hl1 : ¬ (xp.size : Int) ≤ 70 := by omega
  have hl1' : (70 : Int) < (xp.size : Int) := by omega
  clear S htab I hok hr hs hrk hsk
  go_enter Tryz.func6, Tryz.ntmps6
  go_wp2_with fail
  refine HIN.out.mono ?_
  rintro e w1 ⟨rfl, hb⟩
  have HB1 := hid (HB0.out.trans (hb.mono HB0.out.size))
  have HM1 := hid ((hb.block _ (lt_of_blk HM0.out)).trans HM0.out)
  clear hb
  go_wp2_with fail
  refine (HLO.out w1 HB1.out).mono ?_
  rintro e w2 ⟨rfl, hb⟩
  have HB2 := hid (HB1.out.trans (hb.mono HB1.out.size))
  have HM2 := hid ((hb.block _ (lt_of_blk HM1.out)).trans HM1.out)
  clear hb
  go_wp2_with fail
  refine (HLM.out w2 HB2.out).mono ?_
  rintro e w2a ⟨rfl, rfl⟩
  go_wp2_with fail
  refine (HLS.out w2a HB2.out).mono ?_
  rintro e w2b ⟨rfl, rfl⟩
  obtain ⟨p0, p1, pf⟩ := box_two HM2.out
  go_wp2_with fail
  go_ret
  exact ⟨rfl, HB2.out⟩
set_option maxRecDepth 100000 in
set_option maxHeartbeats 2000000 in
theorem ut_long4 (Q0 : List Raw) (L : List Ent) (roots : List Bm) (x : Bm) (sel : List Bm) (v u s : Value) (A : Nat → Addr) (m : Int) (w : World) (S : Te w A m) (htab : Lib.TabIs Tryz.prog w powName .u64 Lib.pow10Tab) (I : Ixs w v Q0 L) (hr : MsAt w u roots) (hs : MsAt w s sel) (hok : okI L = true) (hrk : okLN 15 roots = true) (hsk : okLN 15 sel = true) (hx1 : x.1.size ≤ 70) (hx2 : ¬ x.2.size ≤ 60) :
    Calls Tryz.prog 6 #[v, u, .agg #[.string x.1, .string x.2], s] w fun e w' => e = .returned (.bool true) ∧ Below w.heap.size w w' := by
  obtain ⟨xp, xq⟩ := x
  simp only at hx1 hx2 ⊢
  obtain ⟨a0, c0, hv0, -⟩ := id I.es
  subst hv0
  obtain ⟨ra, rc, hu0, -⟩ := id hr
  subst hu0
  obtain ⟨sa, sc, hs0, -⟩ := id hs
  subst hs0
  have HB0 := hid ((Below.refl w.heap.size w).alloc (Nat.le_refl _) (.cells #[.string xp, .string xq] 51))
  have HM0 := hid (heap_new w (.cells #[.string xp, .string xq] 51))
  have HIN := hid (upped_any A m _ (S.below HB0.out) (tab_below htab HB0.out))
  have HLO := hid (fun W (h : Below w.heap.size w W) => longI_any Q0 L _ W (I.below h))
  rw [if_pos hok] at HLO
  have HLM := hid (fun W (h : Below w.heap.size w W) => longN_any 15 (by decide) roots _ W (hr.below h))
  rw [if_pos hrk] at HLM
  have HLS := hid (fun W (h : Below w.heap.size w W) => longN_any 15 (by decide) sel _ W (hs.below h))
  rw [if_pos hsk] at HLS
  have hl1 : (xp.size : Int) ≤ 70 := by omega
  have hl2 : ¬ (xq.size : Int) ≤ 60 := by omega
  have hl2' : (60 : Int) < (xq.size : Int) := by omega
  clear S htab I hok hr hs hrk hsk
  go_enter Tryz.func6, Tryz.ntmps6
  go_wp2_with fail
  refine HIN.out.mono ?_
  rintro e w1 ⟨rfl, hb⟩
  have HB1 := hid (HB0.out.trans (hb.mono HB0.out.size))
  have HM1 := hid ((hb.block _ (lt_of_blk HM0.out)).trans HM0.out)
  clear hb
  go_wp2_with fail
  refine (HLO.out w1 HB1.out).mono ?_
  rintro e w2 ⟨rfl, hb⟩
  have HB2 := hid (HB1.out.trans (hb.mono HB1.out.size))
  have HM2 := hid ((hb.block _ (lt_of_blk HM1.out)).trans HM1.out)
  clear hb
  go_wp2_with fail
  refine (HLM.out w2 HB2.out).mono ?_
  rintro e w2a ⟨rfl, rfl⟩
  go_wp2_with fail
  refine (HLS.out w2a HB2.out).mono ?_
  rintro e w2b ⟨rfl, rfl⟩
  obtain ⟨p0, p1, pf⟩ := box_two HM2.out
  go_wp2_with fail
  go_ret
  exact ⟨rfl, HB2.out⟩
theorem upTells_any (Q0 : List Raw) (L : List Ent) (roots : List Bm) (x : Bm) (sel : List Bm) (v u s : Value) (A : Nat → Addr) (m : Int) (w : World) (S : Te w A m) (N : Er.Sen w A) (htab : Lib.TabIs Tryz.prog w powName .u64 Lib.pow10Tab) (I : Ixs w v Q0 L) (em : EmI Q0 L) (hr : MsAt w u roots) (her : Em u roots) (hs : MsAt w s sel) (hes : Em s sel) :
    Calls Tryz.prog 6 #[v, u, .agg #[.string x.1, .string x.2], s] w fun e w' => e = .returned (.bool true) ∧ Below w.heap.size w w' := by
  cases hok : okI L with
  | false => exact ut_long1 Q0 L roots x sel v u s A m w S htab I hr hs hok
  | true =>
    cases hrk : okLN 15 roots <;> cases hsk : okLN 15 sel
    case true.true =>
      by_cases hx1 : x.1.size ≤ 70
      · by_cases hx2 : x.2.size ≤ 60
        · exact ut_main Q0 L roots x sel v u s A m w S N htab I em hr her hs hes hok hrk hsk hx1 hx2
        · exact ut_long4 Q0 L roots x sel v u s A m w S htab I hr hs hok hrk hsk hx1 hx2
      · exact ut_long3 Q0 L roots x sel v u s A m w S htab I hr hs hok hrk hsk hx1
    all_goals exact ut_long2 Q0 L roots x sel v u s A m w S htab I hr hs _ _ hok rfl rfl (by rw [hrk, hsk]; decide)
end Ve
end Go.Proofs.YtanponneancajaaGreatDoor


namespace Go.Proofs.YtanponneancajaaGreatDoor
open Go.ChangeShapes Go.WideShapes Go.ChangeAt Go.RowKit Go.ChangeMaps Go.Joins
namespace Ve
theorem oCellsMod : Tryz.prog.cellsOf 51 = 2 := by kernel_rfl
theorem oCellsStr : Tryz.prog.cellsOf 9 = 1 := by kernel_rfl
theorem oCellsEnt : Tryz.prog.cellsOf 54 = 5 := by kernel_rfl
theorem oCellsMods : Tryz.prog.cellsOf 52 = 1 := by kernel_rfl
theorem oCellsSstr : Tryz.prog.cellsOf 24 = 1 := by kernel_rfl
theorem oCellsBool : Tryz.prog.cellsOf 4 = 1 := by kernel_rfl
def strOf : Value → ByteArray
  | .string s => s
  | _ => ⟨#[]⟩
set_option maxRecDepth 100000 in
theorem open_ms {H : Type} {enc : TypeId × Value → H} {w : World} {base fuel : Nat} {held : Bool} {v : Value} {x : DataW H × List MemPlace}
    (h : DataW.trod enc Tryz.prog w base (fun _ => true) held fuel 52 [v] = some x) : ∃ L, MsAt w v L ∧ Em v L := by
  rcases Go.Deep.open_slice_pairs Tryz.underlying52 Tryz.underlying51 oCellsMod rfl rfl oCellsStr oCellsStr h with ⟨hcs, _⟩ | ⟨a, len, cap, m, n, V0, V1, D0, D1, P0, P1, hcs, _, hl, _, hm, _, hx⟩
  · simp only [List.cons.injEq, and_true] at hcs
    subst hcs
    exact ⟨[], ⟨none, 0, rfl, Nat.le_refl _, fun h => absurd rfl h⟩, fun a c e _ => Or.inl e.symm⟩
  · simp only [List.cons.injEq, and_true] at hcs
    subst hcs
    simp only [if_true] at hm
    subst hm
    have hlen : ((List.range len).map fun i => (strOf (V0 i), strOf (V1 i))).length = len := by simp
    refine ⟨(List.range len).map fun i => (strOf (V0 i), strOf (V1 i)), ⟨some a, m, by rw [hlen], by rw [hlen]; exact hl, fun hne => ?_⟩, fun a' c e h0 => ?_⟩
    · have h0l : 0 < len := by rw [← hlen]; exact List.length_pos_iff.2 hne
      obtain ⟨b, off, spot⟩ := a
      have hspot : spot = none := by simpa [Addr.add] using World.cell?_spot (hx 0 (by omega)).1
      subst hspot
      refine ⟨b, off, rfl, fun j hj => ?_⟩
      have hj2 : j < len := by rw [← hlen]; exact hj
      obtain ⟨g0, g1, t0, t1⟩ := hx j (by omega)
      obtain ⟨s0, e0, _, _⟩ := DataW.trod_string Tryz.underlying9 t0
      obtain ⟨s1, e1, _, _⟩ := DataW.trod_string Tryz.underlying9 t1
      simp only [List.cons.injEq, and_true] at e0 e1
      rw [e0] at g0
      rw [e1] at g1
      simp only [List.getElem_map, List.getElem_range, e0, e1]
      rw [Addr.add_lit] at g0 g1
      exact ⟨g0, g1⟩
    · have hz : len = 0 := by rw [← hlen, h0]; rfl
      rw [hlen] at e
      subst hz
      right
      injection e with e1 e2 e3
      exact ⟨a, by rw [← e1]⟩
set_option maxRecDepth 100000 in
theorem open_tx {H : Type} {enc : TypeId × Value → H} {w : World} {base fuel : Nat} {held : Bool} {v : Value} {x : DataW H × List MemPlace}
    (h : DataW.trod enc Tryz.prog w base (fun _ => true) held fuel 24 [v] = some x) : ∃ X, TxAt w v X ∧ EmT v X := by
  rcases open_strings Tryz.underlying24 Tryz.underlying9 oCellsStr h with ⟨hcs, _⟩ | ⟨a, len, cap, ss, hcs, _, hl, _, hm, _, hx, _⟩
  · simp only [List.cons.injEq, and_true] at hcs
    subst hcs
    exact ⟨[], ⟨none, 0, rfl, Nat.le_refl _, fun h => absurd rfl h⟩, fun a c e _ => Or.inl e.symm⟩
  · simp only [List.cons.injEq, and_true] at hcs
    subst hcs
    simp only [if_true] at hm
    have hlen : (ss.take len).length = len := by rw [List.length_take]; omega
    refine ⟨ss.take len, ⟨some a, cap, by rw [hlen], by rw [hlen]; exact hl, fun hne => ?_⟩, fun a' c e h0 => ?_⟩
    · have h0l : 0 < len := by rw [← hlen]; exact List.length_pos_iff.2 hne
      obtain ⟨b, off, spot⟩ := a
      have hspot : spot = none := by simpa [Addr.add] using World.cell?_spot (hx 0 (by omega))
      subst hspot
      refine ⟨b, off, rfl, fun j hj => ?_⟩
      have hj2 : j < len := by rw [← hlen]; exact hj
      have g := hx j (by omega)
      rw [Addr.add_lit, List.getD_eq_getElem?_getD, List.getElem?_eq_getElem (by omega)] at g
      rw [List.getElem_take]
      exact g
    · have hz : len = 0 := by rw [← hlen, h0]; rfl
      rw [hlen] at e
      subst hz
      right
      injection e with e1 e2 e3
      exact ⟨a, by rw [← e1]⟩
set_option maxRecDepth 100000 in
theorem open_ent {H : Type} {enc : TypeId × Value → H} {w : World} {base fuel : Nat} {held : Bool} {cs : List Value} {x : DataW H × List MemPlace}
    (h : DataW.trod enc Tryz.prog w base (fun _ => true) held fuel 54 cs = some x) : ∃ (r : Raw) (e : Ent), cs = rowR r ∧ slR r ∧ RawOk w r e ∧ Em r.2.1 e.2.1 ∧ EmT r.2.2.1 e.2.2.1 := by
  obtain ⟨y0, y1, y2, y3, n, _, hl, h0, h1, h2, h3⟩ := trod_struct4 Tryz.underlying54 h
  rw [oCellsEnt] at hl
  match cs, hl with
  | [c0, c1, c2, c3, c4], _ =>
    simp only [oCellsMod, oCellsMods, oCellsSstr, oCellsBool, List.drop, List.take] at h0 h1 h2 h3
    obtain ⟨z0, z1, n2, _, _, k0, k1⟩ := trod_struct2 Tryz.underlying51 h0
    simp only [oCellsStr, List.drop, List.take] at k0 k1
    obtain ⟨s0, e0, _, _⟩ := DataW.trod_string Tryz.underlying9 k0
    obtain ⟨s1, e1, _, _⟩ := DataW.trod_string Tryz.underlying9 k1
    obtain ⟨R, hR, hER⟩ := open_ms h1
    obtain ⟨X, hX, hEX⟩ := open_tx h2
    obtain ⟨b, e4, _⟩ := DataW.trod_bool Tryz.underlying4 h3
    simp only [List.cons.injEq, and_true] at e0 e1 e4
    subst e0 e1 e4
    refine ⟨((s0, s1), c2, c3, b), ((s0, s1), R, X, b), rfl, ⟨?_, ?_⟩, ⟨rfl, hR, hX, rfl⟩, hER, hEX⟩
    · obtain ⟨a, c, e, _⟩ := hR; exact ⟨_, _, _, e⟩
    · obtain ⟨a, c, e, _⟩ := hX; exact ⟨_, _, _, e⟩
set_option maxRecDepth 100000 in
theorem open_ix {H : Type} {enc : TypeId × Value → H} {w : World} {base fuel : Nat} {held : Bool} {v : Value} {x : DataW H × List MemPlace}
    (h : DataW.trod enc Tryz.prog w base (fun _ => true) held fuel 42 [v] = some x) : ∃ Q L, Ixs w v Q L ∧ EmI Q L := by
  rcases Go.Deep.open_slice Tryz.underlying42 h with ⟨hcs, _⟩ | ⟨a, len, cap, m, n, D, Pl, hcs, _, hl, _, hm, _, hx⟩
  · simp only [List.cons.injEq, and_true] at hcs
    subst hcs
    exact ⟨[], [], ⟨⟨none, 0, rfl, Nat.le_refl _, fun r hr => (by cases hr), fun h => absurd rfl h⟩, rfl, fun j h1 => absurd h1 (Nat.not_lt_zero _)⟩, fun j h1 => absurd h1 (Nat.not_lt_zero _)⟩
  · simp only [List.cons.injEq, and_true] at hcs
    subst hcs
    simp only [if_true] at hm
    subst hm
    have each : ∀ i, i < len → ∃ q : Raw × Ent, (∀ c (hc : c < 5), w.cell? (a.add (i * 5 + c)) = (rowR q.1)[c]?) ∧ slR q.1 ∧ RawOk w q.1 q.2 ∧ Em q.1.2.1 q.2.2.1 ∧ EmT q.1.2.2.1 q.2.2.2.1 := fun i hi => by
      obtain ⟨cs', h1, h2⟩ := hx i (by omega)
      obtain ⟨r, e, hcs, k1, k2, k3, k4⟩ := open_ent h2
      rw [oCellsEnt] at h1
      obtain ⟨_, hlen, hcell⟩ := World.cells?_some h1
      refine ⟨(r, e), fun c hc => ?_, k1, k2, k3, k4⟩
      have := hcell c (by omega)
      rw [Go.Deep.add_add] at this
      rw [this, hcs]
    obtain ⟨q, hq⟩ := Go.Deep.choose_lt each
    have hlq : ((List.range len).map fun i => (q i).1).length = len := by simp
    have hll : ((List.range len).map fun i => (q i).2).length = len := by simp
    refine ⟨(List.range len).map fun i => (q i).1, (List.range len).map fun i => (q i).2, ⟨⟨some a, m, by rw [hlq], by rw [hlq]; exact hl, fun r hr => ?_, fun hne => ?_⟩, by rw [hlq, hll], fun j h1 h2 => ?_⟩, fun j h1 h2 => ?_⟩
    · obtain ⟨i, hi, rfl⟩ := List.mem_map.1 hr
      exact (hq i (List.mem_range.1 hi)).2.1
    · have h0l : 0 < len := by rw [← hlq]; exact List.length_pos_iff.2 hne
      obtain ⟨b, off, spot⟩ := a
      have g0 := (hq 0 h0l).1 0 (by omega)
      have hspot : spot = none := by
        have : ∃ u, World.cell? w ((⟨b, off, spot⟩ : Addr).add (0 * 5 + 0)) = some u := ⟨_, g0⟩
        obtain ⟨u, hu⟩ := this
        simpa [Addr.add] using World.cell?_spot hu
      subst hspot
      refine ⟨b, off, rfl, fun j hj => ?_⟩
      have hj2 : j < len := by rw [← hlq]; exact hj
      have g := (hq j hj2).1
      simp only [List.getElem_map, List.getElem_range]
      refine ⟨?_, ?_, ?_, ?_, ?_⟩
      · have := g 0 (by omega); rw [Addr.add_lit] at this; exact this
      · have := g 1 (by omega); rw [Addr.add_lit] at this; exact this
      · have := g 2 (by omega); rw [Addr.add_lit] at this; exact this
      · have := g 3 (by omega); rw [Addr.add_lit] at this; exact this
      · have := g 4 (by omega); rw [Addr.add_lit] at this; exact this
    · have hj2 : j < len := by rw [← hlq]; exact h1
      simp only [List.getElem_map, List.getElem_range]
      exact (hq j hj2).2.2.1
    · have hj2 : j < len := by rw [← hlq]; exact h1
      simp only [List.getElem_map, List.getElem_range]
      exact (hq j hj2).2.2.2
end Ve
end Go.Proofs.YtanponneancajaaGreatDoor


namespace Go.Proofs.YtanponneancajaaGreatDoor
open Go.ChangeShapes Go.WideShapes Go.ChangeAt Go.RowKit
namespace Ve
theorem wrap_and_shaped {H : Type} {enc : TypeId × Value → H} {a : Assume} {C : Checked} {os : Go.Os} {f : FuncId} {fn : Func} {s : ChangeSpec} {conds : List PathCond} {apart fresh handsOn again : Bool} {X : World → Array Value → Prop}
    (hX : ∀ (w w' : World) (args : Array Value), w.heap = w'.heap → X w args → X w' args)
    (own : ownKnob C.prog.godebug = none) (started : os.Started) (noInit : C.prog.inits.idxOf? f = none) (hfn : C.prog.funcs[f]? = some fn)
    (witness : ∃ (w : World) (tape : Tape) (i : Input), w.os = os ∧ (w.forCall tape i).Shaped C.prog ∧ i.vars = [] ∧ Input.okWide C.prog (w.forCall tape i) .any w.heap.size f i ∧
      ((s.pre enc C.prog fn conds apart (w.forCall tape i).memory i.args ∧ X (w.forCall tape i).memory i.args) ∧ sizedMet enc C.prog fn (OpenSpec.ofChange s) apart (w.forCall tape i).memory i.args) ∧ a.holds C.prog (lone (Frame.enter C.prog f i.args .normal) [] (w.forCall tape i)))
    (contract : ∀ (W : World) (base : Nat) (args : Array Value) (ds gs : List (DataW H)) (before : List MemPlace),
      (∀ (j : Nat) t v, fn.params[j]? = some t → args[j]? = some v → Value.okWide C.prog W .any base t v) →
      DataW.Whole enc C.prog fn.params.toList s.vars apart W args.toList ds gs before → X W args → W.ShapedOpen C.prog →
      Calls C.prog f args W fun e W' => ∃ v, e = .returned v ∧ s.post enc C.prog fn apart fresh handsOn again W args v W') :
    ReturnsInHanded a C os f .any (fun w args => (s.pre enc C.prog fn conds apart w args ∧ X w args) ∧ sizedMet enc C.prog fn (OpenSpec.ofChange s) apart w args) (s.post enc C.prog fn apart fresh handsOn again) := by
  refine returnsInHanded_of_calls own started noInit witness ?_
  intro w tape i _ hsh _ hok hpre _
  obtain ⟨_, _, _, fn', hfn', _, _, _, _, hval⟩ := hok
  have e : fn' = fn := Option.some.inj (hfn'.symm.trans hfn)
  subst e
  obtain ⟨⟨⟨ds, gs, before, hw, _⟩, hx⟩, _⟩ := hpre
  have hw' := DataW.Whole.of_heap (w' := w.forCall tape i) (by rfl) hw
  refine (contract (w.forCall tape i) w.heap.size i.args ds gs before hval hw' (hX _ _ _ (by rfl) hx) hsh).mono fun e W' ⟨v, he, hp⟩ => ?_
  subst he
  exact ChangeSpec.post_blind hp
theorem laidMet_over {P : Program} {w0 : World} {laid : List (String × DataW Unit)} (args : Array Value)
    (hf : w0.layFits P laid [] = true) (hi : w0.layIfaces P laid (w0.layVars P laid) = true) :
    laidMet P laid ((w0.layVars P laid).forCall (fun _ _ => 0) ⟨#[], args, []⟩).memory := by
  have e1 : (laid.filter fun x => (laid.map (·.1)).contains x.1) = laid := List.filter_eq_self.2 fun x hx => List.contains_iff_mem.2 (List.mem_map.2 ⟨x, hx, rfl⟩)
  have e2 : (laid.filter fun x => !(laid.map (·.1)).contains x.1) = [] := List.filter_eq_nil_iff.2 fun x hx => by rw [List.contains_iff_mem.2 (List.mem_map.2 ⟨x, hx, rfl⟩)]; simp
  have h : laidMet P laid (w0.layVars P laid) := laidMet_layVars (w0 := w0) (laid.map (·.1)) [] (by rw [e1]) (by rw [e1]; exact hf) (by rw [e1]; exact hi) (by rw [e2]; exact LaidIn.none)
  exact h.of_heap (by simp [World.memory, World.forCall, Input.heap])
end Ve
end Go.Proofs.YtanponneancajaaGreatDoor


namespace Go.Proofs.YtanponneancajaaGreatDoor
namespace Er
open Go
theorem sens_rest {P : Program} {nm : String} {W : World} {ti tp te ts : TypeId} {ms : Array (String × TypeId)} {f : Field}
    (hi : P.underlying ti = some (.interface ms)) (hrow : ∀ u, P.typeName? 3 u = some nm → u = tp)
    (hp : P.underlying tp = some (.pointer te)) (he : P.underlying te = some (.struct #[f])) (hft : f.type = ts) (hfo : f.offset = 0) (hs : P.underlying ts = some .string) (hc : P.cellsOf te = 1) (hcs : P.cellsOf ts = 1) (rest : List (String × DataW Unit)) :
    ∀ (ns : List (String × Nat × List UInt8)) (ps : List MemPlace),
      DataW.LaidVars P W ((ns.map fun x => (x.1, DataW.iface nm (.ptr (.agg [.lit (.string x.2.2)])))) ++ rest) ps →
      (∀ x, x ∈ ns → P.globalNamed x.1 = some x.2.1 ∧ (P.globals[x.2.1]?).map (·.type) = some ti) →
      (∀ b off, MemPlace.cell b off ∈ ps → (∃ c t, W.heap[b]? = some (.cells c t (0, 0))) ∧ ∀ u v, W.cell? ⟨b, off, none⟩ = some (.iface u v) → Value.okWide P W .any 0 u v) →
      ∃ al : List Addr, al.length = ns.length ∧ (al.map fun a => MemPlace.cell a.block a.off).Sublist ps ∧
        ∀ (i : Nat) (x : String × Nat × List UInt8) (a : Addr), ns[i]? = some x → al[i]? = some a →
          W.cell? ⟨x.2.1, 0, none⟩ = some (.iface tp (.pointer (some a))) ∧ ∃ c t, W.heap[a.block]? = some (.cells c t (0, 0)) := by
  intro ns
  induction ns with
  | nil =>
    intro ps _ _ _
    exact ⟨[], rfl, List.nil_sublist _, fun i x a h => by simp at h⟩
  | cons n r ih =>
    intro ps hl hg hr
    obtain ⟨g, t, cs, fuel, p, q, hg0, ht0, hv0, hd0, hq, e0⟩ := hl
    obtain ⟨k1, k2⟩ := hg n (List.mem_cons_self)
    obtain rfl := Option.some.inj (k1.symm.trans hg0)
    obtain rfl := Option.some.inj (k2.symm.trans ht0)
    subst e0
    obtain ⟨l0⟩ := cs
    have ok0 : ∀ u v, l0 = [.iface u v] → Value.okWide P W .any 0 u v := fun u v e => by
      subst e
      exact (hr n.2.1 0 (by simp [MemPlace.row])).2 u v (by simpa using World.var?_cell hg0 hv0 0)
    obtain ⟨a0, s0, rfl, hc0, hs0, hz0, rfl⟩ := errorString_of_trod hi hrow hp he hft hfo hs hc hcs hd0 ok0
    obtain ⟨al, hlen, hsub, hall⟩ := ih q hq (fun x hx => hg x (List.mem_cons_of_mem _ hx)) (fun b off hm => hr b off (by simp [hm]))
    refine ⟨a0 :: al, by simp [hlen], ?_, ?_⟩
    · simp only [List.map_cons, MemPlace.row, List.range_one, List.map_nil, Nat.add_zero]
      exact List.Sublist.cons _ (List.Sublist.cons_cons _ hsub)
    · intro i x a hx ha
      cases i with
      | zero =>
        simp only [List.getElem?_cons_zero, Option.some.injEq] at hx ha
        subst hx; subst ha
        exact ⟨by simpa using World.var?_cell hg0 hv0 0, (hr a0.block a0.off (by simp [MemPlace.row])).1⟩
      | succ i =>
        simp only [List.getElem?_cons_succ] at hx ha
        exact hall i x a hx ha
theorem unlike {al : List Addr} {ps : List MemPlace} (hs : (al.map fun a => MemPlace.cell a.block a.off).Sublist ps) (hn : ps.Nodup) {i j : Nat} (hi : i < al.length) (hj : j < al.length) (hij : i ≠ j) : al[i] ≠ al[j] := by
  have h1 : (al.map fun a => MemPlace.cell a.block a.off).Nodup := hs.nodup hn
  intro e
  rw [List.Nodup, List.pairwise_iff_getElem] at h1
  rcases Nat.lt_or_gt_of_ne hij with h | h
  · exact h1 i j (by simpa using hi) (by simpa using hj) h (by simp [e])
  · exact h1 j i (by simpa using hj) (by simpa using hi) h (by simp [e])
end Er
end Go.Proofs.YtanponneancajaaGreatDoor


namespace Go.Proofs.YtanponneancajaaGreatDoor
open Go.ChangeShapes Go.WideShapes Go.ChangeAt Go.RowKit
namespace Ve
theorem etName : Tryz.prog.globalNamed "errors.errorType" = some 10 := by kernel_rfl
def rtWord : String := match (Rows.laid_errors_errorType : DataW Unit) with | .iface s _ => s | _ => ""
theorem rtName : (Tryz.prog.cutTypes.find? (·.1 == rtWord)).map (·.2) = some 199 := by kernel_rfl
theorem oneRow : ((List.range 315).filter fun t => Tryz.prog.rowNamed t [101, 114, 114, 111, 114]) = [32] := by kernel_rfl
theorem nTypes : Tryz.prog.types.size = 315 := by kernel_rfl
theorem cellsS : Tryz.prog.cellsOf 304 = 1 := by kernel_rfl
theorem cellsStr : Tryz.prog.cellsOf 9 = 1 := by kernel_rfl
theorem star : "*" ++ "errors.errorString" = "*errors.errorString" := by decide
theorem rowS (u : TypeId) (h : Tryz.prog.typeName? 3 u = some "*errors.errorString") : u = 286 :=
  typeName_ptr_named (nm := "errors.errorString") (by rw [star]; kernel_rfl) (by kernel_rfl) (by decide) u (by rw [star]; exact h)
theorem gPt : (Tryz.prog.globals[(12 : Nat)]?).map (·.type) = some 235 := by kernel_rfl
theorem cellsU : Tryz.prog.cellsOf 214 = 1 := by kernel_rfl
theorem cellsPow : Tryz.prog.cellsOf 235 = 20 := by kernel_rfl
def tens : List (String × Nat × List UInt8) :=
  [("pewholder/api.ErrText", 0, [112, 101, 119, 104, 111, 108, 100, 101, 114, 58, 32, 116, 101, 120, 116]),
   ("pewholder/api.ErrBound", 4, [112, 101, 119, 104, 111, 108, 100, 101, 114, 58, 32, 98, 111, 117, 110, 100]),
   ("pewholder/api.ErrShape", 5, [112, 101, 119, 104, 111, 108, 100, 101, 114, 58, 32, 115, 104, 97, 112, 101]),
   ("pewholder/api.ErrMajor", 6, [112, 101, 119, 104, 111, 108, 100, 101, 114, 58, 32, 109, 97, 106, 111, 114]),
   ("pewholder/api.ErrNone", 3, [112, 101, 119, 104, 111, 108, 100, 101, 114, 58, 32, 110, 111, 110, 101]),
   ("pewholder/api.ErrExist", 7, [112, 101, 119, 104, 111, 108, 100, 101, 114, 58, 32, 101, 120, 105, 115, 116]),
   ("pewholder/api.ErrFull", 1, [112, 101, 119, 104, 111, 108, 100, 101, 114, 58, 32, 102, 117, 108, 108]),
   ("pewholder/api.ErrOrder", 2, [112, 101, 119, 104, 111, 108, 100, 101, 114, 58, 32, 111, 114, 100, 101, 114]),
   ("pewholder/api.ErrClash", 8, [112, 101, 119, 104, 111, 108, 100, 101, 114, 58, 32, 99, 108, 97, 115, 104]),
   ("pewholder/api.ErrSum", 9, [112, 101, 119, 104, 111, 108, 100, 101, 114, 58, 32, 115, 117, 109])]
theorem tens_named : ∀ x, x ∈ tens → Tryz.prog.globalNamed x.1 = some x.2.1 ∧ (Tryz.prog.globals[x.2.1]?).map (·.type) = some 32 := by
  have h : (tens.all fun x => Tryz.prog.globalNamed x.1 == some x.2.1 && (Tryz.prog.globals[x.2.1]?).map (·.type) == some 32) = true := by kernel_rfl
  intro x hx
  simpa using List.all_eq_true.1 h x hx
theorem sen_of {W : World} (rest : List (String × DataW Unit)) (hl : laidMet Tryz.prog ((tens.map fun x => (x.1, DataW.iface "*errors.errorString" (.ptr (.agg [.lit (.string x.2.2)])))) ++ rest) W)
    (hh : handlesMet Tryz.prog [("errors.errorType", Rows.laid_errors_errorType)] W) : ∃ A, Er.Sen W A := by
  obtain ⟨ps, hl, hnd, hrows⟩ := hl
  obtain ⟨name, u, ty, e1, e2, e3, e4, e5⟩ := hh _ (List.mem_singleton.2 rfl)
  have en : name = [101, 114, 114, 111, 114] := (Option.some.inj e1).symm
  subst en
  obtain rfl := Option.some.inj (rtName.symm.trans e2)
  have hm : ty ∈ (List.range 315).filter fun t => Tryz.prog.rowNamed t [101, 114, 114, 111, 114] := List.mem_filter.2 ⟨List.mem_range.2 (by rw [← nTypes]; exact e3), e4⟩
  rw [oneRow] at hm
  obtain rfl := List.mem_singleton.1 hm
  have hhd : typeHandle Tryz.prog 32 = .pointer (some ⟨17, 32, none⟩) := by kernel_rfl
  rw [hhd] at e5
  have het : W.cell? ⟨10, 0, none⟩ = some (.iface 199 (.agg #[.pointer (some ⟨17, 32, none⟩)])) := by simpa using World.var?_cell etName e5 0
  obtain ⟨al, hlen, hsub, hall⟩ := Er.sens_rest Tryz.underlying32 rowS Tryz.underlying286 Tryz.underlying304 rfl rfl Tryz.underlying9 cellsS cellsStr rest tens ps hl tens_named hrows
  have hten : al.length = 10 := hlen
  refine ⟨fun k => al.getD k ⟨0, 0, none⟩, ?_⟩
  have get : ∀ k, k < 10 → al[k]? = some (al.getD k ⟨0, 0, none⟩) := fun k hk => by
    rw [List.getD_eq_getElem?_getD, List.getElem?_eq_getElem (by omega)]; rfl
  refine ⟨(hall 0 _ _ rfl (get 0 (by omega))).1, (hall 1 _ _ rfl (get 1 (by omega))).1, (hall 2 _ _ rfl (get 2 (by omega))).1, (hall 3 _ _ rfl (get 3 (by omega))).1, (hall 4 _ _ rfl (get 4 (by omega))).1, (hall 5 _ _ rfl (get 5 (by omega))).1, (hall 6 _ _ rfl (get 6 (by omega))).1, (hall 7 _ _ rfl (get 7 (by omega))).1, (hall 8 _ _ rfl (get 8 (by omega))).1, (hall 9 _ _ rfl (get 9 (by omega))).1, het, ?_, ?_⟩
  · intro k hk
    have hx : ∃ x, tens[k]? = some x := ⟨tens[k]'hk, List.getElem?_eq_getElem hk⟩
    obtain ⟨x, hx⟩ := hx
    exact (hall k x _ hx (get k hk)).2
  · intro i j hi hj hij
    have := Er.unlike hsub hnd (i := i) (j := j) (by omega) (by omega) hij
    intro e
    apply this
    have hi' := get i hi
    have hj' := get j hj
    rw [List.getElem?_eq_getElem (by omega)] at hi' hj'
    rw [Option.some.inj hi', Option.some.inj hj']
    exact e
theorem ml_of {W : World} (hsh : W.ShapedOpen Tryz.prog) : ∃ m, W.cell? ⟨11, 0, none⟩ = some (.int .i64 m) :=
  cell_of_shapedOpen_int (P := Tryz.prog) (g := 11) (t := 3) (zero := #[.int .i64 0]) hsh (of_decide_eq_true (by kernel_rfl)) (by kernel_rfl) rfl (by kernel_rfl) (by kernel_rfl) Tryz.underlying3
end Ve
end Go.Proofs.YtanponneancajaaGreatDoor
