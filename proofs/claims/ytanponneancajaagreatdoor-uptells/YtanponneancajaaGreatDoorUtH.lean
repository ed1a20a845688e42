/-
  pewholderlaw2.UpTells walked: true for every input.
-/
import Derived.Test.YtanponneancajaaGreatDoorUtG
import Derived.Deep.DeepCutAuto
import Derived.Deep.RegionHeld
namespace Go.Proofs.YtanponneancajaaGreatDoor
open Go.RowKit Go.Maps
namespace Ve

theorem cell_set_neK {W : World} {b o g p : Nat} {x v : Value} (h : W.cell? ⟨b, o, none⟩ = some v) (hne : b ≠ g) : (W.setCell ⟨g, p, none⟩ x).cell? ⟨b, o, none⟩ = some v := by
  unfold World.cell? at h ⊢
  rw [Below.heap_setCell _ _ _ _ hne]
  exact h
theorem ErrAt.set2K {W : World} {A : Nat → Addr} {y : Value} {c : Nat} {o : Option Nat} {g : Nat} {z : Value} {n : Int} {T : TypeId} (h : ErrAt W A y c o) (hg : W.heap[g]? = some (.cells #[z, .int .i64 n] T (0, 0))) (a b : Value) : ErrAt ((W.setCell ⟨g, 0, none⟩ a).setCell ⟨g, 1, none⟩ b) A y c o := by
  cases o with
  | none => exact h
  | some i =>
    obtain ⟨h0, f, rfl, h1, h2⟩ := h
    have hne : f ≠ g := fun e => by
      subst e
      obtain ⟨_, g1, _⟩ := box_two hg
      rw [g1, errA_if A h0] at h2
      cases h2
    exact ⟨h0, f, rfl, cell_set_neK (cell_set_neK h1 hne) hne, cell_set_neK (cell_set_neK h2 hne) hne⟩
theorem box_put2 {W : World} {g : Nat} {x y : Value} {T : TypeId} (a b : Value) (h : W.heap[g]? = some (.cells #[x, y] T (0, 0))) : ((W.setCell ⟨g, 0, none⟩ a).setCell ⟨g, 1, none⟩ b).heap[g]? = some (.cells #[a, b] T (0, 0)) :=
  set_block (o := 1) (x := b) (set_block (o := 0) (x := a) h)
set_option maxRecDepth 100000 in
set_option maxHeartbeats 8000000 in
theorem ut_main (Q0 : List Raw) (L : List Ent) (roots : List Bm) (x : Bm) (sel : List Bm) (v u s : Value) (A : Nat → Addr) (m : Int) (w : World) (S : Te w A m) (N : Er.Sen w A) (htab : Lib.TabIs Tryz.prog w powName .u64 Lib.pow10Tab) (I : Ixs w v Q0 L) (em : EmI Q0 L) (hr : MsAt w u roots) (her : Em u roots) (hs : MsAt w s sel) (hes : Em s sel) (hok : okI L = true) (hrk : okLN 15 roots = true) (hsk : okLN 15 sel = true) (hx1 : x.1.size ≤ 70) (hx2 : x.2.size ≤ 60) :
    Calls Tryz.prog 6 #[v, u, .agg #[.string x.1, .string x.2], s] w fun e w' => e = .returned (.bool true) ∧ Below w.heap.size w w' := by
  obtain ⟨xp, xq⟩ := x
  simp only at hx1 hx2 ⊢
  obtain ⟨a0, c0, hv0, -⟩ := id I.es
  subst hv0
  obtain ⟨ra, rc, hu0, -⟩ := id hr
  subst hu0
  obtain ⟨sa, sc, hs0, -⟩ := id hs
  subst hs0
  have hn101 : L.length ≤ 101 := by rcases (okI_iff hok).1 with h | h <;> omega
  have hr15 : roots.length ≤ 15 := (okLN_iff hrk).1
  have hs15 : sel.length ≤ 15 := (okLN_iff hsk).1
  have HSZ := hid (show ∀ y, y ∈ sel → y.2.size < 999999 from fun y hy => by have := (okLN_iff hsk).2 y hy; omega)
  have HB0 := hid ((Below.refl w.heap.size w).alloc (Nat.le_refl _) (.cells #[.string xp, .string xq] 51))
  have HM0 := hid (heap_new w (.cells #[.string xp, .string xq] 51))
  have HIN := hid (upped_any A m _ (S.below HB0.out) (tab_below htab HB0.out))
  have HLO := hid (fun W (h : Below w.heap.size w W) => longI_any Q0 L _ W (I.below h))
  rw [if_pos hok] at HLO
  have HLM := hid (fun W (h : Below w.heap.size w W) => longN_any 15 (by decide) roots _ W (hr.below h))
  rw [if_pos hrk] at HLM
  have HLS := hid (fun W (h : Below w.heap.size w W) => longN_any 15 (by decide) sel _ W (hs.below h))
  rw [if_pos hsk] at HLS
  have HOW := hid (fun W (h : Below w.heap.size w W) => ownI_any Q0 L _ W (by omega) (I.below h) em (okI_fits hok))
  have HOM := hid (fun W (h : Below w.heap.size w W) => ownM_any _ roots W (by omega) (hr.below h) her)
  have HOS := hid (fun W (h : Below w.heap.size w W) => ownM_any _ sel W (by omega) (hs.below h) hes)
  have HS := hid (fun W (h : Below w.heap.size w W) => S.below h)
  have HN := hid (fun W (h : Below w.heap.size w W) => N.below h)
  have HT := hid (fun W (h : Below w.heap.size w W) => tab_below htab h)
  have HSH := hid (okI_sh hok)
  have HZ0 := hid (fun W v' Q' (J : Ixs W v' Q' L) => ixs_sz J hok)
  have HK0 := hid (keys_of I)
  have HOO := hid (fun W (h : Below w.heap.size w W) => oneO_all Q0 L roots (xp, xq) _ _ W (by omega) (by omega) (okI_sh hok) (I.below h) (hr.below h) her)
  have HAO := hid (fun W (h : Below w.heap.size w W) => allO_all Q0 L roots _ _ W (by omega) (by omega) (ixs_sz I hok) (okI_sh hok) (I.below h) (hr.below h))
  have HNO := hid (fun W (h : Below w.heap.size w W) => newsO_all Q0 L sel _ _ W (by omega) (by omega) (ixs_sz I hok) HSZ.out (okI_sh hok) (I.below h) (hs.below h))
  have hl1 : (xp.size : Int) ≤ 70 := by omega
  have hl2 : (xq.size : Int) ≤ 60 := by omega
  clear S N I em hok hr her hs hes hrk hsk htab
  go_enter Tryz.func6, Tryz.ntmps6
  go_wp2_with fail
  refine HIN.out.mono ?_
  rintro e w1 ⟨rfl, hb⟩
  have HB1 := hid (HB0.out.trans (hb.mono HB0.out.size))
  have HM1 := hid ((hb.block _ (lt_of_blk HM0.out)).trans HM0.out)
  clear hb
  go_wp2_with fail
  refine (HLO.out w1 HB1.out).mono ?_
  rintro e w2 ⟨rfl, hb⟩
  have HB2 := hid (HB1.out.trans (hb.mono HB1.out.size))
  have HM2 := hid ((hb.block _ (lt_of_blk HM1.out)).trans HM1.out)
  clear hb
  go_wp2_with fail
  refine (HLM.out w2 HB2.out).mono ?_
  rintro e w2' ⟨rfl, rfl⟩
  go_wp2_with fail
  refine (HLS.out w2' HB2.out).mono ?_
  rintro e w2s ⟨rfl, rfl⟩
  obtain ⟨p0, p1, pf⟩ := box_two HM2.out
  go_wp2_with fail
  refine (HOW.out w2s HB2.out).mono ?_
  rintro e w3 ⟨ou, Q, rfl, hO, hb⟩
  have HB3 := hid (HB2.out.trans (hb.mono HB2.out.size))
  have HM3 := hid ((hb.block _ (lt_of_blk HM2.out)).trans HM2.out)
  have HIX := hid (fun W (h : Below w3.heap.size w3 W) => hO.ixs.below h)
  have HZQ := hid (HZ0.out _ _ _ hO.ixs)
  have HKQ := hid (show Q.map keyR = Q0.map keyR by rw [keys_of hO.ixs, HK0.out])
  obtain ⟨oa, oc, hou, -⟩ := id hO.ixs.es
  subst hou
  have HBW := hid (fun W (h : Below w3.heap.size w3 W) => HB3.out.trans (h.mono HB3.out.size))
  have HP1 := hid (fun W a (h : Below w3.heap.size w3 W) (hR : MsAt W a roots) (eR : Em a roots) => one_all Q L roots (xp, xq) _ a A m W (by omega) (by omega) HSH.out (HS.out _ (HBW.out _ h)) (HIX.out _ h) hR eR)
  rw [oX_same (key_mod HKQ.out), oF_same (key_mod HKQ.out)] at HP1
  have HP2 := hid (fun W a (h : Below w3.heap.size w3 W) (hR : MsAt W a roots) => all_all Q Q0 L roots _ a A m W HKQ.out (by omega) (by omega) HZQ.out HSH.out (HS.out _ (HBW.out _ h)) (HT.out _ (HBW.out _ h)) (HIX.out _ h) hR)
  have HP3 := hid (fun W a (h : Below w3.heap.size w3 W) (hR : MsAt W a sel) => news_all Q L sel _ a A m W (by omega) (by omega) HZQ.out HSZ.out HSH.out (HS.out _ (HBW.out _ h)) (HT.out _ (HBW.out _ h)) (HIX.out _ h) hR)
  rw [nX_same HKQ.out, nF_same HKQ.out] at HP3
  have HF1 := hid (fun W y (h : Below w3.heap.size w3 W) (he : ErrAt W A y (oF Q0 L roots (xp, xq)).1 (oF Q0 L roots (xp, xq)).2) => faulted2_any A y (oF Q0 L roots (xp, xq)) W (HN.out _ (HBW.out _ h)) he (oF_le _ _ _ _))
  have HF2 := hid (fun W y (h : Below w3.heap.size w3 W) (he : ErrAt W A y (rF Q0 L roots).1 (rF Q0 L roots).2) => faulted2_any A y (rF Q0 L roots) W (HN.out _ (HBW.out _ h)) he (rF_le _ _ _))
  have HF3 := hid (fun W y (h : Below w3.heap.size w3 W) (he : ErrAt W A y (nF Q0 L sel).1 (nF Q0 L sel).2) => faulted2_any A y (nF Q0 L sel) W (HN.out _ (HBW.out _ h)) he (nF_le _ _ _))
  have HX1 := hid (show (oX Q0 L roots (xp, xq)).length ≤ 1000000 from Nat.le_trans oX_len (by omega))
  have HX2 := hid (show (allE Q0 L roots).length ≤ 1000000 from Nat.le_trans allE_len (by omega))
  have HX3 := hid (show (nX Q0 L sel).length ≤ 1000000 from Nat.le_trans nX_len (by omega))
  clear hb hO p0 p1 pf HLO HLM HLS HOW HIN HB1 HB2 HM0 HM1 HM2 HS HN HT HIX HZQ HKQ HK0 HZ0 HSH HSZ
  generalize oX Q0 L roots (xp, xq) = X1 at *
  generalize allE Q0 L roots = X2 at *
  generalize nX Q0 L sel = X3 at *
  obtain ⟨f1, hf1⟩ : ∃ f, f = oF Q0 L roots (xp, xq) := ⟨_, rfl⟩
  rw [← hf1] at HP1 HOO HF1
  obtain ⟨f2, hf2⟩ : ∃ f, f = rF Q0 L roots := ⟨_, rfl⟩
  rw [← hf2] at HP2 HAO HF2
  obtain ⟨f3, hf3⟩ : ∃ f, f = nF Q0 L sel := ⟨_, rfl⟩
  rw [← hf3] at HP3 HNO HF3
  clear hf1 hf2 hf3
  obtain ⟨a1, b1⟩ := f1
  obtain ⟨a2, b2⟩ := f2
  obtain ⟨a3, b3⟩ := f3
  unfold faultV at HOO HAO HNO HF1 HF2 HF3
  simp only at HP1 HP2 HP3 HOO HAO HNO HF1 HF2 HF3
  have HB3' := HB3
  clear HB3
  have HB3 := hid (Below.refl w3.heap.size w3)
  obtain ⟨q0, q1, qf⟩ := box_two HM3.out
  have HTT := hid (fun W' (hW : Below w3.heap.size w3 W') => (show (fun W' => W'.cell? ⟨w.heap.size, 0, none⟩ = some (.string xp) ∧ W'.cell? ⟨w.heap.size, 1, none⟩ = some (.string xq) ∧ Hid (Below w3.heap.size w3 W')) W' from ⟨cell_below hW q0, cell_below hW q1, hid hW⟩))
  go_wp2_with fail
  go_region_held (fun W' => W'.cell? ⟨w.heap.size, 0, none⟩ = some (.string xp) ∧ W'.cell? ⟨w.heap.size, 1, none⟩ = some (.string xq) ∧ Hid (Below w3.heap.size w3 W')) (first | exact HTT.out _ HRb.out | exact HTT.out _ HRa.out | exact HTT.out _ (below_drawn _ 1)) (first
    | (go_at_call 31; refine (HOM.out _ (HBW.out _ (below_drawn _ 1))).mono ?_; rintro e w4 ⟨u4, rfl, ho, -, hb⟩; have HRa := hid ((below_drawn w3 1).trans (hb.mono (Nat.le_refl _))); have HR4 := hid (mr_own ho hb); obtain ⟨a4, c4, hu4⟩ := HR4.out.sl; subst hu4; clear ho hb)
    | (go_at_call 36; refine (HP1.out w4 _ HRa.out HR4.out.ms HR4.out.em).mono ?_; rintro e w5 ⟨xa, xc, y5, rfl, hm5, he5, hb⟩; have HRb := hid (HRa.out.trans (hb.mono HRa.out.size)); have HMX5 := hid hm5; have HE5 := hid he5; clear hm5 he5 hb))
  all_goals
    have HB5 := HRb
    have HM5 := hid ((HRb.out.block _ (lt_of_blk HM3.out)).trans HM3.out)
    clear q0 q1 qf HTT HRa HR4
    obtain ⟨q0, q1, qf⟩ := box_two HM5.out
    go_wp2_with fail
    refine (HOO.out w5 (HBW.out _ HB5.out)).mono ?_
    rintro e w6 ⟨wa, wc, rfl, hm6, hb⟩
    have HB6 := hid (HB5.out.trans (hb.mono HB5.out.size))
    have HMX6 := hid (HMX5.out.below hb)
    have HMW := hid hm6
    have HE6 := hid (HE5.out.below hb)
    clear hm6 hb HOO q0 q1 qf
    have HA7 := hid ((Below.refl w6.heap.size w6).alloc (Nat.le_refl _) (.cells #[.int .i64 (a1 : Nat), .int .i64 (atOf b1)] 64))
    have HB7 := hid (HB6.out.trans (HA7.out.mono HB6.out.size))
    have HF7 := hid (heap_new w6 (.cells #[.int .i64 (a1 : Nat), .int .i64 (atOf b1)] 64))
    have HMX7 := hid (HMX6.out.below HA7.out)
    have HMW7 := hid (HMW.out.below HA7.out)
    have HE7 := hid (HE6.out.below HA7.out)
    have HSG := hid (show w3.heap.size ≤ w6.heap.size from HB6.out.size)
    generalize hf1 : ((a1 : Nat) : Int) = F1 at *
    generalize atOf b1 = F2 at *
    go_wp2_with fail
    generalize w6.alloc (.cells #[.int .i64 F1, .int .i64 F2] 64) = w7 at *
    generalize w6.heap.size = g at *
    clear HA7 HE6 HMW HMX6 HB6 HB5 HMX5 HE5 HM5 HRb
    refine (HF1.out w7 y5 HB7.out HE7.out).mono ?_
    rintro e w8 ⟨rfl, hb⟩
    have HB8 := hid (HB7.out.trans (hb.mono HB7.out.size))
    have HF8 := hid ((hb.block _ (lt_of_blk HF7.out)).trans HF7.out)
    have HSA := hid (sameM_any X1 _ _ w8 HX1.out (HMX7.out.below hb) (HMW7.out.below hb))
    clear hb HE7 HMX7 HMW7 HF7 HB7 HF1
    go_wp2_with fail
    refine HSA.out.mono ?_
    rintro e w9 ⟨rfl, hb⟩
    have HB9 := hid (HB8.out.trans (hb.mono HB8.out.size))
    have HF9 := hid ((hb.block _ (lt_of_blk HF8.out)).trans HF8.out)
    clear hb HSA HF8 HB8
    go_wp2_with fail
    refine (HOM.out w9 (HBW.out _ HB9.out)).mono ?_
    rintro e w10 ⟨u10, rfl, ho, -, hb⟩
    have HB10 := hid (HB9.out.trans (hb.mono HB9.out.size))
    have HF10 := hid ((hb.block _ (lt_of_blk HF9.out)).trans HF9.out)
    have HR10 := hid (mr_own ho hb)
    obtain ⟨a10, c10, hu10⟩ := HR10.out.sl
    subst hu10
    clear ho hb HB9 HF9
    go_wp2_with fail
    refine (HP2.out w10 _ HB10.out HR10.out.ms).mono ?_
    rintro e w11 ⟨xa10, xc10, y10, rfl, hm, he, hb⟩
    have HB11 := hid (HB10.out.trans (hb.mono HB10.out.size))
    have HF11 := hid ((hb.block _ (lt_of_blk HF10.out)).trans HF10.out)
    have HMX11 := hid hm
    have HE11 := hid he
    clear hm he hb HB10 HF10 HR10 HP2
    go_wp2_with fail
    refine (HAO.out w11 (HBW.out _ HB11.out)).mono ?_
    rintro e w12 ⟨wa10, wc10, rfl, hm, hb⟩
    have HB12 := hid (HB11.out.trans (hb.mono HB11.out.size))
    have HF12 := hid ((hb.block _ (lt_of_blk HF11.out)).trans HF11.out)
    have HMX12 := hid (HMX11.out.below hb)
    have HMW12 := hid hm
    have HE12 := hid (HE11.out.below hb)
    clear hm hb HB11 HF11 HMX11 HE11 HAO
    obtain ⟨q0, q1, qf⟩ := box_two HF12.out
    have HB13 := hid (put2_below (x := .int .i64 ((a2 : Nat) : Int)) (y := .int .i64 (atOf b2)) HB12.out HSG.out)
    have HF13 := hid (box_put2 (.int .i64 ((a2 : Nat) : Int)) (.int .i64 (atOf b2)) HF12.out)
    have HE13 := hid (HE12.out.set2K HF12.out (.int .i64 ((a2 : Nat) : Int)) (.int .i64 (atOf b2)))
    have HMX13 := hid (ms_put2 (x := .int .i64 ((a2 : Nat) : Int)) (y := .int .i64 (atOf b2)) HMX12.out HF12.out)
    have HMW13 := hid (ms_put2 (x := .int .i64 ((a2 : Nat) : Int)) (y := .int .i64 (atOf b2)) HMW12.out HF12.out)
    go_wp2_with fail
    generalize (w12.setCell ⟨g, 0, none⟩ (.int .i64 ((a2 : Nat) : Int))).setCell ⟨g, 1, none⟩ (.int .i64 (atOf b2)) = w13 at *
    clear HB12 HF12 HMX12 HMW12 HE12 q0 q1 qf
    generalize hf : ((a2 : Nat) : Int) = G1 at *
    generalize atOf b2 = G2 at *
    refine (HF2.out w13 y10 HB13.out HE13.out).mono ?_
    rintro e w14 ⟨rfl, hb⟩
    have HB14 := hid (HB13.out.trans (hb.mono HB13.out.size))
    have HF14 := hid ((hb.block _ (lt_of_blk HF13.out)).trans HF13.out)
    have HSA := hid (sameM_any X2 _ _ w14 HX2.out (HMX13.out.below hb) (HMW13.out.below hb))
    clear hb HB13 HF13 HMX13 HMW13 HE13 HF2 hf
    go_wp2_with fail
    refine HSA.out.mono ?_
    rintro e w15 ⟨rfl, hb⟩
    have HB15 := hid (HB14.out.trans (hb.mono HB14.out.size))
    have HF15 := hid ((hb.block _ (lt_of_blk HF14.out)).trans HF14.out)
    clear hb HSA HF14 HB14
    go_wp2_with fail
    refine (HOS.out w15 (HBW.out _ HB15.out)).mono ?_
    rintro e w16 ⟨u16, rfl, ho, -, hb⟩
    have HB16 := hid (HB15.out.trans (hb.mono HB15.out.size))
    have HF16 := hid ((hb.block _ (lt_of_blk HF15.out)).trans HF15.out)
    have HR16 := hid (mr_own ho hb)
    obtain ⟨a16, c16, hu16⟩ := HR16.out.sl
    subst hu16
    clear ho hb HB15 HF15
    go_wp2_with fail
    refine (HP3.out w16 _ HB16.out HR16.out.ms).mono ?_
    rintro e w17 ⟨xa16, xc16, y16, rfl, hm, he, hb⟩
    have HB17 := hid (HB16.out.trans (hb.mono HB16.out.size))
    have HF17 := hid ((hb.block _ (lt_of_blk HF16.out)).trans HF16.out)
    have HMX17 := hid hm
    have HE17 := hid he
    clear hm he hb HB16 HF16 HR16 HP3
    go_wp2_with fail
    refine (HNO.out w17 (HBW.out _ HB17.out)).mono ?_
    rintro e w18 ⟨wa16, wc16, rfl, hm, hb⟩
    have HB18 := hid (HB17.out.trans (hb.mono HB17.out.size))
    have HF18 := hid ((hb.block _ (lt_of_blk HF17.out)).trans HF17.out)
    have HMX18 := hid (HMX17.out.below hb)
    have HMW18 := hid hm
    have HE18 := hid (HE17.out.below hb)
    clear hm hb HB17 HF17 HMX17 HE17 HNO
    obtain ⟨q0, q1, qf⟩ := box_two HF18.out
    have HB19 := hid (put2_below (x := .int .i64 ((a3 : Nat) : Int)) (y := .int .i64 (atOf b3)) HB18.out HSG.out)
    have HF19 := hid (box_put2 (.int .i64 ((a3 : Nat) : Int)) (.int .i64 (atOf b3)) HF18.out)
    have HE19 := hid (HE18.out.set2K HF18.out (.int .i64 ((a3 : Nat) : Int)) (.int .i64 (atOf b3)))
    have HMX19 := hid (ms_put2 (x := .int .i64 ((a3 : Nat) : Int)) (y := .int .i64 (atOf b3)) HMX18.out HF18.out)
    have HMW19 := hid (ms_put2 (x := .int .i64 ((a3 : Nat) : Int)) (y := .int .i64 (atOf b3)) HMW18.out HF18.out)
    go_wp2_with fail
    generalize (w18.setCell ⟨g, 0, none⟩ (.int .i64 ((a3 : Nat) : Int))).setCell ⟨g, 1, none⟩ (.int .i64 (atOf b3)) = w19 at *
    clear HB18 HF18 HMX18 HMW18 HE18 q0 q1 qf
    generalize hf : ((a3 : Nat) : Int) = H1 at *
    generalize atOf b3 = H2 at *
    refine (HF3.out w19 y16 HB19.out HE19.out).mono ?_
    rintro e w20 ⟨rfl, hb⟩
    have HB20 := hid (HB19.out.trans (hb.mono HB19.out.size))
    have HF20 := hid ((hb.block _ (lt_of_blk HF19.out)).trans HF19.out)
    have HSA := hid (sameM_any X3 _ _ w20 HX3.out (HMX19.out.below hb) (HMW19.out.below hb))
    clear hb HB19 HF19 HMX19 HMW19 HE19 HF3 hf
    go_wp2_with fail
    refine HSA.out.mono ?_
    rintro e w21 ⟨rfl, hb⟩
    have HBe := hid (HBW.out _ (HB20.out.trans (hb.mono HB20.out.size)))
    clear hb
    go_wp2_with fail
    go_ret
    exact ⟨rfl, HBe.out⟩
set_option maxRecDepth 100000 in
set_option maxHeartbeats 2000000 in
theorem ut_long1 (Q0 : List Raw) (L : List Ent) (roots : List Bm) (x : Bm) (sel : List Bm) (v u s : Value) (A : Nat → Addr) (m : Int) (w : World) (S : Te w A m) (htab : Lib.TabIs Tryz.prog w powName .u64 Lib.pow10Tab) (I : Ixs w v Q0 L) (hr : MsAt w u roots) (hs : MsAt w s sel) (hok : okI L = false) :
    Calls Tryz.prog 6 #[v, u, .agg #[.string x.1, .string x.2], s] w fun e w' => e = .returned (.bool true) ∧ Below w.heap.size w w' := by
  obtain ⟨xp, xq⟩ := x
  obtain ⟨a0, c0, hv0, -⟩ := id I.es
  subst hv0
  obtain ⟨ra, rc, hu0, -⟩ := id hr
  subst hu0
  obtain ⟨sa, sc, hs0, -⟩ := id hs
  subst hs0
  have HB0 := hid ((Below.refl w.heap.size w).alloc (Nat.le_refl _) (.cells #[.string xp, .string xq] 51))
  have HM0 := hid (heap_new w (.cells #[.string xp, .string xq] 51))
  have HIN := hid (upped_any A m _ (S.below HB0.out) (tab_below htab HB0.out))
  have HLO := hid (fun W (h : Below w.heap.size w W) => longI_any Q0 L _ W (I.below h))
  rw [hok] at HLO
  clear S htab I hok hr hs
  go_enter Tryz.func6, Tryz.ntmps6
  go_wp2_with fail
  refine HIN.out.mono ?_
  rintro e w1 ⟨rfl, hb⟩
  have HB1 := hid (HB0.out.trans (hb.mono HB0.out.size))
  have HM1 := hid ((hb.block _ (lt_of_blk HM0.out)).trans HM0.out)
  clear hb
  go_wp2_with fail
  refine (HLO.out w1 HB1.out).mono ?_
  rintro e w2 ⟨rfl, hb⟩
  have HB2 := hid (HB1.out.trans (hb.mono HB1.out.size))
  have HM2 := hid ((hb.block _ (lt_of_blk HM1.out)).trans HM1.out)
  clear hb
  go_wp2_with fail
  go_ret
  exact ⟨rfl, HB2.out⟩
set_option maxRecDepth 100000 in
set_option maxHeartbeats 2000000 in
theorem ut_long2 (Q0 : List Raw) (L : List Ent) (roots : List Bm) (x : Bm) (sel : List Bm) (v u s : Value) (A : Nat → Addr) (m : Int) (w : World) (S : Te w A m) (htab : Lib.TabIs Tryz.prog w powName .u64 Lib.pow10Tab) (I : Ixs w v Q0 L) (hr : MsAt w u roots) (hs : MsAt w s sel) (a b : Int) (hok : okI L = true) (hx : (if okLN 15 roots then (0 : Int) else 1) = a) (hy : (if okLN 15 sel then (0 : Int) else 1) = b) (hxy : (a = 1 ∧ b = 0) ∨ (a = 0 ∧ b = 1) ∨ (a = 1 ∧ b = 1)) :
    Calls Tryz.prog 6 #[v, u, .agg #[.string x.1, .string x.2], s] w fun e w' => e = .returned (.bool true) ∧ Below w.heap.size w w' := by
  obtain ⟨xp, xq⟩ := x
  obtain ⟨a0, c0, hv0, -⟩ := id I.es
  subst hv0
  obtain ⟨ra, rc, hu0, -⟩ := id hr
  subst hu0
  obtain ⟨sa, sc, hs0, -⟩ := id hs
  subst hs0
  have HB0 := hid ((Below.refl w.heap.size w).alloc (Nat.le_refl _) (.cells #[.string xp, .string xq] 51))
  have HM0 := hid (heap_new w (.cells #[.string xp, .string xq] 51))
  have HIN := hid (upped_any A m _ (S.below HB0.out) (tab_below htab HB0.out))
  have HLO := hid (fun W (h : Below w.heap.size w W) => longI_any Q0 L _ W (I.below h))
  rw [if_pos hok] at HLO
  have HLM := hid (fun W (h : Below w.heap.size w W) => longN_any 15 (by decide) roots _ W (hr.below h))
  rw [hx] at HLM
  have HLS := hid (fun W (h : Below w.heap.size w W) => longN_any 15 (by decide) sel _ W (hs.below h))
  rw [hy] at HLS
  clear S htab I hok hr hs hx hy
  rcases hxy with ⟨rfl, rfl⟩ | ⟨rfl, rfl⟩ | ⟨rfl, rfl⟩
  all_goals
    go_enter Tryz.func6, Tryz.ntmps6
    go_wp2_with fail
    refine HIN.out.mono ?_
    rintro e w1 ⟨rfl, hb⟩
    have HB1 := hid (HB0.out.trans (hb.mono HB0.out.size))
    have HM1 := hid ((hb.block _ (lt_of_blk HM0.out)).trans HM0.out)
    clear hb
    go_wp2_with fail
    refine (HLO.out w1 HB1.out).mono ?_
    rintro e w2 ⟨rfl, hb⟩
    have HB2 := hid (HB1.out.trans (hb.mono HB1.out.size))
    have HM2 := hid ((hb.block _ (lt_of_blk HM1.out)).trans HM1.out)
    clear hb
    go_wp2_with fail
    refine (HLM.out w2 HB2.out).mono ?_
    rintro e w2a ⟨rfl, rfl⟩
    go_wp2_with fail
    refine (HLS.out w2a HB2.out).mono ?_
    rintro e w2b ⟨rfl, rfl⟩
    go_wp2_with fail
    go_ret
    exact ⟨rfl, HB2.out⟩
set_option maxRecDepth 100000 in
set_option maxHeartbeats 2000000 in
theorem ut_long3 (Q0 : List Raw) (L : List Ent) (roots : List Bm) (x : Bm) (sel : List Bm) (v u s : Value) (A : Nat → Addr) (m : Int) (w : World) (S : Te w A m) (htab : Lib.TabIs Tryz.prog w powName .u64 Lib.pow10Tab) (I : Ixs w v Q0 L) (hr : MsAt w u roots) (hs : MsAt w s sel) (hok : okI L = true) (hrk : okLN 15 roots = true) (hsk : okLN 15 sel = true) (hx1 : ¬ x.1.size ≤ 70) :
    Calls Tryz.prog 6 #[v, u, .agg #[.string x.1, .string x.2], s] w fun e w' => e = .returned (.bool true) ∧ Below w.heap.size w w' := by
  obtain ⟨xp, xq⟩ := x
  simp only at hx1 ⊢
  obtain ⟨a0, c0, hv0, -⟩ := id I.es
  subst hv0
  obtain ⟨ra, rc, hu0, -⟩ := id hr
  subst hu0
  obtain ⟨sa, sc, hs0, -⟩ := id hs
  subst hs0
  have HB0 := hid ((Below.refl w.heap.size w).alloc (Nat.le_refl _) (.cells #[.string xp, .string xq] 51))
  have HM0 := hid (heap_new w (.cells #[.string xp, .string xq] 51))
  have HIN := hid (upped_any A m _ (S.below HB0.out) (tab_below htab HB0.out))
  have HLO := hid (fun W (h : Below w.heap.size w W) => longI_any Q0 L _ W (I.below h))
  rw [if_pos hok] at HLO
  have HLM := hid (fun W (h : Below w.heap.size w W) => longN_any 15 (by decide) roots _ W (hr.below h))
  rw [if_pos hrk] at HLM
  have HLS := hid (fun W (h : Below w.heap.size w W) => longN_any 15 (by decide) sel _ W (hs.below h))
  rw [if_pos hsk] at HLS
  have hl1 : ¬ (xp.size : Int) ≤ 70 := by omega
  have hl1' : (70 : Int) < (xp.size : Int) := by omega
  clear S htab I hok hr hs hrk hsk
  go_enter Tryz.func6, Tryz.ntmps6
  go_wp2_with fail
  refine HIN.out.mono ?_
  rintro e w1 ⟨rfl, hb⟩
  have HB1 := hid (HB0.out.trans (hb.mono HB0.out.size))
  have HM1 := hid ((hb.block _ (lt_of_blk HM0.out)).trans HM0.out)
  clear hb
  go_wp2_with fail
  refine (HLO.out w1 HB1.out).mono ?_
  rintro e w2 ⟨rfl, hb⟩
  have HB2 := hid (HB1.out.trans (hb.mono HB1.out.size))
  have HM2 := hid ((hb.block _ (lt_of_blk HM1.out)).trans HM1.out)
  clear hb
  go_wp2_with fail
  refine (HLM.out w2 HB2.out).mono ?_
  rintro e w2a ⟨rfl, rfl⟩
  go_wp2_with fail
  refine (HLS.out w2a HB2.out).mono ?_
  rintro e w2b ⟨rfl, rfl⟩
  obtain ⟨p0, p1, pf⟩ := box_two HM2.out
  go_wp2_with fail
  go_ret
  exact ⟨rfl, HB2.out⟩
set_option maxRecDepth 100000 in
set_option maxHeartbeats 2000000 in
theorem ut_long4 (Q0 : List Raw) (L : List Ent) (roots : List Bm) (x : Bm) (sel : List Bm) (v u s : Value) (A : Nat → Addr) (m : Int) (w : World) (S : Te w A m) (htab : Lib.TabIs Tryz.prog w powName .u64 Lib.pow10Tab) (I : Ixs w v Q0 L) (hr : MsAt w u roots) (hs : MsAt w s sel) (hok : okI L = true) (hrk : okLN 15 roots = true) (hsk : okLN 15 sel = true) (hx1 : x.1.size ≤ 70) (hx2 : ¬ x.2.size ≤ 60) :
    Calls Tryz.prog 6 #[v, u, .agg #[.string x.1, .string x.2], s] w fun e w' => e = .returned (.bool true) ∧ Below w.heap.size w w' := by
  obtain ⟨xp, xq⟩ := x
  simp only at hx1 hx2 ⊢
  obtain ⟨a0, c0, hv0, -⟩ := id I.es
  subst hv0
  obtain ⟨ra, rc, hu0, -⟩ := id hr
  subst hu0
  obtain ⟨sa, sc, hs0, -⟩ := id hs
  subst hs0
  have HB0 := hid ((Below.refl w.heap.size w).alloc (Nat.le_refl _) (.cells #[.string xp, .string xq] 51))
  have HM0 := hid (heap_new w (.cells #[.string xp, .string xq] 51))
  have HIN := hid (upped_any A m _ (S.below HB0.out) (tab_below htab HB0.out))
  have HLO := hid (fun W (h : Below w.heap.size w W) => longI_any Q0 L _ W (I.below h))
  rw [if_pos hok] at HLO
  have HLM := hid (fun W (h : Below w.heap.size w W) => longN_any 15 (by decide) roots _ W (hr.below h))
  rw [if_pos hrk] at HLM
  have HLS := hid (fun W (h : Below w.heap.size w W) => longN_any 15 (by decide) sel _ W (hs.below h))
  rw [if_pos hsk] at HLS
  have hl1 : (xp.size : Int) ≤ 70 := by omega
  have hl2 : ¬ (xq.size : Int) ≤ 60 := by omega
  have hl2' : (60 : Int) < (xq.size : Int) := by omega
  clear S htab I hok hr hs hrk hsk
  go_enter Tryz.func6, Tryz.ntmps6
  go_wp2_with fail
  refine HIN.out.mono ?_
  rintro e w1 ⟨rfl, hb⟩
  have HB1 := hid (HB0.out.trans (hb.mono HB0.out.size))
  have HM1 := hid ((hb.block _ (lt_of_blk HM0.out)).trans HM0.out)
  clear hb
  go_wp2_with fail
  refine (HLO.out w1 HB1.out).mono ?_
  rintro e w2 ⟨rfl, hb⟩
  have HB2 := hid (HB1.out.trans (hb.mono HB1.out.size))
  have HM2 := hid ((hb.block _ (lt_of_blk HM1.out)).trans HM1.out)
  clear hb
  go_wp2_with fail
  refine (HLM.out w2 HB2.out).mono ?_
  rintro e w2a ⟨rfl, rfl⟩
  go_wp2_with fail
  refine (HLS.out w2a HB2.out).mono ?_
  rintro e w2b ⟨rfl, rfl⟩
  obtain ⟨p0, p1, pf⟩ := box_two HM2.out
  go_wp2_with fail
  go_ret
  exact ⟨rfl, HB2.out⟩
theorem upTells_any (Q0 : List Raw) (L : List Ent) (roots : List Bm) (x : Bm) (sel : List Bm) (v u s : Value) (A : Nat → Addr) (m : Int) (w : World) (S : Te w A m) (N : Er.Sen w A) (htab : Lib.TabIs Tryz.prog w powName .u64 Lib.pow10Tab) (I : Ixs w v Q0 L) (em : EmI Q0 L) (hr : MsAt w u roots) (her : Em u roots) (hs : MsAt w s sel) (hes : Em s sel) :
    Calls Tryz.prog 6 #[v, u, .agg #[.string x.1, .string x.2], s] w fun e w' => e = .returned (.bool true) ∧ Below w.heap.size w w' := by
  cases hok : okI L with
  | false => exact ut_long1 Q0 L roots x sel v u s A m w S htab I hr hs hok
  | true =>
    cases hrk : okLN 15 roots <;> cases hsk : okLN 15 sel
    case true.true =>
      by_cases hx1 : x.1.size ≤ 70
      · by_cases hx2 : x.2.size ≤ 60
        · exact ut_main Q0 L roots x sel v u s A m w S N htab I em hr her hs hes hok hrk hsk hx1 hx2
        · exact ut_long4 Q0 L roots x sel v u s A m w S htab I hr hs hok hrk hsk hx1 hx2
      · exact ut_long3 Q0 L roots x sel v u s A m w S htab I hr hs hok hrk hsk hx1
    all_goals exact ut_long2 Q0 L roots x sel v u s A m w S htab I hr hs _ _ hok rfl rfl (by rw [hrk, hsk]; decide)
end Ve
end Go.Proofs.YtanponneancajaaGreatDoor
