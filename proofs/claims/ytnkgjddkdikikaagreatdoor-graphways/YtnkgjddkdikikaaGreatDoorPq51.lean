/-
  GwB
-/
import Derived.Deep.DeepCutAuto
import Derived.Test.YtnkgjddkdikikaaGreatDoorPq2
import Derived.Test.YtnkgjddkdikikaaGreatDoorPq3
import Derived.Test.YtnkgjddkdikikaaGreatDoorPq4
import Derived.Test.YtnkgjddkdikikaaGreatDoorPq7
import Derived.Test.YtnkgjddkdikikaaGreatDoorPq10
import Derived.Test.YtnkgjddkdikikaaGreatDoorPq13
import Derived.Test.YtnkgjddkdikikaaGreatDoorPq23
import Derived.Test.YtnkgjddkdikikaaGreatDoorPq27
import Derived.Test.YtnkgjddkdikikaaGreatDoorPq28
import Derived.Test.YtnkgjddkdikikaaGreatDoorPq29
import Derived.Test.YtnkgjddkdikikaaGreatDoorPq31
import Derived.Test.YtnkgjddkdikikaaGreatDoorPq46
import Derived.Test.YtnkgjddkdikikaaGreatDoorPq26
import Derived.Test.YtnkgjddkdikikaaGreatDoorPq49
import Derived.Test.YtnkgjddkdikikaaGreatDoorPq50
namespace Go.Proofs.YtnkgjddkdikikaaGreatDoor
open Go.RowKit Go.Maps
namespace Ve
structure Gw (w0 W : World) (lv : Value) (Q0 : List Raw) (L : List Ent) (av : Value) (roots : List Bm) (ov : Value) (Q : List Raw) (rv xv : Value) (X : List Bm) : Prop where
  bl : Below w0.heap.size w0 W
  i0 : Ixs W lv Q0 L
  rs : MsAt W av roots
  ix : Ixs W ov Q L
  ro : MsAt W rv roots
  xs : MsAt W xv X
theorem Gw.below {w0 W W' : World} {lv av ov rv xv : Value} {Q0 Q : List Raw} {L : List Ent} {roots X : List Bm} (h : Gw w0 W lv Q0 L av roots ov Q rv xv X) (hb : Below W.heap.size W W') : Gw w0 W' lv Q0 L av roots ov Q rv xv X :=
  ⟨h.bl.trans (hb.mono h.bl.size), h.i0.below hb, h.rs.below hb, h.ix.below hb, h.ro.below hb, h.xs.below hb⟩
theorem ms_at {W : World} {b o n c : Nat} {X : List Bm} (h : MsAt W (.slice (some ⟨b, o, none⟩) n c) X) {k : Nat} (hk : k < X.length) : W.cell? ⟨b, o + k * 2, none⟩ = some (.string X[k].1) ∧ W.cell? ⟨b, o + k * 2 + 1, none⟩ = some (.string X[k].2) := by
  obtain ⟨b', o', e, h1⟩ := h.cells hk
  injection e with e
  injection e with e1 e2
  subst e1 e2
  exact h1
theorem es_mod {W : World} {b o n c : Nat} {Q : List Raw} (h : EsAt W (.slice (some ⟨b, o, none⟩) n c) Q) {k : Nat} (hk : k < Q.length) : W.cell? ⟨b, o + k * 5, none⟩ = some (.string Q[k].1.1) ∧ W.cell? ⟨b, o + k * 5 + 1, none⟩ = some (.string Q[k].1.2) := by
  obtain ⟨a', c', e, _, _, h⟩ := h
  injection e with e1 e2 e3
  subst e1
  obtain ⟨b', o', e4, h4⟩ := h (by intro h0; rw [h0] at hk; simp at hk)
  injection e4 with e4
  injection e4 with e5 e6
  subst e5 e6
  exact ⟨(h4 k hk).1, (h4 k hk).2.1⟩
set_option maxRecDepth 100000 in
set_option maxHeartbeats 2000000 in
theorem gw_main (Q0 : List Raw) (L : List Ent) (roots : List Bm) (v u : Value) (A : Nat → Addr) (m : Int) (w : World) (S : Te w A m) (I : Ixs w v Q0 L) (em : EmI Q0 L) (hr : MsAt w u roots) (her : Em u roots) (hok : okI L = true) (hrk : okLN 15 roots = true) :
    Calls Tryz.prog 4 #[v, u] w fun e w' => e = .returned (.bool true) ∧ Below w.heap.size w w' := by
  obtain ⟨a0, c0, hv0, -⟩ := id I.es
  subst hv0
  obtain ⟨ra, rc, hu0, -⟩ := id hr
  subst hu0
  have hn101 : L.length ≤ 101 := by rcases (okI_iff hok).1 with h | h <;> omega
  have hr15 : roots.length ≤ 15 := (okLN_iff hrk).1
  have HIN := hid (rdL_any A m w S)
  have HLO := hid (fun W (h : Below w.heap.size w W) => longI_any Q0 L _ W (I.below h))
  rw [if_pos hok] at HLO
  have HLM := hid (fun W (h : Below w.heap.size w W) => longN_any 15 (by decide) roots _ W (hr.below h))
  rw [if_pos hrk] at HLM
  have HOW := hid (fun W (h : Below w.heap.size w W) => ownI_any Q0 L _ W (by omega) (I.below h) em (okI_fits hok))
  have HOM := hid (fun W (h : Below w.heap.size w W) => ownM_any _ roots W (by omega) (hr.below h) her)
  have HS := hid S
  have HI := hid I
  have HR := hid hr
  have HSH := hid (okI_sh hok)
  clear S I em hok hr her hrk
  go_enter Tryz.func4, Tryz.ntmps4
  go_wp2_with fail
  refine HIN.out.mono ?_
  rintro e w1 ⟨rfl, hb⟩
  have HB1 := hid hb
  clear hb
  go_wp2_with fail
  refine (HLO.out w1 HB1.out).mono ?_
  rintro e w2 ⟨rfl, hb⟩
  have HB2 := hid (HB1.out.trans (hb.mono HB1.out.size))
  clear hb
  go_wp2_with fail
  refine (HLM.out w2 HB2.out).mono ?_
  rintro e w2' ⟨rfl, rfl⟩
  go_wp2_with fail
  refine (HOW.out w2' HB2.out).mono ?_
  rintro e w3 ⟨ou, Q, rfl, hO, hb⟩
  have HB3 := hid (HB2.out.trans (hb.mono HB2.out.size))
  have HIX := hid hO.ixs
  obtain ⟨oa, oc, hou, -⟩ := id hO.ixs.es
  subst hou
  clear hb hO
  go_wp2_with fail
  refine (HOM.out w3 HB3.out).mono ?_
  rintro e w4 ⟨ru, rfl, hro, -, hb⟩
  have HB4 := hid (HB3.out.trans (hb.mono HB3.out.size))
  have HIX4 := hid (HIX.out.below hb)
  have HRO := hid (own_ms hro)
  obtain ⟨rua, ruc, hru⟩ := own_slN hro
  subst hru
  clear hb hro
  by_cases hcg : (chkG Q L roots).1 = 0
  · have HRE := hid (reach_good Q L roots _ _ A m w4 (by omega) (by omega) HSH.out (HS.out.below HB4.out) HIX4.out HRO.out hcg)
    have HCG := hid hcg
    clear hcg
    go_wp2_with fail
    refine HRE.out.mono ?_
    rintro e w5 ⟨xu, rfl, T, hcm, hxo, hb⟩
    have HCM := hid hcm
    have HB5 := hid (HB4.out.trans (hb.mono HB4.out.size))
    have HIX5 := hid (HIX4.out.below hb)
    have HRO5 := hid (HRO.out.below hb)
    have HXO := hid (own_ms hxo)
    obtain ⟨xa, xc, hxu⟩ := own_slN hxo
    subst hxu
    have hXl : (goM T Q).length ≤ 101 := by have := goM_len T Q; have := HIX.out.ln; omega
    have HRG := hid (rgt_of HIX5.out HCG.out)
    have HAG := hid (reach_good Q L (goM T Q) _ _ A m w5 (by omega) (by omega) HSH.out (HS.out.below HB5.out) HIX5.out HXO.out (chkG_in HIX5.out HRG.out.c (fun m hm => goM_univ HIX5.out hm)))
    clear hcm hxo hb HRE
    go_wp2_with fail
    refine HAG.out.mono ?_
    rintro e w6 ⟨yu, rfl, T2, hcm2, hyo, hb⟩
    rw [goM_again HIX5.out HCM.out hcm2] at hyo
    have HGW := hid (show Gw w w6 (.slice a0 Q0.length c0) Q0 L (.slice ra roots.length rc) roots (.slice oa Q.length oc) Q (.slice rua roots.length ruc) (.slice xa (goM T Q).length xc) (goM T Q) from
      ⟨HB5.out.trans (hb.mono HB5.out.size), HI.out.below (HB5.out.trans (hb.mono HB5.out.size)), HR.out.below (HB5.out.trans (hb.mono HB5.out.size)), HIX5.out.below hb, HRO5.out.below hb, HXO.out.below hb⟩)
    have HSA := hid (sameM_any (goM T Q) yu (.slice xa (goM T Q).length xc) w6 (by omega) (own_ms hyo) HGW.out.xs)
    obtain ⟨ya, yc, hyu⟩ := own_slN hyo
    subst hyu
    have HXM := hid (fun m => goM_mem HIX5.out HCM.out (m := m))
    clear hcm2 hyo hb HAG
    generalize goM T Q = X at *
    go_wp2_with fail
    refine HSA.out.mono ?_
    rintro e w7 ⟨rfl, hb⟩
    have HG7 := hid (HGW.out.below hb)
    clear hb HSA HGW
    go_wp2_with fail
    have HQL := hid HI.out.ln
    have hq0 : Q0.length ≤ 101 := by rw [HQL.out]; exact hn101
    obtain ⟨GG, hGG⟩ : ∃ GG : World → Prop, GG = fun W => Gw w W (.slice a0 Q0.length c0) Q0 L (.slice ra roots.length rc) roots (.slice oa Q.length oc) Q (.slice rua roots.length ruc) (.slice xa X.length xc) X := ⟨_, rfl⟩
    have FG := hid (show ∀ W, GG W → Gw w W (.slice a0 Q0.length c0) Q0 L (.slice ra roots.length rc) roots (.slice oa Q.length oc) Q (.slice rua roots.length ruc) (.slice xa X.length xc) X from fun W h => by rw [hGG] at h; exact h)
    have FB := hid (show ∀ W W', GG W → Below W.heap.size W W' → GG W' from fun W W' h hb => by rw [hGG] at h ⊢; exact Gw.below h hb)
    have HG7 := hid (show GG w7 by rw [hGG]; exact HG7.out)
    clear hGG HIN HLO HLM HOW HOM HIX HIX4 HRO HIX5 HRO5 HXO HB1 HB2 HB3 HB4 HB5 HCM HRG HI HR
    go_loopw [11] (fun iv wr => ∃ i : Nat, i ≤ Q0.length ∧ iv = .int .i64 i ∧ Hid (GG wr)) (fun iv _ => Q0.length - (intOf iv).toNat)
    case atStart => exact ⟨0, Nat.zero_le _, rfl, HG7⟩
    case round =>
      obtain ⟨i, hi, rfl, HG⟩ := hrel
      by_cases hlt : i < Q0.length
      · have hiI : (i : Int) < (Q0.length : Int) := by omega
        have hi0 : (0 : Int) ≤ (i : Int) := by omega
        obtain ⟨eb, eo, ha0, -⟩ := es_cells (FG.out _ HG.out).i0.es hlt
        subst ha0
        have HLI := hid hlt
        have HMC := hid (fun (W : World) (h : EsAt W (.slice (some ⟨eb, eo, none⟩) Q0.length c0) Q0) => es_mod h hlt)
        have HMU := hid (show Q0[i].1 ∈ univ L by
          obtain ⟨h1, h2⟩ := ixs_get (FG.out _ HG.out).i0 hlt
          exact List.mem_map.2 ⟨L[i], List.getElem_mem h1, h2.symm⟩)
        generalize (Q0[i]'hlt).1 = mm at *
        clear hlt
        go_wp2_with fail
        go_loopw [12, 13] (fun bv kv wr => ∃ k : Nat, k ≤ X.length ∧ kv = .int .i64 k ∧ bv = .bool (hasM (X.take k) mm) ∧ Hid (GG wr)) (fun _ kv _ => X.length - (intOf kv).toNat)
        case atStart => exact ⟨0, Nat.zero_le _, rfl, by rw [hasM_nil], HG⟩
        case round =>
          obtain ⟨k, hk, rfl, rfl, HG1⟩ := hrel
          by_cases hlk : k < X.length
          · have hkI : (k : Int) < (X.length : Int) := by omega
            have hk0 : (0 : Int) ≤ (k : Int) := by omega
            obtain ⟨xb, xo, hxa, x0, x1⟩ := (FG.out _ HG1.out).xs.cells hlk
            subst hxa
            obtain ⟨z0, z1⟩ := HMC.out _ (FG.out _ HG1.out).i0.es
            have HNX := hid (hasM_next hlk mm)
            have HLK := hid hlk
            generalize X[k] = x at *
            clear hlk
            have heq := fun W => eqM_run x mm W
            cases hb : hasM (X.take k) mm with
            | true =>
              rw [hb] at HNX
              clear hb
              go_wp2_with fail
              go_quiet (fail)
              go_wp2_with fail
              go_roundw
              case rel => exact ⟨k + 1, HLK.out, nr_idx k, by rw [HNX.out]; rfl, hid (FB.out _ _ HG1.out (below_drawn _ _))⟩
              case measure => exact nr_meas HLK.out
            | false =>
              rw [hb] at HNX
              clear hb
              generalize eqM x mm = d at *
              go_wp2_with fail
              go_quiet (fail)
              go_wp2_with fail
              go_roundw
              case rel => exact ⟨k + 1, HLK.out, nr_idx k, by rw [HNX.out]; rfl, hid (FB.out _ _ HG1.out (below_drawn _ _))⟩
              case measure => exact nr_meas HLK.out
          · rw [hasM_all hlk]
            have hkI : ¬ (k : Int) < (X.length : Int) := by omega
            clear hlk
            obtain ⟨z0, z1⟩ := HMC.out _ (FG.out _ HG1.out).i0.es
            by_cases hrc : Rch (reqQ Q L) roots mm
            · have hin : hasM X mm = true := hasM_iff.2 ((HXM.out mm).2 hrc)
              rw [hin]
              have HWY := hid (way_some Q L roots mm _ _ A m wr (by omega) (by omega) HSH.out (HS.out.below (FG.out _ HG1.out).bl) (FG.out _ HG1.out).ix (FG.out _ HG1.out).ro HCG.out (univ_sz HSH.out mm HMU.out) hrc)
              clear hrc hin
              go_wp2_with fail
              refine HWY.out.mono ?_
              rintro e w8 ⟨yu, rfl, Y, hys, hwk, hyl, hb⟩
              have HWK := hid hwk
              obtain ⟨ya, yc, hyu, -⟩ := id hys
              subst hyu
              have hyp := hwk.pos
              obtain ⟨yb, yo, hya, -⟩ := hys.cells hyp
              subst hya
              have HGY := hid (show GG w8 ∧ MsAt w8 (.slice (some ⟨yb, yo, none⟩) Y.length yc) Y from ⟨FB.out _ _ HG1.out hb, hys⟩)
              obtain ⟨GY, hGY⟩ : ∃ GY : World → Prop, GY = fun W => GG W ∧ MsAt W (.slice (some ⟨yb, yo, none⟩) Y.length yc) Y := ⟨_, rfl⟩
              have FY := hid (show ∀ W, GY W → GG W ∧ MsAt W (.slice (some ⟨yb, yo, none⟩) Y.length yc) Y from fun W h => by rw [hGY] at h; exact h)
              have FYB := hid (show ∀ W W', GY W → Below W.heap.size W W' → GY W' from fun W W' h hb => by rw [hGY] at h ⊢; exact ⟨FB.out W W' h.1 hb, h.2.below hb⟩)
              have HGY := hid (show GY w8 by rw [hGY]; exact HGY.out)
              clear hGY
              have hypI : (0 : Int) < (Y.length : Int) := by omega
              have hypd : decide (0 < Y.length) = true := decide_eq_true hyp
              obtain ⟨y0, hy0⟩ : ∃ y0, Y[0]'hyp = y0 := ⟨_, rfl⟩
              have HFR := hid (show hasM roots y0 = true by rw [hasM_iff, ← hy0]; exact hwk.first)
              have HYC := hid (fun (W : World) (h : MsAt W (.slice (some ⟨yb, yo, none⟩) Y.length yc) Y) => show W.cell? ⟨yb, yo, none⟩ = some (.string y0.1) ∧ W.cell? ⟨yb, yo + 1, none⟩ = some (.string y0.2) by
                have := ms_at h hyp
                rw [hy0] at this
                simpa using this)
              have HLA := hid (show Y[Y.length - 1]'(by omega) = mm by
                have := hwk.last
                rw [List.getLast?_eq_getElem?, List.getElem?_eq_getElem (by omega)] at this
                exact Option.some.inj this)
              clear hb hwk hys HWY z0 z1 hy0
              go_wp2_with fail
              go_loopw [16, 17] (fun bv kv wr => ∃ k : Nat, k ≤ roots.length ∧ kv = .int .i64 k ∧ bv = .bool (hasM (roots.take k) y0) ∧ Hid (GY wr)) (fun _ kv _ => roots.length - (intOf kv).toNat)
              case atStart => exact ⟨0, Nat.zero_le _, rfl, by rw [hasM_nil], HGY⟩
              case round =>
                obtain ⟨k2, hk2, rfl, rfl, HG2⟩ := hrel
                by_cases hlk : k2 < roots.length
                · have hkI2 : (k2 : Int) < (roots.length : Int) := by omega
                  have hk02 : (0 : Int) ≤ (k2 : Int) := by omega
                  obtain ⟨rb, ro, hra, x0, x1⟩ := (FG.out _ (FY.out _ HG2.out).1).rs.cells hlk
                  subst hra
                  obtain ⟨z0, z1⟩ := HYC.out _ (FY.out _ HG2.out).2
                  have HNX := hid (hasM_next hlk y0)
                  have HLK := hid hlk
                  generalize roots[k2] = x at *
                  clear hlk
                  have heq := fun W => eqM_run x y0 W
                  cases hb : hasM (roots.take k2) y0 with
                  | true =>
                    rw [hb] at HNX
                    clear hb
                    go_wp2_with fail
                    go_quiet (fail)
                    go_wp2_with fail
                    go_roundw
                    case rel => exact ⟨k2 + 1, HLK.out, nr_idx k2, by rw [HNX.out]; rfl, hid (FYB.out _ _ HG2.out (below_drawn _ _))⟩
                    case measure => exact nr_meas HLK.out
                  | false =>
                    rw [hb] at HNX
                    clear hb
                    generalize eqM x y0 = d at *
                    go_wp2_with fail
                    go_quiet (fail)
                    go_wp2_with fail
                    go_roundw
                    case rel => exact ⟨k2 + 1, HLK.out, nr_idx k2, by rw [HNX.out]; rfl, hid (FYB.out _ _ HG2.out (below_drawn _ _))⟩
                    case measure => exact nr_meas HLK.out
                · rw [hasM_all hlk, HFR.out]
                  have hkI2 : ¬ (k2 : Int) < (roots.length : Int) := by omega
                  clear hlk
                  obtain ⟨z0, z1⟩ := HMC.out _ (FG.out _ (FY.out _ HG2.out).1).i0.es
                  have hll := ms_at (FY.out _ HG2.out).2 (k := Y.length - 1) (by omega)
                  rw [HLA.out] at hll
                  obtain ⟨l0, l1⟩ := hll
                  have hne : ∀ W, (binOp .neq 35 (.agg #[.string mm.1, .string mm.2]) (.agg #[.string mm.1, .string mm.2])).run Tryz.prog W = .ok (.bool false) W := fun W => by rw [neM_run, eqM_iff.2 rfl]; rfl
                  have hx1 : (Y.length : Int) - 1 = ((Y.length - 1 : Nat) : Int) := by omega
                  have hx2 : ((Y.length - 1 : Nat) : Int) < (Y.length : Int) := by omega
                  have hx3 : (0 : Int) ≤ ((Y.length - 1 : Nat) : Int) := by omega
                  have hw64 : wrap64 ((Y.length - 1 : Nat) : Int) = ((Y.length - 1 : Nat) : Int) := IntWalk.wrap64_in _ (by omega)
                  have htn : ((Y.length - 1 : Nat) : Int).toNat = Y.length - 1 := Int.toNat_natCast _
                  go_wp2_with fail
                  go_quiet (fail)
                  have HG3 := hid HG2.out
                  clear z0 z1 l0 l1 hx1 hx2 hx3 hw64 htn hne
                  go_wp2_with fail
                  go_loopw [18] (fun kv wr => ∃ k : Nat, 1 ≤ k ∧ k ≤ Y.length ∧ kv = .int .i64 k ∧ Hid (GY wr)) (fun kv _ => Y.length - (intOf kv).toNat)
                  case atStart => exact ⟨1, Nat.le_refl _, hyp, rfl, hid (FYB.out _ _ HG3.out (below_drawn _ _))⟩
                  case round =>
                    obtain ⟨k3, hk31, hk3, rfl, HG4⟩ := hrel
                    by_cases hlk : k3 < Y.length
                    · have hkI3 : (k3 : Int) < (Y.length : Int) := by omega
                      have HKP := hid (show k3 - 1 < Y.length by omega)
                      obtain ⟨p0, p1⟩ := ms_at (FY.out _ HG4.out).2 (k := k3 - 1) HKP.out
                      have HYK := hid (fun (W : World) (h : MsAt W (.slice (some ⟨yb, yo, none⟩) Y.length yc) Y) => ms_at h hlk)
                      have HCH := hid (HWK.out.ch (k3 - 1) (by omega))
                      have hk11 : k3 - 1 + 1 = k3 := by omega
                      have HUN := hid (HWK.out.un (Y[k3 - 1]'HKP.out) (List.getElem_mem _))
                      have HDI := hid (show ∀ j (h : j < Y.length), j < k3 → eqM (Y[j]'h) Y[k3] = false from fun j h hj => eqM_ne (fun e => List.pairwise_iff_getElem.1 HWK.out.nd j k3 h hlk hj e))
                      have HLK := hid hlk
                      obtain ⟨yk, yp, hchn, hyun, hykc, hdis, q0, q1⟩ : ∃ yk yp : Bm, yk ∈ reqQ Q L yp ∧ yp ∈ univ L ∧ (∀ W, MsAt W (.slice (some ⟨yb, yo, none⟩) Y.length yc) Y → W.cell? ⟨yb, yo + k3 * 2, none⟩ = some (.string yk.1) ∧ W.cell? ⟨yb, yo + k3 * 2 + 1, none⟩ = some (.string yk.2)) ∧ (∀ j (h : j < Y.length), j < k3 → eqM (Y[j]'h) yk = false) ∧ wr.cell? ⟨yb, yo + (k3 - 1) * 2, none⟩ = some (.string yp.1) ∧ wr.cell? ⟨yb, yo + (k3 - 1) * 2 + 1, none⟩ = some (.string yp.2) := ⟨Y[k3], Y[k3 - 1]'HKP.out, by have := HCH.out; simp only [hk11] at this; exact this, HUN.out, HYK.out, HDI.out, p0, p1⟩
                      clear HYK HDI HCH HUN
                      have HYK := hid hykc
                      have HDI := hid hdis
                      clear hykc hdis p0 p1 hlk
                      obtain ⟨at_, hat⟩ := (found_iff (FG.out _ (FY.out _ HG4.out).1).i0 yp).1 hyun
                      obtain ⟨hatq, -⟩ := idx_is hat
                      have hatl : at_ < L.length := by rw [← HQL.out]; exact hatq
                      have hat2 : idxOf (isM yp) Q = (at_ : Int) := by rw [ixs_same (FG.out _ (FY.out _ HG4.out).1).ix (FG.out _ (FY.out _ HG4.out).1).i0]; exact hat
                      rw [reqQ_at hat2 hatl] at hchn
                      have HFO := hid (findOf_any Q0 yp _ wr (by omega) (by omega) (FG.out _ (FY.out _ HG4.out).1).i0.es)
                      rw [hat] at HFO
                      have HMS := hid (fun (W : World) (h : Ixs W (.slice (some ⟨eb, eo, none⟩) Q0.length c0) Q0 L) => show W.cell? ⟨eb, eo + at_ * 5 + 2, none⟩ = some (Q0[at_]'hatq).2.1 ∧ MsAt W (Q0[at_]'hatq).2.1 (L[at_]'hatl).2.1 from by
                        obtain ⟨b', o', e1, h1⟩ := es_cells h.es hatq
                        injection e1 with e1
                        injection e1 with e1 e2
                        subst e1 e2
                        exact ⟨h1, (h.ok at_ hatq hatl).rq⟩)
                      have hrl : (L[at_]'hatl).2.1.length ≤ 1000000 := (HSH.out _ (List.getElem_mem hatl)).rn
                      have HNE := hid (hasM_iff.2 hchn)
                      have hatI : (at_ : Int) < (Q0.length : Int) := by omega
                      have hat0 : ¬ (at_ : Int) < 0 := by omega
                      have hatp : (0 : Int) ≤ (at_ : Int) := by omega
                      generalize (L[at_]'hatl).2.1 = R at *
                      generalize (Q0[at_]'hatq).2.1 = qv at *
                      obtain ⟨qa, qc, hqv, -⟩ := (HMS.out wr (FG.out _ (FY.out _ HG4.out).1).i0).2
                      subst hqv
                      clear hat hat2 hatq hatl hchn hyun
                      have kx1 : (k3 : Int) - 1 = ((k3 - 1 : Nat) : Int) := by omega
                      have kx2 : ((k3 - 1 : Nat) : Int) < (Y.length : Int) := by omega
                      have kx3 : (0 : Int) ≤ ((k3 - 1 : Nat) : Int) := by omega
                      have kw64 : wrap64 ((k3 - 1 : Nat) : Int) = ((k3 - 1 : Nat) : Int) := IntWalk.wrap64_in _ (by omega)
                      have ktn : ((k3 - 1 : Nat) : Int).toNat = k3 - 1 := Int.toNat_natCast _
                      have kge : (0 : Int) ≤ (k3 : Int) := Int.natCast_nonneg k3
                      go_wp2_with fail
                      refine HFO.out.mono ?_
                      rintro e w9 ⟨rfl, hb⟩
                      have HG6 := hid (show GY w9 from FYB.out _ _ HG4.out hb)
                      clear hb q0 q1 HFO kx1 kx2 kx3 kw64 ktn
                      go_wp2_with fail
                      go_loopw [20, 21] (fun bv jv wr => ∃ j : Nat, j ≤ R.length ∧ jv = .int .i64 j ∧ bv = .bool (hasM (R.take j) yk) ∧ Hid (GY wr)) (fun _ jv _ => R.length - (intOf jv).toNat)
                      case atStart => exact ⟨0, Nat.zero_le _, rfl, by rw [hasM_nil], HG6⟩
                      case round =>
                        obtain ⟨j, hj, rfl, rfl, HG7⟩ := hrel
                        obtain ⟨x2, hms⟩ := HMS.out wr (FG.out _ (FY.out _ HG7.out).1).i0
                        by_cases hlj : j < R.length
                        · have hjI : (j : Int) < (R.length : Int) := by omega
                          have hj0 : (0 : Int) ≤ (j : Int) := by omega
                          obtain ⟨qb, qo, hqa, r0, r1⟩ := hms.cells hlj
                          subst hqa
                          obtain ⟨z0, z1⟩ := HYK.out _ (FY.out _ HG7.out).2
                          have HNX := hid (hasM_next hlj yk)
                          have HLJ := hid hlj
                          generalize R[j] = x at *
                          clear hlj hms
                          have heq := fun W => eqM_run x yk W
                          cases hb : hasM (R.take j) yk with
                          | true =>
                            rw [hb] at HNX
                            clear hb
                            go_wp2_with fail
                            go_quiet (fail)
                            go_wp2_with fail
                            go_roundw
                            case rel => first | exact ⟨j + 1, HLJ.out, nr_idx j, by rw [HNX.out]; rfl, hid (FYB.out _ _ HG7.out (below_drawn _ _))⟩ | exact ⟨j + 1, HLJ.out, nx_idx HLJ.out hrl, by rw [HNX.out]; rfl, hid (FYB.out _ _ HG7.out (below_drawn _ _))⟩
                            case measure => first | exact nr_meas HLJ.out | exact nx_meas HLJ.out hrl
                          | false =>
                            rw [hb] at HNX
                            clear hb
                            generalize eqM x yk = d at *
                            go_wp2_with fail
                            go_quiet (fail)
                            go_wp2_with fail
                            go_roundw
                            case rel => first | exact ⟨j + 1, HLJ.out, nr_idx j, by rw [HNX.out]; rfl, hid (FYB.out _ _ HG7.out (below_drawn _ _))⟩ | exact ⟨j + 1, HLJ.out, nx_idx HLJ.out hrl, by rw [HNX.out]; rfl, hid (FYB.out _ _ HG7.out (below_drawn _ _))⟩
                            case measure => first | exact nr_meas HLJ.out | exact nx_meas HLJ.out hrl
                        · rw [hasM_all hlj, HNE.out]
                          have hjI : ¬ (j : Int) < (R.length : Int) := by omega
                          clear hlj hms
                          go_wp2_with fail
                          go_loopw [22] (fun jv wr => ∃ j : Nat, j ≤ k3 ∧ jv = .int .i64 j ∧ Hid (GY wr)) (fun jv _ => k3 - (intOf jv).toNat)
                          case atStart => exact ⟨0, Nat.zero_le _, rfl, HG7⟩
                          case round =>
                            obtain ⟨j2, hj2, rfl, HG8⟩ := hrel
                            by_cases hlj : j2 < k3
                            · have hjI2 : (j2 : Int) < (k3 : Int) := by omega
                              have hj02 : (0 : Int) ≤ (j2 : Int) := by omega
                              have hjY : (j2 : Int) < (Y.length : Int) := by omega
                              obtain ⟨z0, z1⟩ := HYK.out _ (FY.out _ HG8.out).2
                              obtain ⟨t0, t1⟩ := ms_at (FY.out _ HG8.out).2 (k := j2) (by omega)
                              have HD := hid (HDI.out j2 (by omega) hlj)
                              have HLJ := hid hlj
                              obtain ⟨yj, hd, t0', t1'⟩ : ∃ yj, eqM yj yk = false ∧ wr.cell? ⟨yb, yo + j2 * 2, none⟩ = some (.string yj.1) ∧ wr.cell? ⟨yb, yo + j2 * 2 + 1, none⟩ = some (.string yj.2) := ⟨_, HD.out, t0, t1⟩
                              have heq := fun W => eqM_run yj yk W
                              rw [hd] at heq
                              clear t0 t1 hd HD hlj
                              go_wp2_with fail
                              go_quiet (fail)
                              go_wp2_with fail
                              go_roundw
                              case rel => exact ⟨j2 + 1, HLJ.out, nr_idx j2, hid (FYB.out _ _ HG8.out (below_drawn _ _))⟩
                              case measure => exact nr_meas HLJ.out
                            · have hjI2 : ¬ (j2 : Int) < (k3 : Int) := by omega
                              clear hlj
                              go_wp2_with fail
                              go_roundw
                              case rel => exact ⟨k3 + 1, by omega, HLK.out, nr_idx k3, HG8⟩
                              case measure => exact nr_meas HLK.out
                    · have hkI3 : ¬ (k3 : Int) < (Y.length : Int) := by omega
                      clear hlk
                      have HG5 := hid (FY.out _ HG4.out).1
                      go_wp2_with fail
                      go_roundw
                      case rel => exact ⟨i + 1, HLI.out, nr_idx i, HG5⟩
                      case measure => exact nr_meas HLI.out
            · have hin : hasM X mm = false := by
                cases h : hasM X mm with
                | false => rfl
                | true => exact absurd ((HXM.out mm).1 (hasM_iff.1 h)) hrc
              rw [hin]
              have HWY := hid (way_none Q L roots mm _ _ A m wr (by omega) (by omega) HSH.out (HS.out.below (FG.out _ HG1.out).bl) (FG.out _ HG1.out).ix (FG.out _ HG1.out).ro HCG.out (univ_sz HSH.out mm HMU.out) hrc)
              clear hrc hin
              go_wp2_with fail
              refine HWY.out.mono ?_
              rintro e w8 ⟨xa8, rfl, -, hb⟩
              have HG8 := hid (FB.out _ _ HG1.out hb)
              clear hb HWY z0 z1
              go_wp2_with fail
              go_roundw
              case rel => exact ⟨i + 1, HLI.out, nr_idx i, HG8⟩
              case measure => exact nr_meas HLI.out
      · have hiI : ¬ (i : Int) < (Q0.length : Int) := by omega
        clear hlt
        go_wp2_with fail
        go_ret
        exact ⟨rfl, (FG.out _ HG.out).bl⟩
  · have HRE := hid (reach_bad Q L roots _ _ A m w4 (by omega) (by omega) HSH.out (HS.out.below HB4.out) HIX4.out HRO.out hcg)
    clear hcg
    go_wp2_with fail
    refine HRE.out.mono ?_
    rintro e w5 ⟨xT, xa, rfl, -, hb⟩
    have HB5 := hid (HB4.out.trans (hb.mono HB4.out.size))
    clear hb
    go_wp2_with fail
    go_ret
    exact ⟨rfl, HB5.out⟩
end Ve
end Go.Proofs.YtnkgjddkdikikaaGreatDoor
