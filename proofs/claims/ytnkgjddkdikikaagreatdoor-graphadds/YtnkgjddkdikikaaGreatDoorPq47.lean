/-
  GrA GaA GaB GaC
-/
import Derived.Test.YtnkgjddkdikikaaGreatDoorPq2
import Derived.Test.YtnkgjddkdikikaaGreatDoorPq26
import Derived.Test.YtnkgjddkdikikaaGreatDoorPq4
import Derived.Test.YtnkgjddkdikikaaGreatDoorPq23
import Derived.Test.YtnkgjddkdikikaaGreatDoorPq27
import Derived.Test.YtnkgjddkdikikaaGreatDoorPq29
import Derived.Test.YtnkgjddkdikikaaGreatDoorPq31
import Derived.Test.YtnkgjddkdikikaaGreatDoorPq46
import Derived.Test.YtnkgjddkdikikaaGreatDoorPq49
import Derived.Deep.DeepCutAuto
import Derived.Test.YtnkgjddkdikikaaGreatDoorPq3
import Derived.Test.YtnkgjddkdikikaaGreatDoorPq7
import Derived.Test.YtnkgjddkdikikaaGreatDoorPq10
import Derived.Test.YtnkgjddkdikikaaGreatDoorPq13
import Derived.Test.YtnkgjddkdikikaaGreatDoorPq50
import Derived.Test.YtnkgjddkdikikaaGreatDoorPq5
import Derived.Test.YtnkgjddkdikikaaGreatDoorPq19
namespace Go.Proofs.YtnkgjddkdikikaaGreatDoor
namespace Ve
theorem Rch.app {req : Bm → List Bm} {a b : List Bm} {m : Bm} : Rch req (a ++ b) m ↔ Rch req a m ∨ Rch req b m := by
  constructor
  · intro h
    induction h with
    | root hr =>
      rcases List.mem_append.1 hr with h1 | h1
      · exact Or.inl (.root h1)
      · exact Or.inr (.root h1)
    | step _ hr ih =>
      rcases ih with h1 | h1
      · exact Or.inl (.step h1 hr)
      · exact Or.inr (.step h1 hr)
  · rintro (h | h)
    · exact h.mono fun m hm => List.mem_append_left _ hm
    · exact h.mono fun m hm => List.mem_append_right _ hm
end Ve
end Go.Proofs.YtnkgjddkdikikaaGreatDoor
namespace Go.Proofs.YtnkgjddkdikikaaGreatDoor
open Go.RowKit Go.Maps
namespace Ve
theorem goM_rises {w : World} {v : Value} {Q : List Raw} {L : List Ent} {T : By} (I : Ixs w v Q L) (h : (chk Q L).1 = 0) : (goM T Q).Pairwise fun a b => mAhead a b = true := by
  have h1 := univ_rises h
  rw [← univ_eq I] at h1
  have h2 : (goM T Q).Sublist (Q.map fun r => r.1) := by
    unfold goM goQ
    exact List.Sublist.map _ List.filter_sublist
  exact h1.sublist h2
theorem came_app {req : Bm → List Bm} {U a b : List Bm} {Ta Tb Tc : By} (ha : Came req U a Ta) (hb : Came req U b Tb) (hc : Came req U (a ++ b) Tc) (m : Bm) : cameB Tc m = (cameB Ta m || cameB Tb m) := by
  rw [Bool.eq_iff_iff, Bool.or_eq_true, hc.cameB, ha.cameB, hb.cameB]
  exact Rch.app
theorem goM_has {w : World} {v : Value} {Q : List Raw} {L : List Ent} {T : By} (I : Ixs w v Q L) {m : Bm} (hm : m ∈ univ L) : hasM (goM T Q) m = cameB T m := by
  rw [Bool.eq_iff_iff, hasM_iff]
  constructor
  · intro h
    obtain ⟨r, hr, rfl⟩ := List.mem_map.1 h
    exact (List.mem_filter.1 hr).2
  · intro h
    obtain ⟨e, he, rfl⟩ := List.mem_map.1 hm
    obtain ⟨j, hj, rfl⟩ := List.getElem_of_mem he
    have hjq : j < Q.length := by rw [I.ln]; exact hj
    have hm1 := (I.ok j hjq hj).m
    refine List.mem_map.2 ⟨Q[j], List.mem_filter.2 ⟨List.getElem_mem hjq, ?_⟩, hm1⟩
    show cameB T Q[j].1 = true
    rw [hm1]
    exact h
end Ve
end Go.Proofs.YtnkgjddkdikikaaGreatDoor
namespace Go.Proofs.YtnkgjddkdikikaaGreatDoor
open Go.RowKit Go.Maps
namespace Ve
theorem ms_at {W : World} {b o n c : Nat} {X : List Bm} (h : MsAt W (.slice (some ⟨b, o, none⟩) n c) X) {k : Nat} (hk : k < X.length) : W.cell? ⟨b, o + k * 2, none⟩ = some (.string X[k].1) ∧ W.cell? ⟨b, o + k * 2 + 1, none⟩ = some (.string X[k].2) := by
  obtain ⟨b', o', e, h1⟩ := h.cells hk
  injection e with e
  injection e with e1 e2
  subst e1 e2
  exact h1
theorem es_mod {W : World} {b o n c : Nat} {Q : List Raw} (h : EsAt W (.slice (some ⟨b, o, none⟩) n c) Q) {k : Nat} (hk : k < Q.length) : W.cell? ⟨b, o + k * 5, none⟩ = some (.string Q[k].1.1) ∧ W.cell? ⟨b, o + k * 5 + 1, none⟩ = some (.string Q[k].1.2) := by
  obtain ⟨a', c', e, _, _, h⟩ := h
  injection e with e1 e2 e3
  subst e1
  obtain ⟨b', o', e4, h4⟩ := h (by intro h0; rw [h0] at hk; simp at hk)
  injection e4 with e4
  injection e4 with e5 e6
  subst e5 e6
  exact ⟨(h4 k hk).1, (h4 k hk).2.1⟩
theorem chkG_both {w : World} {v : Value} {Q : List Raw} {L : List Ent} {a b : List Bm} (I : Ixs w v Q L) (h : (chkG Q L (a ++ b)).1 = 0) : (chkG Q L a).1 = 0 ∧ (chkG Q L b).1 = 0 := by
  have r := rgt_of I h
  exact ⟨chkG_in I r.c (fun m hm => r.r m (List.mem_append_left _ hm)), chkG_in I r.c (fun m hm => r.r m (List.mem_append_right _ hm))⟩
structure Gz (w0 W : World) (lv : Value) (Q0 : List Raw) (L : List Ent) (xv : Value) (X : List Bm) (yv : Value) (Y : List Bm) (zv : Value) (Z : List Bm) : Prop where
  bl : Below w0.heap.size w0 W
  i0 : Ixs W lv Q0 L
  xs : MsAt W xv X
  ys : MsAt W yv Y
  zs : MsAt W zv Z
theorem Gz.below {w0 W W' : World} {lv xv yv zv : Value} {Q0 : List Raw} {L : List Ent} {X Y Z : List Bm} (h : Gz w0 W lv Q0 L xv X yv Y zv Z) (hb : Below W.heap.size W W') : Gz w0 W' lv Q0 L xv X yv Y zv Z :=
  ⟨h.bl.trans (hb.mono h.bl.size), h.i0.below hb, h.xs.below hb, h.ys.below hb, h.zs.below hb⟩
set_option maxRecDepth 100000 in
set_option maxHeartbeats 2000000 in
theorem ga_head (Q0 : List Raw) (L : List Ent) (ra rb : List Bm) (v u s : Value) (A : Nat → Addr) (m : Int) (w : World) (S : Te w A m) (I : Ixs w v Q0 L) (em : EmI Q0 L) (hr : MsAt w u ra) (her : Em u ra) (hr2 : MsAt w s rb) (her2 : Em s rb) (hok : okI L = true) (hrk : okLN 10 ra = true) (hrk2 : okLN 10 rb = true) :
    Calls Tryz.prog 5 #[v, u, s] w fun e w' => e = .returned (.bool true) ∧ Below w.heap.size w w' := by
  obtain ⟨a0, c0, hv0, -⟩ := id I.es
  subst hv0
  obtain ⟨aa, ac, hu0, -⟩ := id hr
  subst hu0
  obtain ⟨ba, bc, hs0, -⟩ := id hr2
  subst hs0
  have hn101 : L.length ≤ 101 := by rcases (okI_iff hok).1 with h | h <;> omega
  have ha10 : ra.length ≤ 10 := (okLN_iff hrk).1
  have hb10 : rb.length ≤ 10 := (okLN_iff hrk2).1
  have HIN := hid (rdL_any A m w S)
  have HLO := hid (fun W (h : Below w.heap.size w W) => longI_any Q0 L _ W (I.below h))
  rw [if_pos hok] at HLO
  have HLM := hid (fun W (h : Below w.heap.size w W) => longN_any 10 (by decide) ra _ W (hr.below h))
  rw [if_pos hrk] at HLM
  have HLM2 := hid (fun W (h : Below w.heap.size w W) => longN_any 10 (by decide) rb _ W (hr2.below h))
  rw [if_pos hrk2] at HLM2
  have HOW := hid (fun W (h : Below w.heap.size w W) => ownI_any Q0 L _ W (by omega) (I.below h) em (okI_fits hok))
  have HOM := hid (fun W (h : Below w.heap.size w W) => ownM_any _ ra W (by omega) (hr.below h) her)
  have HOM2 := hid (fun W (h : Below w.heap.size w W) => ownM_any _ rb W (by omega) (hr2.below h) her2)
  have HS := hid S
  have HI := hid I
  have HR2 := hid hr2
  have HER2 := hid her2
  have HSH := hid (okI_sh hok)
  clear S I em hok hr her hr2 her2 hrk hrk2
  go_enter Tryz.func5, Tryz.ntmps5
  go_wp2_with fail
  refine HIN.out.mono ?_
  rintro e w1 ⟨rfl, hb⟩
  have HB1 := hid hb
  clear hb
  go_wp2_with fail
  refine (HLO.out w1 HB1.out).mono ?_
  rintro e w2 ⟨rfl, hb⟩
  have HB2 := hid (HB1.out.trans (hb.mono HB1.out.size))
  clear hb
  go_wp2_with fail
  refine (HLM.out w2 HB2.out).mono ?_
  rintro e w2a ⟨rfl, rfl⟩
  go_wp2_with fail
  refine (HLM2.out w2a HB2.out).mono ?_
  rintro e w2b ⟨rfl, rfl⟩
  go_wp2_with fail
  refine (HOW.out w2b HB2.out).mono ?_
  rintro e w3 ⟨ou, Q, rfl, hO, hb⟩
  have HB3 := hid (HB2.out.trans (hb.mono HB2.out.size))
  have HIX := hid hO.ixs
  obtain ⟨oa, oc, hou, -⟩ := id hO.ixs.es
  subst hou
  clear hb hO HLO HLM HLM2 HOW HIN HB1
  go_wp2_with fail
  refine (HOM.out w3 HB3.out).mono ?_
  rintro e w4 ⟨bu, rfl, hbo, -, hb⟩
  have hs34 := hb.size
  obtain ⟨dv, w5, hrun, hown5, hgr5⟩ := both_run ra rb bu _ w4 w3.heap.size hb.size (by omega) (by omega) hbo (HR2.out.below (HB3.out.trans (hb.mono HB3.out.size))) HER2.out
  obtain ⟨rab, hrab⟩ : ∃ rab, ra ++ rb = rab := ⟨_, rfl⟩
  rw [hrab] at hown5
  have HRAB := hid hrab
  have hrl : rab.length ≤ 1000000 := by rw [← hrab]; simp; omega
  clear hrab
  have HW35 := hid (show Below w3.heap.size w3 w5 from hb.grown hgr5 hb.size (fun k hk => (hbo.lt k hk).1))
  have HB5 := hid (HB3.out.trans (HW35.out.mono HB3.out.size))
  have HIX5 := hid (HIX.out.below HW35.out)
  have HDV := hid (own_ms hown5)
  have HRUN := hid hrun
  obtain ⟨bua, buc, hbu⟩ := own_slN hbo
  subst hbu
  obtain ⟨da, dc, hdv⟩ := own_slN hown5
  subst hdv
  clear hb hbo hown5 hgr5 hrun hs34 HIX
  go_wp2_with (at_builtin; refine Lib.wpList_append_run _ rfl _ _ _ _ rfl _ _ rfl rfl _ _ HRUN.out ?_)
  go_wp2_with fail
  refine (HOM.out w5 HB5.out).mono ?_
  rintro e w6 ⟨au, rfl, hao, -, hb⟩
  have HB6 := hid (HB5.out.trans (hb.mono HB5.out.size))
  have HIX6 := hid (HIX5.out.below hb)
  have HDV6 := hid (HDV.out.below hb)
  have HAO := hid (own_ms hao)
  obtain ⟨aua, auc, hau⟩ := own_slN hao
  subst hau
  clear hb hao HDV HIX5 HRUN HOM
  by_cases hca : (chkG Q L ra).1 = 0
  · have HCA := hid hca
    have HRE := hid (reach_good Q L ra _ _ A m w6 (by omega) (by omega) HSH.out (HS.out.below HB6.out) HIX6.out HAO.out hca)
    clear hca
    go_wp2_with fail
    refine HRE.out.mono ?_
    rintro e w7 ⟨xu, rfl, Ta, hcm, hxo, hb⟩
    have HCMA := hid hcm
    have HB7 := hid (HB6.out.trans (hb.mono HB6.out.size))
    have HIX7 := hid (HIX6.out.below hb)
    have HDV7 := hid (HDV6.out.below hb)
    have HXO := hid (own_ms hxo)
    obtain ⟨xa, xc, hxu⟩ := own_slN hxo
    subst hxu
    clear hb hcm hxo HRE HIX6 HDV6 HAO
    go_wp2_with fail
    refine (HOM2.out w7 HB7.out).mono ?_
    rintro e w8 ⟨bv, rfl, hbo, -, hb⟩
    have HB8 := hid (HB7.out.trans (hb.mono HB7.out.size))
    have HIX8 := hid (HIX7.out.below hb)
    have HDV8 := hid (HDV7.out.below hb)
    have HXO8 := hid (HXO.out.below hb)
    have HBO := hid (own_ms hbo)
    obtain ⟨bva, bvc, hbv⟩ := own_slN hbo
    subst hbv
    clear hb hbo HIX7 HDV7 HXO HOM2
    by_cases hcb : (chkG Q L rb).1 = 0
    · have HCB := hid hcb
      have HRE := hid (reach_good Q L rb _ _ A m w8 (by omega) (by omega) HSH.out (HS.out.below HB8.out) HIX8.out HBO.out hcb)
      clear hcb
      go_wp2_with fail
      refine HRE.out.mono ?_
      rintro e w9 ⟨yu, rfl, Tb, hcm, hyo, hb⟩
      have HCMB := hid hcm
      have HB9 := hid (HB8.out.trans (hb.mono HB8.out.size))
      have HIX9 := hid (HIX8.out.below hb)
      have HDV9 := hid (HDV8.out.below hb)
      have HXO9 := hid (HXO8.out.below hb)
      have HYO := hid (own_ms hyo)
      obtain ⟨ya, yc, hyu⟩ := own_slN hyo
      subst hyu
      have HRG := hid (rgt_of HIX9.out HCA.out)
      have HRG2 := hid (rgt_of HIX9.out HCB.out)
      have HRE2 := hid (reach_good Q L rab _ _ A m w9 (by omega) hrl HSH.out (HS.out.below HB9.out) HIX9.out HDV9.out (chkG_in HIX9.out HRG.out.c (fun x hx => by
        rw [← HRAB.out] at hx
        rcases List.mem_append.1 hx with h | h
        · exact HRG.out.r x h
        · exact HRG2.out.r x h)))
      clear hb hcm hyo HRE HIX8 HDV8 HXO8 HBO
      go_wp2_with fail
      refine HRE2.out.mono ?_
      rintro e w10 ⟨zu, rfl, Tc, hcm, hzo, hb⟩
      have HCMC := hid hcm
      have HB10 := hid (HB9.out.trans (hb.mono HB9.out.size))
      have HXO10 := hid (HXO9.out.below hb)
      have HYO10 := hid (HYO.out.below hb)
      have HZO := hid (own_ms hzo)
      obtain ⟨za, zc, hzu⟩ := own_slN hzo
      subst hzu
      have HHAS := hid (show ∀ x, x ∈ univ L → hasM (goM Tc Q) x = (hasM (goM Ta Q) x || hasM (goM Tb Q) x) from fun x hx => by rw [goM_has HIX9.out hx, goM_has HIX9.out hx, goM_has HIX9.out hx, came_app HCMA.out HCMB.out (by rw [HRAB.out]; exact hcm)])
      have HRIS := hid (goM_rises (T := Tc) HIX9.out HRG.out.c)
      have HZS := hid (show ∀ x, x ∈ goM Tc Q → x.2.size < 999999 from fun x hx => by
        obtain ⟨e, he, rfl⟩ := List.mem_map.1 (goM_univ HIX9.out hx)
        exact (HSH.out e he).v)
      have hZl : (goM Tc Q).length ≤ 1000000 := by have := goM_len Tc Q; have := HIX9.out.ln; omega
      have hXl : (goM Ta Q).length ≤ 1000000 := by have := goM_len Ta Q; have := HIX9.out.ln; omega
      have hYl : (goM Tb Q).length ≤ 1000000 := by have := goM_len Tb Q; have := HIX9.out.ln; omega
      have HI10 := hid (HI.out.below HB10.out)
      clear hb hcm hzo HRE2 HIX9 HDV9 HXO9 HYO HCMA HCMB HCMC HRG HRG2 HCA HCB HB2 HB3 HB5 HB6 HB7 HB8 HB9 HI HR2 HER2 HW35 HS HSH
      generalize goM Ta Q = X at *
      generalize goM Tb Q = Y at *
      generalize goM Tc Q = Z at *
      go_wp2_with fail
      have HQL := hid HI10.out.ln
      have hq0 : Q0.length ≤ 101 := by rw [HQL.out]; exact hn101
      obtain ⟨GG, hGG⟩ : ∃ GG : World → Prop, GG = fun W => Gz w W (.slice a0 Q0.length c0) Q0 L (.slice xa X.length xc) X (.slice ya Y.length yc) Y (.slice za Z.length zc) Z := ⟨_, rfl⟩
      have FG := hid (show ∀ W, GG W → Gz w W (.slice a0 Q0.length c0) Q0 L (.slice xa X.length xc) X (.slice ya Y.length yc) Y (.slice za Z.length zc) Z from fun W h => by rw [hGG] at h; exact h)
      have FB := hid (show ∀ W W', GG W → Below W.heap.size W W' → GG W' from fun W W' h hb => by rw [hGG] at h ⊢; exact Gz.below h hb)
      have HG0 := hid (show GG w10 by rw [hGG]; exact ⟨HB10.out, HI10.out, HXO10.out, HYO10.out, HZO.out⟩)
      clear hGG HB10 HXO10 HYO10 HZO HI10 hrl HRAB
      go_loopw [16] (fun iv wr => ∃ i : Nat, i ≤ Q0.length ∧ iv = .int .i64 i ∧ Hid (GG wr)) (fun iv _ => Q0.length - (intOf iv).toNat)
      case atStart => exact ⟨0, Nat.zero_le _, rfl, HG0⟩
      case round =>
        obtain ⟨i, hi, rfl, HG⟩ := hrel
        by_cases hlt : i < Q0.length
        · have hiI : (i : Int) < (Q0.length : Int) := Int.ofNat_lt.2 hlt
          have hi0 : (0 : Int) ≤ (i : Int) := Int.natCast_nonneg _
          obtain ⟨eb, eo, ha0, -⟩ := es_cells (FG.out _ HG.out).i0.es hlt
          subst ha0
          have HLI := hid hlt
          have HMC := hid (fun (W : World) (h : EsAt W (.slice (some ⟨eb, eo, none⟩) Q0.length c0) Q0) => es_mod h hlt)
          have HHM := hid (HHAS.out Q0[i].1 (by
            obtain ⟨h1, h2⟩ := ixs_get (FG.out _ HG.out).i0 hlt
            exact List.mem_map.2 ⟨L[i], List.getElem_mem h1, h2.symm⟩))
          generalize (Q0[i]'hlt).1 = mm at *
          clear hlt
          go_wp2_with fail
          go_loopw [17, 19] (fun bv kv wr => ∃ k : Nat, k ≤ X.length ∧ kv = .int .i64 k ∧ bv = .bool (hasM (X.take k) mm) ∧ Hid (GG wr)) (fun _ kv _ => X.length - (intOf kv).toNat)
          case atStart => exact ⟨0, Nat.zero_le _, rfl, by rw [hasM_nil], HG⟩
          case round =>
            obtain ⟨k1, hk1, rfl, rfl, HG1⟩ := hrel
            by_cases hlk : k1 < X.length
            · have hkI : (k1 : Int) < (X.length : Int) := Int.ofNat_lt.2 hlk
              have hk0 : (0 : Int) ≤ (k1 : Int) := Int.natCast_nonneg _
              obtain ⟨xb, xo, hxa, x0, x1⟩ := (FG.out _ HG1.out).xs.cells hlk
              subst hxa
              obtain ⟨z0, z1⟩ := HMC.out _ (FG.out _ HG1.out).i0.es
              have HNX := hid (hasM_next hlk mm)
              have HLK := hid hlk
              generalize X[k1] = x at *
              clear hlk
              have heq := fun W => eqM_run x mm W
              generalize hasM (X.take k1) mm = hc at *
              generalize eqM x mm = d at *
              obtain ⟨cur, hcur⟩ : ∃ cur, (hc) = cur := ⟨_, rfl⟩
              have HCU := hid (show (hasM (X.take (k1 + 1)) mm) = (cur || d) by rw [← hcur, HNX.out])
              rw [hcur]
              clear hcur HNX
              cases cur with
              | true =>
                go_wp2_with fail
                go_quiet (fail)
                go_wp2_with fail
                go_roundw
                case rel => first | exact ⟨k1 + 1, HLK.out, nr_idx k1, by first | exact (congrArg Value.bool HCU.out).symm | (rw [HCU.out]; rfl), hid (FB.out _ _ HG1.out (below_drawn _ _))⟩ | exact ⟨k1 + 1, HLK.out, nx_idx HLK.out hXl, by first | exact (congrArg Value.bool HCU.out).symm | (rw [HCU.out]; rfl), hid (FB.out _ _ HG1.out (below_drawn _ _))⟩
                case measure => first | exact nr_meas HLK.out | exact nx_meas HLK.out hXl
              | false =>
                go_wp2_with fail
                go_quiet (fail)
                go_wp2_with fail
                go_roundw
                case rel => first | exact ⟨k1 + 1, HLK.out, nr_idx k1, by first | exact (congrArg Value.bool HCU.out).symm | (rw [HCU.out]; rfl), hid (FB.out _ _ HG1.out (below_drawn _ _))⟩ | exact ⟨k1 + 1, HLK.out, nx_idx HLK.out hXl, by first | exact (congrArg Value.bool HCU.out).symm | (rw [HCU.out]; rfl), hid (FB.out _ _ HG1.out (below_drawn _ _))⟩
                case measure => first | exact nr_meas HLK.out | exact nx_meas HLK.out hXl
            · rw [hasM_all hlk]
              have hkI : ¬ (k1 : Int) < (X.length : Int) := fun h => hlk (Int.ofNat_lt.1 h)
              clear hlk
              generalize hasM X mm = inx at *
              go_wp2_with fail
              go_loopw [17, 20] (fun bv kv wr => ∃ k : Nat, k ≤ Y.length ∧ kv = .int .i64 k ∧ bv = .bool (inx || hasM (Y.take k) mm) ∧ Hid (GG wr)) (fun _ kv _ => Y.length - (intOf kv).toNat)
              case atStart => exact ⟨0, Nat.zero_le _, rfl, by rw [hasM_nil, Bool.or_false], HG1⟩
              case round =>
                obtain ⟨k2, hk2, rfl, rfl, HG2⟩ := hrel
                by_cases hlk : k2 < Y.length
                · have hkI : (k2 : Int) < (Y.length : Int) := Int.ofNat_lt.2 hlk
                  have hk0 : (0 : Int) ≤ (k2 : Int) := Int.natCast_nonneg _
                  obtain ⟨xb, xo, hxa, x0, x1⟩ := (FG.out _ HG2.out).ys.cells hlk
                  subst hxa
                  obtain ⟨z0, z1⟩ := HMC.out _ (FG.out _ HG2.out).i0.es
                  have HNX := hid (hasM_next hlk mm)
                  have HLK := hid hlk
                  generalize Y[k2] = x at *
                  clear hlk
                  have heq := fun W => eqM_run x mm W
                  generalize hasM (Y.take k2) mm = hc at *
                  generalize eqM x mm = d at *
                  obtain ⟨cur, hcur⟩ : ∃ cur, (inx || hc) = cur := ⟨_, rfl⟩
                  have HCU := hid (show (inx || hasM (Y.take (k2 + 1)) mm) = (cur || d) by rw [← hcur, HNX.out, Bool.or_assoc])
                  rw [hcur]
                  clear hcur HNX
                  cases cur with
                  | true =>
                    go_wp2_with fail
                    go_quiet (fail)
                    go_wp2_with fail
                    go_roundw
                    case rel => first | exact ⟨k2 + 1, HLK.out, nr_idx k2, by first | exact (congrArg Value.bool HCU.out).symm | (rw [HCU.out]; rfl), hid (FB.out _ _ HG2.out (below_drawn _ _))⟩ | exact ⟨k2 + 1, HLK.out, nx_idx HLK.out hYl, by first | exact (congrArg Value.bool HCU.out).symm | (rw [HCU.out]; rfl), hid (FB.out _ _ HG2.out (below_drawn _ _))⟩
                    case measure => first | exact nr_meas HLK.out | exact nx_meas HLK.out hYl
                  | false =>
                    go_wp2_with fail
                    go_quiet (fail)
                    go_wp2_with fail
                    go_roundw
                    case rel => first | exact ⟨k2 + 1, HLK.out, nr_idx k2, by first | exact (congrArg Value.bool HCU.out).symm | (rw [HCU.out]; rfl), hid (FB.out _ _ HG2.out (below_drawn _ _))⟩ | exact ⟨k2 + 1, HLK.out, nx_idx HLK.out hYl, by first | exact (congrArg Value.bool HCU.out).symm | (rw [HCU.out]; rfl), hid (FB.out _ _ HG2.out (below_drawn _ _))⟩
                    case measure => first | exact nr_meas HLK.out | exact nx_meas HLK.out hYl
                · rw [hasM_all hlk]
                  have hkI : ¬ (k2 : Int) < (Y.length : Int) := fun h => hlk (Int.ofNat_lt.1 h)
                  clear hlk
                  generalize hasM Y mm = iny at *
                  go_wp2_with fail
                  go_loopw [18, 21] (fun bv kv wr => ∃ k : Nat, k ≤ Z.length ∧ kv = .int .i64 k ∧ bv = .bool (hasM (Z.take k) mm) ∧ Hid (GG wr)) (fun _ kv _ => Z.length - (intOf kv).toNat)
                  case atStart => exact ⟨0, Nat.zero_le _, rfl, by rw [hasM_nil], HG2⟩
                  case round =>
                    obtain ⟨k3, hk3, rfl, rfl, HG3⟩ := hrel
                    by_cases hlk : k3 < Z.length
                    · have hkI : (k3 : Int) < (Z.length : Int) := Int.ofNat_lt.2 hlk
                      have hk0 : (0 : Int) ≤ (k3 : Int) := Int.natCast_nonneg _
                      obtain ⟨xb, xo, hxa, x0, x1⟩ := (FG.out _ HG3.out).zs.cells hlk
                      subst hxa
                      obtain ⟨z0, z1⟩ := HMC.out _ (FG.out _ HG3.out).i0.es
                      have HNX := hid (hasM_next hlk mm)
                      have HLK := hid hlk
                      generalize Z[k3] = x at *
                      clear hlk
                      have heq := fun W => eqM_run x mm W
                      generalize hasM (Z.take k3) mm = hc at *
                      generalize eqM x mm = d at *
                      obtain ⟨cur, hcur⟩ : ∃ cur, (hc) = cur := ⟨_, rfl⟩
                      have HCU := hid (show (hasM (Z.take (k3 + 1)) mm) = (cur || d) by rw [← hcur, HNX.out])
                      rw [hcur]
                      clear hcur HNX
                      cases cur with
                      | true =>
                        go_wp2_with fail
                        go_quiet (fail)
                        go_wp2_with fail
                        go_roundw
                        case rel => first | exact ⟨k3 + 1, HLK.out, nr_idx k3, by first | exact (congrArg Value.bool HCU.out).symm | (rw [HCU.out]; rfl), hid (FB.out _ _ HG3.out (below_drawn _ _))⟩ | exact ⟨k3 + 1, HLK.out, nx_idx HLK.out hZl, by first | exact (congrArg Value.bool HCU.out).symm | (rw [HCU.out]; rfl), hid (FB.out _ _ HG3.out (below_drawn _ _))⟩
                        case measure => first | exact nr_meas HLK.out | exact nx_meas HLK.out hZl
                      | false =>
                        go_wp2_with fail
                        go_quiet (fail)
                        go_wp2_with fail
                        go_roundw
                        case rel => first | exact ⟨k3 + 1, HLK.out, nr_idx k3, by first | exact (congrArg Value.bool HCU.out).symm | (rw [HCU.out]; rfl), hid (FB.out _ _ HG3.out (below_drawn _ _))⟩ | exact ⟨k3 + 1, HLK.out, nx_idx HLK.out hZl, by first | exact (congrArg Value.bool HCU.out).symm | (rw [HCU.out]; rfl), hid (FB.out _ _ HG3.out (below_drawn _ _))⟩
                        case measure => first | exact nr_meas HLK.out | exact nx_meas HLK.out hZl
                    · rw [hasM_all hlk]
                      have hkI : ¬ (k3 : Int) < (Z.length : Int) := fun h => hlk (Int.ofNat_lt.1 h)
                      clear hlk
                      rw [HHM.out]
                      generalize (inx || iny) = bb at *
                      cases bb with
                      | true =>
                        go_wp2_with fail
                        go_roundw
                        case rel => exact ⟨i + 1, HLI.out, nr_idx i, HG3⟩
                        case measure => exact nr_meas HLI.out
                      | false =>
                        go_wp2_with fail
                        go_roundw
                        case rel => exact ⟨i + 1, HLI.out, nr_idx i, HG3⟩
                        case measure => exact nr_meas HLI.out
        · have hiI : ¬ (i : Int) < (Q0.length : Int) := fun h => hlt (Int.ofNat_lt.1 h)
          clear hlt
          go_wp2_with fail
          go_loopw [22] (fun iv wr => ∃ i : Nat, 1 ≤ i ∧ iv = .int .i64 i ∧ Hid (GG wr)) (fun iv _ => Z.length - (intOf iv).toNat)
          case atStart => exact ⟨1, Nat.le_refl _, rfl, HG⟩
          case round =>
            obtain ⟨j, hj1, rfl, HG4⟩ := hrel
            by_cases hlj : j < Z.length
            · have hjI : (j : Int) < (Z.length : Int) := Int.ofNat_lt.2 hlj
              have hj0 : (0 : Int) ≤ (j : Int) := Int.natCast_nonneg _
              obtain ⟨zb, zo, hza, t0, t1⟩ := (FG.out _ HG4.out).zs.cells hlj
              subst hza
              have HJP := hid (show j - 1 < Z.length by omega)
              obtain ⟨s0, s1⟩ := ms_at (FG.out _ HG4.out).zs (k := j - 1) HJP.out
              have HIA := hid (fun W => isA_any (Z[j - 1]'HJP.out) Z[j] W (HZS.out _ (List.getElem_mem _)) (HZS.out _ (List.getElem_mem hlj)))
              have HAH := hid (List.pairwise_iff_getElem.1 HRIS.out (j - 1) j HJP.out hlj (by omega))
              have HLJ := hid hlj
              obtain ⟨zp, zk, s0', s1', t0', t1', hia⟩ : ∃ zp zk : Bm, wr.cell? ⟨zb, zo + (j - 1) * 2, none⟩ = some (.string zp.1) ∧ wr.cell? ⟨zb, zo + (j - 1) * 2 + 1, none⟩ = some (.string zp.2) ∧ wr.cell? ⟨zb, zo + j * 2, none⟩ = some (.string zk.1) ∧ wr.cell? ⟨zb, zo + j * 2 + 1, none⟩ = some (.string zk.2) ∧ ∀ W, Calls Tryz.prog 29 #[.agg #[.string zp.1, .string zp.2], .agg #[.string zk.1, .string zk.2]] W fun e w' => e = .returned (.bool true) ∧ Below W.heap.size W w' :=
                ⟨_, _, s0, s1, t0, t1, fun W => (HIA.out W).mono fun e w' h => by rw [HAH.out] at h; exact h⟩
              have HIB := hid hia
              clear s0 s1 t0 t1 hia HIA HAH hlj
              have kx1 : (0 : Int) ≤ (j : Int) - 1 := by omega
              have kx2 : (j : Int) - 1 < (Z.length : Int) := by omega
              have kx3 : IntKind.i64.wrap ((j : Int) - 1) = (j : Int) - 1 := by rw [IntKind.wrap_i64] <;> omega
              have kw64 : wrap64 ((j : Int) - 1) = (j : Int) - 1 := IntWalk.wrap64_in _ (by omega)
              have ktn : ((j : Int) - 1).toNat = j - 1 := by omega
              go_wp2_with fail
              go_region_with (go_at_call 29; refine (HIB.out _).mono ?_; rintro e w11 ⟨rfl, hb⟩; have HG5 := hid (FB.out _ _ (FB.out _ _ HG4.out (below_drawn _ 1)) hb); clear hb)
              all_goals
                clear kx1 kx2 kx3 kw64 ktn s0' s1' t0' t1'
                go_wp2_with fail
                go_roundw
                case rel => first | exact ⟨j + 1, Nat.le_succ_of_le hj1, nr_idx j, HG5⟩ | exact ⟨j + 1, Nat.le_succ_of_le hj1, nx_idx HLJ.out hZl, HG5⟩
                case measure => first | exact nr_meas HLJ.out | exact nx_meas HLJ.out hZl
            · have hjI : ¬ (j : Int) < (Z.length : Int) := fun h => hlj (Int.ofNat_lt.1 h)
              clear hlj
              go_wp2_with fail
              go_ret
              exact ⟨rfl, (FG.out _ HG4.out).bl⟩
    · have HRE := hid (reach_bad Q L rb _ _ A m w8 (by omega) (by omega) HSH.out (HS.out.below HB8.out) HIX8.out HBO.out hcb)
      have HNC := hid (show (chkG Q L rab).1 ≠ 0 from fun h => by rw [← HRAB.out] at h; exact hcb (chkG_both HIX8.out h).2)
      clear hcb
      go_wp2_with fail
      refine HRE.out.mono ?_
      rintro e w9 ⟨yT, ya, rfl, -, hb⟩
      have HB9 := hid (HB8.out.trans (hb.mono HB8.out.size))
      have HRE2 := hid (reach_bad Q L rab _ _ A m w9 (by omega) hrl HSH.out (HS.out.below HB9.out) (HIX8.out.below hb) (HDV8.out.below hb) HNC.out)
      clear hb HRE
      go_wp2_with fail
      refine HRE2.out.mono ?_
      rintro e w10 ⟨zT, za, rfl, -, hb⟩
      have HB10 := hid (HB9.out.trans (hb.mono HB9.out.size))
      clear hb HRE2
      go_wp2_with fail
      go_ret
      exact ⟨rfl, HB10.out⟩
  · have HRE := hid (reach_bad Q L ra _ _ A m w6 (by omega) (by omega) HSH.out (HS.out.below HB6.out) HIX6.out HAO.out hca)
    have HNC := hid (show (chkG Q L rab).1 ≠ 0 from fun h => by rw [← HRAB.out] at h; exact hca (chkG_both HIX6.out h).1)
    clear hca
    go_wp2_with fail
    refine HRE.out.mono ?_
    rintro e w7 ⟨xT, xa, rfl, -, hb⟩
    have HB7 := hid (HB6.out.trans (hb.mono HB6.out.size))
    have HIX7 := hid (HIX6.out.below hb)
    have HDV7 := hid (HDV6.out.below hb)
    clear hb HRE
    go_wp2_with fail
    refine (HOM2.out w7 HB7.out).mono ?_
    rintro e w8 ⟨bv, rfl, hbo, -, hb⟩
    have HB8 := hid (HB7.out.trans (hb.mono HB7.out.size))
    have HIX8 := hid (HIX7.out.below hb)
    have HDV8 := hid (HDV7.out.below hb)
    have HBO := hid (own_ms hbo)
    obtain ⟨bva, bvc, hbv⟩ := own_slN hbo
    subst hbv
    clear hb hbo HIX7 HDV7 HOM2
    by_cases hcb : (chkG Q L rb).1 = 0
    · have HRE := hid (reach_good Q L rb _ _ A m w8 (by omega) (by omega) HSH.out (HS.out.below HB8.out) HIX8.out HBO.out hcb)
      clear hcb
      go_wp2_with fail
      refine HRE.out.mono ?_
      rintro e w9 ⟨yu, rfl, Tb, -, hyo, hb⟩
      obtain ⟨ya, yc, hyu⟩ := own_slN hyo
      subst hyu
      have HB9 := hid (HB8.out.trans (hb.mono HB8.out.size))
      have HRE2 := hid (reach_bad Q L rab _ _ A m w9 (by omega) hrl HSH.out (HS.out.below HB9.out) (HIX8.out.below hb) (HDV8.out.below hb) HNC.out)
      clear hb HRE hyo
      go_wp2_with fail
      refine HRE2.out.mono ?_
      rintro e w10 ⟨zT, za, rfl, -, hb⟩
      have HB10 := hid (HB9.out.trans (hb.mono HB9.out.size))
      clear hb HRE2
      go_wp2_with fail
      go_ret
      exact ⟨rfl, HB10.out⟩
    · have HRE := hid (reach_bad Q L rb _ _ A m w8 (by omega) (by omega) HSH.out (HS.out.below HB8.out) HIX8.out HBO.out hcb)
      clear hcb
      go_wp2_with fail
      refine HRE.out.mono ?_
      rintro e w9 ⟨yT, ya, rfl, -, hb⟩
      have HB9 := hid (HB8.out.trans (hb.mono HB8.out.size))
      have HRE2 := hid (reach_bad Q L rab _ _ A m w9 (by omega) hrl HSH.out (HS.out.below HB9.out) (HIX8.out.below hb) (HDV8.out.below hb) HNC.out)
      clear hb HRE
      go_wp2_with fail
      refine HRE2.out.mono ?_
      rintro e w10 ⟨zT, za, rfl, -, hb⟩
      have HB10 := hid (HB9.out.trans (hb.mono HB9.out.size))
      clear hb HRE2
      go_wp2_with fail
      go_ret
      exact ⟨rfl, HB10.out⟩
end Ve
end Go.Proofs.YtnkgjddkdikikaaGreatDoor
namespace Go.Proofs.YtnkgjddkdikikaaGreatDoor
open Go.RowKit Go.Maps
namespace Ve
set_option maxRecDepth 100000 in
set_option maxHeartbeats 2000000 in
theorem ga_long (Q0 : List Raw) (L : List Ent) (ra rb : List Bm) (v u s : Value) (A : Nat → Addr) (m : Int) (w : World) (S : Te w A m) (I : Ixs w v Q0 L) (hr : MsAt w u ra) (hr2 : MsAt w s rb) (hok : okI L = false) :
    Calls Tryz.prog 5 #[v, u, s] w fun e w' => e = .returned (.bool true) ∧ Below w.heap.size w w' := by
  obtain ⟨a0, c0, hv0, -⟩ := id I.es
  subst hv0
  obtain ⟨aa, ac, hu0, -⟩ := id hr
  subst hu0
  obtain ⟨ba, bc, hs0, -⟩ := id hr2
  subst hs0
  have HIN := hid (rdL_any A m w S)
  have HLO := hid (fun W (h : Below w.heap.size w W) => longI_any Q0 L _ W (I.below h))
  rw [hok] at HLO
  clear S I hok hr hr2
  go_enter Tryz.func5, Tryz.ntmps5
  go_wp2_with fail
  refine HIN.out.mono ?_
  rintro e w1 ⟨rfl, hb⟩
  have HB1 := hid hb
  clear hb
  go_wp2_with fail
  refine (HLO.out w1 HB1.out).mono ?_
  rintro e w2 ⟨rfl, hb⟩
  have HB2 := hid (HB1.out.trans (hb.mono HB1.out.size))
  clear hb
  go_wp2_with fail
  go_ret
  exact ⟨rfl, HB2.out⟩
set_option maxRecDepth 100000 in
set_option maxHeartbeats 2000000 in
theorem ga_long2 (Q0 : List Raw) (L : List Ent) (ra rb : List Bm) (v u s : Value) (A : Nat → Addr) (m : Int) (w : World) (x y : Int) (S : Te w A m) (I : Ixs w v Q0 L) (hr : MsAt w u ra) (hr2 : MsAt w s rb) (hok : okI L = true) (hx : (if okLN 10 ra then (0 : Int) else 1) = x) (hy : (if okLN 10 rb then (0 : Int) else 1) = y) (hxy : (x = 1 ∧ y = 0) ∨ (x = 0 ∧ y = 1) ∨ (x = 1 ∧ y = 1)) :
    Calls Tryz.prog 5 #[v, u, s] w fun e w' => e = .returned (.bool true) ∧ Below w.heap.size w w' := by
  obtain ⟨a0, c0, hv0, -⟩ := id I.es
  subst hv0
  obtain ⟨aa, ac, hu0, -⟩ := id hr
  subst hu0
  obtain ⟨ba, bc, hs0, -⟩ := id hr2
  subst hs0
  have HIN := hid (rdL_any A m w S)
  have HLO := hid (fun W (h : Below w.heap.size w W) => longI_any Q0 L _ W (I.below h))
  rw [if_pos hok] at HLO
  have HLM := hid (fun W (h : Below w.heap.size w W) => longN_any 10 (by decide) ra _ W (hr.below h))
  rw [hx] at HLM
  have HLM2 := hid (fun W (h : Below w.heap.size w W) => longN_any 10 (by decide) rb _ W (hr2.below h))
  rw [hy] at HLM2
  clear S I hok hr hr2 hx hy
  rcases hxy with ⟨rfl, rfl⟩ | ⟨rfl, rfl⟩ | ⟨rfl, rfl⟩
  all_goals
    go_enter Tryz.func5, Tryz.ntmps5
    go_wp2_with fail
    refine HIN.out.mono ?_
    rintro e w1 ⟨rfl, hb⟩
    have HB1 := hid hb
    clear hb
    go_wp2_with fail
    refine (HLO.out w1 HB1.out).mono ?_
    rintro e w2 ⟨rfl, hb⟩
    have HB2 := hid (HB1.out.trans (hb.mono HB1.out.size))
    clear hb
    go_wp2_with fail
    refine (HLM.out w2 HB2.out).mono ?_
    rintro e w3 ⟨rfl, rfl⟩
    go_wp2_with fail
    refine (HLM2.out w3 HB2.out).mono ?_
    rintro e w4 ⟨rfl, rfl⟩
    go_wp2_with fail
    go_ret
    exact ⟨rfl, HB2.out⟩
theorem graphAdds_any (Q0 : List Raw) (L : List Ent) (ra rb : List Bm) (v u s : Value) (A : Nat → Addr) (m : Int) (w : World) (S : Te w A m) (I : Ixs w v Q0 L) (em : EmI Q0 L) (hr : MsAt w u ra) (her : Em u ra) (hr2 : MsAt w s rb) (her2 : Em s rb) :
    Calls Tryz.prog 5 #[v, u, s] w fun e w' => e = .returned (.bool true) ∧ Below w.heap.size w w' := by
  cases hok : okI L with
  | false => exact ga_long Q0 L ra rb v u s A m w S I hr hr2 hok
  | true =>
    cases hrk : okLN 10 ra with
    | false =>
      cases hrk2 : okLN 10 rb with
      | false => exact ga_long2 Q0 L ra rb v u s A m w 1 1 S I hr hr2 hok (by rw [hrk]; rfl) (by rw [hrk2]; rfl) (Or.inr (Or.inr ⟨rfl, rfl⟩))
      | true => exact ga_long2 Q0 L ra rb v u s A m w 1 0 S I hr hr2 hok (by rw [hrk]; rfl) (by rw [hrk2]; rfl) (Or.inl ⟨rfl, rfl⟩)
    | true =>
      cases hrk2 : okLN 10 rb with
      | false => exact ga_long2 Q0 L ra rb v u s A m w 0 1 S I hr hr2 hok (by rw [hrk]; rfl) (by rw [hrk2]; rfl) (Or.inr (Or.inl ⟨rfl, rfl⟩))
      | true => exact ga_head Q0 L ra rb v u s A m w S I em hr her hr2 her2 hok hrk hrk2
end Ve
end Go.Proofs.YtnkgjddkdikikaaGreatDoor
