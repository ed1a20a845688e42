/-
  PkO
-/
import Derived.Test.YtnkgjddkdikikaaGreatDoorPq3
import Derived.Test.YtnkgjddkdikikaaGreatDoorPq4
import Derived.Test.YtnkgjddkdikikaaGreatDoorPq7
import Derived.Test.YtnkgjddkdikikaaGreatDoorPq10
import Derived.Test.YtnkgjddkdikikaaGreatDoorPq13
import Derived.Test.YtnkgjddkdikikaaGreatDoorPq21
import Derived.Test.YtnkgjddkdikikaaGreatDoorPq2
import Derived.Test.YtnkgjddkdikikaaGreatDoorPq23
import Derived.Test.YtnkgjddkdikikaaGreatDoorPq25
import Derived.Test.YtnkgjddkdikikaaGreatDoorPq27
import Derived.Test.YtnkgjddkdikikaaGreatDoorPq24
import Derived.Test.YtnkgjddkdikikaaGreatDoorPq29
import Derived.Test.YtnkgjddkdikikaaGreatDoorPq31
import Derived.Test.YtnkgjddkdikikaaGreatDoorPq12
import Derived.Test.YtnkgjddkdikikaaGreatDoorPq5
import Derived.Test.YtnkgjddkdikikaaGreatDoorPq32
import Derived.Test.YtnkgjddkdikikaaGreatDoorPq38
import Derived.Test.YtnkgjddkdikikaaGreatDoorPq26
import Derived.Test.YtnkgjddkdikikaaGreatDoorPq49
import Derived.Test.YtnkgjddkdikikaaGreatDoorPq14
import Derived.Test.YtnkgjddkdikikaaGreatDoorPq84
import Derived.Test.YtnkgjddkdikikaaGreatDoorPq86
import Derived.Test.YtnkgjddkdikikaaGreatDoorPq87
namespace Go.Proofs.YtnkgjddkdikikaaGreatDoor
open Go.RowKit Go.Maps
namespace Ve
def PathC : Prop := ∀ (s : ByteArray) (A : Nat → Addr) (m : Int) (w : World), s.size ≤ 1000000 → Te w A m → Calls Tryz.prog 44 #[.string s] w fun e w' => e = .returned (errA A (pathErr s.data.toList)) ∧ Below w.heap.size w w'
theorem al_size {Q : List Raw} {L : List Ent} {E : List Bm} (hz : ∀ e, e ∈ L → e.1.1.size ≤ 70 ∧ e.1.2.size ≤ 60 ∧ e.2.1.length ≤ 25 ∧ (∀ m, m ∈ e.2.1 → m.1.size ≤ 70 ∧ m.2.size ≤ 60) ∧ e.2.2.1.length ≤ 15 ∧ ∀ x, x ∈ e.2.2.1 → x.size ≤ 70) {s : ByteArray} (hs : s ∈ alN Q L E) : s.size ≤ 1000 := by
  obtain ⟨m, _, hp⟩ := alN_mem.1 hs
  unfold pkOf packL at hp
  obtain ⟨x, hx, rfl⟩ := List.mem_map.1 hp
  unfold entOf at hx ⊢
  cases h : L[(idxOf (isM m) Q).toNat]? with
  | none => rw [h] at hx; cases hx
  | some e =>
    rw [h] at hx
    have he := hz e (List.mem_of_getElem? h)
    have h1 := he.2.2.2.2.2 x hx
    have h2 := he.1
    show (packT e.1.1 x).size ≤ 1000
    unfold packT
    split
    · omega
    · rw [ByteArray.size_append, ByteArray.size_append]
      show e.1.1.size + 1 + x.size ≤ 1000
      omega
theorem ms_capP {w : World} {a : Option Addr} {n c : Nat} {L : List Bm} (h : MsAt w (.slice a n c) L) : L.length ≤ c := by
  obtain ⟨a', c', e, hc, -⟩ := h
  injection e with _ _ e3
  rw [e3]; exact hc
theorem ms_oneP {w : World} {b o n c : Nat} {L : List Bm} (h : MsAt w (.slice (some ⟨b, o, none⟩) n c) L) {k : Nat} (hk : k < L.length) : MsAt w (.slice (some ⟨b, o + k * 2, none⟩) 1 (c - k)) [L[k]] := by
  have hc := ms_capP h
  obtain ⟨b', o', e, h1, h2⟩ := h.cells hk
  injection e with e
  injection e with e1 e2
  subst e1 e2
  refine ⟨_, _, rfl, by show 1 ≤ c - k; omega, fun _ => ⟨b, o + k * 2, rfl, fun j hj => ?_⟩⟩
  have : j = 0 := by simp at hj; omega
  subst this
  exact ⟨by simpa using h1, by simpa using h2⟩
set_option maxRecDepth 100000 in
set_option maxHeartbeats 16000000 in
theorem po_main {T : World → Prop} (OC : OfC T) (AC : AllC T) (PC : PathC) (KT : StayK T) (Q0 : List Raw) (L : List Ent) (R : List Bm) (v rv : Value) (A : Nat → Addr) (m : Int) (w : World) (S : Te w A m) (hT : T w) (I : Ixs w v Q0 L) (em : EmI Q0 L) (hr : MsAt w rv R) (hem : Em rv R) (hok : okI L = true) (hl30 : L.length ≤ 30) (hokR : okLN 15 R = true) :
    Calls Tryz.prog 9 #[v, rv] w fun e w' => e = .returned (.bool true) ∧ Below w.heap.size w w' := by
  have hR15 := (okLN_iff hokR).1
  have hq30 : Q0.length ≤ 30 := by rw [I.ln]; exact hl30
  have g2 : ¬ (30 : Int) < (Q0.length : Int) := by omega
  have HIN := hid (packed_any OC KT A m w S hT)
  have HLO := hid (fun W (h : Below w.heap.size w W) => longI_any Q0 L v W (I.below h))
  rw [if_pos hok] at HLO
  have HLM := hid (fun W (h : Below w.heap.size w W) => longN_any 15 (by decide) R rv W (hr.below h))
  rw [if_pos hokR] at HLM
  have HOW := hid (fun W (h : Below w.heap.size w W) => ownI_any Q0 L v W (by omega) (I.below h) em (okI_fits hok))
  have HOM := hid (fun W (h : Below w.heap.size w W) => ownM_any rv R W (by omega) (hr.below h) hem)
  have HBU := hid (fun Q u ru W (h : Below w.heap.size w W) (J : Ixs W u Q L) (hm : MsAt W ru R) => build_all Q L R u ru A m W (by omega) (by omega) (okI_sh hok) (S.below h) J hm)
  have HPA := hid (fun Q u E ru W (h : Below w.heap.size w W) (hE : E.length ≤ 1000) (J : Ixs W u Q L) (hm : MsAt W ru E) => AC Q L E u ru A m W (by omega) (okI_sh hok) (ixs_shQ J hok) hE (S.below h) (KT w W hT h) J hm)
  have HPO := hid (fun Q u E ru p W (h : Below w.heap.size w W) (hE : E.length ≤ 1000) (hf : (hvL Q L E p).length ≤ 19) (hp : p.size ≤ 1000) (J : Ixs W u Q L) (hm : MsAt W ru E) => OC Q L E p u ru A m W (by omega) (okI_sh hok) (ixs_shQ J hok) hE hf hp (S.below h) (KT w W hT h) J hm)
  have HPC := hid (fun s W (h : Below w.heap.size w W) (hs : s.size ≤ 1000) => PC s A m W (by omega) (S.below h))
  have HSZ := hid (okI_iff hok).2
  have HSH := hid (okI_sh hok)
  obtain ⟨a0, c0, hv0, -⟩ := id I.es
  subst hv0
  obtain ⟨ra, rc, hrv, -⟩ := id hr
  subst hrv
  clear S I em hr hem hok hokR OC AC PC KT hT
  go_enter Tryz.func9, Tryz.ntmps9
  go_wp2_with fail
  refine HIN.out.mono ?_
  rintro e w1 ⟨rfl, hb⟩
  have HB1 := hid hb
  clear hb HIN
  go_wp2_with fail
  refine (HLO.out w1 HB1.out).mono ?_
  rintro e w2 ⟨rfl, hb⟩
  have HB2 := hid (HB1.out.trans (hb.mono HB1.out.size))
  clear hb HLO HB1
  go_wp2_with fail
  refine (HLM.out w2 HB2.out).mono ?_
  rintro e w3 ⟨rfl, rfl⟩
  clear HLM
  go_wp2_with fail
  refine (HOW.out w3 HB2.out).mono ?_
  rintro e w4 ⟨ou, Q, rfl, hO, hb⟩
  have HB4 := hid (HB2.out.trans (hb.mono HB2.out.size))
  have HJ4 := hid hO.ixs
  obtain ⟨oa, oc, hou, -⟩ := id hO.ixs.es
  subst hou
  clear hb hO HOW HB2
  go_wp2_with fail
  refine (HOM.out w4 HB4.out).mono ?_
  rintro e w5 ⟨ru, rfl, hown, -, hb⟩
  have HB5 := hid (HB4.out.trans (hb.mono HB4.out.size))
  have HJ5 := hid (HJ4.out.below hb)
  have HP5 := hid (HBU.out Q _ ru w5 HB5.out HJ5.out (own_ms hown))
  obtain ⟨ua, un, uc, hru⟩ := own_sl hown
  subst hru
  clear hb hown HBU HJ4 HB4 HOM
  go_wp2_with fail
  refine HP5.out.mono ?_
  rintro e w6 ⟨sa, sc, x, rfl, hM, he⟩
  have HB6 := hid (HB5.out.trans (hM.1.mono HB5.out.size))
  have HJ6 := hid (HJ5.out.below hM.1)
  have HM6 := hid hM.ms
  clear HP5 HJ5 HB5
  by_cases hg : (chkG Q L R).1 = 0
  · rw [rF_good hg] at he
    have hU : ∀ m, m ∈ bX Q L R → m ∈ univ L := bX_univ
    have hc := chkG_chk hg
    have HAF := hid (alF_ok HJ6.out hc hU)
    have HAX := hid (alX_ok HJ6.out hc hU)
    have hEl : (bX Q L R).length ≤ 30 := Nat.le_trans bX_len hl30
    have HU := hid hU
    have HFW := hid (fun s => hv_few HJ6.out hc hU (rising_nd (bX_jn Q L R).ri) s)
    have HC := hid hc
    have HA6 := hid (HPA.out Q _ (bX Q L R) _ w6 HB6.out (by omega) HJ6.out HM6.out)
    rw [HAF.out, HAX.out] at HA6
    rcases he.kind with ⟨-, rfl⟩ | ⟨h0, -⟩
    · clear he hM hg hU hc
      generalize bX Q L R = E at *
      go_wp2_with fail
      refine HA6.out.mono ?_
      rintro e w7 ⟨xv, y, rfl, hx, he, hb⟩
      have HB7 := hid (HB6.out.trans (hb.mono HB6.out.size))
      have HJ7 := hid (HJ6.out.below hb)
      have HM7 := hid (HM6.out.below hb)
      have HX7 := hid hx
      obtain ⟨xa, xc, hx1, -⟩ := hx
      subst hx1
      rcases he.kind with ⟨-, rfl⟩ | ⟨h0, -⟩
      · clear he hb HA6 HB6 HJ6 HM6
        have HXS := hid (show ∀ s, s ∈ alN Q L E → s.size ≤ 1000 from fun s hs => al_size HSZ.out hs)
        have HXL := hid (show (alN Q L E).length ≤ 1000000 by rw [← HAX.out]; exact al_len HSH.out (by omega))
        have HOK := hid (fun s (hs : s ∈ alN Q L E) hp => of_ok HJ7.out HC.out HU.out hs hp)
        have HIS := hid (fun s (h : (ofF Q L E s).1 = 0) => of_is h)
        have HPR := hid (fun m (hm : m ∈ univ L) s (hs : s ∈ pkOf Q L m) => pack_pre HJ7.out hm hs)
        have HOX := hid (fun m (hm : m ∈ univ L) => And.intro (alF_ok HJ7.out HC.out (R := [m]) (fun x hx => by rw [List.mem_singleton.1 hx]; exact hm)) (alX_ok HJ7.out HC.out (R := [m]) (fun x hx => by rw [List.mem_singleton.1 hx]; exact hm)))
        generalize hXX : alN Q L E = XX at *
        clear hXX
        have hXl := HXL.out
        go_wp2_with fail
        go_loopw [10] (fun iv wr => ∃ i : Nat, i ≤ XX.length ∧ iv = .int .i64 i ∧ Hid (Below w7.heap.size w7 wr)) (fun iv _ => XX.length - (intOf iv).toNat)
        case atStart => exact ⟨0, Nat.zero_le _, rfl, hid (Below.refl _ _)⟩
        case round =>
          obtain ⟨i, hi9, rfl, HBR⟩ := hrel
          by_cases hlt : i < XX.length
          · have hiI := ix_lt hlt
            have hi0 := ix_pos i
            have HLT := hid hlt
            obtain ⟨xb, xo, hxa, y0⟩ := tx_cellK HX7.out hlt
            subst hxa
            have HYW := hid (fun W (h : Below w7.heap.size w7 W) => cell_below h y0)
            have HBW := hid (fun W (h : Below w7.heap.size w7 W) => HB7.out.trans (h.mono HB7.out.size))
            have HSS := hid (HXS.out _ (List.getElem_mem hlt))
            have HPT := hid (fun W (h : Below w7.heap.size w7 W) => HPC.out XX[i] W (HBW.out W h) HSS.out)
            have HOF := hid (fun W (h : Below w7.heap.size w7 W) => HPO.out Q _ E _ XX[i] W (HBW.out W h) (by omega) (HFW.out XX[i]) HSS.out (HJ7.out.below h) (HM7.out.below h))
            have HOK1 := hid (HOK.out XX[i] (List.getElem_mem hlt))
            have HIS1 := hid (HIS.out XX[i])
            clear y0
            have y0 := HYW.out _ HBR.out
            generalize XX[i] = s at *
            obtain ⟨wo, hwo⟩ : ∃ wo, wo = wr := ⟨_, rfl⟩
            subst hwo
            clear hlt
            obtain ⟨pe, hpe⟩ : ∃ pe, errA A (pathErr s.data.toList) = pe := ⟨_, rfl⟩
            have HPE := hid hpe
            rw [hpe] at HPT
            clear hpe
            go_wp2_with fail
            refine (HPT.out _ HBR.out).mono ?_
            rintro e w9 ⟨rfl, hb⟩
            have HB9 := hid (HBR.out.trans (hb.mono HBR.out.size))
            clear hb y0
            have y0 := HYW.out _ HB9.out
            go_wp2_with fail
            refine (HOF.out _ HB9.out).mono ?_
            rintro e w10 ⟨x, rfl, he, hb⟩
            have HB10 := hid (HB9.out.trans (hb.mono HB9.out.size))
            clear hb y0
            obtain ⟨M, hM⟩ : ∃ M, ofM Q L E s = M := ⟨_, rfl⟩
            rw [hM] at HIS1 ⊢
            clear hM
            obtain ⟨M1, M2⟩ := M
            have HBA := hid (HB10.out.alloc HB10.out.size (.cells #[.string M1, .string M2] 35))
            have HMB := hid (heap_new w10 (.cells #[.string M1, .string M2] 35))
            by_cases hf : (ofF Q L E s).1 = 0
            · rcases he.kind with ⟨-, rfl⟩ | ⟨h0, -⟩
              · have HI1 := hid (HIS1.out hf)
                clear he hf
                go_wp2_with fail
                generalize w10.alloc (.cells #[.string M1, .string M2] 35) = w11 at *
                have HNW := hid (fun W (h : Below w11.heap.size w11 W) => HBA.out.trans (h.mono HBA.out.size))
                have HSC := hid (ms_capP HM7.out)
                go_loopw [14, 15] (fun bv kv wr => ∃ k : Nat, k ≤ E.length ∧ kv = .int .i64 k ∧ bv = .bool (hasB (E.take k) (M1, M2)) ∧ Hid (Below w11.heap.size w11 wr)) (fun _ kv _ => E.length - (intOf kv).toNat)
                case atStart => exact ⟨0, Nat.zero_le _, rfl, rfl, hid (Below.refl _ _)⟩
                case round =>
                  obtain ⟨k, hk9, rfl, rfl, HBK⟩ := hrel
                  by_cases hlk : k < E.length
                  · have hkI := ix_lt hlk
                    have hk0 := ix_pos k
                    have HLK := hid hlk
                    have hsc := HSC.out
                    have hkp := ix_pos1 k
                    have hkc : (k : Int) + 1 ≤ (sc : Int) := by omega
                    have hkw := ix_w1 hlk (by omega : E.length ≤ 1000000)
                    have hkk := ix_k1 hlk (by omega : E.length ≤ 1000000)
                    have hkn := ix_nat1 k
                    have hks : ¬ sc = k := by omega
                    have hks2 : ¬ sc - k = 0 := by omega
                    obtain ⟨sb, so, hsa, y0, y1⟩ := HM7.out.cells hlk
                    subst hsa
                    have HCK := hid (fun W (h : Below w11.heap.size w11 W) => And.intro (cell_below (HNW.out W h) y0) (And.intro (cell_below (HNW.out W h) y1) (bx2 ((h.block _ (lt_of_blk HMB.out)).trans HMB.out))))
                    have HHN := hid (hasB_next hlk (M1, M2))
                    have HUK := hid (HU.out _ (List.getElem_mem hlk))
                    have HI2 := hid (HI1.out.2.2 _ (List.getElem_mem hlk))
                    have HI3 := hid HI1.out.2.1
                    have HMK := hid (fun W (h : Below w11.heap.size w11 W) => ms_oneP (HM7.out.below (HNW.out W h)) hlk)
                    clear y0 y1
                    obtain ⟨z0, z1, d0, d1, df⟩ := HCK.out _ HBK.out
                    generalize E[k] = x at *
                    obtain ⟨x1, x2'⟩ := x
                    generalize hasB (E.take k) (M1, M2) = hb0 at *
                    clear hlk
                    by_cases heq : x1 = M1 ∧ x2' = M2
                    · obtain ⟨rfl, rfl⟩ := heq
                      have hs1 := str_rf x1
                      have hs2 := str_rf x2'
                      rw [show decide ((x1, x2').1 = x1 ∧ (x1, x2').2 = x2') = true from decide_eq_true ⟨rfl, rfl⟩, Bool.or_true] at HHN
                      cases hb0
                      · go_wp2_with fail
                        go_quiet (fail)
                        have HBq := hid (HBK.out.trans ((below_drawn wr nq).mono HBK.out.size))
                        generalize wr.drewN nq = wq at *
                        clear z0 z1 d0 d1 df
                        have HA := hid (HPA.out Q _ [(x1, x2')] _ wq (HBW.out _ (HNW.out _ HBq.out)) (by simp) (HJ7.out.below (HNW.out _ HBq.out)) (HMK.out _ HBq.out))
                        rw [(HOX.out _ HUK.out).1, (HOX.out _ HUK.out).2] at HA
                        obtain ⟨z0, z1, d0, d1, df⟩ := HCK.out _ HBq.out
                        go_wp2_with fail
                        refine HA.out.mono ?_
                        rintro e wa ⟨ov, y, rfl, ho, he, hb⟩
                        have HBa := hid (HBq.out.trans (hb.mono HBq.out.size))
                        have hy : y = .nilIface := by
                          rcases he.kind with ⟨-, h0⟩ | ⟨h0, -⟩
                          · exact h0
                          · exact absurd rfl h0
                        subst hy
                        have HIT := hid (inT_any s _ ov wa (al_one HSH.out) ho)
                        obtain ⟨oa', oc', ho1, -⟩ := ho
                        subst ho1
                        clear he hb z0 z1 d0 d1 df HA
                        obtain ⟨z0, z1, d0, d1, df⟩ := HCK.out _ HBa.out
                        have q0 := HYW.out _ (HNW.out _ HBa.out)
                        have hin : inB s (alN Q L [(x1, x2')]) = true := inB_iff.2 (alN_one.2 HI3.out)
                        rw [hin] at HIT
                        clear hin
                        have hgt : ¬ (x1.size : Int) < (x1.size : Int) := by omega
                        have hgd : decide ((x1.size : Int) < (x1.size : Int)) = false := decide_eq_false hgt
                        have hgn : decide (x1.size < x1.size) = false := decide_eq_false (by omega)
                        go_wp2_with fail
                        refine HIT.out.mono ?_
                        rintro e wb ⟨rfl, rfl⟩
                        go_wp2_with fail
                        go_quiet (fail)
                        have HBz := hid (HBa.out.trans ((below_drawn _ nq).mono HBa.out.size))
                        go_wp2_with fail
                        go_roundw
                        case rel => exact ⟨k + 1, HLK.out, by first | exact nr_idx k | exact nx_idx HLK.out (by omega : E.length ≤ 1000000), by rw [HHN.out], HBz⟩
                        case measure => first | exact nr_meas HLK.out | exact nx_meas HLK.out (by omega : E.length ≤ 1000000)
                      · go_wp2_with fail
                        go_quiet (fail)
                        have HBq := hid (HBK.out.trans ((below_drawn wr nq).mono HBK.out.size))
                        generalize wr.drewN nq = wq at *
                        clear z0 z1 d0 d1 df
                        have HA := hid (HPA.out Q _ [(x1, x2')] _ wq (HBW.out _ (HNW.out _ HBq.out)) (by simp) (HJ7.out.below (HNW.out _ HBq.out)) (HMK.out _ HBq.out))
                        rw [(HOX.out _ HUK.out).1, (HOX.out _ HUK.out).2] at HA
                        obtain ⟨z0, z1, d0, d1, df⟩ := HCK.out _ HBq.out
                        go_wp2_with fail
                        refine HA.out.mono ?_
                        rintro e wa ⟨ov, y, rfl, ho, he, hb⟩
                        have HBa := hid (HBq.out.trans (hb.mono HBq.out.size))
                        have hy : y = .nilIface := by
                          rcases he.kind with ⟨-, h0⟩ | ⟨h0, -⟩
                          · exact h0
                          · exact absurd rfl h0
                        subst hy
                        have HIT := hid (inT_any s _ ov wa (al_one HSH.out) ho)
                        obtain ⟨oa', oc', ho1, -⟩ := ho
                        subst ho1
                        clear he hb z0 z1 d0 d1 df HA
                        obtain ⟨z0, z1, d0, d1, df⟩ := HCK.out _ HBa.out
                        have q0 := HYW.out _ (HNW.out _ HBa.out)
                        have hin : inB s (alN Q L [(x1, x2')]) = true := inB_iff.2 (alN_one.2 HI3.out)
                        rw [hin] at HIT
                        clear hin
                        have hgt : ¬ (x1.size : Int) < (x1.size : Int) := by omega
                        have hgd : decide ((x1.size : Int) < (x1.size : Int)) = false := decide_eq_false hgt
                        have hgn : decide (x1.size < x1.size) = false := decide_eq_false (by omega)
                        go_wp2_with fail
                        refine HIT.out.mono ?_
                        rintro e wb ⟨rfl, rfl⟩
                        go_wp2_with fail
                        go_quiet (fail)
                        have HBz := hid (HBa.out.trans ((below_drawn _ nq).mono HBa.out.size))
                        go_wp2_with fail
                        go_roundw
                        case rel => exact ⟨k + 1, HLK.out, by first | exact nr_idx k | exact nx_idx HLK.out (by omega : E.length ≤ 1000000), by rw [HHN.out], HBz⟩
                        case measure => first | exact nr_meas HLK.out | exact nx_meas HLK.out (by omega : E.length ≤ 1000000)
                    · rw [show decide (M1 = x1 ∧ M2 = x2') = false from decide_eq_false (fun h => heq ⟨h.1.symm, h.2.symm⟩), Bool.or_false] at HHN
                      by_cases h1 : x1 = M1
                      · have h2 : ¬ x2' = M2 := fun h2 => heq ⟨h1, h2⟩
                        clear heq
                        subst h1
                        have hs1 := str_rf x1
                        have hs2 := str_ne h2
                        clear h2
                        cases hb0
                        · go_wp2_with fail
                          go_quiet (fail)
                          have HBq := hid (HBK.out.trans ((below_drawn wr nq).mono HBK.out.size))
                          generalize wr.drewN nq = wq at *
                          clear z0 z1 d0 d1 df
                          have HA := hid (HPA.out Q _ [(x1, x2')] _ wq (HBW.out _ (HNW.out _ HBq.out)) (by simp) (HJ7.out.below (HNW.out _ HBq.out)) (HMK.out _ HBq.out))
                          rw [(HOX.out _ HUK.out).1, (HOX.out _ HUK.out).2] at HA
                          obtain ⟨z0, z1, d0, d1, df⟩ := HCK.out _ HBq.out
                          go_wp2_with fail
                          refine HA.out.mono ?_
                          rintro e wa ⟨ov, y, rfl, ho, he, hb⟩
                          have HBa := hid (HBq.out.trans (hb.mono HBq.out.size))
                          have hy : y = .nilIface := by
                            rcases he.kind with ⟨-, h0⟩ | ⟨h0, -⟩
                            · exact h0
                            · exact absurd rfl h0
                          subst hy
                          have HIT := hid (inT_any s _ ov wa (al_one HSH.out) ho)
                          obtain ⟨oa', oc', ho1, -⟩ := ho
                          subst ho1
                          clear he hb z0 z1 d0 d1 df HA
                          obtain ⟨z0, z1, d0, d1, df⟩ := HCK.out _ HBa.out
                          have q0 := HYW.out _ (HNW.out _ HBa.out)
                          cases hin : inB s (alN Q L [(x1, x2')])
                          · rw [hin] at HIT
                            clear hin
                            go_wp2_with fail
                            refine HIT.out.mono ?_
                            rintro e wb ⟨rfl, rfl⟩
                            go_wp2_with fail
                            go_quiet (fail)
                            have HBz := hid (HBa.out.trans ((below_drawn _ nq).mono HBa.out.size))
                            go_wp2_with fail
                            go_roundw
                            case rel => exact ⟨k + 1, HLK.out, by first | exact nr_idx k | exact nx_idx HLK.out (by omega : E.length ≤ 1000000), by rw [HHN.out], HBz⟩
                            case measure => first | exact nr_meas HLK.out | exact nx_meas HLK.out (by omega : E.length ≤ 1000000)
                          · have hle := HI2.out (alN_one.1 (inB_iff.1 hin))
                            rw [hin] at HIT
                            clear hin
                            have hgt : ¬ (x1.size : Int) < (x1.size : Int) := by omega
                            have hgd : decide ((x1.size : Int) < (x1.size : Int)) = false := decide_eq_false hgt
                            have hgn : decide (x1.size < x1.size) = false := decide_eq_false (by omega)
                            go_wp2_with fail
                            refine HIT.out.mono ?_
                            rintro e wb ⟨rfl, rfl⟩
                            go_wp2_with fail
                            go_quiet (fail)
                            have HBz := hid (HBa.out.trans ((below_drawn _ nq).mono HBa.out.size))
                            go_wp2_with fail
                            go_roundw
                            case rel => exact ⟨k + 1, HLK.out, by first | exact nr_idx k | exact nx_idx HLK.out (by omega : E.length ≤ 1000000), by rw [HHN.out], HBz⟩
                            case measure => first | exact nr_meas HLK.out | exact nx_meas HLK.out (by omega : E.length ≤ 1000000)
                        · go_wp2_with fail
                          go_quiet (fail)
                          have HBq := hid (HBK.out.trans ((below_drawn wr nq).mono HBK.out.size))
                          generalize wr.drewN nq = wq at *
                          clear z0 z1 d0 d1 df
                          have HA := hid (HPA.out Q _ [(x1, x2')] _ wq (HBW.out _ (HNW.out _ HBq.out)) (by simp) (HJ7.out.below (HNW.out _ HBq.out)) (HMK.out _ HBq.out))
                          rw [(HOX.out _ HUK.out).1, (HOX.out _ HUK.out).2] at HA
                          obtain ⟨z0, z1, d0, d1, df⟩ := HCK.out _ HBq.out
                          go_wp2_with fail
                          refine HA.out.mono ?_
                          rintro e wa ⟨ov, y, rfl, ho, he, hb⟩
                          have HBa := hid (HBq.out.trans (hb.mono HBq.out.size))
                          have hy : y = .nilIface := by
                            rcases he.kind with ⟨-, h0⟩ | ⟨h0, -⟩
                            · exact h0
                            · exact absurd rfl h0
                          subst hy
                          have HIT := hid (inT_any s _ ov wa (al_one HSH.out) ho)
                          obtain ⟨oa', oc', ho1, -⟩ := ho
                          subst ho1
                          clear he hb z0 z1 d0 d1 df HA
                          obtain ⟨z0, z1, d0, d1, df⟩ := HCK.out _ HBa.out
                          have q0 := HYW.out _ (HNW.out _ HBa.out)
                          cases hin : inB s (alN Q L [(x1, x2')])
                          · rw [hin] at HIT
                            clear hin
                            go_wp2_with fail
                            refine HIT.out.mono ?_
                            rintro e wb ⟨rfl, rfl⟩
                            go_wp2_with fail
                            go_quiet (fail)
                            have HBz := hid (HBa.out.trans ((below_drawn _ nq).mono HBa.out.size))
                            go_wp2_with fail
                            go_roundw
                            case rel => exact ⟨k + 1, HLK.out, by first | exact nr_idx k | exact nx_idx HLK.out (by omega : E.length ≤ 1000000), by rw [HHN.out], HBz⟩
                            case measure => first | exact nr_meas HLK.out | exact nx_meas HLK.out (by omega : E.length ≤ 1000000)
                          · have hle := HI2.out (alN_one.1 (inB_iff.1 hin))
                            rw [hin] at HIT
                            clear hin
                            have hgt : ¬ (x1.size : Int) < (x1.size : Int) := by omega
                            have hgd : decide ((x1.size : Int) < (x1.size : Int)) = false := decide_eq_false hgt
                            have hgn : decide (x1.size < x1.size) = false := decide_eq_false (by omega)
                            go_wp2_with fail
                            refine HIT.out.mono ?_
                            rintro e wb ⟨rfl, rfl⟩
                            go_wp2_with fail
                            go_quiet (fail)
                            have HBz := hid (HBa.out.trans ((below_drawn _ nq).mono HBa.out.size))
                            go_wp2_with fail
                            go_roundw
                            case rel => exact ⟨k + 1, HLK.out, by first | exact nr_idx k | exact nx_idx HLK.out (by omega : E.length ≤ 1000000), by rw [HHN.out], HBz⟩
                            case measure => first | exact nr_meas HLK.out | exact nx_meas HLK.out (by omega : E.length ≤ 1000000)
                      · have hs1 := str_ne h1
                        clear heq h1
                        cases hb0
                        · go_wp2_with fail
                          go_quiet (fail)
                          have HBq := hid (HBK.out.trans ((below_drawn wr nq).mono HBK.out.size))
                          generalize wr.drewN nq = wq at *
                          clear z0 z1 d0 d1 df
                          have HA := hid (HPA.out Q _ [(x1, x2')] _ wq (HBW.out _ (HNW.out _ HBq.out)) (by simp) (HJ7.out.below (HNW.out _ HBq.out)) (HMK.out _ HBq.out))
                          rw [(HOX.out _ HUK.out).1, (HOX.out _ HUK.out).2] at HA
                          obtain ⟨z0, z1, d0, d1, df⟩ := HCK.out _ HBq.out
                          go_wp2_with fail
                          refine HA.out.mono ?_
                          rintro e wa ⟨ov, y, rfl, ho, he, hb⟩
                          have HBa := hid (HBq.out.trans (hb.mono HBq.out.size))
                          have hy : y = .nilIface := by
                            rcases he.kind with ⟨-, h0⟩ | ⟨h0, -⟩
                            · exact h0
                            · exact absurd rfl h0
                          subst hy
                          have HIT := hid (inT_any s _ ov wa (al_one HSH.out) ho)
                          obtain ⟨oa', oc', ho1, -⟩ := ho
                          subst ho1
                          clear he hb z0 z1 d0 d1 df HA
                          obtain ⟨z0, z1, d0, d1, df⟩ := HCK.out _ HBa.out
                          have q0 := HYW.out _ (HNW.out _ HBa.out)
                          cases hin : inB s (alN Q L [(x1, x2')])
                          · rw [hin] at HIT
                            clear hin
                            go_wp2_with fail
                            refine HIT.out.mono ?_
                            rintro e wb ⟨rfl, rfl⟩
                            go_wp2_with fail
                            go_quiet (fail)
                            have HBz := hid (HBa.out.trans ((below_drawn _ nq).mono HBa.out.size))
                            go_wp2_with fail
                            go_roundw
                            case rel => exact ⟨k + 1, HLK.out, by first | exact nr_idx k | exact nx_idx HLK.out (by omega : E.length ≤ 1000000), by rw [HHN.out], HBz⟩
                            case measure => first | exact nr_meas HLK.out | exact nx_meas HLK.out (by omega : E.length ≤ 1000000)
                          · have hle := HI2.out (alN_one.1 (inB_iff.1 hin))
                            rw [hin] at HIT
                            clear hin
                            have hgt : ¬ (M1.size : Int) < (x1.size : Int) := by omega
                            have hgd : decide ((M1.size : Int) < (x1.size : Int)) = false := decide_eq_false hgt
                            have hgn : decide (M1.size < x1.size) = false := decide_eq_false (by omega)
                            go_wp2_with fail
                            refine HIT.out.mono ?_
                            rintro e wb ⟨rfl, rfl⟩
                            go_wp2_with fail
                            go_quiet (fail)
                            have HBz := hid (HBa.out.trans ((below_drawn _ nq).mono HBa.out.size))
                            go_wp2_with fail
                            go_roundw
                            case rel => exact ⟨k + 1, HLK.out, by first | exact nr_idx k | exact nx_idx HLK.out (by omega : E.length ≤ 1000000), by rw [HHN.out], HBz⟩
                            case measure => first | exact nr_meas HLK.out | exact nx_meas HLK.out (by omega : E.length ≤ 1000000)
                        · go_wp2_with fail
                          go_quiet (fail)
                          have HBq := hid (HBK.out.trans ((below_drawn wr nq).mono HBK.out.size))
                          generalize wr.drewN nq = wq at *
                          clear z0 z1 d0 d1 df
                          have HA := hid (HPA.out Q _ [(x1, x2')] _ wq (HBW.out _ (HNW.out _ HBq.out)) (by simp) (HJ7.out.below (HNW.out _ HBq.out)) (HMK.out _ HBq.out))
                          rw [(HOX.out _ HUK.out).1, (HOX.out _ HUK.out).2] at HA
                          obtain ⟨z0, z1, d0, d1, df⟩ := HCK.out _ HBq.out
                          go_wp2_with fail
                          refine HA.out.mono ?_
                          rintro e wa ⟨ov, y, rfl, ho, he, hb⟩
                          have HBa := hid (HBq.out.trans (hb.mono HBq.out.size))
                          have hy : y = .nilIface := by
                            rcases he.kind with ⟨-, h0⟩ | ⟨h0, -⟩
                            · exact h0
                            · exact absurd rfl h0
                          subst hy
                          have HIT := hid (inT_any s _ ov wa (al_one HSH.out) ho)
                          obtain ⟨oa', oc', ho1, -⟩ := ho
                          subst ho1
                          clear he hb z0 z1 d0 d1 df HA
                          obtain ⟨z0, z1, d0, d1, df⟩ := HCK.out _ HBa.out
                          have q0 := HYW.out _ (HNW.out _ HBa.out)
                          cases hin : inB s (alN Q L [(x1, x2')])
                          · rw [hin] at HIT
                            clear hin
                            go_wp2_with fail
                            refine HIT.out.mono ?_
                            rintro e wb ⟨rfl, rfl⟩
                            go_wp2_with fail
                            go_quiet (fail)
                            have HBz := hid (HBa.out.trans ((below_drawn _ nq).mono HBa.out.size))
                            go_wp2_with fail
                            go_roundw
                            case rel => exact ⟨k + 1, HLK.out, by first | exact nr_idx k | exact nx_idx HLK.out (by omega : E.length ≤ 1000000), by rw [HHN.out], HBz⟩
                            case measure => first | exact nr_meas HLK.out | exact nx_meas HLK.out (by omega : E.length ≤ 1000000)
                          · have hle := HI2.out (alN_one.1 (inB_iff.1 hin))
                            rw [hin] at HIT
                            clear hin
                            have hgt : ¬ (M1.size : Int) < (x1.size : Int) := by omega
                            have hgd : decide ((M1.size : Int) < (x1.size : Int)) = false := decide_eq_false hgt
                            have hgn : decide (M1.size < x1.size) = false := decide_eq_false (by omega)
                            go_wp2_with fail
                            refine HIT.out.mono ?_
                            rintro e wb ⟨rfl, rfl⟩
                            go_wp2_with fail
                            go_quiet (fail)
                            have HBz := hid (HBa.out.trans ((below_drawn _ nq).mono HBa.out.size))
                            go_wp2_with fail
                            go_roundw
                            case rel => exact ⟨k + 1, HLK.out, by first | exact nr_idx k | exact nx_idx HLK.out (by omega : E.length ≤ 1000000), by rw [HHN.out], HBz⟩
                            case measure => first | exact nr_meas HLK.out | exact nx_meas HLK.out (by omega : E.length ≤ 1000000)
                  · have hkI := ix_nlt hlk
                    have hke : k = E.length := by omega
                    have hHM : hasB (E.take k) (M1, M2) = true := by rw [hke, List.take_length]; exact hasB_iff.2 HI1.out.1
                    generalize hasB (E.take k) (M1, M2) = hb0 at *
                    subst hHM
                    have HPX := hid (HPR.out _ (HU.out _ HI1.out.1) _ HI1.out.2.1)
                    have hpl : M1.size ≤ s.size := HPX.out.1
                    have hpi : ¬ (s.size : Int) < (M1.size : Int) := by omega
                    have hpe : ((s.extract 0 M1.size).toList == M1.toList) = true := by rw [show s.extract 0 M1.size = M1 from HPX.out.2]; exact str_rf M1
                    have q0 := HYW.out _ (HNW.out _ HBK.out)
                    obtain ⟨d0, d1, df⟩ := bx2 ((HBK.out.block _ (lt_of_blk HMB.out)).trans HMB.out)
                    clear hlk
                    go_wp2_with fail
                    go_quiet (fail)
                    have HBq := hid (HBK.out.trans ((below_drawn wr nq).mono HBK.out.size))
                    generalize wr.drewN nq = wq at *
                    clear q0 d0 d1 df
                    have q0 := HYW.out _ (HNW.out _ HBq.out)
                    obtain ⟨d0, d1, df⟩ := bx2 ((HBq.out.block _ (lt_of_blk HMB.out)).trans HMB.out)
                    go_wp2_with fail
                    go_quiet (fail)
                    have HBy := hid (HBq.out.trans ((below_drawn wq nq).mono HBq.out.size))
                    go_wp2_with fail
                    go_roundw
                    case rel => exact ⟨i + 1, HLT.out, by first | exact nr_idx i | exact nx_idx HLT.out hXl, hid (HNW.out _ HBy.out)⟩
                    case measure => first | exact nr_meas HLT.out | exact nx_meas HLT.out hXl
              · exact absurd hf h0
            · rcases he.kind with ⟨h0, -⟩ | ⟨-, T', ea, rfl⟩
              · exact absurd h0 hf
              · have hpn : pathErr s.data.toList ≠ 0 := fun h => hf (HOK1.out h)
                obtain ⟨pa, hpa⟩ := errA_ne A hpn
                have hpe2 := HPE.out.symm.trans hpa
                subst hpe2
                clear he hf hpn hpa
                go_wp2_with fail
                first
                  | exact ⟨⟨i + 1, HLT.out, by first | exact nr_idx i | exact nx_idx HLT.out hXl, HBA⟩, by first | exact nr_meas HLT.out | exact nx_meas HLT.out hXl⟩
                  | (go_roundw
                     case rel => exact ⟨i + 1, HLT.out, by first | exact nr_idx i | exact nx_idx HLT.out hXl, HBA⟩
                     case measure => first | exact nr_meas HLT.out | exact nx_meas HLT.out hXl)
          · have hiI := ix_nlt hlt
            clear hlt
            go_wp2_with fail
            go_ret
            exact ⟨rfl, HB7.out.trans (HBR.out.mono HB7.out.size)⟩
      · exact absurd rfl h0
    · exact absurd rfl h0
  · have hne : (rF Q L R).1 ≠ 0 := by unfold rF; rw [if_neg hg]; exact hg
    rcases he.kind with ⟨h0, -⟩ | ⟨-, T', ea, rfl⟩
    · exact absurd h0 hne
    · clear he hM hg hne
      go_wp2_with fail
      go_ret
      exact ⟨rfl, HB6.out⟩
end Ve
end Go.Proofs.YtnkgjddkdikikaaGreatDoor
