/-
  IxX
-/
import Derived.Deep.DeepCutAuto
import Derived.Test.YtnkgjddkdikikaaGreatDoorPq2
import Derived.Test.YtnkgjddkdikikaaGreatDoorPq3
import Derived.Test.YtnkgjddkdikikaaGreatDoorPq4
import Derived.Test.YtnkgjddkdikikaaGreatDoorPq7
import Derived.Test.YtnkgjddkdikikaaGreatDoorPq10
import Derived.Test.YtnkgjddkdikikaaGreatDoorPq13
import Derived.Test.YtnkgjddkdikikaaGreatDoorPq23
import Derived.Test.YtnkgjddkdikikaaGreatDoorPq27
import Derived.Test.YtnkgjddkdikikaaGreatDoorPq29
import Derived.Test.YtnkgjddkdikikaaGreatDoorPq30
import Derived.Test.YtnkgjddkdikikaaGreatDoorPq31
import Derived.Test.YtnkgjddkdikikaaGreatDoorPq12
import Derived.Test.YtnkgjddkdikikaaGreatDoorPq5
import Derived.Test.YtnkgjddkdikikaaGreatDoorPq35
import Derived.Test.YtnkgjddkdikikaaGreatDoorPq32
import Derived.Test.YtnkgjddkdikikaaGreatDoorPq37
import Derived.Test.YtnkgjddkdikikaaGreatDoorPq33
namespace Go.Proofs.YtnkgjddkdikikaaGreatDoor
open Go.RowKit
namespace Ve
structure Il (w0 W : World) (u : Value) (Q : List Raw) (pv : Value) (P : List ByteArray) : Prop where
  bl : Below w0.heap.size w0 W
  es : EsAt W u Q
  ps : TxAt W pv P
theorem Il.below {w0 W W' : World} {u pv : Value} {Q : List Raw} {P : List ByteArray} (h : Il w0 W u Q pv P) (hb : Below W.heap.size W W') : Il w0 W' u Q pv P :=
  ⟨h.bl.trans (hb.mono h.bl.size), h.es.below hb, h.ps.below hb⟩
theorem tx_cell {W : World} {a : Option Addr} {n c : Nat} {X : List ByteArray} (h : TxAt W (.slice a n c) X) {k : Nat} (hk : k < X.length) : ∃ b o, a = some ⟨b, o, none⟩ ∧ W.cell? ⟨b, o + k, none⟩ = some (.string X[k]) := by
  obtain ⟨a', c', e, _, h⟩ := h
  injection e with e1 e2 e3
  subst e1
  obtain ⟨b, o, e4, h4⟩ := h (by intro h0; rw [h0] at hk; simp at hk)
  exact ⟨b, o, e4, h4 k hk⟩
theorem tx_at {W : World} {b o n c : Nat} {X : List ByteArray} (h : TxAt W (.slice (some ⟨b, o, none⟩) n c) X) {k : Nat} (hk : k < X.length) : W.cell? ⟨b, o + k, none⟩ = some (.string X[k]) := by
  obtain ⟨b', o', e, h⟩ := tx_cell h hk
  injection e with e
  injection e with e1 e2
  subst e1 e2
  exact h
theorem es_at {W : World} {b o n c : Nat} {Q : List Raw} (h : EsAt W (.slice (some ⟨b, o, none⟩) n c) Q) {k : Nat} (hk : k < Q.length) : W.cell? ⟨b, o + k * 5 + 4, none⟩ = some (.bool Q[k].2.2.2) := by
  obtain ⟨a', c', e, _, _, h⟩ := h
  injection e with e1 e2 e3
  subst e1
  obtain ⟨b', o', e4, h4⟩ := h (by intro h0; rw [h0] at hk; simp at hk)
  injection e4 with e4
  injection e4 with e5 e6
  subst e5 e6
  exact (h4 k hk).2.2.2.2
theorem es_some {W : World} {a : Option Addr} {n c : Nat} {Q : List Raw} (h : EsAt W (.slice a n c) Q) (hQ : 0 < Q.length) : ∃ b o, a = some ⟨b, o, none⟩ := by
  obtain ⟨a', c', e, _, _, h⟩ := h
  injection e with e1 e2 e3
  subst e1
  obtain ⟨b', o', e4, h4⟩ := h (by intro h0; rw [h0] at hQ; simp at hQ)
  exact ⟨b', o', e4⟩
structure Iv (w0 W : World) (u : Value) (Q : List Raw) (pv : Value) (P : List ByteArray) (vv : Value) (X : List ByteArray) (tb : Nat) (tc : Array Value) : Prop where
  il : Il w0 W u Q pv P
  xs : TxAt W vv X
  tx : W.heap[tb]? = some (.cells tc 37 (0, 0))
theorem Iv.below {w0 W W' : World} {u pv vv : Value} {Q : List Raw} {P X : List ByteArray} {tb : Nat} {tc : Array Value} (h : Iv w0 W u Q pv P vv X tb tc) (hb : Below W.heap.size W W') : Iv w0 W' u Q pv P vv X tb tc :=
  ⟨h.il.below hb, h.xs.below hb, (hb.block _ (lt_of_blk h.tx)).trans h.tx⟩
theorem Top.size {Q : List Raw} {t top : ByteArray} {n : Nat} (h : Top Q t top n) (hz : ∀ r, r ∈ Q → r.1.1.size ≤ 80 ∧ r.1.2.size ≤ 80) : top.size ≤ 80 := by
  obtain ⟨hk, h1⟩ := idx_is h.idx
  have h2 := of_decide_eq_true h1
  have := (hz _ (List.getElem_mem hk)).2
  rw [h2.2] at this
  exact this
set_option maxRecDepth 100000 in
set_option maxHeartbeats 2000000 in
theorem il_main (Q0 : List Raw) (L : List Ent) (v : Value) (A : Nat → Addr) (m : Int) (w : World) (S : Te w A m) (htab : Lib.TabIs Tryz.prog w powName .u64 Lib.pow10Tab) (I : Ixs w v Q0 L) (em : EmI Q0 L) (hok : okI L = true) (h30 : L.length ≤ 30) :
    Calls Tryz.prog 3 #[v] w fun e w' => e = .returned (.bool true) ∧ Below w.heap.size w w' := by
  obtain ⟨a0, c0, hv0, -⟩ := id I.es
  subst hv0
  have HLN0 := hid I.ln
  have hq30 : ¬ (30 : Int) < (Q0.length : Int) := by rw [I.ln]; omega
  have hq30b : decide ((30 : Int) < (Q0.length : Int)) = false := decide_eq_false hq30
  have HIN := hid (indexed_any A m w S htab)
  have HLO := hid (fun W (h : Below w.heap.size w W) => longI_any Q0 L _ W (I.below h))
  rw [if_pos hok] at HLO
  have HOW := hid (fun W (h : Below w.heap.size w W) => ownI_any Q0 L _ W (by omega) (I.below h) em (okI_fits hok))
  have HS := hid S
  have HT := hid htab
  have HSH := hid (okI_sh hok)
  have HSZ := hid (fun W u Q (h : Ixs W u Q L) => ixs_sz h hok)
  clear S htab I em hok
  go_enter Tryz.func3, Tryz.ntmps3
  go_wp2_with fail
  refine HIN.out.mono ?_
  rintro e w1 ⟨rfl, hb⟩
  have HB1 := hid hb
  clear hb
  go_wp2_with fail
  refine (HLO.out w1 HB1.out).mono ?_
  rintro e w2 ⟨rfl, hb⟩
  have HB2 := hid (HB1.out.trans (hb.mono HB1.out.size))
  clear hb
  go_wp2_with fail
  refine (HOW.out w2 HB2.out).mono ?_
  rintro e w3 ⟨u, Q, rfl, hO, hb⟩
  have HB3 := hid (HB2.out.trans (hb.mono HB2.out.size))
  have HIX := hid hO.ixs
  have HLN := hid hO.ixs.ln
  have hq1k : Q.length ≤ 30 := by rw [hO.ixs.ln]; exact h30
  have HZ := hid (HSZ.out _ _ _ hO.ixs)
  obtain ⟨ua, uc, hu, -⟩ := id hO.ixs.es
  subst hu
  have HCK := hid (icheck_any Q L _ A m w3 (by omega) HSH.out (HS.out.below HB3.out) HIX.out)
  clear hb hO
  go_wp2_with fail
  refine HCK.out.mono ?_
  rintro e w4 ⟨x, rfl, he, hb⟩
  have HB4 := hid (HB3.out.trans (hb.mono HB3.out.size))
  have HIX4 := hid (HIX.out.below hb)
  clear hb
  rcases he.kind.symm with ⟨_, T, xa, rfl⟩ | ⟨hc0, rfl⟩
  · clear he
    go_wp2_with fail
    go_ret
    exact ⟨rfl, HB4.out⟩
  have HG := hid (good_of HIX4.out hc0)
  have HPA := hid (paths_any Q _ w4 (by omega) HIX4.out.es)
  clear he hc0
  go_wp2_with fail
  refine HPA.out.mono ?_
  rintro e w5 ⟨pv, rfl, hpo, hb⟩
  obtain ⟨P, hP⟩ : ∃ P, pathsT Q = P := ⟨_, rfl⟩
  have HPE := hid hP
  have hpt : TxAt w5 pv P := by rw [← hP]; exact own_tx hpo
  have HIL := hid (show Il w w5 (.slice ua Q.length uc) Q pv P from ⟨HB4.out.trans (hb.mono HB4.out.size), HIX4.out.es.below hb, hpt⟩)
  obtain ⟨pa, pc, hpv, -⟩ := id hpt
  subst hpv
  clear hb hpo hpt hP
  have hP30 : P.length ≤ 30 := by
    rw [← HPE.out]
    unfold pathsT
    have := risB_len (bl (pathL Q))
    rw [tx_len]
    rw [bl_len, pathL_len] at this
    omega
  go_wp2_with fail
  go_loopw [6, 7] (fun mv iv wr => ∃ i : Nat, i ≤ P.length ∧ iv = .int .i64 i ∧ mv = .int .i64 (manyN Q i : Nat) ∧ Hid (Il w wr (.slice ua Q.length uc) Q (.slice pa P.length pc) P)) (fun _ i _ => P.length - (intOf i).toNat)
  case atStart => exact ⟨0, Nat.zero_le _, rfl, rfl, HIL⟩
  case round =>
    obtain ⟨i, hi, rfl, rfl, HIL⟩ := hrel
    by_cases hlt : i < P.length
    · have hiI : (i : Int) < (P.length : Int) := by omega
      have hi0 : (0 : Int) ≤ (i : Int) := by omega
      obtain ⟨pb, po, rfl, hcell⟩ := tx_cell HIL.out.ps hlt
      have HPC := hid (fun W (h : Il w W (.slice ua Q.length uc) Q (.slice (some ⟨pb, po, none⟩) P.length pc) P) => tx_at h.ps hlt)
      have HTM := hid (show P[i] ∈ pathsT Q by rw [HPE.out]; exact List.getElem_mem hlt)
      have HMN := hid (show manyN Q (i + 1) = manyN Q i + (ofP P[i] Q).length by
        have hlt2 : i < (pathsT Q).length := by rw [HPE.out]; exact hlt
        have := manyN_next hlt2
        simp only [HPE.out] at this
        exact this)
      have HML := hid (manyN_le HG.out (i + 1))
      generalize P[i] = t at *
      have HVE := hid (fun W (h : Il w W (.slice ua Q.length uc) Q (.slice (some ⟨pb, po, none⟩) P.length pc) P) => vers_any Q t (.slice ua Q.length uc) (A 0) (A 1) m W (by omega) HZ.out (HS.out.below h.bl).vs (tab_below HT.out h.bl) h.es)
      have HLA := hid (fun W (h : Il w W (.slice ua Q.length uc) Q (.slice (some ⟨pb, po, none⟩) P.length pc) P) => latest_any Q t (.slice ua Q.length uc) (A 0) (A 1) m W (by omega) HZ.out (HS.out.below h.bl).vs (tab_below HT.out h.bl) h.es)
      clear hlt
      go_wp2_with fail
      refine (HVE.out wr HIL.out).mono ?_
      rintro e w6 ⟨vv, rfl, X, hxo, hK, hb⟩
      have HIL6 := hid (HIL.out.below hb)
      have HX6 := hid (own_tx hxo)
      have HK1 := hid hK
      have hXl : manyN Q i + X.length = manyN Q (i + 1) := by rw [HMN.out, kept_len HG.out hK]
      have hXm : manyN Q i + X.length ≤ 30 := by have := HML.out; omega
      obtain ⟨va, vc, hvv, -⟩ := own_tx hxo
      subst hvv
      have hc6 := HPC.out _ HIL6.out
      have hwx : IntKind.i64.wrap ((manyN Q i : Int) + (X.length : Int)) = (manyN Q i : Int) + (X.length : Int) := by rw [IntKind.wrap_i64] <;> omega
      have HXL := hid hXl
      clear hb hxo hK hcell hXl
      go_wp2_with fail
      refine (HLA.out _ HIL6.out).mono ?_
      rintro e w7 ⟨X2, rfl, hK2, hb⟩
      have HIL7 := hid (HIL6.out.below hb)
      have HX7 := hid (HX6.out.below hb)
      obtain ⟨at_, hT⟩ := top_of HG.out HTM.out hK2
      clear hK2 hb hc6 HLA HVE
      generalize lastT X2 = top at *
      have HTP := hid hT
      have hc7 := HPC.out _ HIL7.out
      have HFT := hid (find_any Q (t, top) (.slice ua Q.length uc) w7 (by omega) HIL7.out.es)
      rw [hT.idx] at HFT
      have hat0 : ¬ ((at_ : Int) < 0) := by omega
      have hatp : (0 : Int) ≤ (at_ : Int) := by omega
      have hatl : (at_ : Int) < (Q.length : Int) := by have := hT.lt; omega
      have htz : top.size ≤ 80 := hT.size HZ.out
      clear hT
      go_wp2_with fail
      refine HFT.out.mono ?_
      rintro e w8 ⟨rfl, hb⟩
      have HIL8 := hid (HIL7.out.below hb)
      have HX8 := hid (HX7.out.below hb)
      obtain ⟨Tp, hTp⟩ : ∃ X, bl X = preOf top.data.toList := ⟨_, bl_strs _⟩
      have HTp := hid hTp
      have HSP := hid (vsplit_is top (A 0) (A 1) m w8 (by omega) (HS.out.below HIL8.out.bl).vs HTP.out.ver Tp hTp)
      clear hb hTp hc7 HFT
      go_wp2_with fail
      refine HSP.out.mono ?_
      rintro e w9 ⟨tv, rfl, hst, hb⟩
      obtain ⟨tp, tcap, rfl⟩ := hst.len
      generalize nAt top.data.toList 0 = n0 at *
      generalize nAt top.data.toList 1 = n1 at *
      generalize nAt top.data.toList 2 = n2 at *
      have HBq := hid ((Below.refl w9.heap.size w9).alloc (Nat.le_refl _) (.cells #[.int .i64 n0, .int .i64 n1, .int .i64 n2, .slice tp Tp.length tcap] 37))
      have HIV := hid (show Iv w (w9.alloc (.cells #[.int .i64 n0, .int .i64 n1, .int .i64 n2, .slice tp Tp.length tcap] 37)) (.slice ua Q.length uc) Q (.slice (some ⟨pb, po, none⟩) P.length pc) P (.slice va X.length vc) X w9.heap.size #[.int .i64 n0, .int .i64 n1, .int .i64 n2, .slice tp Tp.length tcap] from
        ⟨(HIL8.out.below hb).below HBq.out, (HX8.out.below hb).below HBq.out, heap_alloc_new w9 _⟩)
      clear hst hb HSP
      go_wp2_with fail
      go_loopw [13] (fun kv wr => ∃ k : Nat, k ≤ X.length ∧ kv = .int .i64 k ∧ Hid (Iv w wr (.slice ua Q.length uc) Q (.slice (some ⟨pb, po, none⟩) P.length pc) P (.slice va X.length vc) X w9.heap.size #[.int .i64 n0, .int .i64 n1, .int .i64 n2, .slice tp Tp.length tcap])) (fun k _ => X.length - (intOf k).toNat)
      case atStart => exact ⟨0, Nat.zero_le _, rfl, HIV⟩
      case round =>
        obtain ⟨k, hk, rfl, HIV⟩ := hrel
        by_cases hlt : k < X.length
        · have hkI : (k : Int) < (X.length : Int) := by omega
          have hk0 : (0 : Int) ≤ (k : Int) := by omega
          obtain ⟨vb, vo, rfl, hcx⟩ := tx_cell HIV.out.xs hlt
          have hpx := HPC.out _ HIV.out.il
          have HXC := hid (fun W (h : Iv w W (.slice ua Q.length uc) Q (.slice (some ⟨pb, po, none⟩) P.length pc) P (.slice (some ⟨vb, vo, none⟩) X.length vc) X w9.heap.size #[.int .i64 n0, .int .i64 n1, .int .i64 n2, .slice tp Tp.length tcap]) => tx_at h.xs hlt)
          obtain ⟨n, hO⟩ := one_of HG.out HK1.out (List.getElem_mem hlt)
          generalize X[k] = x at *
          have HFN := hid (fun W (h : Iv w W (.slice ua Q.length uc) Q (.slice (some ⟨pb, po, none⟩) P.length pc) P (.slice (some ⟨vb, vo, none⟩) X.length vc) X w9.heap.size #[.int .i64 n0, .int .i64 n1, .int .i64 n2, .slice tp Tp.length tcap]) => find_any Q (t, x) (.slice ua Q.length uc) W (by omega) h.il.es)
          rw [hO.idx] at HFN
          have hn0 : ¬ ((n : Int) < 0) := by omega
          have hnp : (0 : Int) ≤ (n : Int) := by omega
          have hnl : (n : Int) < (Q.length : Int) := by have := hO.lt; omega
          have hxz : x.size ≤ 80 := by
            have := (HZ.out _ (List.getElem_mem hO.lt)).2
            rw [hO.same] at this
            exact this
          obtain ⟨Xp, hXp⟩ : ∃ Y, bl Y = preOf x.data.toList := ⟨_, bl_strs _⟩
          have HSX := hid (fun W (h : Iv w W (.slice ua Q.length uc) Q (.slice (some ⟨pb, po, none⟩) P.length pc) P (.slice (some ⟨vb, vo, none⟩) X.length vc) X w9.heap.size #[.int .i64 n0, .int .i64 n1, .int .i64 n2, .slice tp Tp.length tcap]) => vsplit_is x (A 0) (A 1) m W (by omega) (HS.out.below h.il.bl).vs hO.ver Xp hXp)
          have HLE := hid (fun W (h : Iv w W (.slice ua Q.length uc) Q (.slice (some ⟨pb, po, none⟩) P.length pc) P (.slice (some ⟨vb, vo, none⟩) X.length vc) X w9.heap.size #[.int .i64 n0, .int .i64 n1, .int .i64 n2, .slice tp Tp.length tcap]) => less_any top x (A 0) (A 1) m W (by omega) (by omega) (HS.out.below h.il.bl).vs)
          have HNO := hid (show (!(Q[n]'hO.lt).2.2.2 || (Q[at_]'HTP.out.lt).2.2.2) = true → (decide (Xp.length = 0) || (decide (0 < Tp.length) || (Q[at_]'HTP.out.lt).2.2.2)) = true → lessB top.data.toList x.data.toList = false from fun h1 h2 => by
            have := HTP.out.no (Q[n]'hO.lt) hO.mem h1 (by rw [hO.same, ← hXp, ← HTp.out, bl_len, bl_len]; exact h2)
            rw [hO.same] at this
            exact this)
          have HBN := hid (fun (W : World) (b o : Nat) (h : EsAt W (.slice (some ⟨b, o, none⟩) Q.length uc) Q) => es_at h hO.lt)
          have HBA := hid (fun (W : World) (b o : Nat) (h : EsAt W (.slice (some ⟨b, o, none⟩) Q.length uc) Q) => es_at h HTP.out.lt)
          obtain ⟨ub, uo, rfl⟩ := es_some HIV.out.il.es (by have := hO.lt; omega)
          generalize (Q[n]'hO.lt).2.2.2 = bn at *
          generalize (Q[at_]'HTP.out.lt).2.2.2 = ba at *
          clear hO hXp hlt
          go_upto_region 24 with fail
          go_cut [14] (fun nv wx => nv = .int .i64 n ∧ Hid (Iv w wx (.slice (some ⟨ub, uo, none⟩) Q.length uc) Q (.slice (some ⟨pb, po, none⟩) P.length pc) P (.slice (some ⟨vb, vo, none⟩) X.length vc) X w9.heap.size #[.int .i64 n0, .int .i64 n1, .int .i64 n2, .slice tp Tp.length tcap]))
          case first =>
            go_region_with (go_at_call 19; refine (HFN.out _ (HIV.out.below (below_drawn _ 1))).mono ?_; rintro e w10 ⟨rfl, hb⟩; have HIV1 := hid ((HIV.out.below (below_drawn _ 1)).below hb); clear hb)
            all_goals
              go_wp2_with fail
              go_meet
              case rel => exact ⟨rfl, HIV1⟩
          case rest =>
            obtain ⟨rfl, HIV1⟩ := hcut
            have hc1 := HXC.out _ HIV1.out
            go_wp2_with fail
            refine (HSX.out _ HIV1.out).mono ?_
            rintro e w11 ⟨xv, rfl, hst, hb⟩
            obtain ⟨xp, xcap, rfl⟩ := hst.len
            generalize nAt x.data.toList 0 = y0 at *
            generalize nAt x.data.toList 1 = y1 at *
            generalize nAt x.data.toList 2 = y2 at *
            have HIV2 := hid ((HIV1.out.below hb).below ((Below.refl w11.heap.size w11).alloc (Nat.le_refl _) (.cells #[.int .i64 y0, .int .i64 y1, .int .i64 y2, .slice xp Xp.length xcap] 37)))
            clear hb hst HSX hc1 HFN hcx hpx
            have hc2 := HXC.out _ HIV2.out
            have hbn := HBN.out _ _ _ HIV2.out.il.es
            have hba := HBA.out _ _ _ HIV2.out.il.es
            have htc : (w11.alloc (.cells #[.int .i64 y0, .int .i64 y1, .int .i64 y2, .slice xp Xp.length xcap] 37)).cell? ⟨w9.heap.size, 3, none⟩ = some (.slice tp Tp.length tcap) := by rw [Lib.cell_of_heap HIV2.out.tx]; rfl
            have HYD := hid (show ((Xp.length : Int) == 0) = decide (Xp.length = 0) by rw [Bool.eq_iff_iff]; simp)
            have hle30 : k < X.length := by omega
            have hX30 : X.length ≤ 1000000 := by omega
            obtain ⟨lk, hlk⟩ : ∃ lk, (!bn || ba) = lk := ⟨_, rfl⟩
            obtain ⟨pl, hpl⟩ : ∃ pl, (decide (Xp.length = 0) || (decide (0 < Tp.length) || ba)) = pl := ⟨_, rfl⟩
            have HLK := hid hlk
            have HPL := hid hpl
            clear hlk hpl
            go_upto_region 30 with fail
            go_cut [17] (fun bv wx => bv = .bool lk ∧ wx = (w11.alloc (.cells #[.int .i64 y0, .int .i64 y1, .int .i64 y2, .slice xp Xp.length xcap] 37)))
            case first =>
              cases bn <;> cases ba
              all_goals
                go_wp2_with fail
                go_meet
                case rel => exact ⟨by rw [← HLK.out]; rfl, rfl⟩
            case rest =>
              obtain ⟨rfl, rfl⟩ := hcut
              go_upto_region 31 with fail
              go_cut [18] (fun bv wx => bv = .bool pl ∧ wx = (w11.alloc (.cells #[.int .i64 y0, .int .i64 y1, .int .i64 y2, .slice xp Xp.length xcap] 37)))
              case first =>
                by_cases hy : Xp.length = 0
                · have hy1 : ((Xp.length : Int) == 0) = true := by rw [HYD.out, decide_eq_true hy]
                  have HY := hid hy
                  clear hy
                  go_wp2_with fail
                  go_meet
                  case rel => exact ⟨by rw [← HPL.out, decide_eq_true HY.out]; rfl, rfl⟩
                · have hy1 : ((Xp.length : Int) == 0) = false := by rw [HYD.out, decide_eq_false hy]
                  have HY := hid hy
                  clear hy
                  by_cases ht : 0 < Tp.length
                  · have ht1 : (0 : Int) < (Tp.length : Int) := by omega
                    have HTT := hid ht
                    have ht2 : decide (0 < Tp.length) = true := decide_eq_true ht
                    go_wp2_with fail
                    go_meet
                    case rel => exact ⟨by rw [← HPL.out, decide_eq_false HY.out, decide_eq_true HTT.out]; rfl, rfl⟩
                  · have ht1 : ¬ (0 : Int) < (Tp.length : Int) := by omega
                    have HTT := hid ht
                    have ht2 : decide (0 < Tp.length) = false := decide_eq_false ht
                    cases ba
                    all_goals
                      go_wp2_with fail
                      go_meet
                      case rel => exact ⟨by rw [← HPL.out, decide_eq_false HY.out, decide_eq_false HTT.out]; rfl, rfl⟩
              case rest =>
                obtain ⟨rfl, rfl⟩ := hcut
                cases lk with
                | false =>
                  go_wp2_with fail
                  go_roundw
                  case rel => exact ⟨k + 1, hle30, nr_idx k, HIV2⟩
                  case measure => exact nr_meas hle30
                | true =>
                  cases pl with
                  | false =>
                    go_wp2_with fail
                    go_roundw
                    case rel => exact ⟨k + 1, hle30, nr_idx k, HIV2⟩
                    case measure => exact nr_meas hle30
                  | true =>
                    have hno := HNO.out HLK.out HPL.out
                    rw [hno] at HLE
                    clear hno
                    go_wp2_with (go_at_call 21; refine (HLE.out _ HIV2.out).mono ?_; rintro e w12 ⟨rfl, hb⟩; have HIV3 := hid (HIV2.out.below hb); clear hb)
                    go_roundw
                    case rel => exact ⟨k + 1, hle30, nr_idx k, HIV3⟩
                    case measure => exact nr_meas hle30
        · obtain rfl : k = X.length := by omega
          go_wp2_with fail
          go_roundw
          case rel => exact ⟨i + 1, by omega, by go_num, by rw [← HXL.out]; go_num, hid HIV.out.il⟩
          case measure => simp [intOf]; omega
    · obtain rfl : i = P.length := by omega
      have HLN2 := hid (latest_any Q ⟨#[110, 111, 32, 115, 117, 99, 104]⟩ (.slice ua Q.length uc) (A 0) (A 1) m wr (by omega) HZ.out (HS.out.below HIL.out.bl).vs (tab_below HT.out HIL.out.bl) HIL.out.es)
      have HMA := hid (show manyN Q P.length = Q0.length by rw [← HPE.out, manyN_all HG.out, HLN.out, HLN0.out])
      rw [HMA.out]
      have hee : ((Q0.length : Int) == (Q0.length : Int)) = true := by simp
      have hss : ((⟨#[]⟩ : ByteArray).toList == (⟨#[]⟩ : ByteArray).toList) = true := by simp
      go_wp2_with fail
      refine HLN2.out.mono ?_
      rintro e w10 ⟨X, rfl, hK, hb⟩
      rw [none_of HG.out (by decide) hK]
      have HB10 := hid (HIL.out.bl.trans (hb.mono HIL.out.bl.size))
      clear hb hK
      go_wp2_with fail
      go_ret
      exact ⟨rfl, HB10.out⟩
end Ve
end Go.Proofs.YtnkgjddkdikikaaGreatDoor
