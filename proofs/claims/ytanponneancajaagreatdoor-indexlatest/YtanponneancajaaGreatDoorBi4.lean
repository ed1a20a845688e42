/-
  pewholderlaw1.IndexLatest walked.
-/
import Derived.Test.YtanponneancajaaGreatDoorBi3
import Derived.Deep.DeepCutAuto
import Derived.Test.YtanponneancajaaGreatDoorBi1
import Derived.Deep.SlicePairs
import Derived.Lib.SmallJoins
import Derived.SliceStrings
import Derived.ProofKit
import Derived.LaidMore
import Derived.Lay
import Derived.Stop.Joined
import Derived.HandedShaped
import Derived.LaidLaws
import Derived.Below
import Derived.Test.YtanponneancajaaGreatDoorRows
import Derived.Test.YtanponneancajaaGreatDoorCode
import Derived.Test.YtanponneancajaaGreatDoorVerG
import Derived.LaidHandle
import Derived.Stop.LaidTwo
import Derived.Shelf.Vars
import Derived.Carry
namespace Go.Proofs.YtanponneancajaaGreatDoor
open Go.RowKit
namespace Ve

/-- What the loops read. -/
structure Il (w0 W : World) (u : Value) (Q : List Raw) (pv : Value) (P : List ByteArray) : Prop where
  bl : Below w0.heap.size w0 W
  es : EsAt W u Q
  ps : TxAt W pv P
theorem Il.below {w0 W W' : World} {u pv : Value} {Q : List Raw} {P : List ByteArray} (h : Il w0 W u Q pv P) (hb : Below W.heap.size W W') : Il w0 W' u Q pv P :=
  ⟨h.bl.trans (hb.mono h.bl.size), h.es.below hb, h.ps.below hb⟩
theorem tx_cell {W : World} {a : Option Addr} {n c : Nat} {X : List ByteArray} (h : TxAt W (.slice a n c) X) {k : Nat} (hk : k < X.length) : ∃ b o, a = some ⟨b, o, none⟩ ∧ W.cell? ⟨b, o + k, none⟩ = some (.string X[k]) := by
  obtain ⟨a', c', e, _, h⟩ := h
  injection e with e1 e2 e3
  subst e1
  obtain ⟨b, o, e4, h4⟩ := h (by intro h0; rw [h0] at hk; simp at hk)
  exact ⟨b, o, e4, h4 k hk⟩
theorem tx_at {W : World} {b o n c : Nat} {X : List ByteArray} (h : TxAt W (.slice (some ⟨b, o, none⟩) n c) X) {k : Nat} (hk : k < X.length) : W.cell? ⟨b, o + k, none⟩ = some (.string X[k]) := by
  obtain ⟨b', o', e, h⟩ := tx_cell h hk
  injection e with e
  injection e with e1 e2
  subst e1 e2
  exact h
theorem es_at {W : World} {b o n c : Nat} {Q : List Raw} (h : EsAt W (.slice (some ⟨b, o, none⟩) n c) Q) {k : Nat} (hk : k < Q.length) : W.cell? ⟨b, o + k * 5 + 4, none⟩ = some (.bool Q[k].2.2.2) := by
  obtain ⟨a', c', e, _, _, h⟩ := h
  injection e with e1 e2 e3
  subst e1
  obtain ⟨b', o', e4, h4⟩ := h (by intro h0; rw [h0] at hk; simp at hk)
  injection e4 with e4
  injection e4 with e5 e6
  subst e5 e6
  exact (h4 k hk).2.2.2.2
theorem es_some {W : World} {a : Option Addr} {n c : Nat} {Q : List Raw} (h : EsAt W (.slice a n c) Q) (hQ : 0 < Q.length) : ∃ b o, a = some ⟨b, o, none⟩ := by
  obtain ⟨a', c', e, _, _, h⟩ := h
  injection e with e1 e2 e3
  subst e1
  obtain ⟨b', o', e4, h4⟩ := h (by intro h0; rw [h0] at hQ; simp at hQ)
  exact ⟨b', o', e4⟩

/-- What the inner loop reads. -/
structure Iv (w0 W : World) (u : Value) (Q : List Raw) (pv : Value) (P : List ByteArray) (vv : Value) (X : List ByteArray) (tb : Nat) (tc : Array Value) : Prop where
  il : Il w0 W u Q pv P
  xs : TxAt W vv X
  tx : W.heap[tb]? = some (.cells tc 30 (0, 0))
theorem Iv.below {w0 W W' : World} {u pv vv : Value} {Q : List Raw} {P X : List ByteArray} {tb : Nat} {tc : Array Value} (h : Iv w0 W u Q pv P vv X tb tc) (hb : Below W.heap.size W W') : Iv w0 W' u Q pv P vv X tb tc :=
  ⟨h.il.below hb, h.xs.below hb, (hb.block _ (lt_of_blk h.tx)).trans h.tx⟩
theorem Top.size {Q : List Raw} {t top : ByteArray} {n : Nat} (h : Top Q t top n) (hz : ∀ r, r ∈ Q → r.1.1.size ≤ 80 ∧ r.1.2.size ≤ 80) : top.size ≤ 80 := by
  obtain ⟨hk, h1⟩ := idx_is h.idx
  have h2 := of_decide_eq_true h1
  have := (hz _ (List.getElem_mem hk)).2
  rw [h2.2] at this
  exact this
set_option maxRecDepth 100000 in
set_option maxHeartbeats 2000000 in
theorem il_main (Q0 : List Raw) (L : List Ent) (v : Value) (A : Nat → Addr) (m : Int) (w : World) (S : Te w A m) (htab : Lib.TabIs Tryz.prog w powName .u64 Lib.pow10Tab) (I : Ixs w v Q0 L) (em : EmI Q0 L) (hok : okI L = true) (h30 : L.length ≤ 30) :
    Calls Tryz.prog 4 #[v] w fun e w' => e = .returned (.bool true) ∧ Below w.heap.size w w' := by
  obtain ⟨a0, c0, hv0, -⟩ := id I.es
  subst hv0
  have HLN0 := hid I.ln
  have hq30 : ¬ (30 : Int) < (Q0.length : Int) := by rw [I.ln]; omega
  have hq30b : decide ((30 : Int) < (Q0.length : Int)) = false := decide_eq_false hq30
  have HIN := hid (indexed_any A m w S htab)
  have HLO := hid (fun W (h : Below w.heap.size w W) => longI_any Q0 L _ W (I.below h))
  rw [if_pos hok] at HLO
  have HOW := hid (fun W (h : Below w.heap.size w W) => ownI_any Q0 L _ W (by omega) (I.below h) em (okI_fits hok))
  have HS := hid S
  have HT := hid htab
  have HSH := hid (okI_sh hok)
  have HSZ := hid (fun W u Q (h : Ixs W u Q L) => ixs_sz h hok)
  clear S htab I em hok
  go_enter Tryz.func4, Tryz.ntmps4
  go_wp2_with fail
  refine HIN.out.mono ?_
  rintro e w1 ⟨rfl, hb⟩
  have HB1 := hid hb
  clear hb
  go_wp2_with fail
  refine (HLO.out w1 HB1.out).mono ?_
  rintro e w2 ⟨rfl, hb⟩
  have HB2 := hid (HB1.out.trans (hb.mono HB1.out.size))
  clear hb
  go_wp2_with fail
  refine (HOW.out w2 HB2.out).mono ?_
  rintro e w3 ⟨u, Q, rfl, hO, hb⟩
  have HB3 := hid (HB2.out.trans (hb.mono HB2.out.size))
  have HIX := hid hO.ixs
  have HLN := hid hO.ixs.ln
  have hq1k : Q.length ≤ 30 := by rw [hO.ixs.ln]; exact h30
  have HZ := hid (HSZ.out _ _ _ hO.ixs)
  obtain ⟨ua, uc, hu, -⟩ := id hO.ixs.es
  subst hu
  have HCK := hid (icheck_any Q L _ A m w3 (by omega) HSH.out (HS.out.below HB3.out) HIX.out)
  clear hb hO
  go_wp2_with fail
  refine HCK.out.mono ?_
  rintro e w4 ⟨x, rfl, he, hb⟩
  have HB4 := hid (HB3.out.trans (hb.mono HB3.out.size))
  have HIX4 := hid (HIX.out.below hb)
  clear hb
  rcases he.kind.symm with ⟨_, T, xa, rfl⟩ | ⟨hc0, rfl⟩
  · clear he
    go_wp2_with fail
    go_ret
    exact ⟨rfl, HB4.out⟩
  have HG := hid (good_of HIX4.out hc0)
  have HPA := hid (paths_any Q _ w4 (by omega) HIX4.out.es)
  clear he hc0
  go_wp2_with fail
  refine HPA.out.mono ?_
  rintro e w5 ⟨pv, rfl, hpo, hb⟩
  obtain ⟨P, hP⟩ : ∃ P, pathsT Q = P := ⟨_, rfl⟩
  have HPE := hid hP
  have hpt : TxAt w5 pv P := by rw [← hP]; exact own_tx hpo
  have HIL := hid (show Il w w5 (.slice ua Q.length uc) Q pv P from ⟨HB4.out.trans (hb.mono HB4.out.size), HIX4.out.es.below hb, hpt⟩)
  obtain ⟨pa, pc, hpv, -⟩ := id hpt
  subst hpv
  clear hb hpo hpt hP
  have hP30 : P.length ≤ 30 := by
    rw [← HPE.out]
    unfold pathsT
    have := risB_len (bl (pathL Q))
    rw [tx_len]
    rw [bl_len, pathL_len] at this
    omega
  go_wp2_with fail
  go_loopw [6, 7] (fun mv iv wr => ∃ i : Nat, i ≤ P.length ∧ iv = .int .i64 i ∧ mv = .int .i64 (manyN Q i : Nat) ∧ Hid (Il w wr (.slice ua Q.length uc) Q (.slice pa P.length pc) P)) (fun _ i _ => P.length - (intOf i).toNat)
  case atStart => exact ⟨0, Nat.zero_le _, rfl, rfl, HIL⟩
  case round =>
    obtain ⟨i, hi, rfl, rfl, HIL⟩ := hrel
    by_cases hlt : i < P.length
    · have hiI : (i : Int) < (P.length : Int) := by omega
      have hi0 : (0 : Int) ≤ (i : Int) := by omega
      obtain ⟨pb, po, rfl, hcell⟩ := tx_cell HIL.out.ps hlt
      have HPC := hid (fun W (h : Il w W (.slice ua Q.length uc) Q (.slice (some ⟨pb, po, none⟩) P.length pc) P) => tx_at h.ps hlt)
      have HTM := hid (show P[i] ∈ pathsT Q by rw [HPE.out]; exact List.getElem_mem hlt)
      have HMN := hid (show manyN Q (i + 1) = manyN Q i + (ofP P[i] Q).length by
        have hlt2 : i < (pathsT Q).length := by rw [HPE.out]; exact hlt
        have := manyN_next hlt2
        simp only [HPE.out] at this
        exact this)
      have HML := hid (manyN_le HG.out (i + 1))
      generalize P[i] = t at *
      have HVE := hid (fun W (h : Il w W (.slice ua Q.length uc) Q (.slice (some ⟨pb, po, none⟩) P.length pc) P) => vers_any Q t (.slice ua Q.length uc) (A 0) (A 1) m W (by omega) HZ.out (HS.out.below h.bl).vs (tab_below HT.out h.bl) h.es)
      have HLA := hid (fun W (h : Il w W (.slice ua Q.length uc) Q (.slice (some ⟨pb, po, none⟩) P.length pc) P) => latest_any Q t (.slice ua Q.length uc) (A 0) (A 1) m W (by omega) HZ.out (HS.out.below h.bl).vs (tab_below HT.out h.bl) h.es)
      clear hlt
      go_wp2_with fail
      refine (HVE.out wr HIL.out).mono ?_
      rintro e w6 ⟨vv, rfl, X, hxo, hK, hb⟩
      have HIL6 := hid (HIL.out.below hb)
      have HX6 := hid (own_tx hxo)
      have HK1 := hid hK
      have hXl : manyN Q i + X.length = manyN Q (i + 1) := by rw [HMN.out, kept_len HG.out hK]
      have hXm : manyN Q i + X.length ≤ 30 := by have := HML.out; omega
      obtain ⟨va, vc, hvv, -⟩ := own_tx hxo
      subst hvv
      have hc6 := HPC.out _ HIL6.out
      have hwx : IntKind.i64.wrap ((manyN Q i : Int) + (X.length : Int)) = (manyN Q i : Int) + (X.length : Int) := by rw [IntKind.wrap_i64] <;> omega
      have HXL := hid hXl
      clear hb hxo hK hcell hXl
      go_wp2_with fail
      refine (HLA.out _ HIL6.out).mono ?_
      rintro e w7 ⟨X2, rfl, hK2, hb⟩
      have HIL7 := hid (HIL6.out.below hb)
      have HX7 := hid (HX6.out.below hb)
      obtain ⟨at_, hT⟩ := top_of HG.out HTM.out hK2
      clear hK2 hb hc6 HLA HVE
      generalize lastT X2 = top at *
      have HTP := hid hT
      have hc7 := HPC.out _ HIL7.out
      have HFT := hid (find_any Q (t, top) (.slice ua Q.length uc) w7 (by omega) HIL7.out.es)
      rw [hT.idx] at HFT
      have hat0 : ¬ ((at_ : Int) < 0) := by omega
      have hatp : (0 : Int) ≤ (at_ : Int) := by omega
      have hatl : (at_ : Int) < (Q.length : Int) := by have := hT.lt; omega
      have htz : top.size ≤ 80 := hT.size HZ.out
      clear hT
      go_wp2_with fail
      refine HFT.out.mono ?_
      rintro e w8 ⟨rfl, hb⟩
      have HIL8 := hid (HIL7.out.below hb)
      have HX8 := hid (HX7.out.below hb)
      obtain ⟨Tp, hTp⟩ : ∃ X, bl X = preOf top.data.toList := ⟨_, bl_strs _⟩
      have HTp := hid hTp
      have HSP := hid (vsplit_is top (A 0) (A 1) m w8 (by omega) (HS.out.below HIL8.out.bl).vs HTP.out.ver Tp hTp)
      clear hb hTp hc7 HFT
      go_wp2_with fail
      refine HSP.out.mono ?_
      rintro e w9 ⟨tv, rfl, hst, hb⟩
      obtain ⟨tp, tcap, rfl⟩ := hst.len
      generalize nAt top.data.toList 0 = n0 at *
      generalize nAt top.data.toList 1 = n1 at *
      generalize nAt top.data.toList 2 = n2 at *
      have HBq := hid ((Below.refl w9.heap.size w9).alloc (Nat.le_refl _) (.cells #[.int .i64 n0, .int .i64 n1, .int .i64 n2, .slice tp Tp.length tcap] 30))
      have HIV := hid (show Iv w (w9.alloc (.cells #[.int .i64 n0, .int .i64 n1, .int .i64 n2, .slice tp Tp.length tcap] 30)) (.slice ua Q.length uc) Q (.slice (some ⟨pb, po, none⟩) P.length pc) P (.slice va X.length vc) X w9.heap.size #[.int .i64 n0, .int .i64 n1, .int .i64 n2, .slice tp Tp.length tcap] from
        ⟨(HIL8.out.below hb).below HBq.out, (HX8.out.below hb).below HBq.out, heap_alloc_new w9 _⟩)
      clear hst hb HSP
      go_wp2_with fail
      go_loopw [13] (fun kv wr => ∃ k : Nat, k ≤ X.length ∧ kv = .int .i64 k ∧ Hid (Iv w wr (.slice ua Q.length uc) Q (.slice (some ⟨pb, po, none⟩) P.length pc) P (.slice va X.length vc) X w9.heap.size #[.int .i64 n0, .int .i64 n1, .int .i64 n2, .slice tp Tp.length tcap])) (fun k _ => X.length - (intOf k).toNat)
      case atStart => exact ⟨0, Nat.zero_le _, rfl, HIV⟩
      case round =>
        obtain ⟨k, hk, rfl, HIV⟩ := hrel
        by_cases hlt : k < X.length
        · have hkI : (k : Int) < (X.length : Int) := by omega
          have hk0 : (0 : Int) ≤ (k : Int) := by omega
          obtain ⟨vb, vo, rfl, hcx⟩ := tx_cell HIV.out.xs hlt
          have hpx := HPC.out _ HIV.out.il
          have HXC := hid (fun W (h : Iv w W (.slice ua Q.length uc) Q (.slice (some ⟨pb, po, none⟩) P.length pc) P (.slice (some ⟨vb, vo, none⟩) X.length vc) X w9.heap.size #[.int .i64 n0, .int .i64 n1, .int .i64 n2, .slice tp Tp.length tcap]) => tx_at h.xs hlt)
          obtain ⟨n, hO⟩ := one_of HG.out HK1.out (List.getElem_mem hlt)
          generalize X[k] = x at *
          have HFN := hid (fun W (h : Iv w W (.slice ua Q.length uc) Q (.slice (some ⟨pb, po, none⟩) P.length pc) P (.slice (some ⟨vb, vo, none⟩) X.length vc) X w9.heap.size #[.int .i64 n0, .int .i64 n1, .int .i64 n2, .slice tp Tp.length tcap]) => find_any Q (t, x) (.slice ua Q.length uc) W (by omega) h.il.es)
          rw [hO.idx] at HFN
          have hn0 : ¬ ((n : Int) < 0) := by omega
          have hnp : (0 : Int) ≤ (n : Int) := by omega
          have hnl : (n : Int) < (Q.length : Int) := by have := hO.lt; omega
          have hxz : x.size ≤ 80 := by
            have := (HZ.out _ (List.getElem_mem hO.lt)).2
            rw [hO.same] at this
            exact this
          obtain ⟨Xp, hXp⟩ : ∃ Y, bl Y = preOf x.data.toList := ⟨_, bl_strs _⟩
          have HSX := hid (fun W (h : Iv w W (.slice ua Q.length uc) Q (.slice (some ⟨pb, po, none⟩) P.length pc) P (.slice (some ⟨vb, vo, none⟩) X.length vc) X w9.heap.size #[.int .i64 n0, .int .i64 n1, .int .i64 n2, .slice tp Tp.length tcap]) => vsplit_is x (A 0) (A 1) m W (by omega) (HS.out.below h.il.bl).vs hO.ver Xp hXp)
          have HLE := hid (fun W (h : Iv w W (.slice ua Q.length uc) Q (.slice (some ⟨pb, po, none⟩) P.length pc) P (.slice (some ⟨vb, vo, none⟩) X.length vc) X w9.heap.size #[.int .i64 n0, .int .i64 n1, .int .i64 n2, .slice tp Tp.length tcap]) => less_any top x (A 0) (A 1) m W (by omega) (by omega) (HS.out.below h.il.bl).vs)
          have HNO := hid (show (!(Q[n]'hO.lt).2.2.2 || (Q[at_]'HTP.out.lt).2.2.2) = true → (decide (Xp.length = 0) || (decide (0 < Tp.length) || (Q[at_]'HTP.out.lt).2.2.2)) = true → lessB top.data.toList x.data.toList = false from fun h1 h2 => by
            have := HTP.out.no (Q[n]'hO.lt) hO.mem h1 (by rw [hO.same, ← hXp, ← HTp.out, bl_len, bl_len]; exact h2)
            rw [hO.same] at this
            exact this)
          have HBN := hid (fun (W : World) (b o : Nat) (h : EsAt W (.slice (some ⟨b, o, none⟩) Q.length uc) Q) => es_at h hO.lt)
          have HBA := hid (fun (W : World) (b o : Nat) (h : EsAt W (.slice (some ⟨b, o, none⟩) Q.length uc) Q) => es_at h HTP.out.lt)
          obtain ⟨ub, uo, rfl⟩ := es_some HIV.out.il.es (by have := hO.lt; omega)
          generalize (Q[n]'hO.lt).2.2.2 = bn at *
          generalize (Q[at_]'HTP.out.lt).2.2.2 = ba at *
          clear hO hXp hlt
          go_upto_region 24 with fail
          go_cut [14] (fun nv wx => nv = .int .i64 n ∧ Hid (Iv w wx (.slice (some ⟨ub, uo, none⟩) Q.length uc) Q (.slice (some ⟨pb, po, none⟩) P.length pc) P (.slice (some ⟨vb, vo, none⟩) X.length vc) X w9.heap.size #[.int .i64 n0, .int .i64 n1, .int .i64 n2, .slice tp Tp.length tcap]))
          case first =>
            go_region_with (go_at_call 27; refine (HFN.out _ (HIV.out.below (below_drawn _ 1))).mono ?_; rintro e w10 ⟨rfl, hb⟩; have HIV1 := hid ((HIV.out.below (below_drawn _ 1)).below hb); clear hb)
            all_goals
              go_wp2_with fail
              go_meet
              case rel => exact ⟨rfl, HIV1⟩
          case rest =>
            obtain ⟨rfl, HIV1⟩ := hcut
            have hc1 := HXC.out _ HIV1.out
            go_wp2_with fail
            refine (HSX.out _ HIV1.out).mono ?_
            rintro e w11 ⟨xv, rfl, hst, hb⟩
            obtain ⟨xp, xcap, rfl⟩ := hst.len
            generalize nAt x.data.toList 0 = y0 at *
            generalize nAt x.data.toList 1 = y1 at *
            generalize nAt x.data.toList 2 = y2 at *
            have HIV2 := hid ((HIV1.out.below hb).below ((Below.refl w11.heap.size w11).alloc (Nat.le_refl _) (.cells #[.int .i64 y0, .int .i64 y1, .int .i64 y2, .slice xp Xp.length xcap] 30)))
            clear hb hst HSX hc1 HFN hcx hpx
            have hc2 := HXC.out _ HIV2.out
            have hbn := HBN.out _ _ _ HIV2.out.il.es
            have hba := HBA.out _ _ _ HIV2.out.il.es
            have htc : (w11.alloc (.cells #[.int .i64 y0, .int .i64 y1, .int .i64 y2, .slice xp Xp.length xcap] 30)).cell? ⟨w9.heap.size, 3, none⟩ = some (.slice tp Tp.length tcap) := by rw [Lib.cell_of_heap HIV2.out.tx]; rfl
            have HYD := hid (show ((Xp.length : Int) == 0) = decide (Xp.length = 0) by rw [Bool.eq_iff_iff]; simp)
            have hle30 : k < X.length := by omega
            have hX30 : X.length ≤ 1000000 := by omega
            obtain ⟨lk, hlk⟩ : ∃ lk, (!bn || ba) = lk := ⟨_, rfl⟩
            obtain ⟨pl, hpl⟩ : ∃ pl, (decide (Xp.length = 0) || (decide (0 < Tp.length) || ba)) = pl := ⟨_, rfl⟩
            have HLK := hid hlk
            have HPL := hid hpl
            clear hlk hpl
            go_upto_region 30 with fail
            go_cut [17] (fun bv wx => bv = .bool lk ∧ wx = (w11.alloc (.cells #[.int .i64 y0, .int .i64 y1, .int .i64 y2, .slice xp Xp.length xcap] 30)))
            case first =>
              cases bn <;> cases ba
              all_goals
                go_wp2_with fail
                go_meet
                case rel => exact ⟨by rw [← HLK.out]; rfl, rfl⟩
            case rest =>
              obtain ⟨rfl, rfl⟩ := hcut
              go_upto_region 31 with fail
              go_cut [18] (fun bv wx => bv = .bool pl ∧ wx = (w11.alloc (.cells #[.int .i64 y0, .int .i64 y1, .int .i64 y2, .slice xp Xp.length xcap] 30)))
              case first =>
                by_cases hy : Xp.length = 0
                · have hy1 : ((Xp.length : Int) == 0) = true := by rw [HYD.out, decide_eq_true hy]
                  have HY := hid hy
                  clear hy
                  go_wp2_with fail
                  go_meet
                  case rel => exact ⟨by rw [← HPL.out, decide_eq_true HY.out]; rfl, rfl⟩
                · have hy1 : ((Xp.length : Int) == 0) = false := by rw [HYD.out, decide_eq_false hy]
                  have HY := hid hy
                  clear hy
                  by_cases ht : 0 < Tp.length
                  · have ht1 : (0 : Int) < (Tp.length : Int) := by omega
                    have HTT := hid ht
                    have ht2 : decide (0 < Tp.length) = true := decide_eq_true ht
                    go_wp2_with fail
                    go_meet
                    case rel => exact ⟨by rw [← HPL.out, decide_eq_false HY.out, decide_eq_true HTT.out]; rfl, rfl⟩
                  · have ht1 : ¬ (0 : Int) < (Tp.length : Int) := by omega
                    have HTT := hid ht
                    have ht2 : decide (0 < Tp.length) = false := decide_eq_false ht
                    cases ba
                    all_goals
                      go_wp2_with fail
                      go_meet
                      case rel => exact ⟨by rw [← HPL.out, decide_eq_false HY.out, decide_eq_false HTT.out]; rfl, rfl⟩
              case rest =>
                obtain ⟨rfl, rfl⟩ := hcut
                cases lk with
                | false =>
                  go_wp2_with fail
                  go_roundw
                  case rel => exact ⟨k + 1, hle30, nr_idx k, HIV2⟩
                  case measure => exact nr_meas hle30
                | true =>
                  cases pl with
                  | false =>
                    go_wp2_with fail
                    go_roundw
                    case rel => exact ⟨k + 1, hle30, nr_idx k, HIV2⟩
                    case measure => exact nr_meas hle30
                  | true =>
                    have hno := HNO.out HLK.out HPL.out
                    rw [hno] at HLE
                    clear hno
                    go_wp2_with (go_at_call 16; refine (HLE.out _ HIV2.out).mono ?_; rintro e w12 ⟨rfl, hb⟩; have HIV3 := hid (HIV2.out.below hb); clear hb)
                    go_roundw
                    case rel => exact ⟨k + 1, hle30, nr_idx k, HIV3⟩
                    case measure => exact nr_meas hle30
        · obtain rfl : k = X.length := by omega
          go_wp2_with fail
          go_roundw
          case rel => exact ⟨i + 1, by omega, by go_num, by rw [← HXL.out]; go_num, hid HIV.out.il⟩
          case measure => simp [intOf]; omega
    · obtain rfl : i = P.length := by omega
      have HLN2 := hid (latest_any Q ⟨#[110, 111, 32, 115, 117, 99, 104]⟩ (.slice ua Q.length uc) (A 0) (A 1) m wr (by omega) HZ.out (HS.out.below HIL.out.bl).vs (tab_below HT.out HIL.out.bl) HIL.out.es)
      have HMA := hid (show manyN Q P.length = Q0.length by rw [← HPE.out, manyN_all HG.out, HLN.out, HLN0.out])
      rw [HMA.out]
      have hee : ((Q0.length : Int) == (Q0.length : Int)) = true := by simp
      have hss : ((⟨#[]⟩ : ByteArray).toList == (⟨#[]⟩ : ByteArray).toList) = true := by simp
      go_wp2_with fail
      refine HLN2.out.mono ?_
      rintro e w10 ⟨X, rfl, hK, hb⟩
      rw [none_of HG.out (by decide) hK]
      have HB10 := hid (HIL.out.bl.trans (hb.mono HIL.out.bl.size))
      clear hb hK
      go_wp2_with fail
      go_ret
      exact ⟨rfl, HB10.out⟩
end Ve
end Go.Proofs.YtanponneancajaaGreatDoor

/-
  pewholderlaw1.IndexLatest: true for every input.
-/
namespace Go.Proofs.YtanponneancajaaGreatDoor
open Go.RowKit
namespace Ve

set_option maxRecDepth 100000 in
set_option maxHeartbeats 2000000 in
theorem il_long (Q0 : List Raw) (L : List Ent) (v : Value) (A : Nat → Addr) (m : Int) (w : World) (S : Te w A m) (htab : Lib.TabIs Tryz.prog w powName .u64 Lib.pow10Tab) (I : Ixs w v Q0 L) (hok : okI L = false) :
    Calls Tryz.prog 4 #[v] w fun e w' => e = .returned (.bool true) ∧ Below w.heap.size w w' := by
  obtain ⟨a0, c0, hv0, -⟩ := id I.es
  subst hv0
  have HIN := hid (indexed_any A m w S htab)
  have HLO := hid (fun W (h : Below w.heap.size w W) => longI_any Q0 L _ W (I.below h))
  rw [hok] at HLO
  clear S htab I hok
  go_enter Tryz.func4, Tryz.ntmps4
  go_wp2_with fail
  refine HIN.out.mono ?_
  rintro e w1 ⟨rfl, hb⟩
  have HB1 := hid hb
  clear hb
  go_wp2_with fail
  refine (HLO.out w1 HB1.out).mono ?_
  rintro e w2 ⟨rfl, hb⟩
  have HB2 := hid (HB1.out.trans (hb.mono HB1.out.size))
  clear hb
  go_wp2_with fail
  go_ret
  exact ⟨rfl, HB2.out⟩
set_option maxRecDepth 100000 in
set_option maxHeartbeats 2000000 in
theorem il_many (Q0 : List Raw) (L : List Ent) (v : Value) (A : Nat → Addr) (m : Int) (w : World) (S : Te w A m) (htab : Lib.TabIs Tryz.prog w powName .u64 Lib.pow10Tab) (I : Ixs w v Q0 L) (hok : okI L = true) (h30 : 30 < L.length) :
    Calls Tryz.prog 4 #[v] w fun e w' => e = .returned (.bool true) ∧ Below w.heap.size w w' := by
  obtain ⟨a0, c0, hv0, -⟩ := id I.es
  subst hv0
  have hq30 : (30 : Int) < (Q0.length : Int) := by rw [I.ln]; omega
  have HIN := hid (indexed_any A m w S htab)
  have HLO := hid (fun W (h : Below w.heap.size w W) => longI_any Q0 L _ W (I.below h))
  rw [if_pos hok] at HLO
  clear S htab I hok h30
  go_enter Tryz.func4, Tryz.ntmps4
  go_wp2_with fail
  refine HIN.out.mono ?_
  rintro e w1 ⟨rfl, hb⟩
  have HB1 := hid hb
  clear hb
  go_wp2_with fail
  refine (HLO.out w1 HB1.out).mono ?_
  rintro e w2 ⟨rfl, hb⟩
  have HB2 := hid (HB1.out.trans (hb.mono HB1.out.size))
  clear hb
  go_wp2_with fail
  go_ret
  exact ⟨rfl, HB2.out⟩
theorem indexLatest_any (Q0 : List Raw) (L : List Ent) (v : Value) (A : Nat → Addr) (m : Int) (w : World) (S : Te w A m) (htab : Lib.TabIs Tryz.prog w powName .u64 Lib.pow10Tab) (I : Ixs w v Q0 L) (em : EmI Q0 L) :
    Calls Tryz.prog 4 #[v] w fun e w' => e = .returned (.bool true) ∧ Below w.heap.size w w' := by
  cases hok : okI L with
  | false => exact il_long Q0 L v A m w S htab I hok
  | true =>
    by_cases h : L.length ≤ 30
    · exact il_main Q0 L v A m w S htab I em hok h
    · exact il_many Q0 L v A m w S htab I hok (by omega)
end Ve
end Go.Proofs.YtanponneancajaaGreatDoor

/-
  An index and a row of modules that a caller hands in, opened.
-/
namespace Go.Proofs.YtanponneancajaaGreatDoor
open Go.ChangeShapes Go.WideShapes Go.ChangeAt Go.RowKit Go.ChangeMaps Go.Joins
namespace Ve

theorem oCellsMod : Tryz.prog.cellsOf 51 = 2 := by kernel_rfl
theorem oCellsStr : Tryz.prog.cellsOf 9 = 1 := by kernel_rfl
theorem oCellsEnt : Tryz.prog.cellsOf 54 = 5 := by kernel_rfl
theorem oCellsMods : Tryz.prog.cellsOf 52 = 1 := by kernel_rfl
theorem oCellsSstr : Tryz.prog.cellsOf 24 = 1 := by kernel_rfl
theorem oCellsBool : Tryz.prog.cellsOf 4 = 1 := by kernel_rfl
/-- The bytes of a string; none of what is no string. -/
def strOf : Value → ByteArray
  | .string s => s
  | _ => ⟨#[]⟩
set_option maxRecDepth 100000 in
/-- A row of modules, opened. -/
theorem open_ms {H : Type} {enc : TypeId × Value → H} {w : World} {base fuel : Nat} {held : Bool} {v : Value} {x : DataW H × List MemPlace}
    (h : DataW.trod enc Tryz.prog w base (fun _ => true) held fuel 52 [v] = some x) : ∃ L, MsAt w v L ∧ Em v L := by
  rcases Go.Deep.open_slice_pairs Tryz.underlying52 Tryz.underlying51 oCellsMod rfl rfl oCellsStr oCellsStr h with ⟨hcs, _⟩ | ⟨a, len, cap, m, n, V0, V1, D0, D1, P0, P1, hcs, _, hl, _, hm, _, hx⟩
  · simp only [List.cons.injEq, and_true] at hcs
    subst hcs
    exact ⟨[], ⟨none, 0, rfl, Nat.le_refl _, fun h => absurd rfl h⟩, fun a c e _ => Or.inl e.symm⟩
  · simp only [List.cons.injEq, and_true] at hcs
    subst hcs
    simp only [if_true] at hm
    subst hm
    have hlen : ((List.range len).map fun i => (strOf (V0 i), strOf (V1 i))).length = len := by simp
    refine ⟨(List.range len).map fun i => (strOf (V0 i), strOf (V1 i)), ⟨some a, m, by rw [hlen], by rw [hlen]; exact hl, fun hne => ?_⟩, fun a' c e h0 => ?_⟩
    · have h0l : 0 < len := by rw [← hlen]; exact List.length_pos_iff.2 hne
      obtain ⟨b, off, spot⟩ := a
      have hspot : spot = none := by simpa [Addr.add] using World.cell?_spot (hx 0 (by omega)).1
      subst hspot
      refine ⟨b, off, rfl, fun j hj => ?_⟩
      have hj2 : j < len := by rw [← hlen]; exact hj
      obtain ⟨g0, g1, t0, t1⟩ := hx j (by omega)
      obtain ⟨s0, e0, _, _⟩ := DataW.trod_string Tryz.underlying9 t0
      obtain ⟨s1, e1, _, _⟩ := DataW.trod_string Tryz.underlying9 t1
      simp only [List.cons.injEq, and_true] at e0 e1
      rw [e0] at g0
      rw [e1] at g1
      simp only [List.getElem_map, List.getElem_range, e0, e1]
      rw [Addr.add_lit] at g0 g1
      exact ⟨g0, g1⟩
    · have hz : len = 0 := by rw [← hlen, h0]; rfl
      rw [hlen] at e
      subst hz
      right
      injection e with e1 e2 e3
      exact ⟨a, by rw [← e1]⟩
set_option maxRecDepth 100000 in
/-- A row of texts, opened. -/
theorem open_tx {H : Type} {enc : TypeId × Value → H} {w : World} {base fuel : Nat} {held : Bool} {v : Value} {x : DataW H × List MemPlace}
    (h : DataW.trod enc Tryz.prog w base (fun _ => true) held fuel 24 [v] = some x) : ∃ X, TxAt w v X ∧ EmT v X := by
  rcases open_strings Tryz.underlying24 Tryz.underlying9 oCellsStr h with ⟨hcs, _⟩ | ⟨a, len, cap, ss, hcs, _, hl, _, hm, _, hx, _⟩
  · simp only [List.cons.injEq, and_true] at hcs
    subst hcs
    exact ⟨[], ⟨none, 0, rfl, Nat.le_refl _, fun h => absurd rfl h⟩, fun a c e _ => Or.inl e.symm⟩
  · simp only [List.cons.injEq, and_true] at hcs
    subst hcs
    simp only [if_true] at hm
    have hlen : (ss.take len).length = len := by rw [List.length_take]; omega
    refine ⟨ss.take len, ⟨some a, cap, by rw [hlen], by rw [hlen]; exact hl, fun hne => ?_⟩, fun a' c e h0 => ?_⟩
    · have h0l : 0 < len := by rw [← hlen]; exact List.length_pos_iff.2 hne
      obtain ⟨b, off, spot⟩ := a
      have hspot : spot = none := by simpa [Addr.add] using World.cell?_spot (hx 0 (by omega))
      subst hspot
      refine ⟨b, off, rfl, fun j hj => ?_⟩
      have hj2 : j < len := by rw [← hlen]; exact hj
      have g := hx j (by omega)
      rw [Addr.add_lit, List.getD_eq_getElem?_getD, List.getElem?_eq_getElem (by omega)] at g
      rw [List.getElem_take]
      exact g
    · have hz : len = 0 := by rw [← hlen, h0]; rfl
      rw [hlen] at e
      subst hz
      right
      injection e with e1 e2 e3
      exact ⟨a, by rw [← e1]⟩
set_option maxRecDepth 100000 in
/-- An entry, opened. -/
theorem open_ent {H : Type} {enc : TypeId × Value → H} {w : World} {base fuel : Nat} {held : Bool} {cs : List Value} {x : DataW H × List MemPlace}
    (h : DataW.trod enc Tryz.prog w base (fun _ => true) held fuel 54 cs = some x) : ∃ (r : Raw) (e : Ent), cs = rowR r ∧ slR r ∧ RawOk w r e ∧ Em r.2.1 e.2.1 ∧ EmT r.2.2.1 e.2.2.1 := by
  obtain ⟨y0, y1, y2, y3, n, _, hl, h0, h1, h2, h3⟩ := trod_struct4 Tryz.underlying54 h
  rw [oCellsEnt] at hl
  match cs, hl with
  | [c0, c1, c2, c3, c4], _ =>
    simp only [oCellsMod, oCellsMods, oCellsSstr, oCellsBool, List.drop, List.take] at h0 h1 h2 h3
    obtain ⟨z0, z1, n2, _, _, k0, k1⟩ := trod_struct2 Tryz.underlying51 h0
    simp only [oCellsStr, List.drop, List.take] at k0 k1
    obtain ⟨s0, e0, _, _⟩ := DataW.trod_string Tryz.underlying9 k0
    obtain ⟨s1, e1, _, _⟩ := DataW.trod_string Tryz.underlying9 k1
    obtain ⟨R, hR, hER⟩ := open_ms h1
    obtain ⟨X, hX, hEX⟩ := open_tx h2
    obtain ⟨b, e4, _⟩ := DataW.trod_bool Tryz.underlying4 h3
    simp only [List.cons.injEq, and_true] at e0 e1 e4
    subst e0 e1 e4
    refine ⟨((s0, s1), c2, c3, b), ((s0, s1), R, X, b), rfl, ⟨?_, ?_⟩, ⟨rfl, hR, hX, rfl⟩, hER, hEX⟩
    · obtain ⟨a, c, e, _⟩ := hR; exact ⟨_, _, _, e⟩
    · obtain ⟨a, c, e, _⟩ := hX; exact ⟨_, _, _, e⟩
set_option maxRecDepth 100000 in
/-- An index, opened. -/
theorem open_ix {H : Type} {enc : TypeId × Value → H} {w : World} {base fuel : Nat} {held : Bool} {v : Value} {x : DataW H × List MemPlace}
    (h : DataW.trod enc Tryz.prog w base (fun _ => true) held fuel 42 [v] = some x) : ∃ Q L, Ixs w v Q L ∧ EmI Q L := by
  rcases Go.Deep.open_slice Tryz.underlying42 h with ⟨hcs, _⟩ | ⟨a, len, cap, m, n, D, Pl, hcs, _, hl, _, hm, _, hx⟩
  · simp only [List.cons.injEq, and_true] at hcs
    subst hcs
    exact ⟨[], [], ⟨⟨none, 0, rfl, Nat.le_refl _, fun r hr => (by cases hr), fun h => absurd rfl h⟩, rfl, fun j h1 => absurd h1 (Nat.not_lt_zero _)⟩, fun j h1 => absurd h1 (Nat.not_lt_zero _)⟩
  · simp only [List.cons.injEq, and_true] at hcs
    subst hcs
    simp only [if_true] at hm
    subst hm
    have each : ∀ i, i < len → ∃ q : Raw × Ent, (∀ c (hc : c < 5), w.cell? (a.add (i * 5 + c)) = (rowR q.1)[c]?) ∧ slR q.1 ∧ RawOk w q.1 q.2 ∧ Em q.1.2.1 q.2.2.1 ∧ EmT q.1.2.2.1 q.2.2.2.1 := fun i hi => by
      obtain ⟨cs', h1, h2⟩ := hx i (by omega)
      obtain ⟨r, e, hcs, k1, k2, k3, k4⟩ := open_ent h2
      rw [oCellsEnt] at h1
      obtain ⟨_, hlen, hcell⟩ := World.cells?_some h1
      refine ⟨(r, e), fun c hc => ?_, k1, k2, k3, k4⟩
      have := hcell c (by omega)
      rw [Go.Deep.add_add] at this
      rw [this, hcs]
    obtain ⟨q, hq⟩ := Go.Deep.choose_lt each
    have hlq : ((List.range len).map fun i => (q i).1).length = len := by simp
    have hll : ((List.range len).map fun i => (q i).2).length = len := by simp
    refine ⟨(List.range len).map fun i => (q i).1, (List.range len).map fun i => (q i).2, ⟨⟨some a, m, by rw [hlq], by rw [hlq]; exact hl, fun r hr => ?_, fun hne => ?_⟩, by rw [hlq, hll], fun j h1 h2 => ?_⟩, fun j h1 h2 => ?_⟩
    · obtain ⟨i, hi, rfl⟩ := List.mem_map.1 hr
      exact (hq i (List.mem_range.1 hi)).2.1
    · have h0l : 0 < len := by rw [← hlq]; exact List.length_pos_iff.2 hne
      obtain ⟨b, off, spot⟩ := a
      have g0 := (hq 0 h0l).1 0 (by omega)
      have hspot : spot = none := by
        have : ∃ u, World.cell? w ((⟨b, off, spot⟩ : Addr).add (0 * 5 + 0)) = some u := ⟨_, g0⟩
        obtain ⟨u, hu⟩ := this
        simpa [Addr.add] using World.cell?_spot hu
      subst hspot
      refine ⟨b, off, rfl, fun j hj => ?_⟩
      have hj2 : j < len := by rw [← hlq]; exact hj
      have g := (hq j hj2).1
      simp only [List.getElem_map, List.getElem_range]
      refine ⟨?_, ?_, ?_, ?_, ?_⟩
      · have := g 0 (by omega); rw [Addr.add_lit] at this; exact this
      · have := g 1 (by omega); rw [Addr.add_lit] at this; exact this
      · have := g 2 (by omega); rw [Addr.add_lit] at this; exact this
      · have := g 3 (by omega); rw [Addr.add_lit] at this; exact this
      · have := g 4 (by omega); rw [Addr.add_lit] at this; exact this
    · have hj2 : j < len := by rw [← hlq]; exact h1
      simp only [List.getElem_map, List.getElem_range]
      exact (hq j hj2).2.2.1
    · have hj2 : j < len := by rw [← hlq]; exact h1
      simp only [List.getElem_map, List.getElem_range]
      exact (hq j hj2).2.2.2
end Ve
end Go.Proofs.YtanponneancajaaGreatDoor

/-
  The plain wrap with a condition, the world's shape kept; variables laid over a world.
-/
namespace Go.Proofs.YtanponneancajaaGreatDoor
open Go.ChangeShapes Go.WideShapes Go.ChangeAt Go.RowKit
namespace Ve

/-- The plain wrap with a condition, the world's shape kept. -/
theorem wrap_and_shaped {H : Type} {enc : TypeId × Value → H} {a : Assume} {C : Checked} {os : Go.Os} {f : FuncId} {fn : Func} {s : ChangeSpec} {conds : List PathCond} {apart fresh handsOn again : Bool} {X : World → Array Value → Prop}
    (hX : ∀ (w w' : World) (args : Array Value), w.heap = w'.heap → X w args → X w' args)
    (own : ownKnob C.prog.godebug = none) (started : os.Started) (noInit : C.prog.inits.idxOf? f = none) (hfn : C.prog.funcs[f]? = some fn)
    (witness : ∃ (w : World) (tape : Tape) (i : Input), w.os = os ∧ (w.forCall tape i).Shaped C.prog ∧ i.vars = [] ∧ Input.okWide C.prog (w.forCall tape i) .any w.heap.size f i ∧
      ((s.pre enc C.prog fn conds apart (w.forCall tape i).memory i.args ∧ X (w.forCall tape i).memory i.args) ∧ sizedMet enc C.prog fn (OpenSpec.ofChange s) apart (w.forCall tape i).memory i.args) ∧ a.holds C.prog (lone (Frame.enter C.prog f i.args .normal) [] (w.forCall tape i)))
    (contract : ∀ (W : World) (base : Nat) (args : Array Value) (ds gs : List (DataW H)) (before : List MemPlace),
      (∀ (j : Nat) t v, fn.params[j]? = some t → args[j]? = some v → Value.okWide C.prog W .any base t v) →
      DataW.Whole enc C.prog fn.params.toList s.vars apart W args.toList ds gs before → X W args → W.ShapedOpen C.prog →
      Calls C.prog f args W fun e W' => ∃ v, e = .returned v ∧ s.post enc C.prog fn apart fresh handsOn again W args v W') :
    ReturnsInHanded a C os f .any (fun w args => (s.pre enc C.prog fn conds apart w args ∧ X w args) ∧ sizedMet enc C.prog fn (OpenSpec.ofChange s) apart w args) (s.post enc C.prog fn apart fresh handsOn again) := by
  refine returnsInHanded_of_calls own started noInit witness ?_
  intro w tape i _ hsh _ hok hpre _
  obtain ⟨_, _, _, fn', hfn', _, _, _, _, hval⟩ := hok
  have e : fn' = fn := Option.some.inj (hfn'.symm.trans hfn)
  subst e
  obtain ⟨⟨⟨ds, gs, before, hw, _⟩, hx⟩, _⟩ := hpre
  have hw' := DataW.Whole.of_heap (w' := w.forCall tape i) (by rfl) hw
  refine (contract (w.forCall tape i) w.heap.size i.args ds gs before hval hw' (hX _ _ _ (by rfl) hx) hsh).mono fun e W' ⟨v, he, hp⟩ => ?_
  subst he
  exact ChangeSpec.post_blind hp

/-- All that is listed, laid over a world. -/
theorem laidMet_over {P : Program} {w0 : World} {laid : List (String × DataW Unit)} (args : Array Value)
    (hf : w0.layFits P laid [] = true) (hi : w0.layIfaces P laid (w0.layVars P laid) = true) :
    laidMet P laid ((w0.layVars P laid).forCall (fun _ _ => 0) ⟨#[], args, []⟩).memory := by
  have e1 : (laid.filter fun x => (laid.map (·.1)).contains x.1) = laid := List.filter_eq_self.2 fun x hx => List.contains_iff_mem.2 (List.mem_map.2 ⟨x, hx, rfl⟩)
  have e2 : (laid.filter fun x => !(laid.map (·.1)).contains x.1) = [] := List.filter_eq_nil_iff.2 fun x hx => by rw [List.contains_iff_mem.2 (List.mem_map.2 ⟨x, hx, rfl⟩)]; simp
  have h : laidMet P laid (w0.layVars P laid) := laidMet_layVars (w0 := w0) (laid.map (·.1)) [] (by rw [e1]) (by rw [e1]; exact hf) (by rw [e1]; exact hi) (by rw [e2]; exact LaidIn.none)
  exact h.of_heap (by simp [World.memory, World.forCall, Input.heap])
end Ve
end Go.Proofs.YtanponneancajaaGreatDoor

/-
  What a list of laid sentinels gives a walk, however long the list: each variable's cell, each pointee's block, and that no two are one.
-/
namespace Go.Proofs.YtanponneancajaaGreatDoor
namespace Er
open Go

theorem sens_rest {P : Program} {nm : String} {W : World} {ti tp te ts : TypeId} {ms : Array (String × TypeId)} {f : Field}
    (hi : P.underlying ti = some (.interface ms)) (hrow : ∀ u, P.typeName? 3 u = some nm → u = tp)
    (hp : P.underlying tp = some (.pointer te)) (he : P.underlying te = some (.struct #[f])) (hft : f.type = ts) (hfo : f.offset = 0) (hs : P.underlying ts = some .string) (hc : P.cellsOf te = 1) (hcs : P.cellsOf ts = 1) (rest : List (String × DataW Unit)) :
    ∀ (ns : List (String × Nat × List UInt8)) (ps : List MemPlace),
      DataW.LaidVars P W ((ns.map fun x => (x.1, DataW.iface nm (.ptr (.agg [.lit (.string x.2.2)])))) ++ rest) ps →
      (∀ x, x ∈ ns → P.globalNamed x.1 = some x.2.1 ∧ (P.globals[x.2.1]?).map (·.type) = some ti) →
      (∀ b off, MemPlace.cell b off ∈ ps → (∃ c t, W.heap[b]? = some (.cells c t (0, 0))) ∧ ∀ u v, W.cell? ⟨b, off, none⟩ = some (.iface u v) → Value.okWide P W .any 0 u v) →
      ∃ al : List Addr, al.length = ns.length ∧ (al.map fun a => MemPlace.cell a.block a.off).Sublist ps ∧
        ∀ (i : Nat) (x : String × Nat × List UInt8) (a : Addr), ns[i]? = some x → al[i]? = some a →
          W.cell? ⟨x.2.1, 0, none⟩ = some (.iface tp (.pointer (some a))) ∧ ∃ c t, W.heap[a.block]? = some (.cells c t (0, 0)) := by
  intro ns
  induction ns with
  | nil =>
    intro ps _ _ _
    exact ⟨[], rfl, List.nil_sublist _, fun i x a h => by simp at h⟩
  | cons n r ih =>
    intro ps hl hg hr
    obtain ⟨g, t, cs, fuel, p, q, hg0, ht0, hv0, hd0, hq, e0⟩ := hl
    obtain ⟨k1, k2⟩ := hg n (List.mem_cons_self)
    obtain rfl := Option.some.inj (k1.symm.trans hg0)
    obtain rfl := Option.some.inj (k2.symm.trans ht0)
    subst e0
    obtain ⟨l0⟩ := cs
    have ok0 : ∀ u v, l0 = [.iface u v] → Value.okWide P W .any 0 u v := fun u v e => by
      subst e
      exact (hr n.2.1 0 (by simp [MemPlace.row])).2 u v (by simpa using World.var?_cell hg0 hv0 0)
    obtain ⟨a0, s0, rfl, hc0, hs0, hz0, rfl⟩ := errorString_of_trod hi hrow hp he hft hfo hs hc hcs hd0 ok0
    obtain ⟨al, hlen, hsub, hall⟩ := ih q hq (fun x hx => hg x (List.mem_cons_of_mem _ hx)) (fun b off hm => hr b off (by simp [hm]))
    refine ⟨a0 :: al, by simp [hlen], ?_, ?_⟩
    · simp only [List.map_cons, MemPlace.row, List.range_one, List.map_nil, Nat.add_zero]
      exact List.Sublist.cons _ (List.Sublist.cons_cons _ hsub)
    · intro i x a hx ha
      cases i with
      | zero =>
        simp only [List.getElem?_cons_zero, Option.some.injEq] at hx ha
        subst hx; subst ha
        exact ⟨by simpa using World.var?_cell hg0 hv0 0, (hr a0.block a0.off (by simp [MemPlace.row])).1⟩
      | succ i =>
        simp only [List.getElem?_cons_succ] at hx ha
        exact hall i x a hx ha

theorem unlike {al : List Addr} {ps : List MemPlace} (hs : (al.map fun a => MemPlace.cell a.block a.off).Sublist ps) (hn : ps.Nodup) {i j : Nat} (hi : i < al.length) (hj : j < al.length) (hij : i ≠ j) : al[i] ≠ al[j] := by
  have h1 : (al.map fun a => MemPlace.cell a.block a.off).Nodup := hs.nodup hn
  intro e
  rw [List.Nodup, List.pairwise_iff_getElem] at h1
  rcases Nat.lt_or_gt_of_ne hij with h | h
  · exact h1 i j (by simpa using hi) (by simpa using hj) h (by simp [e])
  · exact h1 j i (by simpa using hj) (by simpa using hi) h (by simp [e])
end Er
end Go.Proofs.YtanponneancajaaGreatDoor

/-
  Of a row's laid variables and the world's shape: the ten errors, the type's handle, the library's bound and the table of tens.
-/
namespace Go.Proofs.YtanponneancajaaGreatDoor
open Go.ChangeShapes Go.WideShapes Go.ChangeAt Go.RowKit
namespace Ve

theorem etName : Tryz.prog.globalNamed "errors.errorType" = some 10 := by kernel_rfl
/-- The name of the handle's own type, off the listed datum. -/
def rtWord : String := match (Rows.laid_errors_errorType : DataW Unit) with | .iface s _ => s | _ => ""
theorem rtName : (Tryz.prog.cutTypes.find? (·.1 == rtWord)).map (·.2) = some 199 := by kernel_rfl
theorem oneRow : ((List.range 315).filter fun t => Tryz.prog.rowNamed t [101, 114, 114, 111, 114]) = [32] := by kernel_rfl
theorem nTypes : Tryz.prog.types.size = 315 := by kernel_rfl
theorem cellsS : Tryz.prog.cellsOf 304 = 1 := by kernel_rfl
theorem cellsStr : Tryz.prog.cellsOf 9 = 1 := by kernel_rfl
theorem star : "*" ++ "errors.errorString" = "*errors.errorString" := by decide
theorem rowS (u : TypeId) (h : Tryz.prog.typeName? 3 u = some "*errors.errorString") : u = 286 :=
  typeName_ptr_named (nm := "errors.errorString") (by rw [star]; kernel_rfl) (by kernel_rfl) (by decide) u (by rw [star]; exact h)
theorem gPt : (Tryz.prog.globals[(12 : Nat)]?).map (·.type) = some 235 := by kernel_rfl
theorem cellsU : Tryz.prog.cellsOf 214 = 1 := by kernel_rfl
theorem cellsPow : Tryz.prog.cellsOf 235 = 20 := by kernel_rfl

/-- The ten, in the order of package api. -/
def tens : List (String × Nat × List UInt8) :=
  [("pewholder/api.ErrText", 0, [112, 101, 119, 104, 111, 108, 100, 101, 114, 58, 32, 116, 101, 120, 116]),
   ("pewholder/api.ErrBound", 4, [112, 101, 119, 104, 111, 108, 100, 101, 114, 58, 32, 98, 111, 117, 110, 100]),
   ("pewholder/api.ErrShape", 5, [112, 101, 119, 104, 111, 108, 100, 101, 114, 58, 32, 115, 104, 97, 112, 101]),
   ("pewholder/api.ErrMajor", 6, [112, 101, 119, 104, 111, 108, 100, 101, 114, 58, 32, 109, 97, 106, 111, 114]),
   ("pewholder/api.ErrNone", 3, [112, 101, 119, 104, 111, 108, 100, 101, 114, 58, 32, 110, 111, 110, 101]),
   ("pewholder/api.ErrExist", 7, [112, 101, 119, 104, 111, 108, 100, 101, 114, 58, 32, 101, 120, 105, 115, 116]),
   ("pewholder/api.ErrFull", 1, [112, 101, 119, 104, 111, 108, 100, 101, 114, 58, 32, 102, 117, 108, 108]),
   ("pewholder/api.ErrOrder", 2, [112, 101, 119, 104, 111, 108, 100, 101, 114, 58, 32, 111, 114, 100, 101, 114]),
   ("pewholder/api.ErrClash", 8, [112, 101, 119, 104, 111, 108, 100, 101, 114, 58, 32, 99, 108, 97, 115, 104]),
   ("pewholder/api.ErrSum", 9, [112, 101, 119, 104, 111, 108, 100, 101, 114, 58, 32, 115, 117, 109])]
theorem tens_named : ∀ x, x ∈ tens → Tryz.prog.globalNamed x.1 = some x.2.1 ∧ (Tryz.prog.globals[x.2.1]?).map (·.type) = some 32 := by
  have h : (tens.all fun x => Tryz.prog.globalNamed x.1 == some x.2.1 && (Tryz.prog.globals[x.2.1]?).map (·.type) == some 32) = true := by kernel_rfl
  intro x hx
  simpa using List.all_eq_true.1 h x hx

/-- Of the laid ten (whatever is laid behind them) and of the type's handle. -/
theorem sen_of {W : World} (rest : List (String × DataW Unit)) (hl : laidMet Tryz.prog ((tens.map fun x => (x.1, DataW.iface "*errors.errorString" (.ptr (.agg [.lit (.string x.2.2)])))) ++ rest) W)
    (hh : handlesMet Tryz.prog [("errors.errorType", Rows.laid_errors_errorType)] W) : ∃ A, Er.Sen W A := by
  obtain ⟨ps, hl, hnd, hrows⟩ := hl
  obtain ⟨name, u, ty, e1, e2, e3, e4, e5⟩ := hh _ (List.mem_singleton.2 rfl)
  have en : name = [101, 114, 114, 111, 114] := (Option.some.inj e1).symm
  subst en
  obtain rfl := Option.some.inj (rtName.symm.trans e2)
  have hm : ty ∈ (List.range 315).filter fun t => Tryz.prog.rowNamed t [101, 114, 114, 111, 114] := List.mem_filter.2 ⟨List.mem_range.2 (by rw [← nTypes]; exact e3), e4⟩
  rw [oneRow] at hm
  obtain rfl := List.mem_singleton.1 hm
  have hhd : typeHandle Tryz.prog 32 = .pointer (some ⟨17, 32, none⟩) := by kernel_rfl
  rw [hhd] at e5
  have het : W.cell? ⟨10, 0, none⟩ = some (.iface 199 (.agg #[.pointer (some ⟨17, 32, none⟩)])) := by simpa using World.var?_cell etName e5 0
  obtain ⟨al, hlen, hsub, hall⟩ := Er.sens_rest Tryz.underlying32 rowS Tryz.underlying286 Tryz.underlying304 rfl rfl Tryz.underlying9 cellsS cellsStr rest tens ps hl tens_named hrows
  have hten : al.length = 10 := hlen
  refine ⟨fun k => al.getD k ⟨0, 0, none⟩, ?_⟩
  have get : ∀ k, k < 10 → al[k]? = some (al.getD k ⟨0, 0, none⟩) := fun k hk => by
    rw [List.getD_eq_getElem?_getD, List.getElem?_eq_getElem (by omega)]; rfl
  refine ⟨(hall 0 _ _ rfl (get 0 (by omega))).1, (hall 1 _ _ rfl (get 1 (by omega))).1, (hall 2 _ _ rfl (get 2 (by omega))).1, (hall 3 _ _ rfl (get 3 (by omega))).1, (hall 4 _ _ rfl (get 4 (by omega))).1, (hall 5 _ _ rfl (get 5 (by omega))).1, (hall 6 _ _ rfl (get 6 (by omega))).1, (hall 7 _ _ rfl (get 7 (by omega))).1, (hall 8 _ _ rfl (get 8 (by omega))).1, (hall 9 _ _ rfl (get 9 (by omega))).1, het, ?_, ?_⟩
  · intro k hk
    have hx : ∃ x, tens[k]? = some x := ⟨tens[k]'hk, List.getElem?_eq_getElem hk⟩
    obtain ⟨x, hx⟩ := hx
    exact (hall k x _ hx (get k hk)).2
  · intro i j hi hj hij
    have := Er.unlike hsub hnd (i := i) (j := j) (by omega) (by omega) hij
    intro e
    apply this
    have hi' := get i hi
    have hj' := get j hj
    rw [List.getElem?_eq_getElem (by omega)] at hi' hj'
    rw [Option.some.inj hi', Option.some.inj hj']
    exact e
/-- The library's bound, off the world's shape. -/
theorem ml_of {W : World} (hsh : W.ShapedOpen Tryz.prog) : ∃ m, W.cell? ⟨11, 0, none⟩ = some (.int .i64 m) :=
  cell_of_shapedOpen_int (P := Tryz.prog) (g := 11) (t := 3) (zero := #[.int .i64 0]) hsh (of_decide_eq_true (by kernel_rfl)) (by kernel_rfl) rfl (by kernel_rfl) (by kernel_rfl) Tryz.underlying3
end Ve
end Go.Proofs.YtanponneancajaaGreatDoor
