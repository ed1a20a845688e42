/-
  PkF PkG PkH
-/
import Derived.Test.YtnkgjddkdikikaaGreatDoorPq2
import Derived.Test.YtnkgjddkdikikaaGreatDoorPq3
import Derived.Test.YtnkgjddkdikikaaGreatDoorPq4
import Derived.Test.YtnkgjddkdikikaaGreatDoorPq7
import Derived.Test.YtnkgjddkdikikaaGreatDoorPq10
import Derived.Test.YtnkgjddkdikikaaGreatDoorPq13
import Derived.Test.YtnkgjddkdikikaaGreatDoorPq21
import Derived.Test.YtnkgjddkdikikaaGreatDoorPq23
import Derived.Test.YtnkgjddkdikikaaGreatDoorPq27
import Derived.Test.YtnkgjddkdikikaaGreatDoorPq26
import Derived.Test.YtnkgjddkdikikaaGreatDoorPq29
import Derived.Test.YtnkgjddkdikikaaGreatDoorPq31
import Derived.Test.YtnkgjddkdikikaaGreatDoorPq12
import Derived.Test.YtnkgjddkdikikaaGreatDoorPq5
import Derived.Test.YtnkgjddkdikikaaGreatDoorPq22
import Derived.Test.YtnkgjddkdikikaaGreatDoorPq24
import Derived.Test.YtnkgjddkdikikaaGreatDoorPq63
import Derived.Test.YtnkgjddkdikikaaGreatDoorPq1
import Derived.Test.YtnkgjddkdikikaaGreatDoorPq65
import Derived.Test.YtnkgjddkdikikaaGreatDoorPq35
import Derived.Test.YtnkgjddkdikikaaGreatDoorPq14
import Derived.Test.YtnkgjddkdikikaaGreatDoorPq17
import Derived.Test.YtnkgjddkdikikaaGreatDoorPq83
import Derived.Test.YtnkgjddkdikikaaGreatDoorPq49
import Derived.Test.YtnkgjddkdikikaaGreatDoorPq84
import Derived.Test.YtnkgjddkdikikaaGreatDoorPq32
namespace Go.Proofs.YtnkgjddkdikikaaGreatDoor
open Go.RowKit Go.Maps
namespace Ve
theorem Pg.start {w W : World} {fb : Nat} (h : Pf w W fb 0 (-1)) : Pg w (W.alloc (.cells #[.string ⟨#[]⟩, .string ⟨#[]⟩] 35)) fb W.heap.size (⟨#[]⟩, ⟨#[]⟩) :=
  ⟨h.below ((Below.refl _ _).alloc (Nat.le_refl _) _), heap_new _ _, lt_of_blk h.f⟩
theorem Pg.set {w W : World} {fb bb : Nat} {b : Bm} (h : Pg w W fb bb b) (m : Bm) : Pg w ((W.setCell ⟨bb, 0, none⟩ (.string m.1)).setCell ⟨bb, 1, none⟩ (.string m.2)) fb bb m := by
  have g := h.pf.ge
  have l := h.lt
  refine ⟨⟨put2_below h.pf.bl (by omega), ?_, ?_, ?_, g⟩, ?_, l⟩
  · exact keep_set (keep_set h.pf.m (by omega)) (by omega)
  · exact keep_set (keep_set h.pf.e (by omega)) (by omega)
  · exact keep_set (keep_set h.pf.f (by omega)) (by omega)
  · rw [set_block (set_block h.bst)]; rfl
theorem bst_yes {Q : List Raw} {L : List Ent} {p : ByteArray} {R : List Bm} {k : Nat} (hk : k < R.length) (h1 : inB p (pkOf Q L R[k]) = true) (h2 : (bstN Q L p R k).1.size < R[k].1.size) : bstN Q L p R (k + 1) = R[k] := by
  rw [bstN_next hk]; unfold bstS; rw [h1, decide_eq_true h2]; rfl
theorem bst_no {Q : List Raw} {L : List Ent} {p : ByteArray} {R : List Bm} {k : Nat} (hk : k < R.length) (h : ¬ (inB p (pkOf Q L R[k]) = true ∧ (bstN Q L p R k).1.size < R[k].1.size)) : bstN Q L p R (k + 1) = bstN Q L p R k := by
  rw [bstN_next hk]; unfold bstS
  rw [if_neg]
  rw [Bool.and_eq_true, decide_eq_true_iff]; exact h
theorem es_at {W : World} {a : Option Addr} {n c : Nat} {Q : List Raw} (h : EsAt W (.slice a n c) Q) {k : Nat} (hk : k < Q.length) : ∃ b o, a = some ⟨b, o, none⟩ ∧ slR Q[k] ∧ W.cell? ⟨b, o + k * 5, none⟩ = some (.string Q[k].1.1) ∧ W.cell? ⟨b, o + k * 5 + 1, none⟩ = some (.string Q[k].1.2) ∧ W.cell? ⟨b, o + k * 5 + 2, none⟩ = some Q[k].2.1 ∧ W.cell? ⟨b, o + k * 5 + 3, none⟩ = some Q[k].2.2.1 ∧ W.cell? ⟨b, o + k * 5 + 4, none⟩ = some (.bool Q[k].2.2.2) := by
  obtain ⟨a', c', e, _, hs, h⟩ := h
  injection e with e1 e2 e3
  subst e1
  obtain ⟨b', o', e4, h4⟩ := h (by intro h0; rw [h0] at hk; simp at hk)
  exact ⟨b', o', e4, hs _ (List.getElem_mem hk), h4 k hk⟩
theorem pk_open {W : World} {a : Option Addr} {n c : Nat} {Q : List Raw} {L : List Ent} (I : Ixs W (.slice a n c) Q L) (sh : ∀ e, e ∈ L → ShE e) {m : Bm} {j : Nat} (hj : idxOf (isM m) Q = (j : Int)) :
    ∃ b o t q ra rn rc pa pn pc bk X, a = some ⟨b, o, none⟩ ∧ j < Q.length ∧ W.cell? ⟨b, o + j * 5, none⟩ = some (.string t) ∧ W.cell? ⟨b, o + j * 5 + 1, none⟩ = some (.string q) ∧ W.cell? ⟨b, o + j * 5 + 2, none⟩ = some (.slice ra rn rc) ∧ W.cell? ⟨b, o + j * 5 + 3, none⟩ = some (.slice pa pn pc) ∧ W.cell? ⟨b, o + j * 5 + 4, none⟩ = some (.bool bk) ∧
      TxAt W (.slice pa pn pc) X ∧ X.length ≤ 1000 ∧ t.size < 999999 ∧ (∀ x, x ∈ X → x.size < 999999) ∧ X.map (packT t) = pkOf Q L m := by
  obtain ⟨hk, -⟩ := idx_is hj
  have hkL : j < L.length := by rw [← I.ln]; exact hk
  obtain ⟨b, o, e, ⟨⟨ra, rn, rc, h1⟩, pa, pn, pc, h2⟩, c0, c1, c2, c3, c4⟩ := es_at I.es hk
  have ok := I.ok j hk hkL
  have hS := sh _ (List.getElem_mem hkL)
  have pk := ok.pk
  rw [h2] at pk c3
  rw [h1] at c2
  refine ⟨b, o, _, _, ra, rn, rc, pa, pn, pc, _, L[j].2.2.1, e, hk, c0, c1, c2, c3, c4, pk, hS.pn, ?_, hS.ps, ?_⟩
  · rw [ok.m]; exact hS.p
  · unfold pkOf packL
    rw [entOf_at hj hkL, ok.m]
theorem rpacks_is (t q : ByteArray) (ra : Option Addr) (rn rc : Nat) (pa : Option Addr) (pn pc : Nat) (bk : Bool) (X : List ByteArray) (w : World) (hx : TxAt w (.slice pa pn pc) X) (hX : X.length ≤ 1000) (ht : t.size < 999999) (hxs : ∀ x, x ∈ X → x.size < 999999) :
    Calls Tryz.prog 110 #[.agg #[.string t, .string q, .slice ra rn rc, .slice pa pn pc, .bool bk]] w fun e w' => ∃ u, e = .returned u ∧ TxAt w' u (X.map (packT t)) ∧ Below w.heap.size w w' :=
  (rpacks_any ((t, q), .slice ra rn rc, .slice pa pn pc, bk) X w ⟨⟨ra, rn, rc, rfl⟩, pa, pn, pc, rfl⟩ hx hX ht hxs).mono fun _ _ ⟨u, h1, h2, h3⟩ => ⟨u, h1, own_tx h2, h3⟩
set_option maxRecDepth 100000 in
set_option maxHeartbeats 4000000 in
theorem rof_good (Q : List Raw) (L : List Ent) (R : List Bm) (p : ByteArray) (v rv : Value) (w : World) (hn : L.length ≤ 1000) (sh : ∀ e, e ∈ L → ShE e) (I : Ixs w v Q L) (hR : R.length ≤ 1000000) (hr : MsAt w rv R) (hp : p.size < 4294967281) (hc : chk Q L = (0, none)) (he : pathErr p.data.toList = 0 ∨ pathErr p.data.toList = 4) (hs : slF Q R = (0, none)) (hu : ∀ j (h : j < R.length), ∃ k : Nat, idxOf (isM R[j]) Q = (k : Int)) :
    Calls Tryz.prog 46 #[v, rv, .string p] w fun e w' => (e = .returned (if (bstN Q L p R R.length).1.size = 0 then .tuple #[.agg #[.string ⟨#[]⟩, .string ⟨#[]⟩], faultV (5, none)] else .tuple #[.agg #[.string (bstN Q L p R R.length).1, .string (bstN Q L p R R.length).2], faultV (0, none)])) ∧ Below w.heap.size w w' := by
  have HBm := hid ((Below.refl w.heap.size w).alloc (Nat.le_refl _) (.cells #[.string ⟨#[]⟩, .string ⟨#[]⟩] 35))
  have HB0 := hid (HBm.out.alloc HBm.out.size (.cells #[.int .i64 0, .int .i64 0] 62))
  have HIF := hid (fun W (h : Below w.heap.size w W) => iFault_any Q L v W hn sh (I.below h))
  have HPE := hid (fun W => pathError_any p W hp)
  have HSF := hid (fun W (h : Below w.heap.size w W) => rsel_any Q R v rv W (by rw [I.ln]; exact hn) hR (I.es.below h) (hr.below h))
  have HFO := hid (fun m (j : Nat) (hj : idxOf (isM m) Q = (j : Int)) W (h : Below w.heap.size w W) => by have h9 := findOf_all Q m v W (by rw [I.ln]; omega) (I.es.below h); rw [hj] at h9; exact h9)
  have HMR := hid (fun W (h : Below w.heap.size w W) => hr.below h)
  have HIX := hid (fun W (h : Below w.heap.size w W) => I.below h)
  have HSH := hid sh
  have HU := hid hu
  have HLN := hid I.ln
  obtain ⟨va, vc, hv1, -⟩ := id I.es
  subst hv1
  obtain ⟨ra, rc, hrv, -⟩ := id hr
  subst hrv
  rw [hc] at HIF
  rw [hs] at HSF
  unfold faultV at HIF HSF ⊢
  simp only at HIF HSF ⊢
  have ha : atOf none = -1 := rfl
  rw [ha] at HIF HSF ⊢
  obtain ⟨ans, hans⟩ : ∃ ans, ans = (if (bstN Q L p R R.length).1.size = 0 then Value.tuple #[.agg #[.string ⟨#[]⟩, .string ⟨#[]⟩], .agg #[.int .i64 ((5 : Nat) : Int), .int .i64 (-1)]] else .tuple #[.agg #[.string (bstN Q L p R R.length).1, .string (bstN Q L p R R.length).2], .agg #[.int .i64 ((0 : Nat) : Int), .int .i64 (-1)]]) := ⟨_, rfl⟩
  rw [← hans]
  have HANS := hid hans
  have HBA := hid (fun (n : Int) W => rbare_any n W)
  have HFN := hid (fun W => fine_any W)
  clear I sh hc hs hr hu hans
  rcases he with he | he
  all_goals
    rw [he] at HPE
    clear he
    go_enter Tryz.func46, Tryz.ntmps46
    go_wp2_with fail
    refine (HIF.out _ HB0.out).mono ?_
    rintro e w1 ⟨rfl, hb⟩
    have HP1 := hid (Pf.start (c := 0) (a := -1) (by simpa using hb))
    clear hb
    obtain ⟨-, -, f0, f1, ff⟩ := HP1.out.cells
    go_wp2_with fail
    generalize w1.alloc (.cells #[.int .i64 0, .int .i64 (-1)] 62) = w2 at *
    refine (HPE.out _).mono ?_
    rintro e w3 ⟨rfl, hb⟩
    have HP3 := hid (HP1.out.below hb)
    clear hb f0 f1 ff HP1
    obtain ⟨-, -, f0, f1, ff⟩ := HP3.out.cells
    go_wp2_with fail
    refine (HSF.out _ HP3.out.bl).mono ?_
    rintro e w4 ⟨rfl, hb⟩
    have HP4 := hid (HP3.out.below hb)
    clear hb f0 f1 ff HP3
    obtain ⟨-, -, f0, f1, ff⟩ := HP4.out.cells
    have HP5 := hid (HP4.out.set (x := 0) (y := -1))
    have HZ5 := hid (show ((w4.setCell ⟨w1.heap.size, 0, none⟩ (.int .i64 0)).setCell ⟨w1.heap.size, 1, none⟩ (.int .i64 (-1))).heap.size = w4.heap.size by simp)
    go_wp2_with fail
    generalize (w4.setCell ⟨w1.heap.size, 0, none⟩ (.int .i64 0)).setCell ⟨w1.heap.size, 1, none⟩ (.int .i64 (-1)) = w5 at *
    clear f0 f1 ff HP4
    have HG5 := hid (Pg.start HP5.out)
    rw [HZ5.out] at HG5
    go_loopw [11] (fun iv wr => ∃ k : Nat, k ≤ R.length ∧ iv = .int .i64 k ∧ Hid (Pg w wr w1.heap.size w4.heap.size (bstN Q L p R k))) (fun iv _ => R.length - (intOf iv).toNat)
    case atStart => exact ⟨0, Nat.zero_le _, rfl, HG5⟩
    case round =>
      obtain ⟨k, hk, rfl, HG⟩ := hrel
      by_cases hlt : k < R.length
      · have hkI := ix_lt hlt
        have hk0 := ix_pos k
        have HLT := hid hlt
        obtain ⟨xb, xo, hxa, y0, y1⟩ := (HMR.out _ HG.out.pf.bl).cells hlt
        subst hxa
        obtain ⟨j, hj⟩ := HU.out k hlt
        have HF := hid (HFO.out _ j hj _ HG.out.pf.bl)
        have HYN := hid (fun W (h : Below wr.heap.size wr W) => And.intro (cell_below h y0) (cell_below h y1))
        have HOP := hid (fun W (h : Below w.heap.size w W) => pk_open (HIX.out W h) HSH.out hj)
        have HY := hid (fun h1 h2 => bst_yes (Q := Q) (L := L) (p := p) hlt h1 h2)
        have HN := hid (fun h => bst_no (Q := Q) (L := L) (p := p) hlt h)
        clear hj
        generalize R[k] = x at *
        obtain ⟨x1, x2'⟩ := x
        generalize bstN Q L p R k = b at *
        obtain ⟨b1, b2⟩ := b
        clear hlt
        go_wp2_with fail
        refine HF.out.mono ?_
        rintro e w6 ⟨rfl, hb⟩
        have HG6 := hid (HG.out.below hb)
        obtain ⟨z0, z1⟩ := HYN.out _ hb
        have HB6 := hid hb
        clear hb
        obtain ⟨eb, eo, t, q, qa, qn, qc, pa, pn, pc, bk, X, hva, hjQ, c0, c1, c2, c3, c4, hX, hXl, ht, hXs, hPK⟩ := HOP.out _ HG6.out.pf.bl
        subst hva
        have hjI := ix_lt hjQ
        have hj0 := ix_pos j
        have HPS := hid (fun W (h : Below w6.heap.size w6 W) => rpacks_is t q qa qn qc pa pn pc bk X W (hX.below h) hXl ht hXs)
        rw [hPK] at HPS
        have HPL := hid (show (pkOf Q L (x1, x2')).length ≤ 1000 by rw [← hPK, List.length_map]; exact hXl)
        clear hX hXl ht hXs hPK HOP
        go_wp2_with fail
        refine (HPS.out _ (Below.refl _ _)).mono ?_
        rintro e w7 ⟨u, rfl, hu, hb⟩
        have HG7 := hid (HG6.out.below hb)
        have HB7 := hid (HB6.out.trans (hb.mono HB6.out.size))
        have HIT := hid (inT_any p _ u w7 (Nat.le_trans HPL.out (by decide)) hu)
        clear hb c0 c1 c2 c3 c4 z0 z1 HG6 HB6 HPS HPL
        obtain ⟨ua, uc, hu1, -⟩ := hu
        subst hu1
        obtain ⟨z0, z1⟩ := HYN.out _ HB7.out
        obtain ⟨d0, d1, df⟩ := bx2 HG7.out.bst
        cases hin : inB p (pkOf Q L (x1, x2'))
        · rw [hin] at HIT
          have HN2 := hid (HN.out (by rw [hin]; simp))
          clear hin
          go_wp2_with fail
          refine HIT.out.mono ?_
          rintro e w8 ⟨rfl, rfl⟩
          go_wp2_with fail
          go_quiet (fail)
          have HG8 := hid (HG7.out.below (below_drawn _ nq))
          go_wp2_with fail
          go_roundw
          case rel => exact ⟨k + 1, HLT.out, by first | exact nr_idx k | exact nx_idx HLT.out hR, by rw [HN2.out]; exact HG8⟩
          case measure => first | exact nr_meas HLT.out | exact nx_meas HLT.out hR
        · rw [hin] at HIT
          by_cases hgt : b1.size < x1.size
          · have HY2 := hid (HY.out hin hgt)
            have hgI : (b1.size : Int) < (x1.size : Int) := by omega
            clear hin hgt
            go_wp2_with fail
            refine HIT.out.mono ?_
            rintro e w8 ⟨rfl, rfl⟩
            go_wp2_with fail
            go_quiet (fail)
            have HG8 := hid (HG7.out.below (below_drawn _ nq))
            clear z0 z1 d0 d1 df
            obtain ⟨z0, z1⟩ := HYN.out _ (HB7.out.trans ((below_drawn w8 nq).mono HB7.out.size))
            generalize w8.drewN nq = w9 at *
            obtain ⟨d0, d1, df⟩ := bx2 HG8.out.bst
            have HG9 := hid (HG8.out.set (x1, x2'))
            go_wp2_with fail
            go_roundw
            case rel => exact ⟨k + 1, HLT.out, by first | exact nr_idx k | exact nx_idx HLT.out hR, by rw [HY2.out]; exact HG9⟩
            case measure => first | exact nr_meas HLT.out | exact nx_meas HLT.out hR
          · have HN2 := hid (HN.out (fun h => hgt h.2))
            have hgI : ¬ (b1.size : Int) < (x1.size : Int) := by omega
            clear hin hgt
            go_wp2_with fail
            refine HIT.out.mono ?_
            rintro e w8 ⟨rfl, rfl⟩
            go_wp2_with fail
            go_quiet (fail)
            have HG8 := hid (HG7.out.below (below_drawn _ nq))
            go_wp2_with fail
            go_roundw
            case rel => exact ⟨k + 1, HLT.out, by first | exact nr_idx k | exact nx_idx HLT.out hR, by rw [HN2.out]; exact HG8⟩
            case measure => first | exact nr_meas HLT.out | exact nx_meas HLT.out hR
      · have hkI := ix_nlt hlt
        have hke : k = R.length := by omega
        subst hke
        clear hlt
        generalize hbN : bstN Q L p R R.length = b at *
        obtain ⟨b1, b2⟩ := b
        clear hbN
        obtain ⟨⟨m0, m1, mf⟩, ⟨s0, s1, sf⟩, -⟩ := HG.out.pf.cells
        obtain ⟨d0, d1, df⟩ := bx2 HG.out.bst
        simp only at d0 d1
        by_cases hz : b1.size = 0
        · have hb1 : (b1.toList == []) = true := by
            have : b1.data.toList = [] := List.length_eq_zero_iff.1 (by rw [len_eq]; exact hz)
            rw [ByteArray.toList_eq, this]; rfl
          have HA := hid (HANS.out.trans (if_pos hz))
          clear hz
          go_wp2_with fail
          refine (HBA.out _ _).mono ?_
          rintro e w6 ⟨rfl, hb⟩
          have HG6 := hid (HG.out.below hb)
          clear hb m0 m1 mf s0 s1 sf d0 d1 df
          obtain ⟨⟨m0, m1, mf⟩, ⟨s0, s1, sf⟩, -⟩ := HG6.out.pf.cells
          go_wp2_with fail
          refine bodyPost_ret (v := .tuple #[.agg #[.string ⟨#[]⟩, .string ⟨#[]⟩], .agg #[.int .i64 5, .int .i64 (-1)]]) (by simp [results, Tryz.results46, go_sem, m0, m1, s0, s1]) rfl ⟨by rw [HA.out]; rfl, ?_⟩
          exact put22_below HG6.out.pf.bl (Nat.le_refl _) (Nat.le_succ _)
        · have hb1 : (b1.toList == []) = false := by
            rw [ByteArray.toList_eq, beq_eq_false_iff_ne]
            intro h
            have := congrArg List.length h
            rw [len_eq] at this
            exact hz this
          have HA := hid (HANS.out.trans (if_neg hz))
          clear hz
          have hge := HG.out.pf.ge
          have hlt3 := HG.out.lt
          have n1 : ¬ w4.heap.size = w.heap.size := by omega
          have n2 : ¬ w4.heap.size = w.heap.size + 1 := by omega
          have n3 : ¬ w.heap.size = w4.heap.size := by omega
          have n4 : ¬ w.heap.size + 1 = w4.heap.size := by omega
          go_wp2_with fail
          go_region_with (first
            | (go_at_call 91; refine (HFN.out _).mono ?_; rintro e w7 ⟨rfl, hb⟩; have HG7 := hid ((HG.out.below (below_drawn _ 1)).below hb); clear hb; obtain ⟨⟨m0, m1, mf⟩, ⟨s0, s1, sf⟩, -⟩ := HG7.out.pf.cells; obtain ⟨d0, d1, df⟩ := bx2 HG7.out.bst; simp only at d0 d1))
          all_goals
            go_wp2_with fail
            refine bodyPost_ret (v := .tuple #[.agg #[.string b1, .string b2], .agg #[.int .i64 0, .int .i64 (-1)]]) (by simp [results, Tryz.results46, go_sem, m0, m1, s0, s1]) rfl ⟨by rw [HA.out]; rfl, ?_⟩
            exact put22_below HG7.out.pf.bl (Nat.le_refl _) (Nat.le_succ _)
end Ve
end Go.Proofs.YtnkgjddkdikikaaGreatDoor
namespace Go.Proofs.YtnkgjddkdikikaaGreatDoor
open Go.RowKit Go.Maps
namespace Ve
theorem fst_pos {E : Nat → Nat} : ∀ {n i : Nat}, fstE E n = some i → E i ≠ 0
  | 0, _, h => by cases h
  | n + 1, i, h => by
    unfold fstE at h
    split at h
    · next j hj =>
      injection h with h
      subst h
      exact fst_pos hj
    · split at h
      · cases h
      · next hne =>
        injection h with h
        subst h; exact hne
theorem code_fine {E : Nat → Nat} {n : Nat} (h : codeE E n = 0) : fstE E n = none := by
  cases hf : fstE E n with
  | none => rfl
  | some i => rw [codeE_some hf] at h; exact absurd h (fst_pos hf)
theorem slF_fine {Q : List Raw} {R : List Bm} (h : (slF Q R).1 = 0) : slF Q R = (0, none) := Prod.ext h (code_fine h)
theorem chk_fine {Q : List Raw} {L : List Ent} (h : (chk Q L).1 = 0) : chk Q L = (0, none) := by
  by_cases h1 : 100 < L.length
  · rw [chk_full h1] at h; cases h
  · cases hf : fstE (entE L) L.length with
    | some i => rw [chk_each h1 hf] at h; exact absurd h (fst_pos hf)
    | none =>
      rw [chk_reqs h1 hf] at h ⊢
      exact Prod.ext h (code_fine h)
theorem sl_found {w : World} {v : Value} {Q : List Raw} {L : List Ent} (I : Ixs w v Q L) {R : List Bm} (h : (slF Q R).1 = 0) : ∀ j (hj : j < R.length), ∃ k : Nat, idxOf (isM R[j]) Q = (k : Int) := fun j hj =>
  (found_iff I R[j]).1 (nonE_found I h _ (List.getElem_mem hj))
theorem rof_any (Q : List Raw) (L : List Ent) (R : List Bm) (p : ByteArray) (v rv : Value) (w : World) (hn : L.length ≤ 1000) (sh : ∀ e, e ∈ L → ShE e) (I : Ixs w v Q L) (hR : R.length ≤ 1000000) (hr : MsAt w rv R) (hp : p.size < 4294967281) :
    Calls Tryz.prog 46 #[v, rv, .string p] w fun e w' => e = .returned (.tuple #[.agg #[.string (ofM Q L R p).1, .string (ofM Q L R p).2], faultV (ofF Q L R p)]) ∧ Below w.heap.size w w' := by
  obtain ⟨ra, rc, hrv, -⟩ := id hr
  by_cases hc : (chk Q L).1 = 0
  · have hc0 := chk_fine hc
    by_cases he : pathErr p.data.toList = 0 ∨ pathErr p.data.toList = 4
    · by_cases hs : (slF Q R).1 = 0
      · have hs0 := slF_fine hs
        have e : ofF Q L R p = if (bstN Q L p R R.length).1.size = 0 then (5, none) else (0, none) := by
          unfold ofF
          rw [if_neg (by simp [hc]), if_neg (by omega), if_neg (by simp [hs])]
        refine (rof_good Q L R p v rv w hn sh I hR hr hp hc0 he hs0 (sl_found I hs)).mono fun e' w' ⟨h1, h2⟩ => ⟨?_, h2⟩
        rw [h1]
        unfold ofM
        rw [e]
        by_cases hz : (bstN Q L p R R.length).1.size = 0
        · rw [if_pos hz, if_pos hz, if_neg (by decide)]
        · rw [if_neg hz, if_neg hz, if_pos rfl]
      · have e : ofF Q L R p = slF Q R := by
          unfold ofF
          rw [if_neg (by simp [hc]), if_neg (by omega), if_pos hs]
        refine (rof_sel Q L R p v rv w hn sh I hR hr hp hc0 he hs).mono fun e' w' ⟨h1, h2⟩ => ⟨?_, h2⟩
        rw [h1]
        unfold ofM
        rw [e, if_neg hs]
    · have e : ofF Q L R p = (pathErr p.data.toList, none) := by
        unfold ofF
        rw [if_neg (by simp [hc]), if_pos (by omega)]
      have he2 : pathErr p.data.toList = 1 ∨ pathErr p.data.toList = 2 := by
        rcases pathErr_err p.data.toList with h | h | h | h
        · exact absurd (Or.inl h) he
        · exact Or.inl h
        · exact Or.inr h
        · exact absurd (Or.inr h) he
      refine (rof_path Q L p v rv ra R.length rc hrv w hn sh I hp hc0 he2).mono fun e' w' ⟨h1, h2⟩ => ⟨?_, h2⟩
      rw [h1]
      unfold ofM
      rw [e, if_neg (by show ¬ pathErr p.data.toList = 0; omega)]
  · have e : ofF Q L R p = chk Q L := by
      unfold ofF
      rw [if_pos hc]
    refine (rof_chk Q L p v rv ra R.length rc hrv w hn sh I hc).mono fun e' w' ⟨h1, h2⟩ => ⟨?_, h2⟩
    rw [h1]
    unfold ofM
    rw [e, if_neg hc]
end Ve
end Go.Proofs.YtnkgjddkdikikaaGreatDoor
namespace Go.Proofs.YtnkgjddkdikikaaGreatDoor
open Go.RowKit Go.Maps
namespace Ve
theorem Pb.start {w W : World} {c a : Int} (hb : Below (w.heap.size + 1) (w.alloc (.cells #[.int .i64 0, .int .i64 0] 62)) W) : Pb w (W.alloc (.cells #[.int .i64 c, .int .i64 a] 62)) W.heap.size c a := by
  have b0 := ((Below.refl w.heap.size w).alloc (Nat.le_refl _) (.cells #[.int .i64 0, .int .i64 0] 62))
  have hs : w.heap.size + 1 ≤ W.heap.size := by have := hb.size; simpa using this
  have b2 := b0.trans (hb.mono (Nat.le_add_right _ 1))
  have e1 := (hb.block w.heap.size (by omega)).trans (heap_new w (.cells #[.int .i64 0, .int .i64 0] 62))
  exact ⟨b2.alloc b2.size _, heap_old _ _ e1, heap_new _ _, hs⟩
theorem Pb.set {w W : World} {fb : Nat} {c a x y : Int} (h : Pb w W fb c a) : Pb w ((W.setCell ⟨fb, 0, none⟩ (.int .i64 x)).setCell ⟨fb, 1, none⟩ (.int .i64 y)) fb x y := by
  have g := h.ge
  refine ⟨put2_below h.bl (by omega), ?_, ?_, h.ge⟩
  · exact keep_set (keep_set h.e (by omega)) (by omega)
  · rw [set_block (set_block h.f)]; rfl
set_option maxRecDepth 100000 in
set_option maxHeartbeats 2000000 in
theorem rap_chk (Q : List Raw) (L : List Ent) (v rv : Value) (ra : Option Addr) (rn rc : Nat) (hrv : rv = .slice ra rn rc) (w : World) (hn : L.length ≤ 1000) (sh : ∀ e, e ∈ L → ShE e) (I : Ixs w v Q L) (hc : (chk Q L).1 ≠ 0) :
    Calls Tryz.prog 47 #[v, rv] w fun e w' => e = .returned (.tuple #[.slice none 0 0, faultV (chk Q L)]) ∧ Below w.heap.size w w' := by
  subst hrv
  have HB0 := hid ((Below.refl w.heap.size w).alloc (Nat.le_refl _) (.cells #[.int .i64 0, .int .i64 0] 62))
  have HIF := hid (fun W (h : Below w.heap.size w W) => iFault_any Q L v W hn sh (I.below h))
  obtain ⟨va, vc, hv1, -⟩ := id I.es
  subst hv1
  obtain ⟨cc, oo, hco⟩ : ∃ cc oo, chk Q L = (cc, oo) := ⟨_, _, rfl⟩
  rw [hco] at HIF hc ⊢
  unfold faultV at HIF ⊢
  simp only at HIF hc ⊢
  generalize atOf oo = ao at *
  have hpos : (0 : Int) < (cc : Int) := by omega
  have hne0 : ((cc : Int) == 0) = false := by rw [beq_eq_false_iff_ne]; omega
  clear I sh hco hc
  go_enter Tryz.func47, Tryz.ntmps47
  go_wp2_with fail
  refine (HIF.out _ HB0.out).mono ?_
  rintro e w1 ⟨rfl, hb⟩
  have HP1 := hid (Pb.start (c := (cc : Int)) (a := ao) (by simpa using hb))
  clear hb
  obtain ⟨⟨s0, s1, sf⟩, f0, f1, ff⟩ := HP1.out.cells
  have hge := HP1.out.ge
  have n1 : ¬ w1.heap.size = w.heap.size := by omega
  have n2 : ¬ w.heap.size = w1.heap.size := by omega
  go_wp2_with fail
  generalize w1.alloc (.cells #[.int .i64 (cc : Int), .int .i64 ao] 62) = w2 at *
  go_region_with fail
  all_goals
    go_wp2_with fail
    refine bodyPost_ret (v := .tuple #[.slice none 0 0, .agg #[.int .i64 (cc : Int), .int .i64 ao]]) (by simp [results, Tryz.results47, go_sem, s0, s1]) rfl ⟨rfl, ?_⟩
    exact below_drawn_of (put2_below HP1.out.bl (Nat.le_refl _)) 1
set_option maxRecDepth 100000 in
set_option maxHeartbeats 2000000 in
theorem rap_sel (Q : List Raw) (L : List Ent) (R : List Bm) (v rv : Value) (w : World) (hn : L.length ≤ 1000) (sh : ∀ e, e ∈ L → ShE e) (I : Ixs w v Q L) (hR : R.length ≤ 1000000) (hr : MsAt w rv R) (hc : chk Q L = (0, none)) (hs : (slF Q R).1 ≠ 0) :
    Calls Tryz.prog 47 #[v, rv] w fun e w' => e = .returned (.tuple #[.slice none 0 0, faultV (slF Q R)]) ∧ Below w.heap.size w w' := by
  have HB0 := hid ((Below.refl w.heap.size w).alloc (Nat.le_refl _) (.cells #[.int .i64 0, .int .i64 0] 62))
  have HIF := hid (fun W (h : Below w.heap.size w W) => iFault_any Q L v W hn sh (I.below h))
  have HSF := hid (fun W (h : Below w.heap.size w W) => rsel_any Q R v rv W (by rw [I.ln]; exact hn) hR (I.es.below h) (hr.below h))
  obtain ⟨va, vc, hv1, -⟩ := id I.es
  subst hv1
  obtain ⟨ra, rc, hrv, -⟩ := id hr
  subst hrv
  rw [hc] at HIF
  obtain ⟨cc, oo, hco⟩ : ∃ cc oo, slF Q R = (cc, oo) := ⟨_, _, rfl⟩
  rw [hco] at HSF hs ⊢
  unfold faultV at HIF HSF ⊢
  simp only at HIF HSF hs ⊢
  have ha : atOf none = -1 := rfl
  rw [ha] at HIF
  generalize atOf oo = ao at *
  have hpos : (0 : Int) < (cc : Int) := by omega
  clear I sh hc hco hs hr
  go_enter Tryz.func47, Tryz.ntmps47
  go_wp2_with fail
  refine (HIF.out _ HB0.out).mono ?_
  rintro e w1 ⟨rfl, hb⟩
  have HP1 := hid (Pb.start (c := 0) (a := -1) (by simpa using hb))
  clear hb
  obtain ⟨-, f0, f1, ff⟩ := HP1.out.cells
  go_wp2_with fail
  generalize w1.alloc (.cells #[.int .i64 0, .int .i64 (-1)] 62) = w2 at *
  refine (HSF.out _ HP1.out.bl).mono ?_
  rintro e w3 ⟨rfl, hb⟩
  have HP3 := hid (HP1.out.below hb)
  clear hb f0 f1 ff HP1
  obtain ⟨-, f0, f1, ff⟩ := HP3.out.cells
  have HP4 := hid (HP3.out.set (x := (cc : Int)) (y := ao))
  have hge := HP3.out.ge
  have n1 : ¬ w1.heap.size = w.heap.size := by omega
  have n2 : ¬ w.heap.size = w1.heap.size := by omega
  go_wp2_with fail
  generalize (w3.setCell ⟨w1.heap.size, 0, none⟩ (.int .i64 (cc : Int))).setCell ⟨w1.heap.size, 1, none⟩ (.int .i64 ao) = w4 at *
  clear f0 f1 ff HP3
  obtain ⟨⟨s0, s1, sf⟩, f0, f1, ff⟩ := HP4.out.cells
  go_wp2_with fail
  go_region_with fail
  all_goals
    go_wp2_with fail
    refine bodyPost_ret (v := .tuple #[.slice none 0 0, .agg #[.int .i64 (cc : Int), .int .i64 ao]]) (by simp [results, Tryz.results47, go_sem, s0, s1]) rfl ⟨rfl, ?_⟩
    exact below_drawn_of (put2_below HP4.out.bl (Nat.le_refl _)) 1
theorem fold_snoc {Z : List ByteArray} {k : Nat} {X : List ByteArray} (h : k < Z.length) : (Z.take (k + 1)).foldl insT X = insT ((Z.take k).foldl insT X) Z[k] := by
  rw [List.take_succ_eq_append_getElem h, List.foldl_append]; rfl
theorem fold_row {Q : List Raw} {L : List Ent} {R : List Bm} {k : Nat} (h : k < R.length) : (((R.take (k + 1)).flatMap (pkOf Q L)).foldl insT []) = (pkOf Q L R[k]).foldl insT (((R.take k).flatMap (pkOf Q L)).foldl insT []) := by
  rw [List.take_succ_eq_append_getElem h, List.flatMap_append, List.foldl_append]; simp
theorem row_set {W : World} {B fb o n : Nat} {e : TypeId} {u x : Value} {xs : List Value} (h : W.ownsRow B e 1 u n xs) (hne : ∀ b, u.ownBlock = some b → fb ≠ b) : (W.setCell ⟨fb, o, none⟩ x).ownsRow B e 1 u n xs := by
  obtain ⟨hl, h | ⟨g, cap, cur, e1, e2, e3, r⟩⟩ := h
  · exact ⟨hl, Or.inl h⟩
  · refine ⟨hl, Or.inr ⟨g, cap, cur, e1, e2, keep_set e3 (fun h => hne g (by rw [e1]; rfl) h.symm), r⟩⟩
theorem insT_ne (X : List ByteArray) (s : ByteArray) : insT X s ≠ [] := fun h => by
  have : s ∈ insT X s := insT_mem.2 (Or.inl rfl)
  rw [h] at this; cases this
set_option maxRecDepth 100000 in
set_option maxHeartbeats 4000000 in
theorem rap_good (Q : List Raw) (L : List Ent) (R : List Bm) (v rv : Value) (w : World) (hn : L.length ≤ 1000) (sh : ∀ e, e ∈ L → ShE e) (I : Ixs w v Q L) (hR : R.length ≤ 1000) (hr : MsAt w rv R) (hc : chk Q L = (0, none)) (hs : slF Q R = (0, none)) (hu : ∀ j (h : j < R.length), ∃ k : Nat, idxOf (isM R[j]) Q = (k : Int)) :
    Calls Tryz.prog 47 #[v, rv] w fun e w' => ∃ u, e = .returned (.tuple #[u, faultV (0, none)]) ∧ TxAt w' u (alN Q L R) ∧ Below w.heap.size w w' := by
  have HB0 := hid ((Below.refl w.heap.size w).alloc (Nat.le_refl _) (.cells #[.int .i64 0, .int .i64 0] 62))
  have HIF := hid (fun W (h : Below w.heap.size w W) => iFault_any Q L v W hn sh (I.below h))
  have HSF := hid (fun W (h : Below w.heap.size w W) => rsel_any Q R v rv W (by rw [I.ln]; exact hn) (by omega) (I.es.below h) (hr.below h))
  have HFO := hid (fun m (j : Nat) (hj : idxOf (isM m) Q = (j : Int)) W (h : Below w.heap.size w W) => by have h9 := findOf_all Q m v W (by rw [I.ln]; omega) (I.es.below h); rw [hj] at h9; exact h9)
  have HMR := hid (fun W (h : Below w.heap.size w W) => hr.below h)
  have HIX := hid (fun W (h : Below w.heap.size w W) => I.below h)
  have HSH := hid sh
  have HU := hid hu
  have HFN := hid (fun W => fine_any W)
  obtain ⟨va, vc, hv1, -⟩ := id I.es
  subst hv1
  obtain ⟨ra, rc, hrv, -⟩ := id hr
  subst hrv
  rw [hc] at HIF
  rw [hs] at HSF
  unfold faultV at HIF HSF ⊢
  simp only at HIF HSF ⊢
  have ha : atOf none = -1 := rfl
  rw [ha] at HIF HSF ⊢
  obtain ⟨ans, hans⟩ : ∃ ans, ans = alN Q L R := ⟨_, rfl⟩
  rw [← hans]
  have HANS := hid hans
  clear I sh hc hs hr hu hans
  go_enter Tryz.func47, Tryz.ntmps47
  go_wp2_with fail
  refine (HIF.out _ HB0.out).mono ?_
  rintro e w1 ⟨rfl, hb⟩
  have HP1 := hid (Pb.start (c := 0) (a := -1) (by simpa using hb))
  clear hb
  obtain ⟨-, f0, f1, ff⟩ := HP1.out.cells
  go_wp2_with fail
  generalize w1.alloc (.cells #[.int .i64 0, .int .i64 (-1)] 62) = w2 at *
  refine (HSF.out _ HP1.out.bl).mono ?_
  rintro e w3 ⟨rfl, hb⟩
  have HP3 := hid (HP1.out.below hb)
  clear hb f0 f1 ff HP1
  obtain ⟨-, f0, f1, ff⟩ := HP3.out.cells
  have HP4 := hid (HP3.out.set (x := 0) (y := -1))
  go_wp2_with fail
  generalize (w3.setCell ⟨w1.heap.size, 0, none⟩ (.int .i64 0)).setCell ⟨w1.heap.size, 1, none⟩ (.int .i64 (-1)) = w4 at *
  clear f0 f1 ff HP3
  obtain ⟨-, f0, f1, ff⟩ := HP4.out.cells
  go_wp2_with fail
  have HR4 := hid (show Pr w w4 w1.heap.size (.slice none 0 0) [] from ⟨HP4.out, World.ownsRow_nil _ _ _ _, fun _ => rfl⟩)
  clear f0 f1 ff
  go_loopw [7, 8] (fun ov iv wr => ∃ (i : Nat) (X : List ByteArray), i ≤ R.length ∧ iv = .int .i64 i ∧ Hid (X = ((R.take i).flatMap (pkOf Q L)).foldl insT []) ∧ X.length ≤ i * 1000 ∧ Hid (Pr w wr w1.heap.size ov X)) (fun _ iv _ => R.length - (intOf iv).toNat)
  case atStart => exact ⟨0, [], Nat.zero_le _, rfl, hid rfl, Nat.zero_le _, HR4⟩
  case round =>
    obtain ⟨i, X, hi, rfl, HX, hXl, HPR⟩ := hrel
    by_cases hlt : i < R.length
    · have hiI := ix_lt hlt
      have hi0 := ix_pos i
      have HLT := hid hlt
      obtain ⟨xb, xo, hxa, y0, y1⟩ := (HMR.out _ HPR.out.pb.bl).cells hlt
      subst hxa
      obtain ⟨j, hj⟩ := HU.out i hlt
      have HF := hid (HFO.out _ j hj _ HPR.out.pb.bl)
      have HOP := hid (fun W (h : Below w.heap.size w W) => pk_open (HIX.out W h) HSH.out hj)
      have HRW := hid (fold_row (Q := Q) (L := L) hlt)
      clear hj
      generalize R[i] = x at *
      obtain ⟨x1, x2'⟩ := x
      clear hlt
      go_wp2_with fail
      refine HF.out.mono ?_
      rintro e w6 ⟨rfl, hb⟩
      have HR6 := hid (HPR.out.below hb)
      clear hb y0 y1
      obtain ⟨eb, eo, t, q, qa, qn, qc, pa, pn, pc, bk, P, hva, hjQ, c0, c1, c2, c3, c4, hP, hPl, ht, hPs, hPK⟩ := HOP.out _ HR6.out.pb.bl
      subst hva
      have hjI := ix_lt hjQ
      have hj0 := ix_pos j
      have HPS := hid (rpacks_is t q qa qn qc pa pn pc bk P w6 hP hPl ht hPs)
      rw [hPK] at HPS
      have HPL := hid (show (pkOf Q L (x1, x2')).length ≤ 1000 by rw [← hPK, List.length_map]; exact hPl)
      clear hP hPl ht hPs hPK HOP
      generalize pkOf Q L (x1, x2') = Z at *
      go_wp2_with fail
      refine HPS.out.mono ?_
      rintro e w7 ⟨zv, rfl, hz, hb⟩
      have HR7 := hid (HR6.out.below hb)
      have HZ7 := hid hz
      obtain ⟨za, zc, hz1, -⟩ := hz
      subst hz1
      clear hb c0 c1 c2 c3 c4 HR6 HPS
      go_wp2_with fail
      obtain ⟨wo, hwo⟩ : ∃ wo, wo = wr := ⟨_, rfl⟩
      subst hwo
      have hZl := HPL.out
      go_loopw [7, 10] (fun ov kv wr => ∃ (k : Nat) (Y : List ByteArray), k ≤ Z.length ∧ kv = .int .i64 k ∧ Hid (Y = (Z.take k).foldl insT X) ∧ Y.length ≤ X.length + k ∧ Hid (Pr w wr w1.heap.size ov Y) ∧ Hid (TxAt wr (.slice za Z.length zc) Z)) (fun _ kv _ => Z.length - (intOf kv).toNat)
      case atStart => exact ⟨0, X, Nat.zero_le _, rfl, hid rfl, Nat.le_refl _, HR7, HZ7⟩
      case round =>
        obtain ⟨k, Y, hk, rfl, HY, hYl, HPR8, HZ8⟩ := hrel
        by_cases hlk : k < Z.length
        · have hkI := ix_lt hlk
          have hk0 := ix_pos k
          have HLK := hid hlk
          obtain ⟨lb, lo, rfl, q0⟩ := tx_cellK HZ8.out hlk
          have HSN := hid (fold_snoc (X := X) hlk)
          have hiR : i < R.length := HLT.out
          have HWT := hid (rwith_any Y Z[k] _ (w1.heap.size + 1) wr (lt_of_blk HPR8.out.pb.f) (by omega) HPR8.out.own HPR8.out.nl)
          generalize Z[k] = z at *
          clear hlk
          go_wp2_with fail
          refine HWT.out.mono ?_
          rintro e w9 ⟨u', rfl, hown, hb⟩
          have HPR9 := hid (show Pr w w9 w1.heap.size u' (insT Y z) from ⟨HPR8.out.pb.below hb, hown, fun h => absurd h (insT_ne _ _)⟩)
          have HZ9 := hid (HZ8.out.below hb)
          have HIL := hid (insT_len (s := z) (X := Y))
          have HSN2 := hid (show insT Y z = (Z.take (k + 1)).foldl insT X by rw [HSN.out, ← HY.out])
          clear hown hb
          go_wp2_with fail
          go_roundw
          case rel => exact ⟨k + 1, _, HLK.out, by first | exact nr_idx k | exact nx_idx HLK.out (by omega : Z.length ≤ 1000000), HSN2, by have := HIL.out; omega, HPR9, HZ9⟩
          case measure => first | exact nr_meas HLK.out | exact nx_meas HLK.out (by omega : Z.length ≤ 1000000)
        · have hkI := ix_nlt hlk
          have hke : k = Z.length := by omega
          have HYE := hid (show Y = ((R.take (i + 1)).flatMap (pkOf Q L)).foldl insT [] by
            rw [HRW.out, ← HX.out, HY.out, hke, List.take_length])
          clear hlk
          go_wp2_with fail
          go_roundw
          case rel => exact ⟨i + 1, Y, HLT.out, by first | exact nr_idx i | exact nx_idx HLT.out (by omega : R.length ≤ 1000000), HYE, by omega, HPR8⟩
          case measure => first | exact nr_meas HLT.out | exact nx_meas HLT.out (by omega : R.length ≤ 1000000)
    · have hiI := ix_nlt hlt
      have HXA := hid (show X = ans by rw [HX.out, HANS.out, List.take_of_length_le (by omega)]; rfl)
      clear hlt
      go_wp2_with fail
      refine (HFN.out _).mono ?_
      rintro e w7 ⟨rfl, hb⟩
      have HR7 := hid (HPR.out.below hb)
      clear hb
      obtain ⟨⟨s0, s1, sf⟩, -⟩ := HR7.out.pb.cells
      go_wp2_with fail
      refine bodyPost_ret (v := .tuple #[u7, .agg #[.int .i64 0, .int .i64 (-1)]]) (by simp [results, Tryz.results47, go_sem, s0, s1]) rfl ⟨_, rfl, ?_, ?_⟩
      · rw [← HXA.out]
        have hne : ∀ b, u7.ownBlock = some b → w.heap.size ≠ b := fun b hb e => by
          have h1 := (HR7.out.own.lt b hb).1
          have h2 := HR7.out.pb.ge
          omega
        exact own_tx (row_set (row_set HR7.out.own hne) hne)
      · exact put2_below HR7.out.pb.bl (Nat.le_refl _)
end Ve
end Go.Proofs.YtnkgjddkdikikaaGreatDoor
