/-
  QrD QrE QrF
-/
import Derived.Test.YtnkgjddkdikikaaGreatDoorPq3
import Derived.Test.YtnkgjddkdikikaaGreatDoorPq4
import Derived.Test.YtnkgjddkdikikaaGreatDoorPq7
import Derived.Test.YtnkgjddkdikikaaGreatDoorPq10
import Derived.Test.YtnkgjddkdikikaaGreatDoorPq13
import Derived.Test.YtnkgjddkdikikaaGreatDoorPq23
import Derived.Test.YtnkgjddkdikikaaGreatDoorPq27
import Derived.Test.YtnkgjddkdikikaaGreatDoorPq29
import Derived.Test.YtnkgjddkdikikaaGreatDoorPq31
import Derived.Test.YtnkgjddkdikikaaGreatDoorPq12
import Derived.Test.YtnkgjddkdikikaaGreatDoorPq5
import Derived.Test.YtnkgjddkdikikaaGreatDoorPq61
import Derived.Test.YtnkgjddkdikikaaGreatDoorPq62
import Derived.Test.YtnkgjddkdikikaaGreatDoorPq58
import Derived.Test.YtnkgjddkdikikaaGreatDoorPq24
import Derived.Test.YtnkgjddkdikikaaGreatDoorPq65
import Derived.Test.YtnkgjddkdikikaaGreatDoorPq1
import Derived.Test.YtnkgjddkdikikaaGreatDoorPq35
import Derived.Test.YtnkgjddkdikikaaGreatDoorPq2
import Derived.Test.YtnkgjddkdikikaaGreatDoorPq32
import Derived.Test.YtnkgjddkdikikaaGreatDoorPq37
import Derived.Test.YtnkgjddkdikikaaGreatDoorPq8
import Derived.Test.YtnkgjddkdikikaaGreatDoorPq19
import Derived.Test.YtnkgjddkdikikaaGreatDoorPq34
import Derived.Test.YtnkgjddkdikikaaGreatDoorPq64
namespace Go.Proofs.YtnkgjddkdikikaaGreatDoor
open Go.RowKit Go.Maps
namespace Ve
theorem bxQ {W : World} {g : Nat} {x y : Value} {T : TypeId} (h : W.heap[g]? = some (.cells #[x, y] T (0, 0))) : W.cell? ⟨g, 0, none⟩ = some x ∧ W.cell? ⟨g, 1, none⟩ = some y ∧ ∀ o, W.frozen? ⟨g, o, none⟩ = false :=
  ⟨by rw [Lib.cell_of_heap h]; rfl, by rw [Lib.cell_of_heap h]; rfl, fun o => Lib.frozen_of_heap h o⟩
theorem likedG_any (Q : List Raw) (t : ByteArray) (b : Bool) (X : List ByteArray) (v u : Value) (w : World) (hL : Q.length ≤ 1000) (hX : X.length ≤ 1000000) (hok : VerOk Q t X) (hv : EsAt w v Q) (hu : TxAt w u X) :
    Calls Tryz.prog 94 #[v, .string t, u, .bool b] w fun e w' => e = .returned (.string (likG Q t b X)) ∧ Below w.heap.size w w' := by
  cases b
  · exact liked_any Q t X v u w hL hX hok hv hu
  · exact likedL_any Q t X v u w hL hX hok hv hu
set_option maxRecDepth 100000 in
set_option maxHeartbeats 2000000 in
theorem rpick_q (Q : List Raw) (t q now : ByteArray) (va : Option Addr) (vc : Nat) (w : World) (hq : q.size < 999999) (h0 : qErr q ≠ 0) :
    Calls Tryz.prog 37 #[.slice va Q.length vc, .string t, .string q, .string now] w fun e w' => e = .returned (.tuple #[.string bE, faultV (qErr q, none)]) ∧ Below w.heap.size w w' := by
  have HB0 := hid ((Below.refl w.heap.size w).alloc (Nat.le_refl _) (.cells #[.int .i64 0, .int .i64 0] 62))
  have HE0 := hid (heap_new w (.cells #[.int .i64 0, .int .i64 0] 62))
  have HQE := hid (fun W => rqerr_any q W hq)
  have HBA := hid (fun (n : Int) W => rbare_any n W)
  have hpos : (0 : Int) < ((qErr q : Nat) : Int) := by omega
  unfold faultV
  simp only
  generalize ((qErr q : Nat) : Int) = k at *
  clear h0
  go_enter Tryz.func37, Tryz.ntmps37
  go_wp2_with fail
  refine (HQE.out _).mono ?_
  rintro e w1 ⟨rfl, hb⟩
  have HB1 := hid (HB0.out.trans (hb.mono HB0.out.size))
  have HE1 := hid ((hb.block _ (lt_of_blk HE0.out)).trans HE0.out)
  clear hb
  go_wp2_with fail
  refine (HBA.out _ _).mono ?_
  rintro e w2 ⟨rfl, hb⟩
  have HB2 := hid (HB1.out.trans (hb.mono HB1.out.size))
  have HE2 := hid ((hb.block _ (lt_of_blk HE1.out)).trans HE1.out)
  clear hb
  obtain ⟨s0, s1, tf⟩ := bxQ HE2.out
  go_wp2_with fail
  refine bodyPost_ret (v := .tuple #[.string ⟨#[]⟩, .agg #[.int .i64 k, .int .i64 (-1)]]) (by simp [results, Tryz.results37, go_sem, s0, s1]) rfl ⟨rfl, ?_⟩
  exact put2_below HB2.out (Nat.le_refl _)
set_option maxRecDepth 100000 in
set_option maxHeartbeats 2000000 in
theorem rpick_c (Q : List Raw) (L : List Ent) (t q now : ByteArray) (v : Value) (w : World) (hq : q.size < 999999) (hn : L.length ≤ 1000) (sh : ∀ e, e ∈ L → ShE e) (I : Ixs w v Q L) (h0 : qErr q = 0) (hc : (chk Q L).1 ≠ 0) :
    Calls Tryz.prog 37 #[v, .string t, .string q, .string now] w fun e w' => e = .returned (.tuple #[.string bE, faultV (chk Q L)]) ∧ Below w.heap.size w w' := by
  have HB0 := hid ((Below.refl w.heap.size w).alloc (Nat.le_refl _) (.cells #[.int .i64 0, .int .i64 0] 62))
  have HE0 := hid (heap_new w (.cells #[.int .i64 0, .int .i64 0] 62))
  have HQE := hid (fun W => rqerr_any q W hq)
  rw [h0] at HQE
  have HIF := hid (fun W (h : Below w.heap.size w W) => iFault_any Q L v W hn sh (I.below h))
  obtain ⟨va, vc, hv1, -⟩ := id I.es
  subst hv1
  obtain ⟨cc, oo, hco⟩ : ∃ cc oo, chk Q L = (cc, oo) := ⟨_, _, rfl⟩
  rw [hco] at HIF hc ⊢
  unfold faultV at HIF ⊢
  simp only at HIF hc ⊢
  generalize atOf oo = ao at *
  have hpos : (0 : Int) < (cc : Int) := by omega
  clear I sh h0 hco hc
  go_enter Tryz.func37, Tryz.ntmps37
  go_wp2_with fail
  refine (HQE.out _).mono ?_
  rintro e w1 ⟨rfl, hb⟩
  have HB1 := hid (HB0.out.trans (hb.mono HB0.out.size))
  have HE1 := hid ((hb.block _ (lt_of_blk HE0.out)).trans HE0.out)
  clear hb
  go_wp2_with fail
  refine (HIF.out _ HB1.out).mono ?_
  rintro e w2 ⟨rfl, hb⟩
  have HBa := hid (HB1.out.trans (hb.mono HB1.out.size))
  have HEa := hid ((hb.block _ (lt_of_blk HE1.out)).trans HE1.out)
  clear hb
  have HB2 := hid (HBa.out.alloc HBa.out.size (.cells #[.int .i64 (cc : Int), .int .i64 ao] 62))
  have HE2 := hid (heap_old w2 (.cells #[.int .i64 (cc : Int), .int .i64 ao] 62) HEa.out)
  have HF2 := hid (heap_new w2 (.cells #[.int .i64 (cc : Int), .int .i64 ao] 62))
  have hlt := lt_of_blk HEa.out
  have hne : ¬ w2.heap.size = w.heap.size := by omega
  have hne2 : ¬ w.heap.size = w2.heap.size := by omega
  obtain ⟨f0, f1, _⟩ := bxQ HF2.out
  go_wp2_with fail
  generalize w2.alloc (.cells #[.int .i64 (cc : Int), .int .i64 ao] 62) = w3 at *
  obtain ⟨s0, s1, tf⟩ := bxQ HE2.out
  go_region_with fail
  all_goals
    go_wp2_with fail
    refine bodyPost_ret (v := .tuple #[.string ⟨#[]⟩, .agg #[.int .i64 (cc : Int), .int .i64 ao]]) (by simp [results, Tryz.results37, go_sem, s0, s1]) rfl ⟨rfl, ?_⟩
    exact put2_below (below_drawn_of HB2.out 1) (Nat.le_refl _)
set_option maxRecDepth 100000 in
set_option maxHeartbeats 2000000 in
theorem rpick_n (Q : List Raw) (L : List Ent) (t now : ByteArray) (v : Value) (w : World) (hn : L.length ≤ 1000) (sh : ∀ e, e ∈ L → ShE e) (I : Ixs w v Q L) (hc : (chk Q L).1 = 0) :
    Calls Tryz.prog 37 #[v, .string t, .string bNone, .string now] w fun e w' => e = .returned (.tuple #[.string bNone, faultV (0, none)]) ∧ Below w.heap.size w w' := by
  have HB0 := hid ((Below.refl w.heap.size w).alloc (Nat.le_refl _) (.cells #[.int .i64 0, .int .i64 0] 62))
  have HE0 := hid (heap_new w (.cells #[.int .i64 0, .int .i64 0] 62))
  have HQE := hid (fun W => rqerr_any bNone W (by decide))
  rw [qErr_word (show isWd bNone = true by unfold isWd; simp)] at HQE
  have HIF := hid (fun W (h : Below w.heap.size w W) => iFault_any Q L v W hn sh (I.below h))
  have HFN := hid (fun W => fine_any W)
  obtain ⟨va, vc, hv1, -⟩ := id I.es
  subst hv1
  obtain ⟨cc, oo, hco⟩ : ∃ cc oo, chk Q L = (cc, oo) := ⟨_, _, rfl⟩
  rw [hco] at HIF hc
  simp only at hc
  subst hc
  unfold faultV at HIF
  simp only at HIF
  generalize atOf oo = ao at *
  clear I sh hco
  unfold bNone at HQE
  show Calls Tryz.prog 37 #[.slice va Q.length vc, .string t, .string ⟨#[110, 111, 110, 101]⟩, .string now] w fun e w' => e = .returned (.tuple #[.string ⟨#[110, 111, 110, 101]⟩, .agg #[.int .i64 0, .int .i64 (-1)]]) ∧ Below w.heap.size w w'
  go_enter Tryz.func37, Tryz.ntmps37
  go_wp2_with fail
  refine (HQE.out _).mono ?_
  rintro e w1 ⟨rfl, hb⟩
  have HB1 := hid (HB0.out.trans (hb.mono HB0.out.size))
  have HE1 := hid ((hb.block _ (lt_of_blk HE0.out)).trans HE0.out)
  clear hb
  go_wp2_with fail
  refine (HIF.out _ HB1.out).mono ?_
  rintro e w2 ⟨rfl, hb⟩
  have HBa := hid (HB1.out.trans (hb.mono HB1.out.size))
  have HEa := hid ((hb.block _ (lt_of_blk HE1.out)).trans HE1.out)
  clear hb
  have HB2 := hid (HBa.out.alloc HBa.out.size (.cells #[.int .i64 0, .int .i64 ao] 62))
  have HE2 := hid (heap_old w2 (.cells #[.int .i64 0, .int .i64 ao] 62) HEa.out)
  have HF2 := hid (heap_new w2 (.cells #[.int .i64 0, .int .i64 ao] 62))
  have hlt := lt_of_blk HEa.out
  have hne : ¬ w2.heap.size = w.heap.size := by omega
  have hne2 : ¬ w.heap.size = w2.heap.size := by omega
  obtain ⟨f0, f1, _⟩ := bxQ HF2.out
  go_wp2_with fail
  generalize w2.alloc (.cells #[.int .i64 0, .int .i64 ao] 62) = w3 at *
  refine (HFN.out _).mono ?_
  rintro e w4 ⟨rfl, hb⟩
  have HB4 := hid (HB2.out.trans (hb.mono HB2.out.size))
  have HE4 := hid ((hb.block _ (lt_of_blk HE2.out)).trans HE2.out)
  clear hb
  obtain ⟨s0, s1, tf⟩ := bxQ HE4.out
  go_wp2_with fail
  refine bodyPost_ret (v := .tuple #[.string ⟨#[110, 111, 110, 101]⟩, .agg #[.int .i64 0, .int .i64 (-1)]]) (by simp [results, Tryz.results37, go_sem, s0, s1]) rfl ⟨rfl, ?_⟩
  exact put2_below HB4.out (Nat.le_refl _)
end Ve
end Go.Proofs.YtnkgjddkdikikaaGreatDoor
namespace Go.Proofs.YtnkgjddkdikikaaGreatDoor
open Go.RowKit Go.Maps
namespace Ve
theorem likG_size {Q : List Raw} {t : ByteArray} {b : Bool} {X : List ByteArray} (h : VerOk Q t X) : (likG Q t b X).size < 999999 := by
  have hz : (⟨#[]⟩ : ByteArray).size < 999999 := by decide
  unfold likG
  split
  · by_cases h0 : X.length = 0
    · rw [(likNL_is (Q := Q) (t := t) X.length (Nat.le_refl _)).z h0]; exact hz
    · obtain ⟨j, hj, _, e, _⟩ := (likNL_is (Q := Q) (t := t) X.length (Nat.le_refl _)).p (by omega)
      rw [e]
      obtain ⟨k, hk, _, _, _, h1, _⟩ := h.at_ j hj
      exact h1
  · by_cases h0 : X.length = 0
    · rw [(likN_is (Q := Q) (t := t) X.length (Nat.le_refl _)).z h0]; exact hz
    · obtain ⟨j, hj, _, e, _⟩ := (likN_is (Q := Q) (t := t) X.length (Nat.le_refl _)).p (by omega)
      rw [e]
      obtain ⟨k, hk, _, _, _, h1, _⟩ := h.at_ j hj
      exact h1
theorem dec_beq (a b : Int) : decide (a = b) = (a == b) := by
  by_cases h : a = b
  · subst h; simp
  · rw [decide_eq_false h]; exact (beq_eq_false_iff_ne.2 h).symm
set_option maxRecDepth 100000 in
set_option maxHeartbeats 8000000 in
theorem rpick_m (Q : List Raw) (L : List Ent) (t q now : ByteArray) (v : Value) (w : World) (hq : q.size < 999999) (hnow : now.size < 999999) (hn : L.length ≤ 1000) (sh : ∀ e, e ∈ L → ShE e) (hz : ∀ r, r ∈ Q → r.1.1.size ≤ 80 ∧ r.1.2.size ≤ 80) (I : Ixs w v Q L) (h0 : qErr q = 0) (hc : (chk Q L).1 = 0) (hnn : ¬ q = bNone) :
    Calls Tryz.prog 37 #[v, .string t, .string q, .string now] w fun e w' => ∃ X, Kept (verL (ofP t Q)) (verL (ofP t Q)).length X ∧ e = .returned (.tuple #[.string (pkV Q L t q now X), faultV (pkF Q L t q now X)]) ∧ Below w.heap.size w w' := by
  have g := good_of I hc
  have hQn : Q.length ≤ 1000 := by rw [I.ln]; exact hn
  have HB0 := hid ((Below.refl w.heap.size w).alloc (Nat.le_refl _) (.cells #[.int .i64 0, .int .i64 0] 62))
  have HE0 := hid (heap_new w (.cells #[.int .i64 0, .int .i64 0] 62))
  have HQE := hid (fun W => rqerr_any q W hq)
  rw [h0] at HQE
  have HIF := hid (fun W (h : Below w.heap.size w W) => iFault_any Q L v W hn sh (I.below h))
  have HVS := hid (fun W (h : Below w.heap.size w W) => versOf_any Q t v W hQn hz (I.below h).es)
  have HVK := hid (fun (X : List ByteArray) (h : Kept (verL (pthR t Q)) (verL (pthR t Q)).length X) => show Kept (verL (ofP t Q)) (verL (ofP t Q)).length X by rw [show ofP t Q = pthR t Q from g.ofP t]; exact h)
  have HOK := hid (fun (X : List ByteArray) (hK : Kept (verL (ofP t Q)) (verL (ofP t Q)).length X) => verOk_of g hz hK)
  have HXN := hid (fun (X : List ByteArray) (hK : Kept (verL (ofP t Q)) (verL (ofP t Q)).length X) => show X.length ≤ 1000 by rw [kept_len g hK]; exact Nat.le_trans (List.length_filter_le _ _) hQn)
  have HVN := hid (fun W => verOf_both now W (by omega))
  have HVX := hid (fun x W (h : x.size < 999999) => verOf_both x W (by omega))
  have HLS := hid (fun x W (h : x.size < 999999) => isLess_any x now W h hnow)
  have HSU := hid (fun x W (h : x.size < 999999) => rsuit_any q x W hq h)
  have HW := hid (fun W => rword_any q W)
  have HSG := hid (fun W => rsgn_any q W)
  have HLK := hid (fun b (X : List ByteArray) u W (h : Below w.heap.size w W) (hX : X.length ≤ 1000000) (hok : VerOk Q t X) (hu : TxAt W u X) => likedG_any Q t b X v u W hQn hX hok (I.below h).es hu)
  have HMX := hid (fun a W (h : a.size < 999999) => maxOf_any a now W h hnow)
  have HFN := hid (fun W => fine_any W)
  have HBA := hid (fun W => rbare_any 5 W)
  have HPF := hid (fun X => pkF_m (t := t) (now := now) (X := X) (show ¬ qErr q ≠ 0 by rw [h0]; simp) (show ¬ (chk Q L).1 ≠ 0 by rw [hc]; simp) hnn)
  have HPV := hid (fun X => pkV_m (t := t) (now := now) (X := X) (show ¬ qErr q ≠ 0 by rw [h0]; simp) (show ¬ (chk Q L).1 ≠ 0 by rw [hc]; simp) hnn)
  have n1' : (q.toList == [110, 111, 110, 101]) = false := by
    have := eqW q bNone
    rw [decide_eq_false hnn] at this
    exact this.symm
  obtain ⟨i0, hi0, hz0, hz1, hz2⟩ := info_parts infoStr
  obtain ⟨va, vc, hv1, -⟩ := id I.es
  subst hv1
  obtain ⟨cc, oo, hco⟩ : ∃ cc oo, chk Q L = (cc, oo) := ⟨_, _, rfl⟩
  rw [hco] at HIF hc
  simp only at hc
  subst hc
  unfold faultV at HIF
  simp only at HIF
  generalize atOf oo = ao at *
  clear I sh hco h0 hnn hz g
  go_enter Tryz.func37, Tryz.ntmps37
  go_wp2_with fail
  refine (HQE.out _).mono ?_
  rintro e w1 ⟨rfl, hb⟩
  have HB1 := hid (HB0.out.trans (hb.mono HB0.out.size))
  have HE1 := hid ((hb.block _ (lt_of_blk HE0.out)).trans HE0.out)
  clear hb HQE
  go_wp2_with fail
  refine (HIF.out _ HB1.out).mono ?_
  rintro e w2 ⟨rfl, hb⟩
  have HBa := hid (HB1.out.trans (hb.mono HB1.out.size))
  have HEa := hid ((hb.block _ (lt_of_blk HE1.out)).trans HE1.out)
  clear hb HIF
  have HB2 := hid (HBa.out.alloc HBa.out.size (.cells #[.int .i64 0, .int .i64 ao] 62))
  have HE2 := hid (heap_old w2 (.cells #[.int .i64 0, .int .i64 ao] 62) HEa.out)
  have HF2 := hid (heap_new w2 (.cells #[.int .i64 0, .int .i64 ao] 62))
  have hlt := lt_of_blk HEa.out
  have hne : ¬ w2.heap.size = w.heap.size := by omega
  have hne2 : ¬ w.heap.size = w2.heap.size := by omega
  obtain ⟨f0, f1, _⟩ := bxQ HF2.out
  go_wp2_with fail
  generalize w2.alloc (.cells #[.int .i64 0, .int .i64 ao] 62) = w2b at *
  clear HB0 HE0 HB1 HE1 HBa HEa HF2 f0 f1 hlt hne hne2
  refine (HVS.out _ HB2.out).mono ?_
  rintro e w3 ⟨u, X, rfl, hu, hK, hb⟩
  have HB3 := hid (HB2.out.trans (hb.mono HB2.out.size))
  have HE3 := hid ((hb.block _ (lt_of_blk HE2.out)).trans HE2.out)
  have HU3 := hid hu
  have HK := hid (HVK.out X hK)
  have HVO := hid (HOK.out X HK.out)
  have HXL := hid (HXN.out X HK.out)
  have HXM := hid (show X.length ≤ 1000000 from Nat.le_trans HXL.out (by decide))
  obtain ⟨ua, uc, hu1, -⟩ := hu
  subst hu1
  clear hb hK HVS HVK HOK HXN HB2 HE2
  go_wp2_with fail
  refine (HVN.out _).mono ?_
  rintro e w3b ⟨n0, n1, n2, sa, sk, sc, rfl, hnn, hb⟩
  have HNN := hid hnn
  have HBc := hid (HB3.out.trans (hb.mono HB3.out.size))
  have HA4 := hid ((Below.refl w3b.heap.size w3b).alloc (Nat.le_refl _) (.cells #[.int .i64 n0, .int .i64 n1, .int .i64 n2, .slice sa sk sc] 68))
  have HB4 := hid (HBc.out.trans (HA4.out.mono HBc.out.size))
  have HE4 := hid ((HA4.out.block _ (Nat.lt_of_lt_of_le (lt_of_blk HE3.out) hb.size)).trans ((hb.block _ (lt_of_blk HE3.out)).trans HE3.out))
  have hN := heap_alloc_new w3b (.cells #[.int .i64 n0, .int .i64 n1, .int .i64 n2, .slice sa sk sc] 68)
  have HP4 := hid (show Pk _ (w3b.alloc (.cells #[.int .i64 n0, .int .i64 n1, .int .i64 n2, .slice sa sk sc] 68)) (.slice ua X.length uc) X w3b.heap.size n0 n1 from ⟨Below.refl _ _, (HU3.out.below hb).below HA4.out, by rw [Lib.cell_of_heap hN]; rfl, by rw [Lib.cell_of_heap hN]; rfl⟩)
  clear hb hnn hN HA4 HBc HB3 HE3 HU3 HVN
  go_wp2_with fail
  generalize w3b.alloc (.cells #[.int .i64 n0, .int .i64 n1, .int .i64 n2, .slice sa sk sc] 68) = w4 at *
  generalize w3b.heap.size = vb at *
  have HPK := hid (fun W (h : Below w4.heap.size w4 W) => HP4.out.from h)
  have HOE := hid (fun x => show okQ q now x = (if isWd q then (if q = bPatch ∧ verErr now.data.toList = 0 then decide (nAt x.data.toList 0 = nAt now.data.toList 0) && decide (nAt x.data.toList 1 = nAt now.data.toList 1) && !lessB x.data.toList now.data.toList else true) else suitB q x) from rfl)
  go_loopw [15, 16] (fun sv iv wr => ∃ i : Nat, i ≤ X.length ∧ iv = .int .i64 i ∧ Hid (wr.ownsRow w4.heap.size 9 1 sv (someQ q now (X.take i)).length ((someQ q now (X.take i)).map Value.string)) ∧ Hid (Pk w4 wr (.slice ua X.length uc) X vb n0 n1)) (fun _ iv _ => X.length - (intOf iv).toNat)
  case atStart => exact ⟨0, Nat.zero_le _, rfl, hid (World.ownsRow_nil _ _ _ _), HP4⟩
  case round =>
    obtain ⟨i, hi, rfl, HOW, HG⟩ := hrel
    by_cases hlt : i < X.length
    · have hiI := ix_lt hlt
      have hii := ix_pos i
      have HLI := hid hlt
      obtain ⟨xb, xo, hua, y0⟩ := tx_cellK HG.out.tx hlt
      subst hua
      have HNX := hid (someQ_next (q := q) (now := now) hlt)
      have HLN := hid (show (someQ q now (X.take i)).length ≤ 1000 from Nat.le_trans (someQ_len _ _ _) (Nat.le_trans (by rw [List.length_take]; omega) HXL.out))
      obtain ⟨hxs, hxv⟩ : X[i].size < 999999 ∧ verErr X[i].data.toList = 0 := by
        obtain ⟨k, hk, _, _, h1, h2, _⟩ := HVO.out.at_ i hlt
        exact ⟨h2, h1⟩
      generalize X[i] = x at *
      have HOX := hid (HOE.out x)
      obtain ⟨SX, hSX⟩ : ∃ SX, someQ q now (X.take i) = SX := ⟨_, rfl⟩
      rw [hSX] at HOW HNX HLN
      clear hSX hlt
      have HSX := hid (HSU.out x)
      cases hw : isWd q
      · rw [hw] at HW
        have HPT := hid (show (q.toList == [112, 97, 116, 99, 104]) = false by
          have := eqW q bPatch
          rw [decide_eq_false (fun e => by subst e; have h2 : isWd bPatch = true := by { unfold isWd; simp }; rw [h2] at hw; cases hw)] at this
          exact this.symm)
        have b1 := HPT.out
        rw [show okQ q now x = suitB q x from okQ_suit hw] at HNX
        have HS1 := hid (fun W => HSU.out x W hxs)
        clear hw HOX
        generalize suitB q x = z at *
        go_wp2_with fail
        refine (HW.out wr).mono ?_
        rintro e w5 ⟨rfl, rfl⟩
        go_wp2_with fail
        refine (HS1.out _).mono ?_
        rintro e w6 ⟨rfl, hb⟩
        have HG6 := hid (HG.out.below hb)
        have HO6 := hid (owns_below HOW.out hb)
        replace y0 := cell_below hb y0
        clear hb HS1
        cases z
        · replace HNX := hid (show someQ q now (X.take (i + 1)) = SX from HNX.out)
          go_wp2_with fail
          go_roundw
          case rel => first | exact ⟨i + 1, HLI.out, nr_idx i, hid (by rw [HNX.out]; exact HO6.out), HG6⟩ | exact ⟨i + 1, HLI.out, nx_idx HLI.out HXM.out, hid (by rw [HNX.out]; exact HO6.out), HG6⟩
          case measure => first | exact nr_meas HLI.out | exact nx_meas HLI.out HXM.out
        · replace HNX := hid (show someQ q now (X.take (i + 1)) = SX ++ [x] from HNX.out)
          go_wp2_with (at_builtin; refine wpList_append_own _ rfl _ _ 29 rfl w4.heap.size 9 i0 _ 1 16 Tryz.underlying29 hi0 hz0 hz1 hz2 rfl (by decide) _ _ _ rfl (HO6.out.alloc _) ⟨w6.heap.size, 0, none⟩ 1 1 [.string x] rfl rfl (World.news_of_block (heap_new _ _)) (by intro u hu; simp at hu; subst hu; rfl) (Nat.le_trans (Nat.add_le_add_right HLN.out 1) (by unfold maxLen; decide)) (by have hz := HLN.out; omega) (Nat.le_trans HG6.out.bl.size (by simp)) ?_)
          intro v' w9 hown hgrow _
          have HB9 := hid (rel_app HG6.out.bl.size HG6.out.bl HO6.out (Below.refl _ _) hgrow)
          have HO9 := hid (show w9.ownsRow w4.heap.size 9 1 v' (SX ++ [x]).length ((SX ++ [x]).map Value.string) by rw [List.length_append, List.map_append]; exact hown)
          clear hown hgrow
          go_wp2_with fail
          go_roundw
          case rel => first | exact ⟨i + 1, HLI.out, nr_idx i, hid (by rw [HNX.out]; exact HO9.out), hid (HPK.out _ HB9.out)⟩ | exact ⟨i + 1, HLI.out, nx_idx HLI.out HXM.out, hid (by rw [HNX.out]; exact HO9.out), hid (HPK.out _ HB9.out)⟩
          case measure => first | exact nr_meas HLI.out | exact nx_meas HLI.out HXM.out
      · rw [hw] at HW
        cases hpt : (q.toList == [112, 97, 116, 99, 104])
        · have hqp : ¬ q = bPatch := fun e => by
            have := eqW q bPatch
            rw [decide_eq_true e] at this
            rw [show bPatch.data.toList = [112, 97, 116, 99, 104] from rfl, hpt] at this
            cases this
          rw [okQ_any hw (fun h => hqp h.1)] at HNX
          replace HNX := hid (show someQ q now (X.take (i + 1)) = SX ++ [x] from HNX.out)
          clear hw hqp HOX
          go_wp2_with fail
          refine (HW.out wr).mono ?_
          rintro e w5 ⟨rfl, rfl⟩
          go_wp2_with (at_builtin; refine wpList_append_own _ rfl _ _ 29 rfl w4.heap.size 9 i0 _ 1 16 Tryz.underlying29 hi0 hz0 hz1 hz2 rfl (by decide) _ _ _ rfl (HOW.out.alloc _) ⟨w5.heap.size, 0, none⟩ 1 1 [.string x] rfl rfl (World.news_of_block (heap_new _ _)) (by intro u hu; simp at hu; subst hu; rfl) (Nat.le_trans (Nat.add_le_add_right HLN.out 1) (by unfold maxLen; decide)) (by have hz := HLN.out; omega) (Nat.le_trans HG.out.bl.size (by simp)) ?_)
          intro v' w9 hown hgrow _
          have HB9 := hid (rel_app HG.out.bl.size HG.out.bl HOW.out (Below.refl _ _) hgrow)
          have HO9 := hid (show w9.ownsRow w4.heap.size 9 1 v' (SX ++ [x]).length ((SX ++ [x]).map Value.string) by rw [List.length_append, List.map_append]; exact hown)
          clear hown hgrow
          go_wp2_with fail
          go_roundw
          case rel => first | exact ⟨i + 1, HLI.out, nr_idx i, hid (by rw [HNX.out]; exact HO9.out), hid (HPK.out _ HB9.out)⟩ | exact ⟨i + 1, HLI.out, nx_idx HLI.out HXM.out, hid (by rw [HNX.out]; exact HO9.out), hid (HPK.out _ HB9.out)⟩
          case measure => first | exact nr_meas HLI.out | exact nx_meas HLI.out HXM.out
        · have hqp : q = bPatch := by
            have := eqW q bPatch
            rw [show bPatch.data.toList = [112, 97, 116, 99, 104] from rfl, hpt] at this
            exact of_decide_eq_true this
          by_cases hv0 : verErr now.data.toList = 0
          · have bz : (((verErr now.data.toList : Nat) : Int) == 0) = true := by rw [hv0]; rfl
            obtain ⟨e0, e1⟩ := HNN.out hv0
            rw [show okQ q now x = (decide (nAt x.data.toList 0 = n0) && decide (nAt x.data.toList 1 = n1) && !lessB x.data.toList now.data.toList) by rw [hqp, okQ_patch hv0, e0, e1], dec_beq, dec_beq] at HNX
            have HV1 := hid (fun W => HVX.out x W hxs)
            rw [hxv] at HV1
            have HL1 := hid (fun W => HLS.out x W hxs)
            clear hw HOX hqp e0 e1
            generalize lessB x.data.toList now.data.toList = zl at *
            generalize ((verErr now.data.toList : Nat) : Int) = bad at *
            go_wp2_with fail
            refine (HV1.out _).mono ?_
            rintro e w5 ⟨a0, a1, a2, ta, tk, tc, rfl, ha, hb⟩
            obtain ⟨ea0, ea1⟩ := ha (by first | rfl | trivial)
            rw [← ea0, ← ea1] at HNX
            have HB5 := hid ((Below.refl w5.heap.size w5).alloc (Nat.le_refl _) (.cells #[.int .i64 a0, .int .i64 a1, .int .i64 a2, .slice ta tk tc] 68))
            have hN5 := heap_alloc_new w5 (.cells #[.int .i64 a0, .int .i64 a1, .int .i64 a2, .slice ta tk tc] 68)
            have HG5 := hid ((HG.out.below hb).below HB5.out)
            have HO5 := hid (owns_below (owns_below HOW.out hb) HB5.out)
            have y5 := cell_below HB5.out (cell_below hb y0)
            have k0 : (w5.alloc (.cells #[.int .i64 a0, .int .i64 a1, .int .i64 a2, .slice ta tk tc] 68)).cell? ⟨w5.heap.size, 0, none⟩ = some (.int .i64 a0) := by rw [Lib.cell_of_heap hN5]; rfl
            have k1 : (w5.alloc (.cells #[.int .i64 a0, .int .i64 a1, .int .i64 a2, .slice ta tk tc] 68)).cell? ⟨w5.heap.size, 1, none⟩ = some (.int .i64 a1) := by rw [Lib.cell_of_heap hN5]; rfl
            clear hb hN5 y0 ea0 ea1 ha HV1
            go_wp2_with fail
            generalize w5.alloc (.cells #[.int .i64 a0, .int .i64 a1, .int .i64 a2, .slice ta tk tc] 68) = w5b at *
            generalize w5.heap.size = xb5 at *
            refine (HL1.out _).mono ?_
            rintro e w6 ⟨rfl, hb⟩
            have HG6 := hid (HG5.out.below hb)
            have HO6 := hid (owns_below HO5.out hb)
            have y6 := cell_below hb y5
            replace k0 := cell_below hb k0
            replace k1 := cell_below hb k1
            have d0 := HG6.out.c0
            have d1 := HG6.out.c1
            clear hb y5 HG5 HO5 HL1
            cases hz0' : (a0 == n0)
            · rw [hz0'] at HNX
              replace HNX := hid (show someQ q now (X.take (i + 1)) = SX from HNX.out)
              go_wp2_with fail
              refine (HW.out w6).mono ?_
              rintro e w7 ⟨rfl, rfl⟩
              go_wp2_with fail
              go_roundw
              case rel => first | exact ⟨i + 1, HLI.out, nr_idx i, hid (by rw [HNX.out]; exact HO6.out), HG6⟩ | exact ⟨i + 1, HLI.out, nx_idx HLI.out HXM.out, hid (by rw [HNX.out]; exact HO6.out), HG6⟩
              case measure => first | exact nr_meas HLI.out | exact nx_meas HLI.out HXM.out
            · rw [hz0'] at HNX
              cases hz1' : (a1 == n1)
              · rw [hz1'] at HNX
                replace HNX := hid (show someQ q now (X.take (i + 1)) = SX from HNX.out)
                go_wp2_with fail
                refine (HW.out w6).mono ?_
                rintro e w7 ⟨rfl, rfl⟩
                go_wp2_with fail
                go_roundw
                case rel => first | exact ⟨i + 1, HLI.out, nr_idx i, hid (by rw [HNX.out]; exact HO6.out), HG6⟩ | exact ⟨i + 1, HLI.out, nx_idx HLI.out HXM.out, hid (by rw [HNX.out]; exact HO6.out), HG6⟩
                case measure => first | exact nr_meas HLI.out | exact nx_meas HLI.out HXM.out
              · rw [hz1'] at HNX
                cases zl
                · replace HNX := hid (show someQ q now (X.take (i + 1)) = SX ++ [x] from HNX.out)
                  go_wp2_with fail
                  refine (HW.out w6).mono ?_
                  rintro e w7 ⟨rfl, rfl⟩
                  go_wp2_with (at_builtin; refine wpList_append_own _ rfl _ _ 29 rfl w4.heap.size 9 i0 _ 1 16 Tryz.underlying29 hi0 hz0 hz1 hz2 rfl (by decide) _ _ _ rfl (HO6.out.alloc _) ⟨w7.heap.size, 0, none⟩ 1 1 [.string x] rfl rfl (World.news_of_block (heap_new _ _)) (by intro u hu; simp at hu; subst hu; rfl) (Nat.le_trans (Nat.add_le_add_right HLN.out 1) (by unfold maxLen; decide)) (by have hz := HLN.out; omega) (Nat.le_trans HG6.out.bl.size (by simp)) ?_)
                  intro v' w9 hown hgrow _
                  have HB9 := hid (rel_app HG6.out.bl.size HG6.out.bl HO6.out (Below.refl _ _) hgrow)
                  have HO9 := hid (show w9.ownsRow w4.heap.size 9 1 v' (SX ++ [x]).length ((SX ++ [x]).map Value.string) by rw [List.length_append, List.map_append]; exact hown)
                  clear hown hgrow
                  go_wp2_with fail
                  go_roundw
                  case rel => first | exact ⟨i + 1, HLI.out, nr_idx i, hid (by rw [HNX.out]; exact HO9.out), hid (HPK.out _ HB9.out)⟩ | exact ⟨i + 1, HLI.out, nx_idx HLI.out HXM.out, hid (by rw [HNX.out]; exact HO9.out), hid (HPK.out _ HB9.out)⟩
                  case measure => first | exact nr_meas HLI.out | exact nx_meas HLI.out HXM.out
                · replace HNX := hid (show someQ q now (X.take (i + 1)) = SX from HNX.out)
                  go_wp2_with fail
                  refine (HW.out w6).mono ?_
                  rintro e w7 ⟨rfl, rfl⟩
                  go_wp2_with fail
                  go_roundw
                  case rel => first | exact ⟨i + 1, HLI.out, nr_idx i, hid (by rw [HNX.out]; exact HO6.out), HG6⟩ | exact ⟨i + 1, HLI.out, nx_idx HLI.out HXM.out, hid (by rw [HNX.out]; exact HO6.out), HG6⟩
                  case measure => first | exact nr_meas HLI.out | exact nx_meas HLI.out HXM.out
          · have bz : (((verErr now.data.toList : Nat) : Int) == 0) = false := by simp; omega
            have bz2 : ¬ ((verErr now.data.toList : Nat) : Int) = 0 := by omega
            rw [okQ_any hw (fun h => hv0 h.2)] at HNX
            replace HNX := hid (show someQ q now (X.take (i + 1)) = SX ++ [x] from HNX.out)
            clear hw hqp HOX hv0
            generalize ((verErr now.data.toList : Nat) : Int) = bad at *
            go_wp2_with fail
            refine (HW.out wr).mono ?_
            rintro e w5 ⟨rfl, rfl⟩
            go_wp2_with (at_builtin; refine wpList_append_own _ rfl _ _ 29 rfl w4.heap.size 9 i0 _ 1 16 Tryz.underlying29 hi0 hz0 hz1 hz2 rfl (by decide) _ _ _ rfl (HOW.out.alloc _) ⟨w5.heap.size, 0, none⟩ 1 1 [.string x] rfl rfl (World.news_of_block (heap_new _ _)) (by intro u hu; simp at hu; subst hu; rfl) (Nat.le_trans (Nat.add_le_add_right HLN.out 1) (by unfold maxLen; decide)) (by have hz := HLN.out; omega) (Nat.le_trans HG.out.bl.size (by simp)) ?_)
            intro v' w9 hown hgrow _
            have HB9 := hid (rel_app HG.out.bl.size HG.out.bl HOW.out (Below.refl _ _) hgrow)
            have HO9 := hid (show w9.ownsRow w4.heap.size 9 1 v' (SX ++ [x]).length ((SX ++ [x]).map Value.string) by rw [List.length_append, List.map_append]; exact hown)
            clear hown hgrow
            go_wp2_with fail
            go_roundw
            case rel => first | exact ⟨i + 1, HLI.out, nr_idx i, hid (by rw [HNX.out]; exact HO9.out), hid (HPK.out _ HB9.out)⟩ | exact ⟨i + 1, HLI.out, nx_idx HLI.out HXM.out, hid (by rw [HNX.out]; exact HO9.out), hid (HPK.out _ HB9.out)⟩
            case measure => first | exact nr_meas HLI.out | exact nx_meas HLI.out HXM.out
    · have hiI := ix_nlt hlt
      have hie : i = X.length := Nat.le_antisymm hi (Nat.le_of_not_lt hlt)
      subst hie
      rw [List.take_length] at HOW
      have HS0 := hid (HLK.out (leastQ q) (someQ q now X))
      have HPB := hid (show likG Q t (leastQ q) (someQ q now X) = pkB Q t q now X from rfl)
      have HSV := hid (verOk_some (q := q) (now := now) HVO.out)
      have HSL := hid (show (someQ q now X).length ≤ 1000000 from Nat.le_trans (someQ_len _ _ _) HXM.out)
      have HPS := hid (show (pkB Q t q now X).size < 999999 from likG_size HSV.out)
      have HF := hid (HPF.out X)
      have HV := hid (HPV.out X)
      have HLQ := hid (show leastQ q = (((sgn q).1.toList == [62]) || ((sgn q).1.toList == [62, 61])) by unfold leastQ; rw [eqW, eqW]; rfl)
      have HTX := hid (own_tx HOW.out)
      obtain ⟨oa, oc, hov⟩ := own_slN HOW.out
      subst hov
      rw [HPB.out] at HS0
      have HEr := hid ((HG.out.bl.block _ (lt_of_blk HE4.out)).trans HE4.out)
      have HBr := hid (HB4.out.trans (HG.out.bl.mono HB4.out.size))
      clear hlt HOW HPF HPV HLK HVO HG HP4 HPK HNN HOE HPB
      generalize leastQ q = lb at *
      generalize someQ q now X = SO at *
      obtain ⟨PB, hPB⟩ : ∃ PB, pkB Q t q now X = PB := ⟨_, rfl⟩
      rw [hPB] at HS0 HPS HF HV
      clear hPB
      go_wp2_with fail
      refine (HSG.out _).mono ?_
      rintro e w5 ⟨rfl, hb⟩
      have HB5 := hid (HBr.out.trans (hb.mono HBr.out.size))
      have HE5 := hid ((hb.block _ (lt_of_blk HEr.out)).trans HEr.out)
      have HT5 := hid (HTX.out.below hb)
      clear hb HSG
      have HL5 := hid (HS0.out _ w5 HB5.out HSL.out HSV.out HT5.out)
      generalize (sgn q).1 = sg at *
      generalize (sgn q).2 = sr at *
      generalize hg1 : (sg.toList == [62]) = c1 at *
      generalize hg2 : (sg.toList == [62, 61]) = c2 at *
      have HM5 := hid (fun W => HMX.out PB W HPS.out)
      have HZB := hid (show (PB.toList == []) = decide (PB = bE) from (eqW PB bE).symm)
      have HUB := hid (show (q.toList == [117, 112, 103, 114, 97, 100, 101]) = decide (q = bUpgrade) from (eqW q bUpgrade).symm)
      have HLQ2 := HLQ.out
      subst HLQ2
      have hcut : Hid (Calls Tryz.prog 94 #[.slice va Q.length vc, .string t, .slice oa SO.length oc, .bool (c1 || c2)] w5 fun e w' => e = .returned (.string PB) ∧ Below w5.heap.size w5 w') := hid HL5.out
      clear HL5 HLQ HS0
      cases c1 <;> cases c2
      all_goals
        go_wp2_with fail
        refine hcut.out.mono ?_
        rintro e w6 ⟨rfl, hb⟩
        have HB6 := hid (HB5.out.trans (hb.mono HB5.out.size))
        have HE6 := hid ((hb.block _ (lt_of_blk HE5.out)).trans HE5.out)
        clear hb
        by_cases hpb : PB = bE
        · rw [decide_eq_true hpb] at HZB
          have z1 := HZB.out
          rw [if_pos hpb] at HF HV
          clear HZB hpb
          go_wp2_with fail
          refine (HBA.out _).mono ?_
          rintro e w7 ⟨rfl, hb⟩
          have HB7 := hid (HB6.out.trans (hb.mono HB6.out.size))
          have HE7 := hid ((hb.block _ (lt_of_blk HE6.out)).trans HE6.out)
          clear hb
          obtain ⟨s0, s1, tf⟩ := bxQ HE7.out
          go_wp2_with fail
          refine bodyPost_ret (v := .tuple #[.string ⟨#[]⟩, .agg #[.int .i64 5, .int .i64 (-1)]]) (by simp [results, Tryz.results37, go_sem, s0, s1]) rfl ?_
          exact ⟨X, HK.out, by rw [HF.out, HV.out]; rfl, put2_below HB7.out (Nat.le_refl _)⟩
        · rw [decide_eq_false hpb] at HZB
          have z1 := HZB.out
          rw [if_neg hpb] at HF HV
          clear HZB hpb
          by_cases hup : q = bUpgrade
          · rw [decide_eq_true hup] at HUB
            have z2 := HUB.out
            rw [if_pos hup] at HV
            clear HUB hup
            go_wp2_with fail
            refine (HM5.out _).mono ?_
            rintro e w7 ⟨rfl, hb⟩
            have HB7 := hid (HB6.out.trans (hb.mono HB6.out.size))
            have HE7 := hid ((hb.block _ (lt_of_blk HE6.out)).trans HE6.out)
            clear hb
            generalize maxB PB now = MB at *
            go_wp2_with fail
            refine (HFN.out _).mono ?_
            rintro e w8 ⟨rfl, hb⟩
            have HB8 := hid (HB7.out.trans (hb.mono HB7.out.size))
            have HE8 := hid ((hb.block _ (lt_of_blk HE7.out)).trans HE7.out)
            clear hb
            obtain ⟨s0, s1, tf⟩ := bxQ HE8.out
            go_wp2_with fail
            refine bodyPost_ret (v := .tuple #[.string MB, .agg #[.int .i64 0, .int .i64 (-1)]]) (by simp [results, Tryz.results37, go_sem, s0, s1]) rfl ?_
            exact ⟨X, HK.out, by rw [HF.out, HV.out]; rfl, put2_below HB8.out (Nat.le_refl _)⟩
          · rw [decide_eq_false hup] at HUB
            have z2 := HUB.out
            rw [if_neg hup] at HV
            clear HUB hup
            go_wp2_with fail
            refine (HFN.out _).mono ?_
            rintro e w8 ⟨rfl, hb⟩
            have HB8 := hid (HB6.out.trans (hb.mono HB6.out.size))
            have HE8 := hid ((hb.block _ (lt_of_blk HE6.out)).trans HE6.out)
            clear hb
            obtain ⟨s0, s1, tf⟩ := bxQ HE8.out
            go_wp2_with fail
            refine bodyPost_ret (v := .tuple #[.string PB, .agg #[.int .i64 0, .int .i64 (-1)]]) (by simp [results, Tryz.results37, go_sem, s0, s1]) rfl ?_
            exact ⟨X, HK.out, by rw [HF.out, HV.out]; rfl, put2_below HB8.out (Nat.le_refl _)⟩
end Ve
end Go.Proofs.YtnkgjddkdikikaaGreatDoor
namespace Go.Proofs.YtnkgjddkdikikaaGreatDoor
open Go.RowKit Go.Maps
namespace Ve
theorem rpick_all (Q : List Raw) (L : List Ent) (t q now : ByteArray) (v : Value) (w : World) (hq : q.size ≤ 100) (hnow : now.size ≤ 100) (hn : L.length ≤ 200) (sh : ∀ e, e ∈ L → ShE e) (hz : shortQ Q) (I : Ixs w v Q L) :
    Calls Tryz.prog 37 #[v, .string t, .string q, .string now] w fun e w' => ∃ X, (look Q L q → Kept (verL (ofP t Q)) (verL (ofP t Q)).length X) ∧ e = .returned (.tuple #[.string (pkV Q L t q now X), faultV (pkF Q L t q now X)]) ∧ Below w.heap.size w w' := by
  by_cases h0 : qErr q ≠ 0
  · obtain ⟨va, vc, hv1, -⟩ := id I.es
    subst hv1
    refine (rpick_q Q t q now va vc w (by omega) h0).mono ?_
    rintro e w' ⟨rfl, hb⟩
    exact ⟨[], fun h => absurd h.1 h0, by rw [pkV_q h0, pkF_q h0], hb⟩
  by_cases hc : (chk Q L).1 ≠ 0
  · refine (rpick_c Q L t q now v w (by omega) (by omega) sh I (by simpa using h0) hc).mono ?_
    rintro e w' ⟨rfl, hb⟩
    exact ⟨[], fun h => absurd h.2.1 hc, by rw [pkV_c h0 hc, pkF_c h0 hc], hb⟩
  by_cases hnn : q = bNone
  · subst hnn
    refine (rpick_n Q L t now v w (by omega) sh I (by simpa using hc)).mono ?_
    rintro e w' ⟨rfl, hb⟩
    exact ⟨[], fun h => absurd rfl h.2.2, by rw [pkV_n h0 hc rfl, pkF_n h0 hc rfl], hb⟩
  refine (rpick_m Q L t q now v w (by omega) (by omega) (by omega) sh hz I (by simpa using h0) (by simpa using hc) hnn).mono ?_
  rintro e w' ⟨X, hK, rfl, hb⟩
  exact ⟨X, fun _ => hK, rfl, hb⟩
end Ve
end Go.Proofs.YtnkgjddkdikikaaGreatDoor
