
import Derived.Test.YtanponneancajaaGreatDoorCode
import Derived.Test.YtanponneancajaaGreatDoorBt3
import Derived.Test.YtanponneancajaaGreatDoorBt11
import Derived.Test.YtanponneancajaaGreatDoorBt7
import Derived.Test.YtanponneancajaaGreatDoorBt2
import Derived.Test.YtanponneancajaaGreatDoorBt5
import Derived.Test.YtanponneancajaaGreatDoorBt6
import Derived.Test.YtanponneancajaaGreatDoorBt9
import Derived.Test.YtanponneancajaaGreatDoorBt8
import Derived.Laws.MakeOwn
import Derived.Deep.DeepCutAuto
namespace Go.Proofs.YtanponneancajaaGreatDoor
open Go.RowKit Go.Maps
namespace Ve
theorem code_at2 (A : Nat → Addr) (x : Value) (c : Nat) (o : Option Nat) (w : World) (S : Er.Sen w A) (h : ErrAt w A x c o) (hc : c ≤ 10) :
    Calls Tryz.prog 51 #[x] w fun e w' => e = .returned (.tuple #[.int .i64 (c : Nat), .int .i64 (atOf o)]) ∧ Below w.heap.size w w' := by
  cases o with
  | none =>
    have h : x = errA A c := h
    subst h
    cases c with
    | zero => exact (Er.code_nil w).mono fun e w' h => ⟨h.1, by rw [h.2]; exact Below.refl _ _⟩
    | succ j => exact Er.code_sen A j w S (by omega)
  | some i =>
    obtain ⟨h0, b, rfl, h1, h2⟩ := h
    obtain ⟨j, rfl⟩ : ∃ j, c = j + 1 := ⟨c - 1, by omega⟩
    rw [errA_if A h0] at h2
    exact Er.code_fault b 0 i A j w S (by omega) (lt_of_cell h1) h1 h2
theorem modErr_err (p v : List UInt8) : modErr p v = 0 ∨ modErr p v = 1 ∨ modErr p v = 2 ∨ modErr p v = 4 := by
  unfold modErr
  by_cases h0 : pathErr p = 0
  · rw [if_pos h0]
    by_cases h1 : verErr v = 0
    · rw [if_pos h1]
      cases fitsB (nAt v 0) (pathN p)
      · right; right; right; rfl
      · left; rfl
    · rw [if_neg h1]
      rcases verErr_err v with h | h | h <;> omega
  · rw [if_neg h0]; exact pathErr_err p
theorem mErr_le (m : Bm) : mErr m ≤ 10 := by
  have := modErr_err m.1.data.toList m.2.data.toList
  unfold mErr; omega
theorem reqE_le (own : ByteArray) (L : List Bm) (i : Nat) : reqE own L i ≤ 10 := by
  unfold reqE
  split
  · omega
  · rename_i m _
    have := mErr_le m
    unfold reqW
    repeat' split
    all_goals omega
theorem codeE_le {E : Nat → Nat} {n : Nat} (h : ∀ i, E i ≤ 10) : codeE E n ≤ 10 := by
  cases h1 : fstE E n with
  | none => unfold codeE; rw [h1]; simp
  | some j => rw [codeE_some h1]; exact h j
theorem packErr_le (Z : List (List UInt8)) : packErr Z ≤ 10 := by
  unfold packErr
  repeat' split
  all_goals omega
theorem entR_le (e : Ent) : entR e ≤ 10 := by
  unfold entR
  repeat' split
  all_goals first | omega | exact codeE_le (reqE_le _ _) | exact packErr_le _
theorem entE_le (L : List Ent) (i : Nat) : entE L i ≤ 10 := by
  unfold entE
  split
  · omega
  · unfold entW
    repeat' split
    all_goals first | omega | exact mErr_le _ | exact entR_le _
theorem nonW_le (Q : List Raw) (m : Bm) : nonW Q m ≤ 10 := by
  unfold nonW
  split <;> omega
theorem nonE_le (Q : List Raw) (R : List Bm) (i : Nat) : nonE Q R i ≤ 10 := by
  unfold nonE
  split
  · omega
  · exact nonW_le _ _
theorem reqE2_le (Q : List Raw) (L : List Ent) (i : Nat) : reqE2 Q L i ≤ 10 := by
  unfold reqE2
  split
  · omega
  · exact codeE_le (nonE_le _ _)
theorem chk_le (Q : List Raw) (L : List Ent) : (chk Q L).1 ≤ 10 := by
  unfold chk
  repeat' split
  all_goals first | (simp only; omega) | exact entE_le _ _ | exact codeE_le (reqE2_le _ _)
end Ve
end Go.Proofs.YtanponneancajaaGreatDoor


namespace Go.Proofs.YtanponneancajaaGreatDoor
open Go.RowKit Go.Maps
namespace Ve
end Ve
end Go.Proofs.YtanponneancajaaGreatDoor


namespace Go.Proofs.YtanponneancajaaGreatDoor
open Go.RowKit
namespace Ve
theorem cb_lt_iff : ∀ (a b : List UInt8), Lib.compareBytes a b < 0 ↔ a < b
  | [], [] => by simp [Lib.compareBytes]
  | [], b :: bs => by simp [Lib.compareBytes]
  | a :: r, [] => by simp [Lib.compareBytes]
  | a :: r, b :: bs => by
    simp only [Lib.compareBytes]
    rw [List.cons_lt_cons_iff]
    by_cases h1 : a < b
    · rw [if_pos h1]; simp [h1]
    · rw [if_neg h1]
      by_cases h2 : b < a
      · rw [if_pos h2]
        have : ¬ a = b := fun e => by subst e; exact absurd h2 (UInt8.lt_irrefl _)
        simp [h1, this]
      · rw [if_neg h2]
        have : a = b := u8_eq h1 h2
        subst this
        rw [cb_lt_iff r bs]
        simp [h1]
theorem range_get (S : List (List UInt8)) : (List.range S.length).map (fun j => S.toArray[j]!) = S := by
  apply List.ext_getElem
  · simp
  · intro j h1 h2
    simp [h2]
def rsT (Z : List (List UInt8)) : Prop := ∀ j (h : j + 1 < Z.length), Lib.compareBytes Z[j] Z[j + 1] < 0
theorem rsT_pair {Z : List (List UInt8)} (h : rsT Z) : Z.Pairwise fun x y => x < y := by
  have go : ∀ (d i : Nat) (hi : i + d + 1 < Z.length), Z[i] < Z[i + d + 1] := fun d => by
    induction d with
    | zero => intro i hi; exact (cb_lt_iff _ _).1 (h i hi)
    | succ d ih =>
      intro i hi
      exact List.lt_trans (ih i (by omega)) ((cb_lt_iff _ _).1 (h (i + d + 1) hi))
  rw [List.pairwise_iff_getElem]
  intro i j hi hj hij
  obtain ⟨d, rfl⟩ : ∃ d, j = i + d + 1 := ⟨j - i - 1, by omega⟩
  exact go d i hj
theorem ris_iff (Z : List (List UInt8)) : Z = risB Z ↔ rsT Z := by
  have hsrt : (srtB Z).Pairwise fun x y => x ≤ y := by
    have h := List.pairwise_mergeSort (le := fun x y : List UInt8 => decide (x ≤ y)) (fun a b c h1 h2 => by simp only [decide_eq_true_eq] at *; exact List.le_trans h1 h2) (fun a b => by simp only [Bool.or_eq_true, decide_eq_true_eq]; exact List.le_total a b) Z
    unfold srtB
    exact h.imp fun h => of_decide_eq_true h
  have hlen : (srtB Z).length = Z.length := by unfold srtB; exact List.length_mergeSort Z
  constructor
  · intro h
    have hl : (risB Z).length = (srtB Z).length := by rw [← h, hlen]
    unfold risB Lib.compact Lib.compactUpTo at hl
    rw [List.length_map] at hl
    have hk := List.length_filter_eq_length_iff.1 (hl.trans (by simp))
    have hk' : ∀ j, j < (srtB Z).length → Lib.keeps (srtB Z).toArray j = true := fun j hj => hk j (List.mem_range.2 hj)
    have hS : Z = srtB Z := by
      have h5 : risB Z = srtB Z := by
        unfold risB Lib.compact
        rw [Lib.compactUpTo_all _ _ hk', range_get]
      exact h.trans h5
    intro j hj
    have h1 := hk' (j + 1) (by rw [hlen]; exact hj)
    have h2 : (srtB Z)[j + 1]'(by rw [hlen]; exact hj) ≠ (srtB Z)[j]'(by rw [hlen]; omega) := by
      have h3 : decide (j + 1 = 0 ∨ (srtB Z).toArray[j + 1]! ≠ (srtB Z).toArray[j + 1 - 1]!) = true := h1
      rcases of_decide_eq_true h3 with h4 | h4
      · omega
      · intro e
        apply h4
        rw [getElem!_pos _ _ (by simp [hlen]; exact hj), getElem!_pos _ _ (by simp [hlen]; omega)]
        simpa using e
    have h3 := List.pairwise_iff_getElem.1 hsrt j (j + 1) (by rw [hlen]; omega) (by rw [hlen]; exact hj) (by omega)
    have e1 : Z[j] = (srtB Z)[j]'(by rw [hlen]; omega) := by congr 1
    have e2 : Z[j + 1] = (srtB Z)[j + 1]'(by rw [hlen]; exact hj) := by congr 1
    rw [cb_lt_iff, e1, e2]
    rcases List.le_iff_lt_or_eq.1 h3 with h6 | h6
    · exact h6
    · exact absurd h6.symm h2
  · intro h
    have hp := rsT_pair h
    have hS : srtB Z = Z := by
      unfold srtB
      exact List.mergeSort_of_pairwise (hp.imp fun h => decide_eq_true (List.le_of_lt h))
    unfold risB Lib.compact
    rw [hS, Lib.compactUpTo_all, range_get]
    intro j hj
    cases j with
    | zero => exact Lib.keeps_lt_one _ 0 (by omega)
    | succ j =>
      refine Lib.keeps_pos ?_
      rw [getElem!_pos _ _ (by simpa using hj), getElem!_pos _ _ (by simp; omega)]
      intro e
      have h1 := List.pairwise_iff_getElem.1 hp j (j + 1) (by omega) hj (by omega)
      have e' : Z[j + 1] = Z[j] := by simpa using e
      rw [e'] at h1
      exact absurd h1 (List.lt_irrefl _)
end Ve
end Go.Proofs.YtanponneancajaaGreatDoor


namespace Go.Proofs.YtanponneancajaaGreatDoor
open Go.RowKit Go.Maps
namespace Ve
theorem es_all {W : World} {b o n c : Nat} {Q : List Raw} (h : EsAt W (.slice (some ⟨b, o, none⟩) n c) Q) {k : Nat} (hk : k < Q.length) : slR Q[k] ∧ W.cell? ⟨b, o + k * 5, none⟩ = some (.string Q[k].1.1) ∧ W.cell? ⟨b, o + k * 5 + 1, none⟩ = some (.string Q[k].1.2) ∧ W.cell? ⟨b, o + k * 5 + 2, none⟩ = some Q[k].2.1 ∧ W.cell? ⟨b, o + k * 5 + 3, none⟩ = some Q[k].2.2.1 ∧ W.cell? ⟨b, o + k * 5 + 4, none⟩ = some (.bool Q[k].2.2.2) := by
  obtain ⟨a', c', e, _, hs, h⟩ := h
  injection e with e1 e2 e3
  subst e1
  obtain ⟨b', o', e4, h4⟩ := h (by intro h0; rw [h0] at hk; simp at hk)
  injection e4 with e4
  injection e4 with e5 e6
  subst e5 e6
  exact ⟨hs _ (List.getElem_mem hk), h4 k hk⟩
theorem reqsR_code (own : ByteArray) (L : List Bm) : (reqsR own L).1 = codeE (reqE own L) L.length := by
  unfold reqsR codeE
  cases fstE (reqE own L) L.length <;> rfl
theorem pk_rise {Z : List (List UInt8)} (h : ¬ 10 < Z.length) (h1 : Z.any noPk = false) (h2 : rsT Z) : packErr Z = 0 := pk_ok h h1 ((ris_iff Z).2 h2)
theorem pk_fall {Z : List (List UInt8)} (h : ¬ 10 < Z.length) (h1 : Z.any noPk = false) (h2 : ¬ rsT Z) : packErr Z = 8 := pk_order h h1 (fun e => h2 ((ris_iff Z).1 e))
theorem any_noPk {X : List ByteArray} (h : ∀ j (h : j < X.length), noPk X[j].data.toList = false) : (bl X).any noPk = false := by
  cases e : (bl X).any noPk
  · rfl
  · obtain ⟨z, hz, h1⟩ := List.any_eq_true.1 e
    obtain ⟨j, hj, rfl⟩ := List.getElem_of_mem hz
    have hj2 : j < X.length := by rw [bl_len] at hj; exact hj
    have := h j hj2
    have e2 : (bl X)[j] = X[j].data.toList := by simp [bl]
    rw [e2, this] at h1; cases h1
theorem any_noPk' {X : List ByteArray} {j : Nat} (hj : j < X.length) (h : noPk X[j].data.toList = true) : (bl X).any noPk = true :=
  List.any_eq_true.2 ⟨X[j].data.toList, bl_mem (List.getElem_mem hj), h⟩
theorem rsT_of {X : List ByteArray} (h : ∀ j (h : j + 1 < X.length), noLess X[j] X[j + 1] = false) : rsT (bl X) := fun j hj => by
  have hj2 : j + 1 < X.length := by rw [bl_len] at hj; exact hj
  have h1 := h j hj2
  have e1 : (bl X)[j] = (X[j]'(by omega)).data.toList := by simp [bl]
  have e2 : (bl X)[j + 1] = X[j + 1].data.toList := by simp [bl]
  rw [e1, e2]
  unfold noLess at h1
  simpa using h1
theorem rsT_not {X : List ByteArray} {j : Nat} (hj : j + 1 < X.length) (h : noLess X[j] X[j + 1] = true) : ¬ rsT (bl X) := fun hr => by
  have h1 := hr j (by rw [bl_len]; exact hj)
  have e1 : (bl X)[j]'(by rw [bl_len]; omega) = (X[j]'(by omega)).data.toList := by simp [bl]
  have e2 : (bl X)[j + 1]'(by rw [bl_len]; exact hj) = X[j + 1].data.toList := by simp [bl]
  rw [e1, e2] at h1
  unfold noLess at h
  simp only [Bool.not_eq_true', decide_eq_false_iff_not] at h
  exact h h1
theorem TxAt.cells {W : World} {a : Option Addr} {n c : Nat} {X : List ByteArray} (h : TxAt W (.slice a n c) X) {k : Nat} (hk : k < X.length) : ∃ b o, a = some ⟨b, o, none⟩ ∧ ∀ j (h : j < X.length), W.cell? ⟨b, o + j, none⟩ = some (.string X[j]) := by
  obtain ⟨a', c', e, _, h⟩ := h
  injection e with e1 e2 e3
  subst e1
  exact h (by intro h0; rw [h0] at hk; simp at hk)
set_option maxRecDepth 100000 in
set_option maxHeartbeats 16000000 in
theorem entE0_any (Q : List Raw) (L : List Ent) (b o c : Nat) (w : World) (sh : ∀ e, e ∈ L → ShE e) (I : Ixs w (.slice (some ⟨b, o, none⟩) Q.length c) Q L) (h0 : 0 < L.length) :
    Calls Tryz.prog 130 #[.slice (some ⟨b, o, none⟩) Q.length c, .int .i64 0] w fun e w' => e = .returned (.int .i64 (entE L 0 : Nat)) ∧ Below w.heap.size w w' := by
  have hq : 0 < Q.length := by rw [I.ln]; exact h0
  obtain ⟨hsl, x0, x1, x2, x3, x4⟩ := es_all I.es hq
  simp only [Nat.zero_mul, Nat.add_zero] at x0 x1 x2 x3 x4
  have hok := fun W (h : Below w.heap.size w W) => (I.below h).ok 0 hq h0
  have HSH := hid (sh L[0] (List.getElem_mem h0))
  rw [entE_0 h0]
  generalize Q[0] = r at *
  generalize L[0] = en at *
  obtain ⟨⟨p, q⟩, rv, pv, bk⟩ := r
  obtain ⟨⟨p', q'⟩, eR, eP, bk'⟩ := en
  obtain ⟨hm, hrq, hpk, hbk⟩ := hok w (Below.refl _ _)
  simp only at hm hrq hpk hbk
  injection hm with hm1 hm2
  subst hm1 hm2 hbk
  obtain ⟨ra, rc, hrv, -⟩ := id hrq
  obtain ⟨pa, pc, hpv, -⟩ := id hpk
  subst hrv hpv
  have HRM := hid (fun W (h : Below w.heap.size w W) => hrq.below h)
  have HTX := hid (fun W (h : Below w.heap.size w W) => hpk.below h)
  have hqI : (0 : Int) < (Q.length : Int) := by omega
  clear I sh h0 hok hrq hpk hsl
  have HB0 := hid ((Below.refl w.heap.size w).alloc (Nat.le_refl _) (.cells #[.string p, .string q, .slice ra eR.length rc, .slice pa eP.length pc, .bool bk] 54))
  have HE0 := hid (heap_new w (.cells #[.string p, .string q, .slice ra eR.length rc, .slice pa eP.length pc, .bool bk] 54))
  have HM := hid (modError_any p q (w.alloc (.cells #[.string p, .string q, .slice ra eR.length rc, .slice pa eP.length pc, .bool bk] 54)) (by have := HSH.out.p; simp only at this; omega) (by have := HSH.out.v; simp only at this; omega))
  have hme : mErr (p, q) = modErr p.data.toList q.data.toList := rfl
  rw [← hme] at HM
  by_cases h : mErr (p, q) = 0
  · have HXR := hid (entW_none (e := ((p, q), eR, eP, bk)) h)
    rw [h] at HM
    clear h hme
    go_enter Tryz.func130, Tryz.ntmps130
    go_wp2_with fail
    refine HM.out.mono ?_
    rintro e wz ⟨rfl, hb⟩
    have HBz := hid (HB0.out.trans (hb.mono HB0.out.size))
    have HEz := hid (show wz.heap[w.heap.size]? = some (.cells #[.string p, .string q, .slice ra eR.length rc, .slice pa eP.length pc, .bool bk] 54 (0, 0)) by rw [hb.block _ (lt_of_blk HE0.out)]; exact HE0.out)
    clear hb HM
    have z0 : wz.cell? ⟨w.heap.size, 0, none⟩ = some (.string p) := by rw [Lib.cell_of_heap HEz.out]; rfl
    have z1 : wz.cell? ⟨w.heap.size, 1, none⟩ = some (.string q) := by rw [Lib.cell_of_heap HEz.out]; rfl
    have z2 : wz.cell? ⟨w.heap.size, 2, none⟩ = some (.slice ra eR.length rc) := by rw [Lib.cell_of_heap HEz.out]; rfl
    have z3 : wz.cell? ⟨w.heap.size, 3, none⟩ = some (.slice pa eP.length pc) := by rw [Lib.cell_of_heap HEz.out]; rfl
    have z4 : wz.cell? ⟨w.heap.size, 4, none⟩ = some (.bool bk) := by rw [Lib.cell_of_heap HEz.out]; rfl
    by_cases hf : 20 < eR.length
    · have q2 : (20 : Int) < (eR.length : Int) := by omega
      have HX := hid (HXR.out.trans (entR_full hf))
      clear hf
      go_wp2_with fail
      go_ret
      exact ⟨by rw [HX.out]; rfl, HBz.out⟩
    · have q2 : ¬ (20 : Int) < (eR.length : Int) := by omega
      have HF := hid hf
      have HRQ := hid (reqsE_any p eR _ wz HSH.out.rn HSH.out.rs (HRM.out _ HBz.out))
      rw [reqsR_code] at HRQ
      clear hf
      by_cases hc : codeE (reqE p eR) eR.length = 0
      · have HX := hid (HXR.out.trans (entR_pack HF.out hc))
        rw [hc] at HRQ
        clear hc
        go_wp2_with fail
        refine HRQ.out.mono ?_
        rintro e wy ⟨rfl, hb⟩
        have HBy := hid (HBz.out.trans (hb.mono HBz.out.size))
        have HEy := hid (show wy.heap[w.heap.size]? = some (.cells #[.string p, .string q, .slice ra eR.length rc, .slice pa eP.length pc, .bool bk] 54 (0, 0)) by rw [hb.block _ (lt_of_blk HEz.out)]; exact HEz.out)
        clear hb z0 z1 z2 z3 z4 HRQ
        have y0 : wy.cell? ⟨w.heap.size, 0, none⟩ = some (.string p) := by rw [Lib.cell_of_heap HEy.out]; rfl
        have y1 : wy.cell? ⟨w.heap.size, 1, none⟩ = some (.string q) := by rw [Lib.cell_of_heap HEy.out]; rfl
        have y2 : wy.cell? ⟨w.heap.size, 2, none⟩ = some (.slice ra eR.length rc) := by rw [Lib.cell_of_heap HEy.out]; rfl
        have y3 : wy.cell? ⟨w.heap.size, 3, none⟩ = some (.slice pa eP.length pc) := by rw [Lib.cell_of_heap HEy.out]; rfl
        have y4 : wy.cell? ⟨w.heap.size, 4, none⟩ = some (.bool bk) := by rw [Lib.cell_of_heap HEy.out]; rfl
        by_cases hp10 : 10 < eP.length
        · have q3 : (10 : Int) < (eP.length : Int) := by omega
          have HX2 := hid (HX.out.trans (pk_full (by rw [bl_len]; exact hp10)))
          clear hp10
          go_wp2_with fail
          go_ret
          exact ⟨by rw [HX2.out]; rfl, HBy.out⟩
        · have q3 : ¬ (10 : Int) < (eP.length : Int) := by omega
          have HP10 := hid (show ¬ 10 < (bl eP).length by rw [bl_len]; exact hp10)
          have hpl : eP.length ≤ 10 := by omega
          clear hp10
          go_wp2_with fail
          go_loopw [8] (fun kv wr => ∃ k : Nat, k ≤ eP.length ∧ kv = .int .i64 k ∧ Hid (∀ j (h : j < eP.length), j < k → noPk eP[j].data.toList = false) ∧ Hid (Below w.heap.size w wr) ∧ Hid (wr.heap[w.heap.size]? = some (.cells #[.string p, .string q, .slice ra eR.length rc, .slice pa eP.length pc, .bool bk] 54 (0, 0)))) (fun kv _ => eP.length - (intOf kv).toNat)
          case atStart => exact ⟨0, Nat.zero_le _, rfl, hid (fun j _ h => absurd h (Nat.not_lt_zero _)), HBy, HEy⟩
          case round =>
            clear y0 y1 y2 y3 y4
            obtain ⟨k, hk, rfl, HA, HBr, HEr⟩ := hrel
            have r0 : wr.cell? ⟨w.heap.size, 0, none⟩ = some (.string p) := by rw [Lib.cell_of_heap HEr.out]; rfl
            have r1 : wr.cell? ⟨w.heap.size, 1, none⟩ = some (.string q) := by rw [Lib.cell_of_heap HEr.out]; rfl
            have r2 : wr.cell? ⟨w.heap.size, 2, none⟩ = some (.slice ra eR.length rc) := by rw [Lib.cell_of_heap HEr.out]; rfl
            have r3 : wr.cell? ⟨w.heap.size, 3, none⟩ = some (.slice pa eP.length pc) := by rw [Lib.cell_of_heap HEr.out]; rfl
            have r4 : wr.cell? ⟨w.heap.size, 4, none⟩ = some (.bool bk) := by rw [Lib.cell_of_heap HEr.out]; rfl
            by_cases hlt : k < eP.length
            · have hkI : (k : Int) < (eP.length : Int) := by omega
              have hk0 : (0 : Int) ≤ (k : Int) := by omega
              obtain ⟨pb, po, hpa, hcl⟩ := (HTX.out _ HBr.out).cells hlt
              have t0 := hcl k hlt
              subst hpa
              have HLT := hid hlt
              have hsz := HSH.out.ps eP[k] (List.getElem_mem hlt)
              have HNX := hid (show noPk eP[k].data.toList = false → ∀ j (h : j < eP.length), j < k + 1 → noPk eP[j].data.toList = false from fun h0 j h1 h3 => by
                rcases Nat.lt_or_ge j k with h | h
                · exact HA.out j h1 h
                · have : j = k := by omega
                  subst this; exact h0)
              have HBD := hid (show noPk eP[k].data.toList = true → packErr (bl eP) = 1 from fun h => pk_text HP10.out (any_noPk' hlt h))
              generalize eP[k] = z at *
              clear hcl hlt
              by_cases hdot : z = ⟨#[46]⟩
              · subst hdot
                have s0 : ((⟨#[46]⟩ : ByteArray).toList == (⟨#[46]⟩ : ByteArray).toList) = true := by simp
                have HN2 := hid (HNX.out (by decide))
                go_wp2_with fail
                go_roundw
                case rel => first | exact ⟨k + 1, HLT.out, nr_idx k, HN2, HBr, HEr⟩ | exact ⟨k + 1, HLT.out, nx_idx HLT.out (by omega), HN2, HBr, HEr⟩
                case measure => first | exact nr_meas HLT.out | exact nx_meas HLT.out (by omega)
              · have hqd : (z.toList == [46]) = false := by rw [ByteArray.toList_eq]; exact beq_eq_false_iff_ne.2 (fun e => hdot (str_ext (by rw [e])))
                have hd2 : z.data.toList ≠ [46] := fun e => hdot (str_ext (by rw [e]))
                have HPE := hid (fun W => pathError_any z W (by omega))
                by_cases hpe : pathErr z.data.toList = 0
                · rw [hpe] at HPE
                  have HN2 := hid (HNX.out (by unfold noPk; simp [hpe]))
                  clear hpe hd2 hdot
                  go_wp2_with fail
                  refine (HPE.out _).mono ?_
                  rintro e wv ⟨rfl, hb⟩
                  have HBv := hid (HBr.out.trans (hb.mono HBr.out.size))
                  have HEv := hid ((hb.block _ (lt_of_blk HEr.out)).trans HEr.out)
                  clear hb
                  go_wp2_with fail
                  go_roundw
                  case rel => first | exact ⟨k + 1, HLT.out, nr_idx k, HN2, HBv, HEv⟩ | exact ⟨k + 1, HLT.out, nx_idx HLT.out (by omega), HN2, HBv, HEv⟩
                  case measure => first | exact nr_meas HLT.out | exact nx_meas HLT.out (by omega)
                · have HX2 := hid (HX.out.trans (HBD.out (by unfold noPk; simp [hpe, hd2])))
                  have hpos : (0 : Int) < ((pathErr z.data.toList : Nat) : Int) := by omega
                  generalize pathErr z.data.toList = pe at *
                  clear hpe hd2 hdot
                  go_wp2_with fail
                  refine (HPE.out _).mono ?_
                  rintro e wv ⟨rfl, hb⟩
                  have HBv := hid (HBr.out.trans (hb.mono HBr.out.size))
                  clear hb
                  go_wp2_with fail
                  go_ret
                  exact ⟨by rw [HX2.out]; rfl, HBv.out⟩
            · have hkI : ¬ (k : Int) < (eP.length : Int) := by omega
              have HNO := hid (show (bl eP).any noPk = false from any_noPk fun j h => HA.out j h (by omega))
              clear hlt
              go_wp2_with fail
              go_loopw [9] (fun kv wr => ∃ k : Nat, 1 ≤ k ∧ (k ≤ eP.length ∨ k = 1) ∧ kv = .int .i64 k ∧ Hid (∀ j (h : j + 1 < eP.length), j + 1 < k → noLess eP[j] eP[j + 1] = false) ∧ Hid (Below w.heap.size w wr) ∧ Hid (wr.heap[w.heap.size]? = some (.cells #[.string p, .string q, .slice ra eR.length rc, .slice pa eP.length pc, .bool bk] 54 (0, 0)))) (fun kv _ => eP.length - (intOf kv).toNat)
              case atStart => exact ⟨1, Nat.le_refl _, Or.inr rfl, rfl, hid (fun j _ h => by omega), HBr, HEr⟩
              case round =>
                clear r0 r1 r2 r3 r4
                obtain ⟨k2, hk1, hk2, rfl, HA2, HBs, HEs⟩ := hrel
                have s0 : wr.cell? ⟨w.heap.size, 0, none⟩ = some (.string p) := by rw [Lib.cell_of_heap HEs.out]; rfl
                have s1 : wr.cell? ⟨w.heap.size, 1, none⟩ = some (.string q) := by rw [Lib.cell_of_heap HEs.out]; rfl
                have s2 : wr.cell? ⟨w.heap.size, 2, none⟩ = some (.slice ra eR.length rc) := by rw [Lib.cell_of_heap HEs.out]; rfl
                have s3 : wr.cell? ⟨w.heap.size, 3, none⟩ = some (.slice pa eP.length pc) := by rw [Lib.cell_of_heap HEs.out]; rfl
                have s4 : wr.cell? ⟨w.heap.size, 4, none⟩ = some (.bool bk) := by rw [Lib.cell_of_heap HEs.out]; rfl
                by_cases hlt : k2 < eP.length
                · obtain ⟨j, rfl⟩ : ∃ j, k2 = j + 1 := ⟨k2 - 1, by omega⟩
                  have hkI2 : ((j + 1 : Nat) : Int) < (eP.length : Int) := by omega
                  have hkI3 : (j : Int) < (eP.length : Int) := by omega
                  have hk00 : (0 : Int) ≤ ((j + 1 : Nat) : Int) := by omega
                  have hk01 : (0 : Int) ≤ (j : Int) := by omega
                  have hk02 : ((j + 1 : Nat) : Int) - 1 = (j : Int) := by omega
                  have hwp : IntKind.i64.wrap (j : Int) = (j : Int) := by rw [IntKind.wrap_i64]; omega
                  have hk03 : (j : Int) + 1 - 1 = (j : Int) := by omega
                  obtain ⟨pb, po, hpa, hcl⟩ := (HTX.out _ HBs.out).cells hlt
                  have t0 := hcl (j + 1) hlt
                  have t1 := hcl j (by omega)
                  subst hpa
                  have HLT := hid hlt
                  have HNX := hid (show noLess eP[j] eP[j + 1] = false → ∀ i (h : i + 1 < eP.length), i + 1 < j + 1 + 1 → noLess eP[i] eP[i + 1] = false from fun h0 i h1 h3 => by
                    rcases Nat.lt_or_ge i j with h | h
                    · exact HA2.out i h1 (by omega)
                    · have : i = j := by omega
                      subst this; exact h0)
                  have HBD := hid (show noLess eP[j] eP[j + 1] = true → packErr (bl eP) = 8 from fun h => pk_fall HP10.out HNO.out (rsT_not hlt h))
                  generalize eP[j + 1] = za at *
                  generalize eP[j] = zb at *
                  have hle := fun X => leq_is za zb X
                  clear hcl hlt
                  cases hnl : noLess zb za
                  · rw [hnl] at hle
                    have HN2 := hid (HNX.out hnl)
                    clear hnl
                    go_wp2_with fail
                    go_quiet (fail)
                    have HBd := hid (below_drawn_of HBs.out nq)
                    have HEd := hid (show (wr.drewN nq).heap[w.heap.size]? = _ from HEs.out)
                    go_wp2_with fail
                    go_roundw
                    case rel => first | exact ⟨j + 1 + 1, by omega, Or.inl HLT.out, nr_idx (j + 1), HN2, HBd, HEd⟩ | exact ⟨j + 1 + 1, by omega, Or.inl HLT.out, nx_idx HLT.out (by omega), HN2, HBd, HEd⟩
                    case measure => first | exact nr_meas HLT.out | exact nx_meas HLT.out (by omega)
                  · rw [hnl] at hle
                    have HX2 := hid (HX.out.trans (HBD.out hnl))
                    clear hnl
                    go_wp2_with fail
                    go_quiet (fail)
                    have HBd := hid (below_drawn_of HBs.out nq)
                    go_wp2_with fail
                    go_ret
                    exact ⟨by rw [HX2.out]; rfl, HBd.out⟩
                · have hkI2 : ¬ (k2 : Int) < (eP.length : Int) := by omega
                  have HX2 := hid (HX.out.trans (pk_rise HP10.out HNO.out (rsT_of fun j h => HA2.out j h (by omega))))
                  clear hlt
                  go_wp2_with fail
                  go_ret
                  exact ⟨by rw [HX2.out]; rfl, HBs.out⟩
      · have HX := hid (HXR.out.trans (entR_req HF.out hc))
        have hpos : (0 : Int) < ((codeE (reqE p eR) eR.length : Nat) : Int) := by omega
        generalize codeE (reqE p eR) eR.length = cd at *
        clear hc
        go_wp2_with fail
        refine HRQ.out.mono ?_
        rintro e wy ⟨rfl, hb⟩
        have HBy := hid (HBz.out.trans (hb.mono HBz.out.size))
        clear hb
        go_wp2_with fail
        go_ret
        exact ⟨by rw [HX.out]; rfl, HBy.out⟩
  · have HX := hid (entW_bad (o := none) (e := ((p, q), eR, eP, bk)) h)
    have hpos : (0 : Int) < ((mErr (p, q) : Nat) : Int) := by omega
    generalize mErr (p, q) = z at *
    clear h hme
    go_enter Tryz.func130, Tryz.ntmps130
    go_wp2_with fail
    refine HM.out.mono ?_
    rintro e wz ⟨rfl, hb⟩
    have HBz := hid (HB0.out.trans (hb.mono HB0.out.size))
    clear hb HM
    go_wp2_with fail
    go_ret
    exact ⟨by rw [HX.out]; rfl, HBz.out⟩
set_option maxRecDepth 100000 in
set_option maxHeartbeats 16000000 in
theorem entE1_any (Q : List Raw) (L : List Ent) (b o c : Nat) (w : World) (sh : ∀ e, e ∈ L → ShE e) (I : Ixs w (.slice (some ⟨b, o, none⟩) Q.length c) Q L) (k : Nat) (h0 : k + 1 < L.length) (hn : L.length ≤ 1000) :
    Calls Tryz.prog 130 #[.slice (some ⟨b, o, none⟩) Q.length c, .int .i64 ((k + 1 : Nat) : Int)] w fun e w' => e = .returned (.int .i64 (entE L (k + 1) : Nat)) ∧ Below w.heap.size w w' := by
  have hq : k + 1 < Q.length := by rw [I.ln]; exact h0
  obtain ⟨hsl, x0, x1, x2, x3, x4⟩ := es_all I.es hq
  have hqk : k < Q.length := by omega
  have hlk : k < L.length := by omega
  obtain ⟨_, u0, u1, _, _, _⟩ := es_all I.es hqk
  have HPM := hid (show Q[k].1 = L[k].1 from (I.ok k hqk hlk).m)
  have HSK := hid (sh L[k] (List.getElem_mem hlk))
  have hok := fun W (h : Below w.heap.size w W) => (I.below h).ok (k + 1) hq h0
  have HSH := hid (sh L[k + 1] (List.getElem_mem h0))
  rw [entE_1 h0]
  generalize Q[k + 1] = r at *
  generalize L[k + 1] = en at *
  have hpv : (L[k]'hlk).1.2.size < 999999 := HSK.out.v
  rw [← HPM.out] at hpv ⊢
  generalize (Q[k]'hqk).1 = pm at *
  obtain ⟨pp, pq⟩ := pm
  simp only at u0 u1 hpv
  obtain ⟨⟨p, q⟩, rv, pv, bk⟩ := r
  obtain ⟨⟨p', q'⟩, eR, eP, bk'⟩ := en
  obtain ⟨hm, hrq, hpk, hbk⟩ := hok w (Below.refl _ _)
  simp only at hm hrq hpk hbk
  injection hm with hm1 hm2
  subst hm1 hm2 hbk
  obtain ⟨ra, rc, hrv, -⟩ := id hrq
  obtain ⟨pa, pc, hpv9, -⟩ := id hpk
  subst hrv hpv9
  have HRM := hid (fun W (h : Below w.heap.size w W) => hrq.below h)
  have HTX := hid (fun W (h : Below w.heap.size w W) => hpk.below h)
  have hqI : ((k + 1 : Nat) : Int) < (Q.length : Int) := by omega
  have hqJ : (0 : Int) ≤ ((k + 1 : Nat) : Int) := by omega
  have hqK : (0 : Int) < ((k + 1 : Nat) : Int) := by omega
  have hqL : ((k + 1 : Nat) : Int) - 1 = (k : Int) := by omega
  have hqM : (k : Int) < (Q.length : Int) := by omega
  have hqN : (0 : Int) ≤ (k : Int) := by omega
  have hwp : IntKind.i64.wrap (k : Int) = (k : Int) := by rw [IntKind.wrap_i64]; omega
  have hqO : (k : Int) + 1 - 1 = (k : Int) := by omega
  have hqP : (k : Int) + 1 < (Q.length : Int) := by omega
  have hqR : (0 : Int) ≤ (k : Int) + 1 := by omega
  have hqS : (0 : Int) < (k : Int) + 1 := by omega
  have hqT : ((k : Int) + 1).toNat = k + 1 := by omega
  clear I sh h0 hok hrq hpk hsl
  have HB0 := hid ((Below.refl w.heap.size w).alloc (Nat.le_refl _) (.cells #[.string p, .string q, .slice ra eR.length rc, .slice pa eP.length pc, .bool bk] 54))
  have HE0 := hid (heap_new w (.cells #[.string p, .string q, .slice ra eR.length rc, .slice pa eP.length pc, .bool bk] 54))
  have HM := hid (modError_any p q (w.alloc (.cells #[.string p, .string q, .slice ra eR.length rc, .slice pa eP.length pc, .bool bk] 54)) (by have := HSH.out.p; simp only at this; omega) (by have := HSH.out.v; simp only at this; omega))
  have hme : mErr (p, q) = modErr p.data.toList q.data.toList := rfl
  rw [← hme] at HM
  by_cases h : mErr (p, q) = 0
  · have H0 := hid h
    rw [h] at HM
    clear h hme
    go_enter Tryz.func130, Tryz.ntmps130
    go_wp2_with fail
    refine HM.out.mono ?_
    rintro e wx ⟨rfl, hb⟩
    have HBx := hid (HB0.out.trans (hb.mono HB0.out.size))
    have HEx := hid (show wx.heap[w.heap.size]? = some (.cells #[.string p, .string q, .slice ra eR.length rc, .slice pa eP.length pc, .bool bk] 54 (0, 0)) by rw [hb.block _ (lt_of_blk HE0.out)]; exact HE0.out)
    clear hb HM
    have HIA := hid (fun W => isA_any (pp, pq) (p, q) W hpv (by have := HSH.out.v; simp only at this ⊢; omega))
    have g0 := cell_below HBx.out u0
    have g1 := cell_below HBx.out u1
    have f0 : wx.cell? ⟨w.heap.size, 0, none⟩ = some (.string p) := by rw [Lib.cell_of_heap HEx.out]; rfl
    have f1 : wx.cell? ⟨w.heap.size, 1, none⟩ = some (.string q) := by rw [Lib.cell_of_heap HEx.out]; rfl
    have HT := hid (fun W' (hW : Below wx.heap.size wx W') => (show (fun W' => W'.cell? ⟨b, o + k * 5, none⟩ = some (.string pp) ∧ W'.cell? ⟨b, o + k * 5 + 1, none⟩ = some (.string pq) ∧ W'.cell? ⟨w.heap.size, 0, none⟩ = some (.string p) ∧ W'.cell? ⟨w.heap.size, 1, none⟩ = some (.string q) ∧ Hid (Below wx.heap.size wx W')) W' from ⟨cell_below hW g0, cell_below hW g1, cell_below hW f0, cell_below hW f1, hid hW⟩))
    cases hah : mAhead (pp, pq) (p, q)
    · have HX := hid (entW_order (p := (pp, pq)) (e := ((p, q), eR, eP, bk)) H0.out hah)
      rw [hah] at HIA
      clear hah
      go_wp2_with fail
      go_region_held (fun W' => W'.cell? ⟨b, o + k * 5, none⟩ = some (.string pp) ∧ W'.cell? ⟨b, o + k * 5 + 1, none⟩ = some (.string pq) ∧ W'.cell? ⟨w.heap.size, 0, none⟩ = some (.string p) ∧ W'.cell? ⟨w.heap.size, 1, none⟩ = some (.string q) ∧ Hid (Below wx.heap.size wx W')) (first | exact HT.out _ HRa.out | exact HT.out _ (below_drawn _ 1)) (first
        | (go_at_call 180; refine (HIA.out _).mono ?_; rintro e w' ⟨rfl, hb⟩; have HRa := hid ((below_drawn wx 1).trans (hb.mono (Nat.le_refl _))); clear hb))
      all_goals
        have HBz := hid (HBx.out.trans (HRa.out.mono HBx.out.size))
        go_wp2_with fail
        go_ret
        exact ⟨by rw [HX.out]; rfl, HBz.out⟩
    · have HXR := hid (entW_some (p := (pp, pq)) (e := ((p, q), eR, eP, bk)) H0.out hah)
      rw [hah] at HIA
      clear hah
      go_wp2_with fail
      go_region_held (fun W' => W'.cell? ⟨b, o + k * 5, none⟩ = some (.string pp) ∧ W'.cell? ⟨b, o + k * 5 + 1, none⟩ = some (.string pq) ∧ W'.cell? ⟨w.heap.size, 0, none⟩ = some (.string p) ∧ W'.cell? ⟨w.heap.size, 1, none⟩ = some (.string q) ∧ Hid (Below wx.heap.size wx W')) (first | exact HT.out _ HRa.out | exact HT.out _ (below_drawn _ 1)) (first
        | (go_at_call 180; refine (HIA.out _).mono ?_; rintro e w' ⟨rfl, hb⟩; have HRa := hid ((below_drawn wx 1).trans (hb.mono (Nat.le_refl _))); clear hb))
      all_goals
        have HBz := hid (HBx.out.trans (HRa.out.mono HBx.out.size))
        obtain ⟨wz, hwz⟩ : ∃ wz, w' = wz := ⟨_, rfl⟩
        rw [hwz] at HBz ⊢
        have HEz := hid (show wz.heap[w.heap.size]? = some (.cells #[.string p, .string q, .slice ra eR.length rc, .slice pa eP.length pc, .bool bk] 54 (0, 0)) by rw [← hwz, HRa.out.block _ (lt_of_blk HEx.out)]; exact HEx.out)
        clear hwz g0 g1 f0 f1
        have z0 : wz.cell? ⟨w.heap.size, 0, none⟩ = some (.string p) := by rw [Lib.cell_of_heap HEz.out]; rfl
        have z1 : wz.cell? ⟨w.heap.size, 1, none⟩ = some (.string q) := by rw [Lib.cell_of_heap HEz.out]; rfl
        have z2 : wz.cell? ⟨w.heap.size, 2, none⟩ = some (.slice ra eR.length rc) := by rw [Lib.cell_of_heap HEz.out]; rfl
        have z3 : wz.cell? ⟨w.heap.size, 3, none⟩ = some (.slice pa eP.length pc) := by rw [Lib.cell_of_heap HEz.out]; rfl
        have z4 : wz.cell? ⟨w.heap.size, 4, none⟩ = some (.bool bk) := by rw [Lib.cell_of_heap HEz.out]; rfl
        by_cases hf : 20 < eR.length
        · have q2 : (20 : Int) < (eR.length : Int) := by omega
          have HX := hid (HXR.out.trans (entR_full hf))
          clear hf
          go_wp2_with fail
          go_ret
          exact ⟨by rw [HX.out]; rfl, HBz.out⟩
        · have q2 : ¬ (20 : Int) < (eR.length : Int) := by omega
          have HF := hid hf
          have HRQ := hid (reqsE_any p eR _ wz HSH.out.rn HSH.out.rs (HRM.out _ HBz.out))
          rw [reqsR_code] at HRQ
          clear hf
          by_cases hc : codeE (reqE p eR) eR.length = 0
          · have HX := hid (HXR.out.trans (entR_pack HF.out hc))
            rw [hc] at HRQ
            clear hc
            go_wp2_with fail
            refine HRQ.out.mono ?_
            rintro e wy ⟨rfl, hb⟩
            have HBy := hid (HBz.out.trans (hb.mono HBz.out.size))
            have HEy := hid (show wy.heap[w.heap.size]? = some (.cells #[.string p, .string q, .slice ra eR.length rc, .slice pa eP.length pc, .bool bk] 54 (0, 0)) by rw [hb.block _ (lt_of_blk HEz.out)]; exact HEz.out)
            clear hb z0 z1 z2 z3 z4 HRQ
            have y0 : wy.cell? ⟨w.heap.size, 0, none⟩ = some (.string p) := by rw [Lib.cell_of_heap HEy.out]; rfl
            have y1 : wy.cell? ⟨w.heap.size, 1, none⟩ = some (.string q) := by rw [Lib.cell_of_heap HEy.out]; rfl
            have y2 : wy.cell? ⟨w.heap.size, 2, none⟩ = some (.slice ra eR.length rc) := by rw [Lib.cell_of_heap HEy.out]; rfl
            have y3 : wy.cell? ⟨w.heap.size, 3, none⟩ = some (.slice pa eP.length pc) := by rw [Lib.cell_of_heap HEy.out]; rfl
            have y4 : wy.cell? ⟨w.heap.size, 4, none⟩ = some (.bool bk) := by rw [Lib.cell_of_heap HEy.out]; rfl
            by_cases hp10 : 10 < eP.length
            · have q3 : (10 : Int) < (eP.length : Int) := by omega
              have HX2 := hid (HX.out.trans (pk_full (by rw [bl_len]; exact hp10)))
              clear hp10
              go_wp2_with fail
              go_ret
              exact ⟨by rw [HX2.out]; rfl, HBy.out⟩
            · have q3 : ¬ (10 : Int) < (eP.length : Int) := by omega
              have HP10 := hid (show ¬ 10 < (bl eP).length by rw [bl_len]; exact hp10)
              have hpl : eP.length ≤ 10 := by omega
              clear hp10
              go_wp2_with fail
              go_loopw [8] (fun kv wr => ∃ k : Nat, k ≤ eP.length ∧ kv = .int .i64 k ∧ Hid (∀ j (h : j < eP.length), j < k → noPk eP[j].data.toList = false) ∧ Hid (Below w.heap.size w wr) ∧ Hid (wr.heap[w.heap.size]? = some (.cells #[.string p, .string q, .slice ra eR.length rc, .slice pa eP.length pc, .bool bk] 54 (0, 0)))) (fun kv _ => eP.length - (intOf kv).toNat)
              case atStart => exact ⟨0, Nat.zero_le _, rfl, hid (fun j _ h => absurd h (Nat.not_lt_zero _)), HBy, HEy⟩
              case round =>
                clear y0 y1 y2 y3 y4
                obtain ⟨k, hk, rfl, HA, HBr, HEr⟩ := hrel
                have r0 : wr.cell? ⟨w.heap.size, 0, none⟩ = some (.string p) := by rw [Lib.cell_of_heap HEr.out]; rfl
                have r1 : wr.cell? ⟨w.heap.size, 1, none⟩ = some (.string q) := by rw [Lib.cell_of_heap HEr.out]; rfl
                have r2 : wr.cell? ⟨w.heap.size, 2, none⟩ = some (.slice ra eR.length rc) := by rw [Lib.cell_of_heap HEr.out]; rfl
                have r3 : wr.cell? ⟨w.heap.size, 3, none⟩ = some (.slice pa eP.length pc) := by rw [Lib.cell_of_heap HEr.out]; rfl
                have r4 : wr.cell? ⟨w.heap.size, 4, none⟩ = some (.bool bk) := by rw [Lib.cell_of_heap HEr.out]; rfl
                by_cases hlt : k < eP.length
                · have hkI : (k : Int) < (eP.length : Int) := by omega
                  have hk0 : (0 : Int) ≤ (k : Int) := by omega
                  obtain ⟨pb, po, hpa, hcl⟩ := (HTX.out _ HBr.out).cells hlt
                  have t0 := hcl k hlt
                  subst hpa
                  have HLT := hid hlt
                  have hsz := HSH.out.ps eP[k] (List.getElem_mem hlt)
                  have HNX := hid (show noPk eP[k].data.toList = false → ∀ j (h : j < eP.length), j < k + 1 → noPk eP[j].data.toList = false from fun h0 j h1 h3 => by
                    rcases Nat.lt_or_ge j k with h | h
                    · exact HA.out j h1 h
                    · have : j = k := by omega
                      subst this; exact h0)
                  have HBD := hid (show noPk eP[k].data.toList = true → packErr (bl eP) = 1 from fun h => pk_text HP10.out (any_noPk' hlt h))
                  generalize eP[k] = z at *
                  clear hcl hlt
                  by_cases hdot : z = ⟨#[46]⟩
                  · subst hdot
                    have s0 : ((⟨#[46]⟩ : ByteArray).toList == (⟨#[46]⟩ : ByteArray).toList) = true := by simp
                    have HN2 := hid (HNX.out (by decide))
                    go_wp2_with fail
                    go_roundw
                    case rel => first | exact ⟨k + 1, HLT.out, nr_idx k, HN2, HBr, HEr⟩ | exact ⟨k + 1, HLT.out, nx_idx HLT.out (by omega), HN2, HBr, HEr⟩
                    case measure => first | exact nr_meas HLT.out | exact nx_meas HLT.out (by omega)
                  · have hqd : (z.toList == [46]) = false := by rw [ByteArray.toList_eq]; exact beq_eq_false_iff_ne.2 (fun e => hdot (str_ext (by rw [e])))
                    have hd2 : z.data.toList ≠ [46] := fun e => hdot (str_ext (by rw [e]))
                    have HPE := hid (fun W => pathError_any z W (by omega))
                    by_cases hpe : pathErr z.data.toList = 0
                    · rw [hpe] at HPE
                      have HN2 := hid (HNX.out (by unfold noPk; simp [hpe]))
                      clear hpe hd2 hdot
                      go_wp2_with fail
                      refine (HPE.out _).mono ?_
                      rintro e wv ⟨rfl, hb⟩
                      have HBv := hid (HBr.out.trans (hb.mono HBr.out.size))
                      have HEv := hid ((hb.block _ (lt_of_blk HEr.out)).trans HEr.out)
                      clear hb
                      go_wp2_with fail
                      go_roundw
                      case rel => first | exact ⟨k + 1, HLT.out, nr_idx k, HN2, HBv, HEv⟩ | exact ⟨k + 1, HLT.out, nx_idx HLT.out (by omega), HN2, HBv, HEv⟩
                      case measure => first | exact nr_meas HLT.out | exact nx_meas HLT.out (by omega)
                    · have HX2 := hid (HX.out.trans (HBD.out (by unfold noPk; simp [hpe, hd2])))
                      have hpos : (0 : Int) < ((pathErr z.data.toList : Nat) : Int) := by omega
                      generalize pathErr z.data.toList = pe at *
                      clear hpe hd2 hdot
                      go_wp2_with fail
                      refine (HPE.out _).mono ?_
                      rintro e wv ⟨rfl, hb⟩
                      have HBv := hid (HBr.out.trans (hb.mono HBr.out.size))
                      clear hb
                      go_wp2_with fail
                      go_ret
                      exact ⟨by rw [HX2.out]; rfl, HBv.out⟩
                · have hkI : ¬ (k : Int) < (eP.length : Int) := by omega
                  have HNO := hid (show (bl eP).any noPk = false from any_noPk fun j h => HA.out j h (by omega))
                  clear hlt
                  go_wp2_with fail
                  go_loopw [9] (fun kv wr => ∃ k : Nat, 1 ≤ k ∧ (k ≤ eP.length ∨ k = 1) ∧ kv = .int .i64 k ∧ Hid (∀ j (h : j + 1 < eP.length), j + 1 < k → noLess eP[j] eP[j + 1] = false) ∧ Hid (Below w.heap.size w wr) ∧ Hid (wr.heap[w.heap.size]? = some (.cells #[.string p, .string q, .slice ra eR.length rc, .slice pa eP.length pc, .bool bk] 54 (0, 0)))) (fun kv _ => eP.length - (intOf kv).toNat)
                  case atStart => exact ⟨1, Nat.le_refl _, Or.inr rfl, rfl, hid (fun j _ h => by omega), HBr, HEr⟩
                  case round =>
                    clear r0 r1 r2 r3 r4
                    obtain ⟨k2, hk1, hk2, rfl, HA2, HBs, HEs⟩ := hrel
                    have s0 : wr.cell? ⟨w.heap.size, 0, none⟩ = some (.string p) := by rw [Lib.cell_of_heap HEs.out]; rfl
                    have s1 : wr.cell? ⟨w.heap.size, 1, none⟩ = some (.string q) := by rw [Lib.cell_of_heap HEs.out]; rfl
                    have s2 : wr.cell? ⟨w.heap.size, 2, none⟩ = some (.slice ra eR.length rc) := by rw [Lib.cell_of_heap HEs.out]; rfl
                    have s3 : wr.cell? ⟨w.heap.size, 3, none⟩ = some (.slice pa eP.length pc) := by rw [Lib.cell_of_heap HEs.out]; rfl
                    have s4 : wr.cell? ⟨w.heap.size, 4, none⟩ = some (.bool bk) := by rw [Lib.cell_of_heap HEs.out]; rfl
                    by_cases hlt : k2 < eP.length
                    · obtain ⟨j, rfl⟩ : ∃ j, k2 = j + 1 := ⟨k2 - 1, by omega⟩
                      have hkI2 : ((j + 1 : Nat) : Int) < (eP.length : Int) := by omega
                      have hkI3 : (j : Int) < (eP.length : Int) := by omega
                      have hk00 : (0 : Int) ≤ ((j + 1 : Nat) : Int) := by omega
                      have hk01 : (0 : Int) ≤ (j : Int) := by omega
                      have hk02 : ((j + 1 : Nat) : Int) - 1 = (j : Int) := by omega
                      have hwp : IntKind.i64.wrap (j : Int) = (j : Int) := by rw [IntKind.wrap_i64]; omega
                      have hk03 : (j : Int) + 1 - 1 = (j : Int) := by omega
                      obtain ⟨pb, po, hpa, hcl⟩ := (HTX.out _ HBs.out).cells hlt
                      have t0 := hcl (j + 1) hlt
                      have t1 := hcl j (by omega)
                      subst hpa
                      have HLT := hid hlt
                      have HNX := hid (show noLess eP[j] eP[j + 1] = false → ∀ i (h : i + 1 < eP.length), i + 1 < j + 1 + 1 → noLess eP[i] eP[i + 1] = false from fun h0 i h1 h3 => by
                        rcases Nat.lt_or_ge i j with h | h
                        · exact HA2.out i h1 (by omega)
                        · have : i = j := by omega
                          subst this; exact h0)
                      have HBD := hid (show noLess eP[j] eP[j + 1] = true → packErr (bl eP) = 8 from fun h => pk_fall HP10.out HNO.out (rsT_not hlt h))
                      generalize eP[j + 1] = za at *
                      generalize eP[j] = zb at *
                      have hle := fun X => leq_is za zb X
                      clear hcl hlt
                      cases hnl : noLess zb za
                      · rw [hnl] at hle
                        have HN2 := hid (HNX.out hnl)
                        clear hnl
                        go_wp2_with fail
                        go_quiet (fail)
                        have HBd := hid (below_drawn_of HBs.out nq)
                        have HEd := hid (show (wr.drewN nq).heap[w.heap.size]? = _ from HEs.out)
                        go_wp2_with fail
                        go_roundw
                        case rel => first | exact ⟨j + 1 + 1, by omega, Or.inl HLT.out, nr_idx (j + 1), HN2, HBd, HEd⟩ | exact ⟨j + 1 + 1, by omega, Or.inl HLT.out, nx_idx HLT.out (by omega), HN2, HBd, HEd⟩
                        case measure => first | exact nr_meas HLT.out | exact nx_meas HLT.out (by omega)
                      · rw [hnl] at hle
                        have HX2 := hid (HX.out.trans (HBD.out hnl))
                        clear hnl
                        go_wp2_with fail
                        go_quiet (fail)
                        have HBd := hid (below_drawn_of HBs.out nq)
                        go_wp2_with fail
                        go_ret
                        exact ⟨by rw [HX2.out]; rfl, HBd.out⟩
                    · have hkI2 : ¬ (k2 : Int) < (eP.length : Int) := by omega
                      have HX2 := hid (HX.out.trans (pk_rise HP10.out HNO.out (rsT_of fun j h => HA2.out j h (by omega))))
                      clear hlt
                      go_wp2_with fail
                      go_ret
                      exact ⟨by rw [HX2.out]; rfl, HBs.out⟩
          · have HX := hid (HXR.out.trans (entR_req HF.out hc))
            have hpos : (0 : Int) < ((codeE (reqE p eR) eR.length : Nat) : Int) := by omega
            generalize codeE (reqE p eR) eR.length = cd at *
            clear hc
            go_wp2_with fail
            refine HRQ.out.mono ?_
            rintro e wy ⟨rfl, hb⟩
            have HBy := hid (HBz.out.trans (hb.mono HBz.out.size))
            clear hb
            go_wp2_with fail
            go_ret
            exact ⟨by rw [HX.out]; rfl, HBy.out⟩
  · have HX := hid (entW_bad (o := some (pp, pq)) (e := ((p, q), eR, eP, bk)) h)
    have hpos : (0 : Int) < ((mErr (p, q) : Nat) : Int) := by omega
    generalize mErr (p, q) = z at *
    clear h hme
    go_enter Tryz.func130, Tryz.ntmps130
    go_wp2_with fail
    refine HM.out.mono ?_
    rintro e wz ⟨rfl, hb⟩
    have HBz := hid (HB0.out.trans (hb.mono HB0.out.size))
    clear hb HM
    go_wp2_with fail
    go_ret
    exact ⟨by rw [HX.out]; rfl, HBz.out⟩
theorem entE_any (Q : List Raw) (L : List Ent) (v : Value) (i : Nat) (w : World) (hn : L.length ≤ 1000) (sh : ∀ e, e ∈ L → ShE e) (I : Ixs w v Q L) (h0 : i < L.length) :
    Calls Tryz.prog 130 #[v, .int .i64 (i : Int)] w fun e w' => e = .returned (.int .i64 (entE L i : Nat)) ∧ Below w.heap.size w w' := by
  obtain ⟨a, c, rfl, _, _, h⟩ := id I.es
  obtain ⟨b, o, rfl, _⟩ := h (by intro e; have := I.ln; rw [e] at this; simp at this; omega)
  cases i with
  | zero => exact entE0_any Q L b o c w sh I h0
  | succ k => exact entE1_any Q L b o c w sh I k h0 hn
end Ve
end Go.Proofs.YtanponneancajaaGreatDoor


namespace Go.Proofs.YtanponneancajaaGreatDoor
open Go.RowKit Go.Maps
namespace Ve
theorem put2_below {W w : World} {B b : Nat} {x y : Value} (h : Below B w W) (hb : B ≤ b) : Below B w ((W.setCell ⟨b, 0, none⟩ x).setCell ⟨b, 1, none⟩ y) :=
  (h.setCell (p := ⟨b, 0, none⟩) hb _).setCell (p := ⟨b, 1, none⟩) hb _
theorem nonE_five {Q : List Raw} {R : List Bm} : codeE (nonE Q R) R.length = 0 ∨ codeE (nonE Q R) R.length = 5 := by
  unfold codeE
  cases h : fstE (nonE Q R) R.length with
  | none => exact Or.inl rfl
  | some j =>
    obtain ⟨h1, h2, _⟩ := fstE_of_some h
    show nonE Q R j = 0 ∨ nonE Q R j = 5
    rw [nonE_at h1] at h2 ⊢
    unfold nonW at h2 ⊢
    by_cases h3 : idxOf (isM R[j]) Q < 0
    · rw [if_pos h3]; exact Or.inr rfl
    · rw [if_neg h3]; exact Or.inl rfl
theorem reqE2_bad {Q : List Raw} {L : List Ent} {i k : Nat} (hi : i < L.length) (hk : k < L[i].2.1.length) (h : idxOf (isM L[i].2.1[k]) Q < 0) : reqE2 Q L i = 5 := by
  rw [reqE2_at hi]
  rcases nonE_five (Q := Q) (R := L[i].2.1) with h1 | h1
  · exfalso
    unfold codeE at h1
    cases h2 : fstE (nonE Q L[i].2.1) L[i].2.1.length with
    | none =>
      have := fstE_of_none h2 k hk
      rw [nonE_at hk] at this
      unfold nonW at this
      rw [if_pos h] at this; cases this
    | some j =>
      rw [h2] at h1
      exact (fstE_of_some h2).2.1 h1
  · exact h1
theorem reqE2_good {Q : List Raw} {L : List Ent} {i : Nat} (hi : i < L.length) (h : ∀ k (hk : k < L[i].2.1.length), 0 ≤ idxOf (isM L[i].2.1[k]) Q) : reqE2 Q L i = 0 := by
  rw [reqE2_at hi]
  exact codeE_none (fstE_none fun j hj => by
    rw [nonE_at hj]
    unfold nonW
    rw [if_neg (Int.not_lt.2 (h j hj))])
set_option maxRecDepth 100000 in
set_option maxHeartbeats 8000000 in
theorem iFault_some (Q : List Raw) (L : List Ent) (b o c : Nat) (w : World) (hn : L.length ≤ 1000) (sh : ∀ e, e ∈ L → ShE e) (I : Ixs w (.slice (some ⟨b, o, none⟩) Q.length c) Q L) (h0 : 0 < L.length) :
    Calls Tryz.prog 86 #[.slice (some ⟨b, o, none⟩) Q.length c] w fun e w' => e = .returned (faultV (chk Q L)) ∧ Below w.heap.size w w' := by
  have HLN := hid I.ln
  have hqn : Q.length ≤ 1000 := by rw [I.ln]; exact hn
  have HB0 := hid ((Below.refl w.heap.size w).alloc (Nat.le_refl _) (.cells #[.int .i64 0, .int .i64 0] 64))
  have HE0 := hid (heap_new w (.cells #[.int .i64 0, .int .i64 0] 64))
  by_cases h1 : 100 < L.length
  · have q1 : (100 : Int) < (Q.length : Int) := by have := HLN.out; omega
    have HBR := hid (fun W => rbare_any 7 W)
    have HX := hid (chk_full (Q := Q) h1)
    clear I sh h1
    go_enter Tryz.func86, Tryz.ntmps86
    go_wp2_with fail
    refine (HBR.out _).mono ?_
    rintro e w1 ⟨rfl, hb⟩
    have HB1 := hid (HB0.out.trans (hb.mono HB0.out.size))
    have HE1 := hid ((hb.block _ (lt_of_blk HE0.out)).trans HE0.out)
    clear hb
    have s0 : w1.cell? ⟨w.heap.size, 0, none⟩ = some (.int .i64 0) := by rw [Lib.cell_of_heap HE1.out]; rfl
    have s1 : w1.cell? ⟨w.heap.size, 1, none⟩ = some (.int .i64 0) := by rw [Lib.cell_of_heap HE1.out]; rfl
    have tf := fun o => Lib.frozen_of_heap HE1.out o
    go_wp2_with fail
    refine bodyPost_ret (v := .agg #[.int .i64 7, .int .i64 (-1)]) (by simp [results, Tryz.results86, go_sem, s0, s1]) rfl ⟨by rw [HX.out]; rfl, ?_⟩
    exact put2_below HB1.out (Nat.le_refl _)
  · have q1 : ¬ (100 : Int) < (Q.length : Int) := by have := HLN.out; omega
    have HEN := hid (fun i (hi : i < L.length) W (h : Below w.heap.size w W) => entE_any Q L _ i W hn sh (I.below h) hi)
    have HFO := hid (fun m W (h : Below w.heap.size w W) => findOf_any Q m _ W (by omega) (by have := HLN.out; omega) (I.below h).es)
    have HFN := hid (fun W => fine_any W)
    have HI := hid I
    have HSZ := hid sh
    have H1 := hid h1
    clear I sh h1 hn h0
    go_enter Tryz.func86, Tryz.ntmps86
    go_wp2_with fail
    go_loopw [3] (fun iv wr => ∃ i : Nat, i ≤ Q.length ∧ iv = .int .i64 i ∧ Hid (∀ j, j < i → entE L j = 0) ∧ Hid (Below w.heap.size w wr) ∧ Hid (wr.heap[w.heap.size]? = some (.cells #[.int .i64 0, .int .i64 0] 64 (0, 0)))) (fun iv _ => Q.length - (intOf iv).toNat)
    case atStart => exact ⟨0, Nat.zero_le _, rfl, hid (fun j h => absurd h (Nat.not_lt_zero _)), HB0, HE0⟩
    case round =>
      obtain ⟨i, hi, rfl, HZ, HBr, HEr⟩ := hrel
      by_cases hlt : i < Q.length
      · have hiI : (i : Int) < (Q.length : Int) := by omega
        have HLT := hid hlt
        have hil : i < L.length := by rw [← HLN.out]; exact hlt
        have HE := hid (HEN.out i hil _ HBr.out)
        have HNX := hid (show entE L i = 0 → ∀ j, j < i + 1 → entE L j = 0 from fun h => zero_next HZ.out h)
        have HBD := hid (show entE L i ≠ 0 → chk Q L = (entE L i, some i) from fun h => chk_each H1.out (fstE_some HZ.out h hil))
        generalize entE L i = z at *
        clear hlt hil
        by_cases hz : z = 0
        · subst hz
          have HN2 := hid (HNX.out rfl)
          go_wp2_with fail
          refine HE.out.mono ?_
          rintro e w1 ⟨rfl, hb⟩
          have HB1 := hid (HBr.out.trans (hb.mono HBr.out.size))
          have HE1 := hid ((hb.block _ (lt_of_blk HEr.out)).trans HEr.out)
          clear hb
          go_wp2_with fail
          go_roundw
          case rel => first | exact ⟨i + 1, HLT.out, nr_idx i, HN2, HB1, HE1⟩ | exact ⟨i + 1, HLT.out, nx_idx HLT.out (by omega), HN2, HB1, HE1⟩
          case measure => first | exact nr_meas HLT.out | exact nx_meas HLT.out (by omega)
        · have HX := hid (HBD.out hz)
          have hpos : (0 : Int) < (z : Int) := by omega
          clear hz
          go_wp2_with fail
          refine HE.out.mono ?_
          rintro e w1 ⟨rfl, hb⟩
          have HB1 := hid (HBr.out.trans (hb.mono HBr.out.size))
          have HE1 := hid ((hb.block _ (lt_of_blk HEr.out)).trans HEr.out)
          clear hb
          have s0 : w1.cell? ⟨w.heap.size, 0, none⟩ = some (.int .i64 0) := by rw [Lib.cell_of_heap HE1.out]; rfl
          have s1 : w1.cell? ⟨w.heap.size, 1, none⟩ = some (.int .i64 0) := by rw [Lib.cell_of_heap HE1.out]; rfl
          have tf := fun o => Lib.frozen_of_heap HE1.out o
          go_wp2_with fail
          refine bodyPost_ret (v := .agg #[.int .i64 (z : Int), .int .i64 (i : Int)]) (by simp [results, Tryz.results86, go_sem, s0, s1]) rfl ⟨by rw [HX.out]; rfl, ?_⟩
          exact put2_below HB1.out (Nat.le_refl _)
      · have hiI : ¬ (i : Int) < (Q.length : Int) := by omega
        have HNE := hid (show fstE (entE L) L.length = none from fstE_none fun j hj => HZ.out j (by have := HLN.out; omega))
        have HX0 := hid (chk_reqs (Q := Q) H1.out HNE.out)
        clear hlt HZ HEN
        go_wp2_with fail
        go_loopw [5] (fun iv wr => ∃ i : Nat, i ≤ Q.length ∧ iv = .int .i64 i ∧ Hid (∀ j, j < i → reqE2 Q L j = 0) ∧ Hid (Below w.heap.size w wr) ∧ Hid (wr.heap[w.heap.size]? = some (.cells #[.int .i64 0, .int .i64 0] 64 (0, 0)))) (fun iv _ => Q.length - (intOf iv).toNat)
        case atStart => exact ⟨0, Nat.zero_le _, rfl, hid (fun j h => absurd h (Nat.not_lt_zero _)), HBr, HEr⟩
        case round =>
          obtain ⟨i2, hi2, rfl, HZ2, HB2, HE2⟩ := hrel
          by_cases hqi : i2 < Q.length
          · have hlt : i2 < L.length := by rw [← HLN.out]; exact hqi
            have hiI2 : (i2 : Int) < (Q.length : Int) := by omega
            have hi00 : (0 : Int) ≤ (i2 : Int) := by omega
            have HLI := hid hqi
            have HCE := hid (fun W (h : Below w.heap.size w W) => (es_all (HI.out.below h).es hqi).2.2.2.1)
            have HMR := hid (fun W (h : Below w.heap.size w W) => ((HI.out.below h).ok i2 hqi hlt).rq)
            have HNX := hid (show reqE2 Q L i2 = 0 → ∀ j, j < i2 + 1 → reqE2 Q L j = 0 from fun h => zero_next HZ2.out h)
            have HGD := hid (reqE2_good (Q := Q) hlt)
            have HBD := hid (fun k (hk : k < L[i2].2.1.length) h => show chk Q L = (5, some i2) by
              have h5 := reqE2_bad (Q := Q) hlt hk h
              have hs := fstE_some HZ2.out (by rw [h5]; decide) hlt
              rw [HX0.out, hs, codeE_some hs, h5])
            have hRl := (HSZ.out L[i2] (List.getElem_mem hlt)).rn
            generalize (L[i2]'hlt).2.1 = R at *
            generalize (Q[i2]'hqi).2.1 = rv at *
            obtain ⟨ra, rc, hrv, -⟩ := HMR.out w (Below.refl _ _)
            subst hrv
            clear hlt hqi
            go_wp2_with fail
            go_loopw [6] (fun kv wr => ∃ k : Nat, k ≤ R.length ∧ kv = .int .i64 k ∧ Hid (∀ j (h : j < R.length), j < k → 0 ≤ idxOf (isM R[j]) Q) ∧ Hid (Below w.heap.size w wr) ∧ Hid (wr.heap[w.heap.size]? = some (.cells #[.int .i64 0, .int .i64 0] 64 (0, 0)))) (fun kv _ => R.length - (intOf kv).toNat)
            case atStart => exact ⟨0, Nat.zero_le _, rfl, hid (fun j _ h => absurd h (Nat.not_lt_zero _)), HB2, HE2⟩
            case round =>
              obtain ⟨k, hk, rfl, HZ3, HB3, HE3⟩ := hrel
              have x2 := HCE.out _ HB3.out
              by_cases hlk : k < R.length
              · have hkI : (k : Int) < (R.length : Int) := by omega
                have hk0 : (0 : Int) ≤ (k : Int) := by omega
                obtain ⟨xb, xo, hxa, y0, y1⟩ := (HMR.out _ HB3.out).cells hlk
                subst hxa
                have HLK := hid hlk
                have HF := hid (HFO.out R[k] _ HB3.out)
                have HNK := hid (show 0 ≤ idxOf (isM R[k]) Q → ∀ j (h : j < R.length), j < k + 1 → 0 ≤ idxOf (isM R[j]) Q from fun h0 j h1 h3 => by
                  rcases Nat.lt_or_ge j k with h | h
                  · exact HZ3.out j h1 h
                  · have : j = k := by omega
                    subst this; exact h0)
                have HBK := hid (HBD.out k hlk)
                generalize R[k] = x at *
                obtain ⟨x1, x2'⟩ := x
                generalize idxOf (isM (x1, x2')) Q = ix at *
                clear hlk
                by_cases hix : ix < 0
                · have HX := hid (HBK.out hix)
                  go_wp2_with fail
                  refine HF.out.mono ?_
                  rintro e w1 ⟨rfl, hb⟩
                  have HB4 := hid (HB3.out.trans (hb.mono HB3.out.size))
                  have HE4 := hid ((hb.block _ (lt_of_blk HE3.out)).trans HE3.out)
                  clear hb
                  have s0 : w1.cell? ⟨w.heap.size, 0, none⟩ = some (.int .i64 0) := by rw [Lib.cell_of_heap HE4.out]; rfl
                  have s1 : w1.cell? ⟨w.heap.size, 1, none⟩ = some (.int .i64 0) := by rw [Lib.cell_of_heap HE4.out]; rfl
                  have tf := fun o => Lib.frozen_of_heap HE4.out o
                  go_wp2_with fail
                  refine bodyPost_ret (v := .agg #[.int .i64 5, .int .i64 (i2 : Int)]) (by simp [results, Tryz.results86, go_sem, s0, s1]) rfl ⟨by rw [HX.out]; rfl, ?_⟩
                  exact put2_below HB4.out (Nat.le_refl _)
                · have HN2 := hid (HNK.out (Int.not_lt.1 hix))
                  go_wp2_with fail
                  refine HF.out.mono ?_
                  rintro e w1 ⟨rfl, hb⟩
                  have HB4 := hid (HB3.out.trans (hb.mono HB3.out.size))
                  have HE4 := hid ((hb.block _ (lt_of_blk HE3.out)).trans HE3.out)
                  clear hb
                  go_wp2_with fail
                  go_roundw
                  case rel => first | exact ⟨k + 1, HLK.out, nr_idx k, HN2, HB4, HE4⟩ | exact ⟨k + 1, HLK.out, nx_idx HLK.out hRl, HN2, HB4, HE4⟩
                  case measure => first | exact nr_meas HLK.out | exact nx_meas HLK.out hRl
              · have hkI : ¬ (k : Int) < (R.length : Int) := by omega
                have HN2 := hid (HNX.out (HGD.out (fun j h => HZ3.out j h (by omega))))
                clear hlk
                go_wp2_with fail
                go_roundw
                case rel => first | exact ⟨i2 + 1, HLI.out, nr_idx i2, HN2, HB3, HE3⟩ | exact ⟨i2 + 1, HLI.out, nx_idx HLI.out (by omega), HN2, HB3, HE3⟩
                case measure => first | exact nr_meas HLI.out | exact nx_meas HLI.out (by omega)
          · have hiI2 : ¬ (i2 : Int) < (Q.length : Int) := by omega
            have HX := hid (show chk Q L = (0, none) by
              have hs := fstE_none (E := reqE2 Q L) (n := L.length) (fun j hj => HZ2.out j (by have := HLN.out; omega))
              rw [HX0.out, hs, codeE_none hs])
            clear hqi
            go_wp2_with fail
            refine (HFN.out _).mono ?_
            rintro e w1 ⟨rfl, hb⟩
            have HB4 := hid (HB2.out.trans (hb.mono HB2.out.size))
            have HE4 := hid ((hb.block _ (lt_of_blk HE2.out)).trans HE2.out)
            clear hb
            have s0 : w1.cell? ⟨w.heap.size, 0, none⟩ = some (.int .i64 0) := by rw [Lib.cell_of_heap HE4.out]; rfl
            have s1 : w1.cell? ⟨w.heap.size, 1, none⟩ = some (.int .i64 0) := by rw [Lib.cell_of_heap HE4.out]; rfl
            have tf := fun o => Lib.frozen_of_heap HE4.out o
            go_wp2_with fail
            refine bodyPost_ret (v := .agg #[.int .i64 0, .int .i64 (-1)]) (by simp [results, Tryz.results86, go_sem, s0, s1]) rfl ⟨by rw [HX.out]; rfl, ?_⟩
            exact put2_below HB4.out (Nat.le_refl _)
theorem iFault_none (a : Option Addr) (c : Nat) (w : World) : Calls Tryz.prog 86 #[.slice a 0 c] w fun e w' => e = .returned (faultV (0, none)) ∧ Below w.heap.size w w' := by
  have HB0 := hid ((Below.refl w.heap.size w).alloc (Nat.le_refl _) (.cells #[.int .i64 0, .int .i64 0] 64))
  have HE0 := hid (heap_new w (.cells #[.int .i64 0, .int .i64 0] 64))
  have HFN := hid (fun W => fine_any W)
  go_enter Tryz.func86, Tryz.ntmps86
  go_wp2_with fail
  go_loopw [3] (fun i wr => i = .int .i64 0 ∧ Hid (wr = w.alloc (.cells #[.int .i64 0, .int .i64 0] 64))) (fun i _ => 0)
  case atStart => exact ⟨rfl, hid rfl⟩
  case round =>
    obtain ⟨rfl, HW⟩ := hrel
    obtain rfl := HW.out
    clear HW
    go_wp2_with fail
    go_loopw [5] (fun i wr => i = .int .i64 0 ∧ Hid (wr = w.alloc (.cells #[.int .i64 0, .int .i64 0] 64))) (fun i _ => 0)
    case atStart => exact ⟨rfl, hid rfl⟩
    case round =>
      obtain ⟨rfl, HW⟩ := hrel
      obtain rfl := HW.out
      clear HW
      go_wp2_with fail
      refine (HFN.out _).mono ?_
      rintro e w1 ⟨rfl, hb⟩
      have HB4 := hid (HB0.out.trans (hb.mono HB0.out.size))
      have HE4 := hid ((hb.block _ (lt_of_blk HE0.out)).trans HE0.out)
      clear hb
      have s0 : w1.cell? ⟨w.heap.size, 0, none⟩ = some (.int .i64 0) := by rw [Lib.cell_of_heap HE4.out]; rfl
      have s1 : w1.cell? ⟨w.heap.size, 1, none⟩ = some (.int .i64 0) := by rw [Lib.cell_of_heap HE4.out]; rfl
      have tf := fun o => Lib.frozen_of_heap HE4.out o
      go_wp2_with fail
      refine bodyPost_ret (v := .agg #[.int .i64 0, .int .i64 (-1)]) (by simp [results, Tryz.results86, go_sem, s0, s1]) rfl ⟨rfl, ?_⟩
      exact put2_below HB4.out (Nat.le_refl _)
theorem iFault_any (Q : List Raw) (L : List Ent) (v : Value) (w : World) (hn : L.length ≤ 1000) (sh : ∀ e, e ∈ L → ShE e) (I : Ixs w v Q L) :
    Calls Tryz.prog 86 #[v] w fun e w' => e = .returned (faultV (chk Q L)) ∧ Below w.heap.size w w' := by
  obtain ⟨a, c, rfl, _, _, h⟩ := id I.es
  by_cases hQ : Q = []
  · subst hQ
    have hl : L = [] := List.length_eq_zero_iff.1 I.ln.symm
    subst hl
    exact iFault_none a c w
  · obtain ⟨b, o, rfl, _⟩ := h hQ
    exact iFault_some Q L b o c w hn sh I (by rw [← I.ln]; exact List.length_pos_iff.2 hQ)
end Ve
end Go.Proofs.YtanponneancajaaGreatDoor


namespace Go.Proofs.YtanponneancajaaGreatDoor
open Go.RowKit Go.Maps
namespace Ve
theorem findOf_none (a : Option Addr) (c : Nat) (m : Bm) (w : World) : Calls Tryz.prog 37 #[.slice a 0 c, .agg #[.string m.1, .string m.2]] w fun e w' => e = .returned (.int .i64 (-1)) ∧ Below w.heap.size w w' := by
  have HB0 := hid ((Below.refl w.heap.size w).alloc (Nat.le_refl _) (.cells #[.string m.1, .string m.2] 51))
  go_enter Tryz.func37, Tryz.ntmps37
  go_wp2_with fail
  go_loopw [5] (fun i wr => i = .int .i64 0 ∧ Hid (Below w.heap.size w wr)) (fun i _ => 0)
  case atStart => exact ⟨rfl, HB0⟩
  case round =>
    obtain ⟨rfl, HB⟩ := hrel
    go_wp2_with fail
    go_ret
    exact ⟨rfl, HB.out⟩
theorem findOf_all (Q : List Raw) (m : Bm) (v : Value) (w : World) (hL : Q.length ≤ 1000000) (hv : EsAt w v Q) :
    Calls Tryz.prog 37 #[v, .agg #[.string m.1, .string m.2]] w fun e w' => e = .returned (.int .i64 (idxOf (isM m) Q)) ∧ Below w.heap.size w w' := by
  by_cases hQ : Q = []
  · subst hQ
    obtain ⟨a, c, rfl, _⟩ := hv
    exact findOf_none a c m w
  · exact findOf_any Q m v w hL (List.length_pos_iff.2 hQ) hv
theorem nonE_bad {Q : List Raw} {R : List Bm} {k : Nat} (hk : k < R.length) (h0 : ∀ j (h : j < R.length), j < k → 0 ≤ idxOf (isM R[j]) Q) (h : idxOf (isM R[k]) Q < 0) : (codeE (nonE Q R) R.length, fstE (nonE Q R) R.length) = (5, some k) := by
  have hz : ∀ j, j < k → nonE Q R j = 0 := fun j hj => by
    rw [nonE_at (by omega)]
    unfold nonW
    rw [if_neg (Int.not_lt.2 (h0 j (by omega) hj))]
  have h5 : nonE Q R k = 5 := by
    rw [nonE_at hk]
    unfold nonW
    rw [if_pos h]
  have hs := fstE_some hz (by rw [h5]; decide) hk
  rw [codeE_some hs, hs, h5]
theorem nonE_good {Q : List Raw} {R : List Bm} (h0 : ∀ j (h : j < R.length), 0 ≤ idxOf (isM R[j]) Q) : (codeE (nonE Q R) R.length, fstE (nonE Q R) R.length) = (0, none) := by
  have hs : fstE (nonE Q R) R.length = none := fstE_none fun j hj => by
    rw [nonE_at hj]
    unfold nonW
    rw [if_neg (Int.not_lt.2 (h0 j hj))]
  rw [codeE_none hs, hs]
set_option maxRecDepth 100000 in
set_option maxHeartbeats 4000000 in
theorem rFault_any (Q : List Raw) (R : List Bm) (v rv : Value) (w : World) (hn : Q.length ≤ 1000) (hR : R.length ≤ 1000000) (hv : EsAt w v Q) (hr : MsAt w rv R) :
    Calls Tryz.prog 175 #[v, rv] w fun e w' => e = .returned (faultV (codeE (nonE Q R) R.length, fstE (nonE Q R) R.length)) ∧ Below w.heap.size w w' := by
  have HB0 := hid ((Below.refl w.heap.size w).alloc (Nat.le_refl _) (.cells #[.int .i64 0, .int .i64 0] 64))
  have HE0 := hid (heap_new w (.cells #[.int .i64 0, .int .i64 0] 64))
  have HFO := hid (fun m W (h : Below w.heap.size w W) => findOf_all Q m v W (by omega) (hv.below h))
  have HFN := hid (fun W => fine_any W)
  have HMR := hid (fun W (h : Below w.heap.size w W) => hr.below h)
  have HGD := hid (nonE_good (Q := Q) (R := R))
  have HBD := hid (fun k (hk : k < R.length) h0 h => nonE_bad (Q := Q) hk h0 h)
  obtain ⟨a, c, hv1, -⟩ := id hv
  subst hv1
  obtain ⟨ra, rc, hrv, -⟩ := id hr
  subst hrv
  generalize (codeE (nonE Q R) R.length, fstE (nonE Q R) R.length) = ans at *
  clear hv hr
  go_enter Tryz.func175, Tryz.ntmps175
  go_wp2_with fail
  go_loopw [5] (fun kv wr => ∃ k : Nat, k ≤ R.length ∧ kv = .int .i64 k ∧ Hid (∀ j (h : j < R.length), j < k → 0 ≤ idxOf (isM R[j]) Q) ∧ Hid (Below w.heap.size w wr) ∧ Hid (wr.heap[w.heap.size]? = some (.cells #[.int .i64 0, .int .i64 0] 64 (0, 0)))) (fun kv _ => R.length - (intOf kv).toNat)
  case atStart => exact ⟨0, Nat.zero_le _, rfl, hid (fun j _ h => absurd h (Nat.not_lt_zero _)), HB0, HE0⟩
  case round =>
    obtain ⟨k, hk, rfl, HZ3, HB3, HE3⟩ := hrel
    by_cases hlk : k < R.length
    · have hkI : (k : Int) < (R.length : Int) := by omega
      have hk0 : (0 : Int) ≤ (k : Int) := by omega
      obtain ⟨xb, xo, hxa, y0, y1⟩ := (HMR.out _ HB3.out).cells hlk
      subst hxa
      have HLK := hid hlk
      have HF := hid (HFO.out R[k] _ HB3.out)
      have HNK := hid (show 0 ≤ idxOf (isM R[k]) Q → ∀ j (h : j < R.length), j < k + 1 → 0 ≤ idxOf (isM R[j]) Q from fun h0 j h1 h3 => by
        rcases Nat.lt_or_ge j k with h | h
        · exact HZ3.out j h1 h
        · have : j = k := by omega
          subst this; exact h0)
      have HBK := hid (HBD.out k hlk HZ3.out)
      generalize R[k] = x at *
      obtain ⟨x1, x2'⟩ := x
      generalize idxOf (isM (x1, x2')) Q = ix at *
      clear hlk
      by_cases hix : ix < 0
      · have HX := hid (HBK.out hix)
        go_wp2_with fail
        refine HF.out.mono ?_
        rintro e w1 ⟨rfl, hb⟩
        have HB4 := hid (HB3.out.trans (hb.mono HB3.out.size))
        have HE4 := hid ((hb.block _ (lt_of_blk HE3.out)).trans HE3.out)
        clear hb
        have s0 : w1.cell? ⟨w.heap.size, 0, none⟩ = some (.int .i64 0) := by rw [Lib.cell_of_heap HE4.out]; rfl
        have s1 : w1.cell? ⟨w.heap.size, 1, none⟩ = some (.int .i64 0) := by rw [Lib.cell_of_heap HE4.out]; rfl
        have tf := fun o => Lib.frozen_of_heap HE4.out o
        go_wp2_with fail
        refine bodyPost_ret (v := .agg #[.int .i64 5, .int .i64 (k : Int)]) (by simp [results, Tryz.results175, go_sem, s0, s1]) rfl ⟨by rw [HX.out]; rfl, ?_⟩
        exact put2_below HB4.out (Nat.le_refl _)
      · have HN2 := hid (HNK.out (Int.not_lt.1 hix))
        go_wp2_with fail
        refine HF.out.mono ?_
        rintro e w1 ⟨rfl, hb⟩
        have HB4 := hid (HB3.out.trans (hb.mono HB3.out.size))
        have HE4 := hid ((hb.block _ (lt_of_blk HE3.out)).trans HE3.out)
        clear hb
        go_wp2_with fail
        go_roundw
        case rel => first | exact ⟨k + 1, HLK.out, nr_idx k, HN2, HB4, HE4⟩ | exact ⟨k + 1, HLK.out, nx_idx HLK.out hR, HN2, HB4, HE4⟩
        case measure => first | exact nr_meas HLK.out | exact nx_meas HLK.out hR
    · have hkI : ¬ (k : Int) < (R.length : Int) := by omega
      have HX := hid (HGD.out (fun j h => HZ3.out j h (by omega)))
      clear hlk
      go_wp2_with fail
      refine (HFN.out _).mono ?_
      rintro e w1 ⟨rfl, hb⟩
      have HB4 := hid (HB3.out.trans (hb.mono HB3.out.size))
      have HE4 := hid ((hb.block _ (lt_of_blk HE3.out)).trans HE3.out)
      clear hb
      have s0 : w1.cell? ⟨w.heap.size, 0, none⟩ = some (.int .i64 0) := by rw [Lib.cell_of_heap HE4.out]; rfl
      have s1 : w1.cell? ⟨w.heap.size, 1, none⟩ = some (.int .i64 0) := by rw [Lib.cell_of_heap HE4.out]; rfl
      have tf := fun o => Lib.frozen_of_heap HE4.out o
      go_wp2_with fail
      refine bodyPost_ret (v := .agg #[.int .i64 0, .int .i64 (-1)]) (by simp [results, Tryz.results175, go_sem, s0, s1]) rfl ⟨by rw [HX.out]; rfl, ?_⟩
      exact put2_below HB4.out (Nat.le_refl _)
end Ve
end Go.Proofs.YtanponneancajaaGreatDoor


namespace Go.Proofs.YtanponneancajaaGreatDoor
namespace Ve
def unm : List Bool → Nat
  | [] => 0
  | true :: l => unm l
  | false :: l => unm l + 1
theorem unm_set : ∀ (O : List Bool) (a : Nat) (h : a < O.length), O[a] = false → unm (O.set a true) + 1 = unm O
  | [], _, h, _ => absurd h (Nat.not_lt_zero _)
  | b :: O, 0, _, e => by
    have : b = false := e
    subst this
    rfl
  | b :: O, a + 1, h, e => by
    have ih := unm_set O a (by simpa using h) (by simpa using e)
    rw [List.set_cons_succ]
    cases b
    · show unm (O.set a true) + 1 + 1 = unm O + 1
      omega
    · exact ih
structure Mk (req : Bm → List Bm) (U roots : List Bm) (O : List Bool) : Prop where
  ln : O.length = U.length
  so : ∀ i (h : i < U.length) (h' : i < O.length), O[i] = true → Rch req roots U[i]
theorem Mk.none (req : Bm → List Bm) (U roots : List Bm) : Mk req U roots (List.replicate U.length false) :=
  ⟨by simp, fun i h h' e => by rw [List.getElem_replicate] at e; cases e⟩
theorem Mk.set {req : Bm → List Bm} {U roots : List Bm} {O : List Bool} (h : Mk req U roots O) {a : Nat} (ha : a < U.length) (hr : Rch req roots U[a]) : Mk req U roots (O.set a true) := by
  refine ⟨by rw [List.length_set]; exact h.ln, fun i hi hi' e => ?_⟩
  by_cases hia : a = i
  · subst hia; exact hr
  · rw [List.getElem_set_ne hia] at e
    exact h.so i hi (by rw [h.ln]; exact hi) e
def At1 (U : List Bm) (O : List Bool) (m : Bm) : Prop := ∃ a, ∃ h : a < U.length, ∃ h' : a < O.length, U[a] = m ∧ O[a] = true
theorem At1.set {U : List Bm} {O : List Bool} {m : Bm} (h : At1 U O m) (a : Nat) : At1 U (O.set a true) m := by
  obtain ⟨k, hk, hk', e1, e2⟩ := h
  refine ⟨k, hk, by rw [List.length_set]; exact hk', e1, ?_⟩
  by_cases hka : a = k
  · subst hka; rw [List.getElem_set_self]
  · rw [List.getElem_set_ne hka]; exact e2
theorem At1.new {U : List Bm} {O : List Bool} {a : Nat} (ha : a < U.length) (hl : O.length = U.length) : At1 U (O.set a true) U[a] :=
  ⟨a, ha, by rw [List.length_set, hl]; exact ha, rfl, by rw [List.getElem_set_self]⟩
def Cl1 (req : Bm → List Bm) (U : List Bm) (O : List Bool) (i : Nat) : Prop := ∀ j (h : j < U.length) (h' : j < O.length), j < i → O[j] = true → ∀ m, m ∈ req U[j] → At1 U O m
theorem Mk.iff {req : Bm → List Bm} {U roots : List Bm} {O : List Bool} (h : Mk req U roots O) (hn : U.Nodup) (hr : ∀ m, m ∈ roots → At1 U O m) (hc : Cl1 req U O U.length) {i : Nat} (hi : i < U.length) (hi' : i < O.length) : O[i] = true ↔ Rch req roots U[i] := by
  refine ⟨h.so i hi hi', fun hR => ?_⟩
  have all : ∀ m, Rch req roots m → At1 U O m := fun m hm => by
    induction hm with
    | root hm => exact hr _ hm
    | step _ hm ih =>
      obtain ⟨a, ha, ha', e1, e2⟩ := ih
      rw [← e1] at hm
      exact hc a ha ha' ha e2 _ hm
  obtain ⟨a, ha, ha', e1, e2⟩ := all _ hR
  have hp := List.pairwise_iff_getElem.1 hn
  have : a = i := by
    rcases Nat.lt_trichotomy a i with h1 | h1 | h1
    · exact absurd e1 (hp a i ha hi h1)
    · exact h1
    · exact absurd e1.symm (hp i a hi ha h1)
  subst this
  exact e2
structure Fr (req : Bm → List Bm) (U roots : List Bm) (n i : Nat) (F : List Nat) : Prop where
  ln : F.length = U.length
  so : ∀ j (h : j < U.length) (h' : j < F.length), F[j] ≠ 0 → Wn req roots F[j] U[j]
  bd : ∀ j (h' : j < F.length), F[j] ≤ n + 1
  lo : ∀ d j (h : j < U.length) (h' : j < F.length), d ≤ n → Wn req roots d U[j] → F[j] ≠ 0 ∧ F[j] ≤ d
  dn : ∀ j (h : j < U.length) (h' : j < F.length), j < i → F[j] = n → ∀ m, m ∈ req U[j] → ∃ a, ∃ h : a < U.length, ∃ h' : a < F.length, U[a] = m ∧ F[a] ≠ 0
theorem Fr.first {req : Bm → List Bm} {U roots : List Bm} {F : List Nat} (h : Fr req U roots 0 0 F) (hr : ∀ j (_ : j < U.length) (h' : j < F.length), U[j] ∈ roots → F[j] ≠ 0) : Fr req U roots 1 0 F := by
  refine ⟨h.ln, h.so, fun j hj => Nat.le_succ_of_le (h.bd j hj), fun d j hj hj' hd hw => ?_, fun _ _ _ hh => absurd hh (Nat.not_lt_zero _)⟩
  have hb := h.bd j hj'
  have hp := hw.pos
  have : d = 1 := by omega
  subst this
  cases hw with
  | root hm => exact ⟨hr j hj hj' hm, hb⟩
  | step hq _ => exact absurd hq.pos (by omega)
end Ve
end Go.Proofs.YtanponneancajaaGreatDoor


namespace Go.Proofs.YtanponneancajaaGreatDoor
open Go.RowKit Go.Maps
namespace Ve
theorem infoBool : (Tryz.prog.info? 4).map (fun i => (i.zero, i.size, i.bytes)) = some (some (.bool false), 1, 1) := by kernel_rfl
def bwc (O : List Bool) : Array Value := (O.map Value.bool).toArray
theorem bwc_set (O : List Bool) (a : Nat) : (bwc O).setIfInBounds a (.bool true) = bwc (O.set a true) := by
  unfold bwc
  rw [List.setIfInBounds_toArray, List.map_set]
theorem bwc_at {W : World} {g : Nat} {O : List Bool} (h : W.heap[g]? = some (.cells (bwc O) 4 (0, 0))) {a : Nat} (ha : a < O.length) : W.cell? ⟨g, a, none⟩ = some (.bool O[a]) := by
  rw [Lib.cell_of_heap h]
  simp [bwc, ha]
theorem made_bools (n : Nat) : madeCells (Value.bool false).cells n = bwc (List.replicate n false) := by
  unfold madeCells bwc
  simp [Value.cells]
  apply Array.ext
  · simp
  · intro i h1 h2
    simp [Nat.mod_one]
theorem make_bools (n : Nat) (w : World) (hn : n ≤ 1000000) : (Instr.makeSlice 187 (.int .i64 (n : Int)) (.int .i64 (n : Int))).run Tryz.prog w = .ok (.slice (some ⟨w.heap.size, 0, none⟩) n n) (w.alloc (.cells (bwc (List.replicate n false)) 4)) := by
  obtain ⟨i0, hi, hz0, hz1, hz2⟩ := info_parts infoBool
  have h := run_makeSlice (P := Tryz.prog) w 187 4 i0 (.bool false) Tryz.underlying187 hi hz0 .i64 .i64 (n : Int) (n : Int) (by omega) (by omega) (by rw [hz1]; simp; omega) (by rw [hz2]; omega) (by omega)
  rw [hz1] at h
  simp only [Int.toNat_natCast, Nat.mul_one] at h
  rw [made_bools] at h
  exact h
def unmV : List Value → Nat
  | [] => 0
  | .bool false :: l => unmV l + 1
  | _ :: l => unmV l
theorem unmV_is : ∀ O : List Bool, unmV (O.map Value.bool) = unm O
  | [] => rfl
  | true :: O => by show unmV (O.map Value.bool) = unm O; exact unmV_is O
  | false :: O => by show unmV (O.map Value.bool) + 1 = unm O + 1; rw [unmV_is O]
def unmW : Option Obj → Nat
  | some (.cells cs _ _) => unmV cs.toList
  | _ => 0
theorem unmW_is {W : World} {g : Nat} {O : List Bool} (h : W.heap[g]? = some (.cells (bwc O) 4 (0, 0))) : unmW W.heap[g]? = unm O := by
  rw [h]
  show unmV (bwc O).toList = unm O
  unfold bwc
  rw [List.toList_toArray, unmV_is]
def measM (ag : Value) (o : Option Obj) : Nat := match ag with
  | .bool false => 0
  | _ => unmW o + 1
structure Mks (w W : World) (Q : List Raw) (L : List Ent) (roots : List Bm) (O : List Bool) : Prop where
  bl : Below w.heap.size w W
  hp : W.heap[w.heap.size]? = some (.cells (bwc O) 4 (0, 0))
  ok : Mk (reqQ Q L) (univ L) roots O
theorem Mks.below {w W W' : World} {Q : List Raw} {L : List Ent} {roots : List Bm} {O : List Bool} (h : Mks w W Q L roots O) (hb : Below W.heap.size W W') : Mks w W' Q L roots O :=
  ⟨h.bl.trans (hb.mono h.bl.size), (hb.block _ (lt_of_blk h.hp)).trans h.hp, h.ok⟩
theorem Mks.set {w W : World} {Q : List Raw} {L : List Ent} {roots : List Bm} {O : List Bool} (h : Mks w W Q L roots O) {a : Nat} (ha : a < (univ L).length) (hr : Rch (reqQ Q L) roots (univ L)[a]) : Mks w (W.setCell ⟨w.heap.size, a, none⟩ (.bool true)) Q L roots (O.set a true) :=
  ⟨h.bl.setCell (Nat.le_refl _) _, by rw [set_block h.hp, bwc_set], h.ok.set ha hr⟩
theorem idx_univ {w : World} {v : Value} {Q : List Raw} {L : List Ent} (I : Ixs w v Q L) {m : Bm} (hm : m ∈ univ L) : ∃ k, ∃ hk : k < (univ L).length, idxOf (isM m) Q = (k : Int) ∧ (univ L)[k] = m := by
  obtain ⟨k, hk⟩ := (found_iff I m).1 hm
  obtain ⟨h1, h2⟩ := idx_is hk
  have h3 : k < L.length := by rw [← I.ln]; exact h1
  refine ⟨k, by simpa [univ] using h3, hk, ?_⟩
  have := of_decide_eq_true h2
  simp only [univ, List.getElem_map]
  rw [← (I.ok k h1 h3).m]
  exact Prod.ext this.1 this.2
theorem univ_nd {Q : List Raw} {L : List Ent} (h : (chk Q L).1 = 0) : (univ L).Nodup :=
  (univ_rises h).imp fun {a b} h e => by subst e; rw [mAhead_irr] at h; cases h
theorem req_at {w : World} {v : Value} {Q : List Raw} {L : List Ent} (I : Ixs w v Q L) (h : (chk Q L).1 = 0) {i : Nat} (hi : i < L.length) (hi' : i < (univ L).length) : reqQ Q L (univ L)[i] = L[i].2.1 := by
  obtain ⟨k, hk, e1, e2⟩ := idx_univ I (List.getElem_mem hi')
  have hki : k = i := by
    have hp := List.pairwise_iff_getElem.1 (univ_nd h)
    rcases Nat.lt_trichotomy k i with h1 | h1 | h1
    · exact absurd e2 (hp k i hk hi' h1)
    · exact h1
    · exact absurd e2.symm (hp i k hi' hk h1)
  subst hki
  exact reqQ_at e1 hi
set_option maxRecDepth 100000 in
set_option maxHeartbeats 8000000 in
theorem marks_any (Q : List Raw) (L : List Ent) (roots : List Bm) (v rv : Value) (w : World) (hn : L.length ≤ 1000) (hrn : roots.length ≤ 1000000) (sh : ∀ e, e ∈ L → ShE e) (I : Ixs w v Q L) (hr : MsAt w rv roots) (h0 : (chkG Q L roots).1 = 0) :
    Calls Tryz.prog 176 #[v, rv] w fun e w' => ∃ O : List Bool, e = .returned (.slice (some ⟨w.heap.size, 0, none⟩) Q.length Q.length) ∧ Mks w w' Q L roots O ∧ ∀ i (hi : i < (univ L).length) (hi' : i < O.length), O[i] = true ↔ Rch (reqQ Q L) roots (univ L)[i] := by
  have HLN := hid I.ln
  have hqn : Q.length ≤ 1000 := by rw [I.ln]; exact hn
  have HUL := hid (show (univ L).length = Q.length by rw [I.ln]; simp [univ])
  have HC := hid (rgt_of I h0).c
  have HRU := hid (rgt_of I h0).r
  have HFO := hid (fun m W (h : Below w.heap.size w W) => findOf_all Q m v W (by omega) (I.below h).es)
  have HIU := hid (fun m (hm : m ∈ univ L) => idx_univ I hm)
  have HMR := hid (fun W (h : Below w.heap.size w W) => hr.below h)
  have HI := hid I
  have HSZ := hid sh
  have HB0 := hid (show Mks w (w.alloc (.cells (bwc (List.replicate Q.length false)) 4)) Q L roots (List.replicate Q.length false) from ⟨(Below.refl w.heap.size w).alloc (Nat.le_refl _) _, heap_new w _, by rw [← HUL.out]; exact Mk.none _ _ _⟩)
  obtain ⟨a, c, hv1, -⟩ := id I.es
  subst hv1
  obtain ⟨ra, rc, hrv, -⟩ := id hr
  subst hrv
  have hmk := make_bools Q.length w (by omega)
  clear I hr sh h0 hn
  go_enter Tryz.func176, Tryz.ntmps176
  go_wp2_with fail
  clear hmk
  go_loopw [6] (fun iv wr => ∃ k : Nat, k ≤ roots.length ∧ iv = .int .i64 k ∧ Hid (∃ O, Mks w wr Q L roots O ∧ ∀ j (h : j < roots.length), j < k → At1 (univ L) O roots[j])) (fun iv _ => roots.length - (intOf iv).toNat)
  case atStart => exact ⟨0, Nat.zero_le _, rfl, hid ⟨_, HB0.out, fun j _ h => absurd h (Nat.not_lt_zero _)⟩⟩
  case round =>
    obtain ⟨k, hk, rfl, HO⟩ := hrel
    obtain ⟨O, hO, hAt⟩ := HO.out
    by_cases hlt : k < roots.length
    · have hkI : (k : Int) < (roots.length : Int) := by omega
      have hk0 : (0 : Int) ≤ (k : Int) := by omega
      obtain ⟨xb, xo, hxa, y0, y1⟩ := (HMR.out _ hO.bl).cells hlt
      subst hxa
      obtain ⟨n, hnU, e1, e2⟩ := HIU.out roots[k] (HRU.out _ (List.getElem_mem hlt))
      have HF := hid (HFO.out roots[k] _ hO.bl)
      rw [e1] at HF
      have hnq : n < Q.length := by rw [← HUL.out]; exact hnU
      have hnI : (n : Int) < (Q.length : Int) := by omega
      have hn0 : (0 : Int) ≤ (n : Int) := by omega
      have HLT := hid hlt
      have hOl : O.length = (univ L).length := hO.ok.ln
      have HNX := hid (fun W (hb : Below wr.heap.size wr W) => show ∃ O', Mks w (W.setCell ⟨w.heap.size, n, none⟩ (.bool true)) Q L roots O' ∧ ∀ j (h : j < roots.length), j < k + 1 → At1 (univ L) O' roots[j] from ⟨O.set n true, (hO.below hb).set hnU (by rw [e2]; exact .root (List.getElem_mem hlt)), fun j h1 h2 => by
        rcases Nat.lt_or_ge j k with h | h
        · exact (hAt j h1 h).set n
        · have : j = k := by omega
          subst this
          rw [← e2]; exact At1.new hnU hOl⟩)
      have HCE := hid (fun W (hb : Below wr.heap.size wr W) => show W.cell? ⟨w.heap.size, n, none⟩ = some (.bool (O[n]'(by rw [hOl]; exact hnU))) ∧ ∀ o, W.frozen? ⟨w.heap.size, o, none⟩ = false from ⟨bwc_at (hO.below hb).hp _, fun o => Lib.frozen_of_heap (hO.below hb).hp o⟩)
      generalize (O[n]'(by rw [hOl]; exact hnU)) = bo at *
      generalize roots[k] = x at *
      obtain ⟨x1, x2⟩ := x
      clear hlt e1 e2 hO hAt hOl HO hnU
      go_wp2_with fail
      refine HF.out.mono ?_
      rintro e w1 ⟨rfl, hb⟩
      obtain ⟨z0, zf⟩ := HCE.out w1 hb
      have HN2 := hid (HNX.out w1 hb)
      clear hb
      go_wp2_with fail
      go_roundw
      case rel => first | exact ⟨k + 1, HLT.out, nr_idx k, HN2⟩ | exact ⟨k + 1, HLT.out, nx_idx HLT.out hrn, HN2⟩
      case measure => first | exact nr_meas HLT.out | exact nx_meas HLT.out hrn
    · have hkI : ¬ (k : Int) < (roots.length : Int) := by omega
      have HO2 := hid (show ∃ O, Mks w wr Q L roots O ∧ ∀ m, m ∈ roots → At1 (univ L) O m from ⟨O, hO, fun m hm => by
        obtain ⟨j, hj, rfl⟩ := List.getElem_of_mem hm
        exact hAt j hj (by omega)⟩)
      clear hlt hO hAt HO
      go_wp2_with fail
      go_loopw [7] (fun ag wr => (ag = .bool true ∨ ag = .bool false) ∧ Hid (∃ O, Mks w wr Q L roots O ∧ (∀ m, m ∈ roots → At1 (univ L) O m) ∧ (ag = .bool false → Cl1 (reqQ Q L) (univ L) O (univ L).length))) (fun ag wr => measM ag wr.heap[w.heap.size]?)
      case atStart =>
        obtain ⟨O, hO, hA⟩ := HO2.out
        exact ⟨Or.inl rfl, hid ⟨O, hO, hA, fun h => by cases h⟩⟩
      case round =>
        clear HO2
        obtain ⟨hag, HO3⟩ := hrel
        rcases hag with rfl | rfl
        · obtain ⟨N0, HN0⟩ : ∃ N0, Hid (unmW wr.heap[w.heap.size]? = N0) := ⟨_, hid rfl⟩
          have HO4 := hid (show ∃ O, Mks w wr Q L roots O ∧ (∀ m, m ∈ roots → At1 (univ L) O m) ∧ unm O ≤ N0 ∧ Cl1 (reqQ Q L) (univ L) O 0 by
            obtain ⟨O, hO, hA, _⟩ := HO3.out
            exact ⟨O, hO, hA, by rw [← HN0.out, unmW_is hO.hp]; exact Nat.le_refl _, fun j _ _ h => absurd h (Nat.not_lt_zero _)⟩)
          clear HO3
          go_wp2_with fail
          go_loopw [7, 8] (fun ag iv wr => (ag = .bool true ∨ ag = .bool false) ∧ ∃ i : Nat, i ≤ Q.length ∧ iv = .int .i64 i ∧ Hid (∃ O, Mks w wr Q L roots O ∧ (∀ m, m ∈ roots → At1 (univ L) O m) ∧ unm O ≤ N0 ∧ (ag = .bool true → unm O < N0) ∧ (ag = .bool false → Cl1 (reqQ Q L) (univ L) O i))) (fun _ iv _ => Q.length - (intOf iv).toNat)
          case atStart =>
            obtain ⟨O, hO, hA, hu, hc⟩ := HO4.out
            exact ⟨Or.inr rfl, 0, Nat.zero_le _, rfl, hid ⟨O, hO, hA, hu, (fun h => by cases h), fun _ => hc⟩⟩
          case round =>
            clear HO4
            obtain ⟨hag, i, hi, rfl, HO5⟩ := hrel
            by_cases hlt : i < Q.length
            · have hiI : (i : Int) < (Q.length : Int) := by omega
              have hi0 : (0 : Int) ≤ (i : Int) := by omega
              have HLI := hid hlt
              have hil : i < L.length := by rw [← HLN.out]; exact hlt
              have hiU : i < (univ L).length := by rw [HUL.out]; exact hlt
              have HCE := hid (fun W (h : Below w.heap.size w W) => es_cells (HI.out.below h).es hlt)
              have HMS := hid (fun W (h : Below w.heap.size w W) => ((HI.out.below h).ok i hlt hil).rq)
              have HRQ := hid (show ∀ (h : i < (univ L).length), reqQ Q L (univ L)[i] = L[i].2.1 from fun h => req_at HI.out HC.out hil h)
              have hRl := (HSZ.out L[i] (List.getElem_mem hil)).rn
              have HRX := hid (show ∀ x, x ∈ L[i].2.1 → x ∈ univ L from fun x hx => chk_reqs0 HI.out HC.out _ (List.getElem_mem hiU) x (by rw [HRQ.out]; exact hx))
              generalize (L[i]'hil).2.1 = R at *
              generalize (Q[i]'hlt).2.1 = qv at *
              obtain ⟨qa, qc, hqv, -⟩ := HMS.out w (Below.refl _ _)
              subst hqv
              obtain ⟨eb, eo, hea, -⟩ := HCE.out w (Below.refl _ _)
              subst hea
              have HX2 := hid (fun W (h : Below w.heap.size w W) => show W.cell? ⟨eb, eo + i * 5 + 2, none⟩ = some (.slice qa R.length qc) by
                obtain ⟨eb', eo', e, h2⟩ := HCE.out W h
                injection e with e
                injection e with e1 e2
                subst e1 e2
                exact h2)
              have HIU2 := hid hiU
              clear hlt hil hiU HCE
              go_wp2_with fail
              go_loopw [7, 9] (fun ag kv wr => (ag = .bool true ∨ ag = .bool false) ∧ ∃ k : Nat, k ≤ R.length ∧ kv = .int .i64 k ∧ Hid (∃ O, Mks w wr Q L roots O ∧ (∀ m, m ∈ roots → At1 (univ L) O m) ∧ unm O ≤ N0 ∧ (ag = .bool true → unm O < N0) ∧ (ag = .bool false → Cl1 (reqQ Q L) (univ L) O i ∧ ∀ j (h : j < R.length), j < k → O[i]? = some true → At1 (univ L) O R[j]))) (fun _ kv _ => R.length - (intOf kv).toNat)
              case atStart =>
                obtain ⟨O, hO, hA, hu, h1, h2⟩ := HO5.out
                exact ⟨hag, 0, Nat.zero_le _, rfl, hid ⟨O, hO, hA, hu, h1, fun h => ⟨h2 h, fun j _ hj => absurd hj (Nat.not_lt_zero _)⟩⟩⟩
              case round =>
                clear HO5 hag
                obtain ⟨hag, k, hk, rfl, HO6⟩ := hrel
                obtain ⟨O, hO, hA, hu, ht, hf⟩ := HO6.out
                have hOl : O.length = (univ L).length := hO.ok.ln
                have hiO : i < O.length := by rw [hOl]; exact HIU2.out
                have z0 := bwc_at hO.hp hiO
                have x2 := HX2.out _ hO.bl
                cases hoi : O[i]
                · rw [hoi] at z0
                  have HE := hid (show ∃ O, Mks w wr Q L roots O ∧ (∀ m, m ∈ roots → At1 (univ L) O m) ∧ unm O ≤ N0 ∧ (u7 = .bool true → unm O < N0) ∧ (u7 = .bool false → Cl1 (reqQ Q L) (univ L) O (i + 1)) from ⟨O, hO, hA, hu, ht, fun h j hj hj' hji ho m hm => by
                    rcases Nat.lt_or_ge j i with h1 | h1
                    · exact (hf h).1 j hj hj' h1 ho m hm
                    · have : j = i := by omega
                      subst this
                      rw [hoi] at ho; cases ho⟩)
                  clear hoi hO hA hu ht hf hOl hiO HO6
                  go_wp2_with fail
                  go_roundw
                  case rel => first | exact ⟨hag, i + 1, HLI.out, nr_idx i, HE⟩ | exact ⟨hag, i + 1, HLI.out, nx_idx HLI.out (by omega), HE⟩
                  case measure => first | exact nr_meas HLI.out | exact nx_meas HLI.out (by omega)
                · rw [hoi] at z0
                  have hRi := hO.ok.so i HIU2.out hiO hoi
                  by_cases hlk : k < R.length
                  · have hkI : (k : Int) < (R.length : Int) := by omega
                    have hk0 : (0 : Int) ≤ (k : Int) := by omega
                    obtain ⟨xb, xo, hxa, y0, y1⟩ := (HMS.out _ hO.bl).cells hlk
                    subst hxa
                    obtain ⟨n, hnU, e1, e2⟩ := HIU.out R[k] (HRX.out _ (List.getElem_mem hlk))
                    have HF := hid (HFO.out R[k] _ hO.bl)
                    rw [e1] at HF
                    have hnq : n < Q.length := by rw [← HUL.out]; exact hnU
                    have hnI : (n : Int) < (Q.length : Int) := by omega
                    have hn0 : (0 : Int) ≤ (n : Int) := by omega
                    have hnO : n < O.length := by rw [hOl]; exact hnU
                    have HLK := hid hlk
                    have hRn : Rch (reqQ Q L) roots (univ L)[n] := by
                      rw [e2]
                      exact .step hRi (by rw [HRQ.out]; exact List.getElem_mem hlk)
                    cases hon : O[n]
                    · have HNX := hid (fun W (hb : Below wr.heap.size wr W) => show ∃ O', Mks w (W.setCell ⟨w.heap.size, n, none⟩ (.bool true)) Q L roots O' ∧ (∀ m, m ∈ roots → At1 (univ L) O' m) ∧ unm O' ≤ N0 ∧ unm O' < N0 from by
                        have hs := unm_set O n hnO hon
                        exact ⟨O.set n true, (hO.below hb).set hnU hRn, fun m hm => (hA m hm).set n, by omega, by omega⟩)
                      have HCL := hid (fun W (hb : Below wr.heap.size wr W) => show W.cell? ⟨w.heap.size, n, none⟩ = some (.bool false) ∧ ∀ o, W.frozen? ⟨w.heap.size, o, none⟩ = false from ⟨by rw [bwc_at (hO.below hb).hp hnO, hon], fun o => Lib.frozen_of_heap (hO.below hb).hp o⟩)
                      generalize R[k] = x at *
                      obtain ⟨x1, x2'⟩ := x
                      clear hlk e1 e2 hO hA hu ht hf hOl hiO hon hnO hnU hRn hRi hoi HO6
                      go_wp2_with fail
                      refine HF.out.mono ?_
                      rintro e w1 ⟨rfl, hb⟩
                      obtain ⟨t0, tf⟩ := HCL.out w1 hb
                      obtain ⟨O', g1, g2, g3, g4⟩ := HNX.out w1 hb
                      have HN2 := hid (show ∃ O, Mks w (w1.setCell ⟨w.heap.size, n, none⟩ (.bool true)) Q L roots O ∧ (∀ m, m ∈ roots → At1 (univ L) O m) ∧ unm O ≤ N0 ∧ (Value.bool true = .bool true → unm O < N0) ∧ (Value.bool true = .bool false → Cl1 (reqQ Q L) (univ L) O i ∧ ∀ j (h : j < R.length), j < k + 1 → O[i]? = some true → At1 (univ L) O R[j]) from ⟨O', g1, g2, g3, fun _ => g4, fun h => by cases h⟩)
                      clear hb g1 g2 g3 g4
                      go_wp2_with fail
                      go_roundw
                      case rel => first | exact ⟨Or.inl rfl, k + 1, HLK.out, nr_idx k, HN2⟩ | exact ⟨Or.inl rfl, k + 1, HLK.out, nx_idx HLK.out hRl, HN2⟩ | exact ⟨by simp, k + 1, HLK.out, nr_idx k, by simpa using HN2⟩
                      case measure => first | exact nr_meas HLK.out | exact nx_meas HLK.out hRl
                    · have HNX := hid (fun W (hb : Below wr.heap.size wr W) => show ∃ O, Mks w W Q L roots O ∧ (∀ m, m ∈ roots → At1 (univ L) O m) ∧ unm O ≤ N0 ∧ (u7 = .bool true → unm O < N0) ∧ (u7 = .bool false → Cl1 (reqQ Q L) (univ L) O i ∧ ∀ j (h : j < R.length), j < k + 1 → O[i]? = some true → At1 (univ L) O R[j]) from ⟨O, hO.below hb, hA, hu, ht, fun h => ⟨(hf h).1, fun j h1 h2 h3 => by
                        rcases Nat.lt_or_ge j k with h4 | h4
                        · exact (hf h).2 j h1 h4 h3
                        · have : j = k := by omega
                          subst this
                          exact ⟨n, hnU, hnO, e2, hon⟩⟩⟩)
                      have HCL := hid (fun W (hb : Below wr.heap.size wr W) => show W.cell? ⟨w.heap.size, n, none⟩ = some (.bool true) by rw [bwc_at (hO.below hb).hp hnO, hon])
                      generalize R[k] = x at *
                      obtain ⟨x1, x2'⟩ := x
                      clear hlk e1 e2 hO hA hu ht hf hOl hiO hon hnO hnU hRn hRi hoi HO6
                      go_wp2_with fail
                      refine HF.out.mono ?_
                      rintro e w1 ⟨rfl, hb⟩
                      have t0 := HCL.out w1 hb
                      have HN2 := hid (HNX.out w1 hb)
                      clear hb
                      go_wp2_with fail
                      go_roundw
                      case rel => first | exact ⟨hag, k + 1, HLK.out, nr_idx k, HN2⟩ | exact ⟨hag, k + 1, HLK.out, nx_idx HLK.out hRl, HN2⟩
                      case measure => first | exact nr_meas HLK.out | exact nx_meas HLK.out hRl
                  · have hkI : ¬ (k : Int) < (R.length : Int) := by omega
                    have HE := hid (show ∃ O, Mks w wr Q L roots O ∧ (∀ m, m ∈ roots → At1 (univ L) O m) ∧ unm O ≤ N0 ∧ (u7 = .bool true → unm O < N0) ∧ (u7 = .bool false → Cl1 (reqQ Q L) (univ L) O (i + 1)) from ⟨O, hO, hA, hu, ht, fun h j hj hj' hji ho m hm => by
                      rcases Nat.lt_or_ge j i with h1 | h1
                      · exact (hf h).1 j hj hj' h1 ho m hm
                      · have : j = i := by omega
                        subst this
                        rw [HRQ.out] at hm
                        obtain ⟨t, ht2, rfl⟩ := List.getElem_of_mem hm
                        exact (hf h).2 t ht2 (by omega) (by rw [List.getElem?_eq_getElem hj', ho])⟩)
                    clear hlk hoi hO hA hu ht hf hOl hiO hRi HO6
                    go_wp2_with fail
                    go_roundw
                    case rel => first | exact ⟨hag, i + 1, HLI.out, nr_idx i, HE⟩ | exact ⟨hag, i + 1, HLI.out, nx_idx HLI.out (by omega), HE⟩
                    case measure => first | exact nr_meas HLI.out | exact nx_meas HLI.out (by omega)
            · have hiI : ¬ (i : Int) < (Q.length : Int) := by omega
              have hie : i = Q.length := by omega
              obtain ⟨O, hO, hA, hu, ht, hf⟩ := HO5.out
              have HE := hid (show ∃ O, Mks w wr Q L roots O ∧ (∀ m, m ∈ roots → At1 (univ L) O m) ∧ (u7 = .bool false → Cl1 (reqQ Q L) (univ L) O (univ L).length) from ⟨O, hO, hA, fun h => by rw [HUL.out, ← hie]; exact hf h⟩)
              have HME := hid (show measM u7 wr.heap[w.heap.size]? < N0 + 1 by
                rcases hag with rfl | rfl
                · show unmW _ + 1 < N0 + 1
                  rw [unmW_is hO.hp]
                  have := ht rfl
                  omega
                · exact Nat.succ_pos _)
              clear hlt hO hA hu ht hf HO5
              go_wp2_with fail
              go_roundw
              case rel => exact ⟨hag, HE⟩
              case measure =>
                have h1 := HME.out
                rw [← HN0.out] at h1
                exact h1
        · obtain ⟨O, hO, hA, hc⟩ := HO3.out
          have HFI := hid (show ∃ O : List Bool, Mks w wr Q L roots O ∧ ∀ i (hi : i < (univ L).length) (hi' : i < O.length), O[i] = true ↔ Rch (reqQ Q L) roots (univ L)[i] from ⟨O, hO, fun i hi hi' => hO.ok.iff (univ_nd HC.out) hA (hc rfl) hi hi'⟩)
          clear hO hA hc HO3
          go_wp2_with fail
          go_ret
          obtain ⟨O, h1, h2⟩ := HFI.out
          exact ⟨O, rfl, h1, h2⟩
end Ve
end Go.Proofs.YtanponneancajaaGreatDoor


namespace Go.Proofs.YtanponneancajaaGreatDoor
open Go.RowKit Go.Maps
namespace Ve
theorem box_two {W : World} {g : Nat} {x y : Value} {T : TypeId} (h : W.heap[g]? = some (.cells #[x, y] T (0, 0))) : W.cell? ⟨g, 0, none⟩ = some x ∧ W.cell? ⟨g, 1, none⟩ = some y ∧ ∀ o, W.frozen? ⟨g, o, none⟩ = false :=
  ⟨by rw [Lib.cell_of_heap h]; rfl, by rw [Lib.cell_of_heap h]; rfl, fun o => Lib.frozen_of_heap h o⟩
set_option maxRecDepth 100000 in
set_option maxHeartbeats 4000000 in
theorem reachOf_ix (Q : List Raw) (L : List Ent) (roots : List Bm) (v rv : Value) (w : World) (hn : L.length ≤ 1000) (sh : ∀ e, e ∈ L → ShE e) (I : Ixs w v Q L) (hr : MsAt w rv roots) (h0 : (chk Q L).1 ≠ 0) :
    Calls Tryz.prog 127 #[v, rv] w fun e w' => e = .returned (.tuple #[.slice none 0 0, faultV (chk Q L)]) ∧ Below w.heap.size w w' := by
  have HB0 := hid ((Below.refl w.heap.size w).alloc (Nat.le_refl _) (.cells #[.int .i64 0, .int .i64 0] 64))
  have HE0 := hid (heap_new w (.cells #[.int .i64 0, .int .i64 0] 64))
  have HIF := hid (iFault_any Q L v _ hn sh (I.below HB0.out))
  obtain ⟨a, c, hv1, -⟩ := id I.es
  subst hv1
  obtain ⟨ra, rc, hrv, -⟩ := id hr
  subst hrv
  obtain ⟨cc, oo, hco⟩ : ∃ cc oo, chk Q L = (cc, oo) := ⟨_, _, rfl⟩
  rw [hco] at HIF h0 ⊢
  unfold faultV at HIF ⊢
  simp only at HIF h0 ⊢
  generalize atOf oo = ao at *
  have hpos : (0 : Int) < (cc : Int) := by omega
  have hnz : ((cc : Int) == 0) = false := by simp; omega
  have hnz2 : ¬ (cc : Int) = 0 := by omega
  clear I hr sh h0 hco
  go_enter Tryz.func127, Tryz.ntmps127
  go_wp2_with fail
  refine HIF.out.mono ?_
  rintro e w1 ⟨rfl, hb⟩
  have HB1 := hid (HB0.out.trans (hb.mono HB0.out.size))
  have HE1 := hid ((hb.block _ (lt_of_blk HE0.out)).trans HE0.out)
  clear hb
  have HB2 := hid (HB1.out.alloc HB1.out.size (.cells #[.int .i64 (cc : Int), .int .i64 ao] 64))
  have HE2 := hid (heap_old w1 (.cells #[.int .i64 (cc : Int), .int .i64 ao] 64) HE1.out)
  have HF2 := hid (heap_new w1 (.cells #[.int .i64 (cc : Int), .int .i64 ao] 64))
  have hlt := lt_of_blk HE1.out
  have hne : ¬ w1.heap.size = w.heap.size := by omega
  have hne2 : ¬ w.heap.size = w1.heap.size := by omega
  go_wp2_with fail
  generalize w1.alloc (.cells #[.int .i64 (cc : Int), .int .i64 ao] 64) = w2 at *
  obtain ⟨s0, s1, tf⟩ := box_two HE2.out
  obtain ⟨f0, f1, _⟩ := box_two HF2.out
  go_region_with fail
  all_goals
    go_wp2_with fail
    refine bodyPost_ret (v := .tuple #[.slice none 0 0, .agg #[.int .i64 (cc : Int), .int .i64 ao]]) (by simp [results, Tryz.results127, go_sem, s0, s1]) rfl ⟨rfl, ?_⟩
    exact put2_below (below_drawn_of HB2.out 1) (Nat.le_refl _)
set_option maxRecDepth 100000 in
set_option maxHeartbeats 4000000 in
theorem reachOf_rt (Q : List Raw) (L : List Ent) (roots : List Bm) (v rv : Value) (w : World) (hn : L.length ≤ 1000) (hrn : roots.length ≤ 1000000) (sh : ∀ e, e ∈ L → ShE e) (I : Ixs w v Q L) (hr : MsAt w rv roots) (h0 : (chk Q L).1 = 0) (h1 : codeE (nonE Q roots) roots.length ≠ 0) :
    Calls Tryz.prog 127 #[v, rv] w fun e w' => e = .returned (.tuple #[.slice none 0 0, faultV (codeE (nonE Q roots) roots.length, fstE (nonE Q roots) roots.length)]) ∧ Below w.heap.size w w' := by
  have HB0 := hid ((Below.refl w.heap.size w).alloc (Nat.le_refl _) (.cells #[.int .i64 0, .int .i64 0] 64))
  have HE0 := hid (heap_new w (.cells #[.int .i64 0, .int .i64 0] 64))
  have HIF := hid (iFault_any Q L v _ hn sh (I.below HB0.out))
  have HRF := hid (fun W (h : Below w.heap.size w W) => rFault_any Q roots v rv W (by rw [I.ln]; exact hn) hrn (I.below h).es (hr.below h))
  obtain ⟨a, c, hv1, -⟩ := id I.es
  subst hv1
  obtain ⟨ra, rc, hrv, -⟩ := id hr
  subst hrv
  obtain ⟨oo0, hco⟩ : ∃ oo, chk Q L = (0, oo) := ⟨(chk Q L).2, Prod.ext h0 rfl⟩
  rw [hco] at HIF
  unfold faultV at HIF HRF
  simp only at HIF HRF
  generalize atOf oo0 = ao0 at *
  unfold faultV
  simp only
  generalize codeE (nonE Q roots) roots.length = rc0 at *
  generalize atOf (fstE (nonE Q roots) roots.length) = ao at *
  have hpos : (0 : Int) < (rc0 : Int) := by omega
  clear I hr sh h0 hco h1
  go_enter Tryz.func127, Tryz.ntmps127
  go_wp2_with fail
  refine HIF.out.mono ?_
  rintro e w1 ⟨rfl, hb⟩
  have HB1 := hid (HB0.out.trans (hb.mono HB0.out.size))
  have HE1 := hid ((hb.block _ (lt_of_blk HE0.out)).trans HE0.out)
  clear hb
  have HB2 := hid (HB1.out.alloc HB1.out.size (.cells #[.int .i64 0, .int .i64 ao0] 64))
  have HE2 := hid (heap_old w1 (.cells #[.int .i64 0, .int .i64 ao0] 64) HE1.out)
  have HF2 := hid (heap_new w1 (.cells #[.int .i64 0, .int .i64 ao0] 64))
  have hlt := lt_of_blk HE1.out
  have hne : ¬ w1.heap.size = w.heap.size := by omega
  have hne2 : ¬ w.heap.size = w1.heap.size := by omega
  go_wp2_with fail
  refine (HRF.out _ HB2.out).mono ?_
  rintro e w3 ⟨rfl, hb⟩
  have HB3 := hid (HB2.out.trans (hb.mono HB2.out.size))
  have HE3 := hid ((hb.block _ (lt_of_blk HE2.out)).trans HE2.out)
  have HF3 := hid ((hb.block _ (lt_of_blk HF2.out)).trans HF2.out)
  clear hb
  have HB4 := hid (put2_below (x := .int .i64 (rc0 : Int)) (y := .int .i64 ao) HB3.out (Nat.le_of_lt hlt))
  have HE4 := hid (keep_set (fb := w1.heap.size) (o := 1) (x := .int .i64 ao) (keep_set (fb := w1.heap.size) (o := 0) (x := .int .i64 (rc0 : Int)) HE3.out hne2) hne2)
  have HF4 := hid (set_block (o := 1) (x := .int .i64 ao) (set_block (o := 0) (x := .int .i64 (rc0 : Int)) HF3.out))
  obtain ⟨g0, g1, gf⟩ := box_two HF3.out
  go_wp2_with fail
  generalize (w3.setCell ⟨w1.heap.size, 0, none⟩ (.int .i64 (rc0 : Int))).setCell ⟨w1.heap.size, 1, none⟩ (.int .i64 ao) = w4 at *
  obtain ⟨s0, s1, tf⟩ := box_two HE4.out
  have f0 : w4.cell? ⟨w1.heap.size, 0, none⟩ = some (.int .i64 (rc0 : Int)) := by rw [Lib.cell_of_heap HF4.out]; rfl
  have f1 : w4.cell? ⟨w1.heap.size, 1, none⟩ = some (.int .i64 ao) := by rw [Lib.cell_of_heap HF4.out]; rfl
  go_region_with fail
  all_goals
    go_wp2_with fail
    refine bodyPost_ret (v := .tuple #[.slice none 0 0, .agg #[.int .i64 (rc0 : Int), .int .i64 ao]]) (by simp [results, Tryz.results127, go_sem, s0, s1]) rfl ⟨rfl, ?_⟩
    exact put2_below (below_drawn_of HB4.out 1) (Nat.le_refl _)
def selO : List Bool → List Bm → List Bm
  | b :: O, m :: U => if b then m :: selO O U else selO O U
  | _, _ => []
theorem selO_take : ∀ (O : List Bool) (U : List Bm) (k : Nat) (h : k < O.length) (h' : k < U.length), selO (O.take (k + 1)) (U.take (k + 1)) = selO (O.take k) (U.take k) ++ (if O[k] then [U[k]] else [])
  | [], _, _, h, _ => absurd h (Nat.not_lt_zero _)
  | _ :: _, [], _, _, h' => absurd h' (Nat.not_lt_zero _)
  | b :: O, m :: U, 0, _, _ => by cases b <;> simp [selO]
  | b :: O, m :: U, k + 1, h, h' => by
    have ih := selO_take O U k (by simpa using h) (by simpa using h')
    simp only [List.take_succ_cons, selO, List.getElem_cons_succ]
    cases b <;> simp [ih]
theorem selO_filter : ∀ (O : List Bool) (U : List Bm) (P : Bm → Bool), O.length = U.length → (∀ i (h : i < U.length) (h' : i < O.length), O[i] = P U[i]) → selO O U = U.filter P
  | [], [], _, _, _ => rfl
  | [], _ :: _, _, h, _ => by simp at h
  | _ :: _, [], _, h, _ => by simp at h
  | b :: O, m :: U, P, h, hp => by
    have h0 := hp 0 (by simp) (by simp)
    have ih := selO_filter O U P (by simpa using h) (fun i h1 h2 => by
      have h3 := hp (i + 1) (by simpa using h1) (by simpa using h2)
      simp only [List.getElem_cons_succ] at h3
      exact h3)
    simp only [List.getElem_cons_zero] at h0
    simp only [selO, List.filter_cons, ih, h0]
set_option maxRecDepth 100000 in
set_option maxHeartbeats 4000000 in
theorem reachOf_good (Q : List Raw) (L : List Ent) (roots : List Bm) (v rv : Value) (w : World) (hn : L.length ≤ 1000) (hrn : roots.length ≤ 1000000) (sh : ∀ e, e ∈ L → ShE e) (I : Ixs w v Q L) (hr : MsAt w rv roots) (hg : (chkG Q L roots).1 = 0) :
    Calls Tryz.prog 127 #[v, rv] w fun e w' => ∃ u O, e = .returned (.tuple #[u, .agg #[.int .i64 0, .int .i64 (-1)]]) ∧ O.length = (univ L).length ∧ (∀ i (hi : i < (univ L).length) (hi' : i < O.length), O[i] = true ↔ Rch (reqQ Q L) roots (univ L)[i]) ∧ w'.ownsRow w.heap.size 51 2 u (selO O (univ L)).length (flatM (selO O (univ L))) ∧ Below w.heap.size w w' := by
  have HB0 := hid ((Below.refl w.heap.size w).alloc (Nat.le_refl _) (.cells #[.int .i64 0, .int .i64 0] 64))
  have HE0 := hid (heap_new w (.cells #[.int .i64 0, .int .i64 0] 64))
  have HIF := hid (iFault_any Q L v _ hn sh (I.below HB0.out))
  have h0 : (chk Q L).1 = 0 := (rgt_of I hg).c
  have h1 : (codeE (nonE Q roots) roots.length, fstE (nonE Q roots) roots.length) = (0, none) := by
    have h := hg
    rw [chkG_ok h0] at h
    have h2 : codeE (nonE Q roots) roots.length = 0 := h
    cases h3 : fstE (nonE Q roots) roots.length with
    | none => rw [h2]
    | some j =>
      rw [codeE_some h3] at h2
      exact absurd h2 (fstE_of_some h3).2.1
  have HUL := hid (show (univ L).length = Q.length by rw [I.ln]; simp [univ])
  have hqn : Q.length ≤ 1000 := by rw [I.ln]; exact hn
  have HMK := hid (fun W (h : Below w.heap.size w W) => marks_any Q L roots v rv W hn hrn sh (I.below h) (hr.below h) hg)
  have HEA := hid (fun i (hi : i < Q.length) W (h : Below w.heap.size w W) => (I.below h).es)
  have HUM := hid (fun i (hi : i < Q.length) (hi' : i < (univ L).length) => show Q[i].1 = (univ L)[i] by
    have := (I.ok i hi (by rw [← I.ln]; exact hi)).m
    simp only [univ, List.getElem_map]
    exact this)
  obtain ⟨i0, hi0, hz0, hz1, hz2⟩ := info_parts infoMod
  have HRF := hid (fun W (h : Below w.heap.size w W) => rFault_any Q roots v rv W (by rw [I.ln]; exact hn) hrn (I.below h).es (hr.below h))
  obtain ⟨a, c, hv1, -⟩ := id I.es
  subst hv1
  obtain ⟨ra, rc, hrv, -⟩ := id hr
  subst hrv
  obtain ⟨oo0, hco⟩ : ∃ oo, chk Q L = (0, oo) := ⟨(chk Q L).2, Prod.ext h0 rfl⟩
  rw [hco] at HIF
  unfold faultV at HIF HRF
  simp only at HIF HRF
  generalize atOf oo0 = ao0 at *
  have e1 : codeE (nonE Q roots) roots.length = 0 := congrArg Prod.fst h1
  have e2 : fstE (nonE Q roots) roots.length = none := congrArg Prod.snd h1
  rw [e1, e2, show atOf none = -1 from rfl] at HRF
  clear I hr sh h0 hco h1 e1 e2 hg
  go_enter Tryz.func127, Tryz.ntmps127
  go_wp2_with fail
  refine HIF.out.mono ?_
  rintro e w1 ⟨rfl, hb⟩
  have HB1 := hid (HB0.out.trans (hb.mono HB0.out.size))
  have HE1 := hid ((hb.block _ (lt_of_blk HE0.out)).trans HE0.out)
  clear hb
  have HB2 := hid (HB1.out.alloc HB1.out.size (.cells #[.int .i64 0, .int .i64 ao0] 64))
  have HE2 := hid (heap_old w1 (.cells #[.int .i64 0, .int .i64 ao0] 64) HE1.out)
  have HF2 := hid (heap_new w1 (.cells #[.int .i64 0, .int .i64 ao0] 64))
  have hlt := lt_of_blk HE1.out
  have hne : ¬ w1.heap.size = w.heap.size := by omega
  have hne2 : ¬ w.heap.size = w1.heap.size := by omega
  go_wp2_with fail
  refine (HRF.out _ HB2.out).mono ?_
  rintro e w3 ⟨rfl, hb⟩
  have HB3 := hid (HB2.out.trans (hb.mono HB2.out.size))
  have HE3 := hid ((hb.block _ (lt_of_blk HE2.out)).trans HE2.out)
  have HF3 := hid ((hb.block _ (lt_of_blk HF2.out)).trans HF2.out)
  clear hb
  have HB4 := hid (put2_below (x := .int .i64 0) (y := .int .i64 (-1)) HB3.out (Nat.le_of_lt hlt))
  have HE4 := hid (keep_set (fb := w1.heap.size) (o := 1) (x := .int .i64 (-1)) (keep_set (fb := w1.heap.size) (o := 0) (x := .int .i64 0) HE3.out hne2) hne2)
  have HF4 := hid (set_block (o := 1) (x := .int .i64 (-1)) (set_block (o := 0) (x := .int .i64 0) HF3.out))
  obtain ⟨g0, g1, gf⟩ := box_two HF3.out
  go_wp2_with fail
  generalize (w3.setCell ⟨w1.heap.size, 0, none⟩ (.int .i64 0)).setCell ⟨w1.heap.size, 1, none⟩ (.int .i64 (-1)) = w4 at *
  refine (HMK.out w4 HB4.out).mono ?_
  rintro e w5 ⟨O, rfl, hM, hO⟩
  have HB5 := hid (HB4.out.trans (hM.bl.mono HB4.out.size))
  have HE5 := hid ((hM.bl.block _ (lt_of_blk HE4.out)).trans HE4.out)
  have HHP := hid hM.hp
  have HOI := hid hO
  have HOL := hid hM.ok.ln
  have h45 := hM.bl.size
  have hw4 := HB4.out.size
  clear hM hO HMK
  go_wp2_with fail
  go_loopw [8, 9] (fun ov iv wr => ∃ i : Nat, i ≤ Q.length ∧ iv = .int .i64 i ∧ Hid (wr.ownsRow w5.heap.size 51 2 ov (selO (O.take i) ((univ L).take i)).length (flatM (selO (O.take i) ((univ L).take i)))) ∧ (selO (O.take i) ((univ L).take i)).length ≤ i ∧ Hid (Below w5.heap.size w5 wr)) (fun _ iv _ => Q.length - (intOf iv).toNat)
  case atStart => exact ⟨0, Nat.zero_le _, rfl, hid (by simp only [List.take_zero, selO]; exact World.ownsRow_nil _ _ _ _), by simp [selO], hid (Below.refl _ _)⟩
  case round =>
    obtain ⟨i, hi, rfl, HOW, hsl, HBr⟩ := hrel
    by_cases hlt2 : i < Q.length
    · have hiI : (i : Int) < (Q.length : Int) := by omega
      have hii : (0 : Int) ≤ (i : Int) := by omega
      have HLI := hid hlt2
      have hiU : i < (univ L).length := by rw [HUL.out]; exact hlt2
      have hiO : i < O.length := by rw [HOL.out]; exact hiU
      have HBw := hid (HB5.out.trans (HBr.out.mono HB5.out.size))
      have m0 := cell_below HBr.out (bwc_at HHP.out hiO)
      have hes := HEA.out i hlt2 _ HBw.out
      obtain ⟨b, o, hab⟩ : ∃ b o, a = some ⟨b, o, none⟩ := by
        obtain ⟨a', c', e, _, _, h⟩ := hes
        injection e with q1 q2 q3
        obtain ⟨b, o, h4, _⟩ := h (fun h => by rw [h] at hlt2; simp at hlt2)
        exact ⟨b, o, by rw [q1, h4]⟩
      subst hab
      obtain ⟨-, x0, x1, -, -, -⟩ := es_all hes hlt2
      have HST := hid (selO_take O (univ L) i hiO hiU)
      rw [HUM.out i hlt2 hiU] at x0 x1
      generalize (univ L)[i] = um at *
      obtain ⟨up, uq⟩ := um
      simp only at x0 x1
      have hwz := HBr.out.size
      clear hes hlt2
      cases hoi : O[i]
      · rw [hoi] at m0 HST
        have HST2 := hid (show selO (O.take (i + 1)) ((univ L).take (i + 1)) = selO (O.take i) ((univ L).take i) by rw [HST.out]; simp)
        clear hoi
        go_wp2_with fail
        go_roundw
        case rel => first | exact ⟨i + 1, HLI.out, nr_idx i, hid (by rw [HST2.out]; exact HOW.out), by rw [HST2.out]; omega, HBr⟩ | exact ⟨i + 1, HLI.out, nx_idx HLI.out (by omega), hid (by rw [HST2.out]; exact HOW.out), by rw [HST2.out]; omega, HBr⟩
        case measure => first | exact nr_meas HLI.out | exact nx_meas HLI.out (by omega)
      · rw [hoi] at m0 HST
        have HST2 := hid (show selO (O.take (i + 1)) ((univ L).take (i + 1)) = selO (O.take i) ((univ L).take i) ++ [(up, uq)] by rw [HST.out]; simp)
        obtain ⟨SX, hSX⟩ : ∃ SX, selO (O.take i) ((univ L).take i) = SX := ⟨_, rfl⟩
        rw [hSX] at HOW HST2 hsl
        clear hoi hSX HST
        go_wp2_with (at_builtin; refine wpList_append_own _ rfl _ _ 52 rfl w5.heap.size 51 i0 _ 2 32 Tryz.underlying52 hi0 hz0 hz1 hz2 rfl (by decide) _ _ _ rfl (HOW.out.alloc _) ⟨wr.heap.size, 0, none⟩ 1 1 [.string up, .string uq] rfl rfl ?c1 ?c2 ?c3 ?c4 ?c5 ?_)
        case c1 =>
          intro t u ht
          match t, ht with
          | 0, ht => simp at ht; subst ht; simp [Addr.add]
          | 1, ht => simp at ht; subst ht; simp [Addr.add]
          | t + 2, ht => simp at ht
        case c2 => intro u hu; simp at hu; rcases hu with rfl | rfl <;> rfl
        case c3 => unfold maxLen; omega
        case c4 => omega
        case c5 => first | omega | (simp; omega)
        intro v' w6 hown hgrow _
        have HR3 := hid (rel_app2 HBr.out.size HBr.out HOW.out (Below.refl _ _) hgrow)
        have HO4 := hid (show w6.ownsRow w5.heap.size 51 2 v' (SX ++ [(up, uq)]).length (flatM (SX ++ [(up, uq)])) by rw [List.length_append, flatM_app]; exact hown)
        clear hown hgrow
        go_wp2_with fail
        go_roundw
        case rel => first | exact ⟨i + 1, HLI.out, nr_idx i, hid (by rw [HST2.out]; exact HO4.out), by rw [HST2.out]; simp; omega, HR3⟩ | exact ⟨i + 1, HLI.out, nx_idx HLI.out (by omega), hid (by rw [HST2.out]; exact HO4.out), by rw [HST2.out]; simp; omega, HR3⟩
        case measure => first | exact nr_meas HLI.out | exact nx_meas HLI.out (by omega)
    · have hiI : ¬ (i : Int) < (Q.length : Int) := by omega
      have hie : i = Q.length := by omega
      have HOF := hid (show wr.ownsRow w5.heap.size 51 2 u8 (selO O (univ L)).length (flatM (selO O (univ L))) by
        have h := HOW.out
        rw [List.take_of_length_le (by rw [HOL.out, HUL.out]; omega), List.take_of_length_le (by rw [HUL.out]; omega)] at h
        exact h)
      have HFN := hid (fun W => fine_any W)
      clear hlt2 HOW hsl
      obtain ⟨oa, on, oc, hov⟩ := own_sl HOF.out
      subst hov
      go_wp2_with fail
      refine (HFN.out _).mono ?_
      rintro e w6 ⟨rfl, hb⟩
      have HB6 := hid ((HB5.out.trans (HBr.out.mono HB5.out.size)).trans (hb.mono (Nat.le_trans HB5.out.size HBr.out.size)))
      have HE6 := hid ((hb.block _ (Nat.lt_of_lt_of_le (lt_of_blk HE5.out) HBr.out.size)).trans ((HBr.out.block _ (lt_of_blk HE5.out)).trans HE5.out))
      have HO6 := hid (owns_below HOF.out hb)
      clear hb
      obtain ⟨s0, s1, tf⟩ := box_two HE6.out
      have hw5 := lt_of_blk HE5.out
      have hnb : (Value.slice oa on oc).ownBlock ≠ some w.heap.size := fun h => by
        have := (own_lt HO6.out h).2
        omega
      have HO7 := hid (own_base (owns_set (o := 1) (x := .int .i64 (-1)) (owns_set (o := 0) (x := .int .i64 0) HO6.out hnb) hnb) (show w.heap.size ≤ w5.heap.size by omega))
      go_wp2_with fail
      refine bodyPost_ret (v := .tuple #[.slice oa on oc, .agg #[.int .i64 0, .int .i64 (-1)]]) (by simp [results, Tryz.results127, go_sem, s0, s1]) rfl ⟨_, O, rfl, HOL.out, HOI.out, HO7.out, ?_⟩
      exact put2_below HB6.out (Nat.le_refl _)
end Ve
end Go.Proofs.YtanponneancajaaGreatDoor


namespace Go.Proofs.YtanponneancajaaGreatDoor
open Go.RowKit Go.Maps
namespace Ve
theorem reachOf_bad (Q : List Raw) (L : List Ent) (roots : List Bm) (v rv : Value) (w : World) (hn : L.length ≤ 1000) (hrn : roots.length ≤ 1000000) (sh : ∀ e, e ∈ L → ShE e) (I : Ixs w v Q L) (hr : MsAt w rv roots) (h0 : (chkG Q L roots).1 ≠ 0) :
    Calls Tryz.prog 127 #[v, rv] w fun e w' => e = .returned (.tuple #[.slice none 0 0, faultV (chkG Q L roots)]) ∧ Below w.heap.size w w' := by
  by_cases hc : (chk Q L).1 = 0
  · rw [chkG_ok hc] at h0 ⊢
    exact reachOf_rt Q L roots v rv w hn hrn sh I hr hc h0
  · rw [chkG_bad hc]
    exact reachOf_ix Q L roots v rv w hn sh I hr hc
end Ve
end Go.Proofs.YtanponneancajaaGreatDoor
