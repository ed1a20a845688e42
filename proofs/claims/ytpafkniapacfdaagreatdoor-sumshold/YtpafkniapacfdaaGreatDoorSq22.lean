
import Derived.Test.YtpafkniapacfdaaGreatDoorSq20
import Derived.Test.YtpafkniapacfdaaGreatDoorSq19
import Derived.Test.YtpafkniapacfdaaGreatDoorSq10
import Derived.RangeFuncBox
import Derived.RangeFuncLeaves
import Derived.Shelf.Abstract
import Derived.OwnWalkIn
import Derived.TacticsInMore
import Derived.LoopNIn
import Derived.LoopIn
import Derived.Maps.AppendAt
import Derived.Test.YtpafkniapacfdaaGreatDoorSq21
import Derived.Test.YtpafkniapacfdaaGreatDoorSq16
import Derived.Test.YtpafkniapacfdaaGreatDoorSq7
namespace Go.Proofs.YtpafkniapacfdaaGreatDoor
open Go.RowKit
namespace Ve
end Ve
end Go.Proofs.YtpafkniapacfdaaGreatDoor


namespace Go.Proofs.YtpafkniapacfdaaGreatDoor
namespace Ve
end Ve
end Go.Proofs.YtpafkniapacfdaaGreatDoor


namespace Go.Proofs.YtpafkniapacfdaaGreatDoor
open Go.RowKit
namespace Ve
theorem cell_same {w w' : World} (h : w' = w) {a : Addr} {v : Value} (y : w.cell? a = some v) : w'.cell? a = some v := by rw [h]; exact y
theorem ms_same {w w' : World} (h : w' = w) {v : Value} {L : List Bm} (y : MsAt w v L) : MsAt w' v L := by rw [h]; exact y
theorem longI_manyQ (a : Option Addr) (n c : Nat) (w : World) (h : okN n = false) : Calls Tryz.prog 6 #[.slice a n c] w fun e w' => e = .returned (.int .i64 1) ∧ w' = w := by
  unfold okN at h
  rw [Bool.or_eq_false_iff] at h
  have h1 := of_decide_eq_false h.1
  have h2 := of_decide_eq_false h.2
  have q1 : (30 : Int) < (n : Int) := by omega
  have q2 : ((n : Int) != 101) = true := bne_iff_ne.2 (by omega)
  clear h h1 h2
  go_enter Tryz.func6, Tryz.ntmps6
  go_wp2_with fail
  go_ret
  exact ⟨rfl, rfl⟩
set_option maxHeartbeats 8000000 in
set_option maxRecDepth 100000 in
theorem longIQ_any (Q : List Raw) (L : List Ent) (v : Value) (w : World) (I : Ixs w v Q L) : Calls Tryz.prog 6 #[v] w fun e w' => e = .returned (.int .i64 (if okI L then 0 else 1)) ∧ w' = w := by
  obtain ⟨a, c, rfl, _, hs, hc⟩ := id I.es
  by_cases hn : okN Q.length = true
  · have HO := hid (show okI L = L.all okE by unfold okI; rw [← I.ln, hn, Bool.true_and])
    generalize hr : (if okI L then (0 : Int) else 1) = r
    have HR := hid hr
    have HI := hid I
    have hln := I.ln
    have hqn : Q.length ≤ 101 := by
      unfold okN at hn
      rw [Bool.or_eq_true] at hn
      rcases hn with h | h
      · have := of_decide_eq_true h; omega
      · have := of_decide_eq_true h; omega
    have HC := hid hc
    have HSL := hid hs
    clear I hr hc hs
    rcases okN_yes hn with h0 | ⟨h0, h0'⟩
    all_goals
      clear hn
      go_enter Tryz.func6, Tryz.ntmps6
      go_wp2_with fail
      go_loopw [3] (fun i wr => ∃ k : Nat, k ≤ L.length ∧ i = .int .i64 k ∧ Hid (pfxE L k = true) ∧ Hid (wr = w)) (fun i _ => L.length - (intOf i).toNat)
      case atStart => exact ⟨0, Nat.zero_le _, rfl, hid rfl, hid (rfl)⟩
      case round =>
        obtain ⟨k, hk, rfl, HA, HB⟩ := hrel
        by_cases hlt : k < L.length
        · have hkq : k < Q.length := by omega
          have hO := HI.out.ok k hkq hlt
          obtain ⟨b, o, ha, hcc⟩ := HC.out (by intro h; rw [h] at hkq; simp at hkq)
          subst ha
          obtain ⟨y0, y1, y2, y3, y4⟩ := hcc k hkq
          have x0 := cell_same HB.out y0
          have x1 := cell_same HB.out y1
          have x2 := cell_same HB.out y2
          have x3 := cell_same HB.out y3
          have y3' := y3
          have hkI : (k : Int) < (Q.length : Int) := by omega
          have HLT := hid hlt
          have HN := hid (fun h => okE_next hlt HA.out h)
          have HXX := hid (fun h => okE_not hlt h)
          clear hcc y0 y1 y2 y3 y4
          generalize L[k] = e at *
          generalize Q[k] = r at *
          clear hlt hkq
          obtain ⟨⟨p, q⟩, rv, pv, bk⟩ := r
          obtain ⟨⟨p', q'⟩, eR, eP, bk'⟩ := e
          obtain ⟨hm, hrq, hpk, _⟩ := hO
          simp only at hm hrq hpk x0 x1 x2 x3 y3'
          obtain ⟨rfl, rfl⟩ : p = p' ∧ q = q' := by injection hm with h1 h2; exact ⟨h1, h2⟩
          have HL := hid (long_any eR rv wr (ms_same HB.out hrq))
          obtain ⟨ra, rc, hrv, _⟩ := id hrq
          obtain ⟨pa, pc, hpv, _, hpc⟩ := id hpk
          subst hrv
          subst hpv
          have HPK := hid hpc
          clear hm hrq hpk hpc
          have HE := hid (show okE ((p, q), eR, eP, bk') = (decide (p.size ≤ 70) && decide (q.size ≤ 60) && okL eR && decide (eP.length ≤ 15) && okP eP) from rfl)
          by_cases h1 : p.size ≤ 70
          · have q1 : decide ((70 : Int) < (p.size : Int)) = false := decide_eq_false (by omega)
            by_cases h2 : q.size ≤ 60
            · have q2 : decide ((60 : Int) < (q.size : Int)) = false := decide_eq_false (by omega)
              cases h3 : okL eR
              · have HX := hid (HXX.out (by rw [HE.out, h3, Bool.and_false, Bool.false_and, Bool.false_and]))
                rw [h3] at HL
                clear h1 h2 h3
                go_wp2_with fail
                refine HL.out.mono ?_
                rintro e w1 ⟨rfl, rfl⟩
                go_wp2_with fail
                go_ret
                exact ⟨by rw [← HR.out, HO.out, HX.out]; rfl, HB.out⟩
              · rw [h3] at HL
                by_cases h4 : eP.length ≤ 15
                · have q4 : decide ((15 : Int) < (eP.length : Int)) = false := decide_eq_false (by omega)
                  have HE2 := hid (show okE ((p, q), eR, eP, bk') = okP eP by rw [HE.out, decide_eq_true h1, decide_eq_true h2, h3, decide_eq_true h4]; rfl)
                  have hp15 := h4
                  clear h1 h2 h3 h4
                  go_wp2_with fail
                  refine HL.out.mono ?_
                  rintro e w1 ⟨rfl, rfl⟩
                  go_wp2_with fail
                  go_loopw [4] (fun i wr' => ∃ k' : Nat, k' ≤ eP.length ∧ i = .int .i64 k' ∧ Hid (okP (eP.take k') = true) ∧ Hid (wr' = w)) (fun i _ => eP.length - (intOf i).toNat)
                  case atStart => exact ⟨0, Nat.zero_le _, rfl, hid rfl, HB⟩
                  case round =>
                    obtain ⟨k', hk', rfl, HA', HBq⟩ := hrel
                    have x3' := cell_same HBq.out y3'
                    by_cases hlt' : k' < eP.length
                    · obtain ⟨b', o', ha', hp'⟩ := HPK.out (by intro h; rw [h] at hlt'; simp at hlt')
                      subst ha'
                      have z := cell_same HBq.out (hp' k' hlt')
                      have hkI' : (k' : Int) < (eP.length : Int) := by omega
                      have HLT' := hid hlt'
                      have HN' := hid (fun h => okP_next hlt' HA'.out h)
                      have HX' := hid (fun h => okP_not hlt' h)
                      generalize eP[k'] = x at *
                      clear hp' hlt'
                      by_cases h5 : x.size ≤ 70
                      · have q5 : ¬ (70 : Int) < (x.size : Int) := by omega
                        have HN2 := hid (HN'.out h5)
                        clear h5
                        go_wp2_with fail
                        go_roundw
                        case rel => exact ⟨k' + 1, by have := HLT'.out; omega, by go_num, HN2, HBq⟩
                        case measure => have := HLT'.out; simp [intOf]; omega
                      · have q5 : (70 : Int) < (x.size : Int) := by omega
                        have HX := hid (HXX.out (by rw [HE2.out, HX'.out h5]))
                        clear h5
                        go_wp2_with fail
                        go_ret
                        exact ⟨by rw [← HR.out, HO.out, HX.out]; rfl, HBq.out⟩
                    · have HT' := hid (show okP eP = true by have := HA'.out; rw [List.take_of_length_le (by omega)] at this; exact this)
                      have HN2 := hid (HN.out (by rw [HE2.out, HT'.out]))
                      have hkI' : ¬ (k' : Int) < (eP.length : Int) := by omega
                      clear hlt'
                      go_wp2_with fail
                      go_roundw
                      case rel => first | exact ⟨k + 1, by have := HLT.out; omega, by go_num, HN2, HBq⟩ | exact ⟨k + 1, by have := HLT.out; omega, by omega, HN2⟩
                      case measure => have := HLT.out; simp [intOf]; omega
                · have q4 : decide ((15 : Int) < (eP.length : Int)) = true := decide_eq_true (by omega)
                  have HX := hid (HXX.out (by rw [HE.out, decide_eq_false h4, Bool.and_false, Bool.false_and]))
                  clear h1 h2 h3 h4
                  go_wp2_with fail
                  refine HL.out.mono ?_
                  rintro e w1 ⟨rfl, rfl⟩
                  go_wp2_with fail
                  go_ret
                  exact ⟨by rw [← HR.out, HO.out, HX.out]; rfl, HB.out⟩
            · have q2 : decide ((60 : Int) < (q.size : Int)) = true := decide_eq_true (by omega)
              have HX := hid (HXX.out (by rw [HE.out, decide_eq_false h2, Bool.and_false, Bool.false_and, Bool.false_and, Bool.false_and]))
              clear h1 h2
              go_wp2_with fail
              go_ret
              exact ⟨by rw [← HR.out, HO.out, HX.out]; rfl, HB.out⟩
          · have q1 : decide ((70 : Int) < (p.size : Int)) = true := decide_eq_true (by omega)
            have HX := hid (HXX.out (by rw [HE.out, decide_eq_false h1, Bool.false_and, Bool.false_and, Bool.false_and, Bool.false_and]))
            clear h1
            go_wp2_with fail
            go_ret
            exact ⟨by rw [← HR.out, HO.out, HX.out]; rfl, HB.out⟩
        · have HT := hid (show L.all okE = true by have := HA.out; unfold pfxE at this; rw [List.take_of_length_le (by omega)] at this; exact this)
          have hkI : ¬ (k : Int) < (Q.length : Int) := by omega
          go_wp2_with fail
          go_ret
          exact ⟨by rw [← HR.out, HO.out, HT.out]; rfl, HB.out⟩
  · have hf : okN Q.length = false := by simpa using hn
    have : okI L = false := by unfold okI; rw [← I.ln, hf]; rfl
    rw [this]
    exact longI_manyQ a Q.length c w hf
end Ve
end Go.Proofs.YtpafkniapacfdaaGreatDoor


namespace Go.Proofs.YtpafkniapacfdaaGreatDoor
open Go.RowKit Go.Shelf
namespace Ve
attribute [local go_sem] Oper.semAt_some
def upT (f : Nat → ByteArray) (k : Nat) : List ByteArray := (List.range k).map f
theorem upT_succ (f : Nat → ByteArray) (k : Nat) : upT f (k + 1) = upT f k ++ [f k] := by simp [upT, List.range_succ]
theorem upT_length (f : Nat → ByteArray) (k : Nat) : (upT f k).length = k := by simp [upT]
theorem upT_take (X : List ByteArray) {k : Nat} (hk : k ≤ X.length) : upT (fun j => X[j]?.getD ByteArray.empty) k = X.take k := by
  apply List.ext_getElem
  · simp [upT, hk]
  · intro i h1 h2
    have : i < X.length := by simp [upT] at h1; omega
    simp [upT, this]
set_option maxRecDepth 100000 in
set_option maxHeartbeats 4000000 in
theorem values1_in (F : Fence) (n : Nat) (hf : F.fn 222) (hro : F.round = none) (hn : 1 ≤ n) (l Bs n₀ b off len cap : Nat) (X : List ByteArray) (hreach : len ≤ 1000000) (hb : b < n₀) (J Jx : List ByteArray → World → Prop)
    (hY : ∀ pre x W, J pre W → pre.length < len → YieldAt F (n - 1) Tryz.prog l #[.string x] W fun e W' =>
      (e = .returned (.bool true) ∧ J (pre ++ [x]) W' ∧ Below n₀ W W') ∨ (e = .returned (.bool false) ∧ Jx (pre ++ [x]) W'))
    (W : World) (hBs : W.cell? ⟨Bs, 0, none⟩ = some (.slice (some ⟨b, off, none⟩) len cap)) (hc : ∀ j, j < len → W.cell? ⟨b, off + j, none⟩ = some (.string (X[j]?.getD ByteArray.empty))) (h0 : J [] W) :
    CallsIn F n Tryz.prog 222 #[.func (.yield l) #[] #[], .pointer (some ⟨Bs, 0, none⟩)] W fun e W' => (∃ v, e = .returned v) ∧
      ((∃ ys, ys = upT (fun j => X[j]?.getD ByteArray.empty) len ∧ J ys W') ∨ (∃ pre, (∃ k, k ≤ len ∧ pre = upT (fun j => X[j]?.getD ByteArray.empty) k) ∧ Jx pre W')) := by
  refine callsIn_of_wp Tryz.func222 rfl hf ?_ hro
  simp only [Tryz.ntmps222, List.size_toArray, List.length_cons, List.length_nil, Nat.reduceAdd, Nat.reduceSub, Array.replicate_succ, Array.replicate_zero, List.push_toArray, List.append_toArray, List.nil_append, List.cons_append]
  gi_wp2
  gi_loopw [7] (fun i wr => ∃ k : Nat, k ≤ len ∧ i = .int .i64 k ∧ J (upT (fun j => X[j]?.getD ByteArray.empty) k) wr ∧ Below n₀ W wr)
    (fun i _ => len - (intOf i).toNat)
  case atStart => exact ⟨0, Nat.zero_le _, rfl, h0, Below.refl _ _⟩
  case round =>
    obtain ⟨k, hk, rfl, hJs, hnx⟩ := hrel
    have hcx : k < len → wr.cell? ⟨b, off + k, none⟩ = some (.string (X[k]?.getD ByteArray.empty)) := fun h => (hnx.cell (p := ⟨b, off + k, none⟩) hb).trans (hc k h)
    by_cases hlt : k < len
    · obtain ⟨fn, tmps, assign, body, hy, hR⟩ := hY _ (X[k]?.getD ByteArray.empty) wr hJs (by rw [upT_length]; exact hlt)
      have hcx' := hcx hlt
      gi_wp2
      refine hR.mono ?_
      rintro e W3 (⟨rfl, hJ3, hk3⟩ | ⟨rfl, hJx3⟩)
      · gi_wp2
        go_roundw
        case rel => exact ⟨k + 1, by omega, by simp, by rw [upT_succ]; exact hJ3, hnx.trans hk3⟩
        case measure => simp [intOf]; omega
      · gi_wp2
        refine bodyPost_ret (results_none rfl _ _ _) rfl ?_
        exact ⟨⟨_, rfl⟩, .inr ⟨_, ⟨k + 1, by omega, (upT_succ _ _).symm⟩, hJx3⟩⟩
    · obtain rfl : k = len := by omega
      gi_wp2
      go_end0
      exact ⟨⟨_, rfl⟩, .inl ⟨_, rfl, hJs⟩⟩
set_option maxRecDepth 100000 in
set_option maxHeartbeats 1000000 in
theorem values1_nil (F : Fence) (n : Nat) (hf : F.fn 222) (hro : F.round = none) (l Bs : Nat) (a : Option Addr) (c : Nat) (J : List ByteArray → World → Prop) (W : World) (hBs : W.cell? ⟨Bs, 0, none⟩ = some (.slice a 0 c)) (h0 : J [] W) :
    CallsIn F n Tryz.prog 222 #[.func (.yield l) #[] #[], .pointer (some ⟨Bs, 0, none⟩)] W fun e W' => (∃ v, e = .returned v) ∧ J [] W' := by
  refine callsIn_of_wp Tryz.func222 rfl hf ?_ hro
  simp only [Tryz.ntmps222, List.size_toArray, List.length_cons, List.length_nil, Nat.reduceAdd, Nat.reduceSub, Array.replicate_succ, Array.replicate_zero, List.push_toArray, List.append_toArray, List.nil_append, List.cons_append]
  gi_wp2
  gi_loopw [7] (fun i wr => i = .int .i64 0 ∧ J [] wr) (fun _ _ => 0)
  case atStart => exact ⟨rfl, h0⟩
  case round =>
    obtain ⟨rfl, hJs⟩ := hrel
    gi_wp2
    go_end0
    exact ⟨⟨_, rfl⟩, hJs⟩
set_option maxHeartbeats 1000000 in
theorem values_in (F : Fence) (n : Nat) (hf : F.fn 182) (hro : F.round = none) (a : Option Addr) (len cap : Nat) (w : World) :
    CallsIn F n Tryz.prog 182 #[.slice a len cap] w fun e w' => e = .returned (.func (.func 222) #[] #[.pointer (some ⟨w.heap.size, 0, none⟩)]) ∧ w' = w.alloc (.cells #[.slice a len cap] 53) := by
  refine callsIn_of_wp Tryz.func182 rfl hf ?_ hro
  simp only [Tryz.ntmps182, List.size_toArray, List.length_cons, List.length_nil, Nat.reduceAdd, Nat.reduceSub, Array.replicate_succ, Array.replicate_zero, List.push_toArray, List.append_toArray, List.nil_append, List.cons_append]
  gi_wp2
  go_ret
  exact ⟨rfl, rfl⟩
theorem values_stops (F : Fence) (n : Nat) (hf : F.fn 222) (hro : F.round = none) (hn : 1 ≤ n) (Bs n₀ : Nat) (sv : Value) (X : List ByteArray) (hreach : X.length ≤ 1000000) (w : World) (hBs : Bs < w.heap.size) (hn₀ : n₀ ≤ w.heap.size)
    (hc : w.cell? ⟨Bs, 0, none⟩ = some sv) (w0 : World) (hw0 : w0.heap.size = n₀) (hI : TxAt w0 sv X) (hbl : Below n₀ w0 w) :
    SeqStopsK F n Tryz.prog 222 #[.pointer (some ⟨Bs, 0, none⟩)] (fun x : ByteArray => #[Value.string x]) (Below n₀) (fun ys => ys = X) (fun pre => pre <+: X) X.length w := fun l J Jx W hW _ _ hY h0 => by
  have hc' := (hW.cell (p := ⟨Bs, 0, none⟩) hBs).trans hc
  obtain ⟨a, cap, rfl, _, hcs⟩ := hI
  cases X with
  | nil => exact (values1_nil F n hf hro l Bs a cap J W hc' h0).mono fun e W' ⟨he, hj⟩ => ⟨he, .inl ⟨_, rfl, hj⟩⟩
  | cons x r =>
    obtain ⟨b, o, rfl, hcc⟩ := hcs (by simp)
    have hb : b < n₀ := by
      have := hcc 0 (by simp)
      rw [← hw0]
      exact lt_of_cell this
    refine (values1_in F n hf hro hn l Bs n₀ b o (x :: r).length cap (x :: r) hreach hb J Jx hY W hc' (fun j hj => ?_) h0).mono ?_
    · rw [(hbl.trans (hW.mono hn₀)).cell (p := ⟨b, o + j, none⟩) hb, hcc j hj, List.getElem?_eq_getElem hj]; rfl
    · rintro e W' ⟨he, ⟨ys, rfl, hj⟩ | ⟨pre, ⟨k, hk, rfl⟩, hj⟩⟩
      · exact ⟨he, .inl ⟨_, by rw [upT_take _ (Nat.le_refl _), List.take_length], hj⟩⟩
      · exact ⟨he, .inr ⟨_, by rw [upT_take _ hk]; exact List.take_prefix _ _, hj⟩⟩
set_option maxRecDepth 100000 in
set_option maxHeartbeats 4000000 in
theorem appSeq_in (F : Fence) (n : Nat) (hfa : F.fn 74) (hf : F.fn 222) (hro : F.round = none) (hn : 3 ≤ n) (X : List ByteArray) (hX : X.length ≤ 1000000) (sv : Value) (w : World) (Bs : Nat) (hBs : Bs < w.heap.size)
    (hc : w.cell? ⟨Bs, 0, none⟩ = some sv) (hI : TxAt w sv X) :
    CallsIn F n Tryz.prog 74 #[.slice none 0 0, .func (.func 222) #[] #[.pointer (some ⟨Bs, 0, none⟩)]] w fun e W' => ∃ v, e = .returned v ∧ W'.ownsRow w.heap.size 9 1 v X.length (X.map Value.string) ∧ (v = .slice none 0 0 ↔ X = []) ∧ Below w.heap.size w W' := by
  have h1 : 1 ≤ n := by omega
  obtain ⟨i0, hi, hz0, hz1, hz2⟩ := info_parts infoStr
  refine callsIn_of_wp_marks Tryz.func74 rfl hfa ?_ hro
  simp only [Tryz.ntmps74, List.size_toArray, List.length_cons, List.length_nil, Nat.reduceAdd, Nat.reduceSub, Array.replicate_succ, Array.replicate_zero, List.push_toArray, List.append_toArray, List.nil_append, List.cons_append]
  gi_wp2
  have bO := Boxed.new w 53 (.slice none 0 0)
  have hB0 : Below w.heap.size w (w.alloc (.cells #[.slice none 0 0] 53)) := (Below.refl _ w).alloc (Nat.le_refl _) _
  refine wpIn_rangeFunc_ownG hro h1 (gf := 222) (lb := #[.pointer (some ⟨Bs, 0, none⟩)]) rfl hf (enters_of Tryz.func222 (by kernel_rfl) rfl)
    (values_stops F (n - 1) hf hro (by omega) Bs w.heap.size sv X hX _ (by simp; omega) (by simp) ((hB0.cell (p := ⟨Bs, 0, none⟩) hBs).trans hc) w rfl hI hB0) belowK_t (belowK_b (by simp)) (Below.refl _ _) (fun _ => rfl)
    (fun pre W => (∃ v, Boxed W w.heap.size 53 v ∧ W.ownsRow w.heap.size 9 1 v pre.length (pre.map Value.string) ∧ (v = .slice none 0 0 ↔ pre = [])) ∧ Below w.heap.size w W)
    (fun _ _ _ => False)
    (OwnFrom.and (Own.from (holdsRow_own w.heap.size w.heap.size 53 9 1 (fun pre => pre.length) (fun pre => pre.map Value.string) (fun pre v => v = .slice none 0 0 ↔ pre = [])) _) (ownFrom_below (Nat.le_refl _) (by simp)))
    (fun _ _ _ _ _ hs _ _ => hs)
    ⟨⟨_, bO, World.ownsRow_nil _ _ _ _, by simp⟩, hB0⟩
    (fun x => { tmps := #[.slice none 0 0, .func (.func 222) #[] #[.pointer (some ⟨Bs, 0, none⟩)], .pointer (some ⟨w.heap.size, 0, none⟩), undef, .slice none 0 0, .string x, .func (.func 222) #[] #[.pointer (some ⟨Bs, 0, none⟩)], .string x, undef, undef, undef, undef, undef], defers := [] }) ?assign ?body ?done ?stop
  case assign =>
    intro l x W K hK
    gi_wp2
    exact hK
  case body =>
    rintro l pre x W ⟨⟨v, hv, hrow, hnil⟩, hB⟩ hlt
    have hc := hv.cell
    gi_wp2_with (gi_at_builtin; refine wpListIn_append_own _ rfl _ _ 53 rfl w.heap.size 9 i0 (.string ByteArray.empty) 1 16 Tryz.underlying53 hi hz0 hz1 hz2 rfl (by decide) _ _ _ rfl (hrow.alloc _) ⟨W.heap.size, 0, none⟩ 1 1 [.string x] rfl rfl (cell_one_new _ _ _) (by simp [Value.oneCell']) (by unfold maxLen; omega) (by omega) (by have := hB.size; simp; omega) ?_; intro v' w1 hown' hgrow _; obtain ⟨g', cap', rfl⟩ := ownsRow_succ hown'; obtain ⟨hv1, hv2, hr2, hk2, hb2⟩ := hv.appended (by decide) hrow hB.size (Nat.le_refl _) hown' hgrow; have hc1 := hv1.cell; have hf1 := hv1.frozen)
    exact ⟨hk2.from _, hb2, ⟨_, hv2, by simpa using hr2, by simp⟩, hB.trans hb2⟩
  case done =>
    rintro D ys W hD rfl ⟨⟨v, hv, hrow, hnil⟩, hB⟩ hK
    have hc := hv.cell
    gi_wp2
    refine ⟨by simp, .inl ⟨_, _, rfl, run_takeDeferred hK, ?_⟩⟩
    exact ⟨_, results_tmp rfl _ _ _, v, rfl, ownsRow_putObj hrow _ hK rfl, hnil, hB.trans (belowK_b (w := w) (Nat.le_refl _) W D _ _ (by simp at hD; omega) hK rfl rfl)⟩
  case stop =>
    rintro D c pre W _ _ h _
    exact h.elim
set_option maxHeartbeats 1000000 in
theorem collect_in (F : Fence) (n : Nat) (hfc : F.fn 40) (hfa : F.fn 74) (hf : F.fn 222) (hro : F.round = none) (hn : 4 ≤ n) (X : List ByteArray) (hX : X.length ≤ 1000000) (sv : Value) (w : World) (Bs : Nat) (hBs : Bs < w.heap.size)
    (hc : w.cell? ⟨Bs, 0, none⟩ = some sv) (hI : TxAt w sv X) :
    CallsIn F n Tryz.prog 40 #[.func (.func 222) #[] #[.pointer (some ⟨Bs, 0, none⟩)]] w fun e W' => ∃ v, e = .returned v ∧ W'.ownsRow w.heap.size 9 1 v X.length (X.map Value.string) ∧ (v = .slice none 0 0 ↔ X = []) ∧ Below w.heap.size w W' := by
  have h1 : 1 ≤ n := by omega
  refine callsIn_of_wp Tryz.func40 rfl hfc ?_ hro
  simp only [Tryz.ntmps40, List.size_toArray, List.length_cons, List.length_nil, Nat.reduceAdd, Nat.reduceSub, Array.replicate_succ, Array.replicate_zero, List.push_toArray, List.append_toArray, List.nil_append, List.cons_append]
  gi_wp2_with (gi_at_call 74; refine (appSeq_in F (n - 1) hfa hf hro (by omega) X hX sv _ Bs hBs hc hI).mono ?_; rintro e w' ⟨v, rfl, hrow, hnil, hb⟩)
  go_ret
  exact ⟨v, rfl, hrow, hnil, hb⟩
theorem collect_any (X : List ByteArray) (hX : X.length ≤ 1000000) (sv : Value) (w : World) (Bs : Nat) (hBs : Bs < w.heap.size) (hc : w.cell? ⟨Bs, 0, none⟩ = some sv) (hI : TxAt w sv X) :
    Calls Tryz.prog 40 #[.func (.func 222) #[] #[.pointer (some ⟨Bs, 0, none⟩)]] w fun e W' => ∃ v, e = .returned v ∧ W'.ownsRow w.heap.size 9 1 v X.length (X.map Value.string) ∧ (v = .slice none 0 0 ↔ X = []) ∧ Below w.heap.size w W' :=
  (callsIn_wide (n := 4)).1 (collect_in Fence.wide 4 trivial trivial trivial rfl (by omega) X hX sv w Bs hBs hc hI)
end Ve
end Go.Proofs.YtpafkniapacfdaaGreatDoor


namespace Go.Proofs.YtpafkniapacfdaaGreatDoor
open Go.RowKit
namespace Ve
def lnV (K : IntKind) (x : Ln) : Value := .agg #[.string x.1.1, .string x.1.2, .int K (x.2 : Nat)]
def LnAt (K : IntKind) (w : World) (v : Value) (X : List Ln) : Prop :=
  ∃ (a : Option Addr) (c : Nat), v = .slice a X.length c ∧ X.length ≤ c ∧ (X ≠ [] → ∃ b o, a = some ⟨b, o, none⟩ ∧ ∀ j (h : j < X.length), w.cell? ⟨b, o + j * 3, none⟩ = some (.string X[j].1.1) ∧ w.cell? ⟨b, o + j * 3 + 1, none⟩ = some (.string X[j].1.2) ∧ w.cell? ⟨b, o + j * 3 + 2, none⟩ = some (.int K (X[j].2 : Nat)))
theorem LnAt.below {K : IntKind} {w w' : World} {v : Value} {X : List Ln} (h : LnAt K w v X) (hb : Below w.heap.size w w') : LnAt K w' v X := by
  obtain ⟨a, c, e, hc, h⟩ := h
  refine ⟨a, c, e, hc, fun hL => ?_⟩
  obtain ⟨b, o, e2, h2⟩ := h hL
  exact ⟨b, o, e2, fun j hj => ⟨cell_below hb (h2 j hj).1, cell_below hb (h2 j hj).2.1, cell_below hb (h2 j hj).2.2⟩⟩
theorem LnAt.cells {K : IntKind} {w : World} {a : Option Addr} {n c : Nat} {X : List Ln} (h : LnAt K w (.slice a n c) X) {k : Nat} (hk : k < X.length) : ∃ b o, a = some ⟨b, o, none⟩ ∧ w.cell? ⟨b, o + k * 3, none⟩ = some (.string X[k].1.1) ∧ w.cell? ⟨b, o + k * 3 + 1, none⟩ = some (.string X[k].1.2) ∧ w.cell? ⟨b, o + k * 3 + 2, none⟩ = some (.int K (X[k].2 : Nat)) := by
  obtain ⟨a', c', e, hc, h⟩ := h
  obtain ⟨b, o, e2, h2⟩ := h (fun hn => by rw [hn] at hk; exact absurd hk (Nat.not_lt_zero _))
  refine ⟨b, o, ?_, h2 k hk⟩
  rw [← e2]; exact (Value.slice.inj e).1
def flatN (K : IntKind) (X : List Ln) : List Value := X.flatMap fun x => [.string x.1.1, .string x.1.2, .int K (x.2 : Nat)]
theorem flatN_len (K : IntKind) (X : List Ln) : (flatN K X).length = X.length * 3 := by
  induction X with
  | nil => rfl
  | cons r R ih =>
    have : flatN K (r :: R) = [.string r.1.1, .string r.1.2, .int K (r.2 : Nat)] ++ flatN K R := rfl
    rw [this, List.length_append, ih]
    show 3 + R.length * 3 = (R.length + 1) * 3
    omega
theorem flatN_app (K : IntKind) (D E : List Ln) : flatN K (D ++ E) = flatN K D ++ flatN K E := by simp [flatN]
theorem flatN_get (K : IntKind) : ∀ (D : List Ln) (j c : Nat) (hj : j < D.length) (_ : c < 3), (flatN K D)[j * 3 + c]? = [Value.string D[j].1.1, Value.string D[j].1.2, .int K (D[j].2 : Nat)][c]?
  | [], _, _, hj, _ => absurd hj (Nat.not_lt_zero _)
  | r :: R, 0, c, _, hc => by
    have : flatN K (r :: R) = [.string r.1.1, .string r.1.2, .int K (r.2 : Nat)] ++ flatN K R := rfl
    rw [this, List.getElem?_append_left (by show 0 * 3 + c < 3; omega)]
    simp
  | r :: R, j + 1, c, hj, hc => by
    have : flatN K (r :: R) = [.string r.1.1, .string r.1.2, .int K (r.2 : Nat)] ++ flatN K R := rfl
    rw [this, List.getElem?_append_right (by show 3 ≤ (j + 1) * 3 + c; omega), show (j + 1) * 3 + c - [Value.string r.1.1, Value.string r.1.2, .int K (r.2 : Nat)].length = j * 3 + c by simp; omega]
    exact flatN_get K R j c (by simpa using hj) hc
theorem own_ln {K : IntKind} {w : World} {base : Nat} {e : TypeId} {v : Value} {X : List Ln} (h : w.ownsRow base e 3 v X.length (flatN K X)) : LnAt K w v X := by
  obtain ⟨_, ⟨hv, hn0⟩ | ⟨g, cap, cur, hv, hg, hblk, hcap, hcm, hcs, hct⟩⟩ := h
  · exact ⟨none, 0, by rw [hv, hn0], by omega, fun hL => absurd (List.length_eq_zero_iff.1 hn0) hL⟩
  · refine ⟨_, cap, hv, hcap, fun _ => ⟨g, 0, rfl, fun j hj => ?_⟩⟩
    have go : ∀ c, c < 3 → w.cell? ⟨g, 0 + j * 3 + c, none⟩ = [Value.string X[j].1.1, Value.string X[j].1.2, .int K (X[j].2 : Nat)][c]? := fun c hc => by
      have h1 := flatN_get K X j c hj hc
      rw [← hct, List.getElem?_take, if_pos (by omega)] at h1
      simp only [World.cell?, hblk]
      rw [← h1]; simp
    exact ⟨by have := go 0 (by omega); simpa using this, by have := go 1 (by omega); simpa using this, by have := go 2 (by omega); simpa using this⟩
theorem flatN_one (K : IntKind) (X : List Ln) : ∀ u ∈ flatN K X, u.oneCell' = true := by
  intro u hu
  obtain ⟨m, _, hm⟩ := List.mem_flatMap.1 hu
  simp at hm
  rcases hm with rfl | rfl | rfl <;> rfl
set_option maxHeartbeats 1000000 in
theorem first_lns (K : Nat) (cb : Array Value) (E : Nat → Nat) (X : List Ln) (b o c : Nat) (A : Nat → Addr) (w : World) (eg : ∀ args w, (callFunc K args).run Tryz.prog w = .ok (.enter K args) w) (hX : X.length ≤ 1000000)
    (hc : ∀ j (h : j < X.length), w.cell? ⟨b, o + j * 3, none⟩ = some (.string X[j].1.1) ∧ w.cell? ⟨b, o + j * 3 + 1, none⟩ = some (.string X[j].1.2) ∧ w.cell? ⟨b, o + j * 3 + 2, none⟩ = some (.int .u32 (X[j].2 : Nat)))
    (hK : ∀ i (h : i < X.length) W, Below w.heap.size w W → Calls Tryz.prog K (#[.int .i64 (i : Int), .agg #[.string X[i].1.1, .string X[i].1.2, .int .u32 (X[i].2 : Nat)]] ++ cb) W fun e w' => e = .returned (errA A (E i)) ∧ Below W.heap.size W w') :
    Calls Tryz.prog 31 #[.slice (some ⟨b, o, none⟩) X.length c, .func (.func K) #[] cb] w fun e w' => ∃ v, e = .returned v ∧ ErrAt w' A v (codeE E X.length) (fstE E X.length) ∧ Below w.heap.size w w' := by
  have HK := hid hK
  have HC := hid hc
  clear hK hc
  go_enter Tryz.func31, Tryz.ntmps31
  go_wp2_with fail
  go_loopw [10] (fun i wr => ∃ k : Nat, k ≤ X.length ∧ i = .int .i64 k ∧ Hid (∀ j, j < k → E j = 0) ∧ Hid (Below w.heap.size w wr)) (fun i _ => X.length - (intOf i).toNat)
  case atStart => exact ⟨0, Nat.zero_le _, rfl, hid (fun j hj => absurd hj (by omega)), hid (Below.refl _ _)⟩
  case round =>
    obtain ⟨k, hk, rfl, HE, HB⟩ := hrel
    by_cases hlt : k < X.length
    · have hx := cell_below HB.out (HC.out k hlt).1
      have hy := cell_below HB.out (HC.out k hlt).2.1
      have hz := cell_below HB.out (HC.out k hlt).2.2
      have HBa := hid (HB.out.alloc HB.out.size (.cells #[.string X[k].1.1, .string X[k].1.2, .int .u32 (X[k].2 : Nat)] 44))
      have HP := hid (HK.out k hlt _ HBa.out)
      by_cases h0 : E k = 0
      · rw [h0, errA0] at HP
        go_wp2_with fail
        refine HP.out.mono ?_
        rintro e w1 ⟨rfl, hb1⟩
        have HB1 := hid (HBa.out.trans (hb1.mono HBa.out.size))
        clear hb1
        go_wp2_with fail
        go_roundw
        case rel => exact ⟨k + 1, by omega, by go_num, hid (fun j hj => by
          rcases Nat.lt_or_ge j k with h | h
          · exact HE.out j h
          · have : j = k := by omega
            rw [this]; exact h0), HB1⟩
        case measure => simp [intOf]; omega
      · rw [errA_if A h0] at HP
        have HF := hid (fstE_some HE.out h0 hlt)
        have H0 := hid h0
        clear h0
        go_wp2_with fail
        refine HP.out.mono ?_
        rintro e w1 ⟨rfl, hb1⟩
        have HB1 := hid (HBa.out.trans (hb1.mono HBa.out.size))
        clear hb1
        go_wp2_with fail
        go_ret
        refine ⟨_, rfl, ?_, HB1.out.alloc HB1.out.size _⟩
        rw [codeE_some HF.out, HF.out]
        exact fault_at H0.out _
    · have HF := hid (fstE_none (E := E) (n := X.length) (fun j hj => HE.out j (by omega)))
      go_wp2_with fail
      go_ret
      refine ⟨_, rfl, ?_, HB.out⟩
      rw [codeE_none HF.out, HF.out]
      rfl
theorem firstL_none (K : Nat) (cb : Array Value) (E : Nat → Nat) (a : Option Addr) (c : Nat) (A : Nat → Addr) (w : World) :
    Calls Tryz.prog 31 #[.slice a 0 c, .func (.func K) #[] cb] w fun e w' => ∃ v, e = .returned v ∧ ErrAt w' A v (codeE E 0) (fstE E 0) ∧ Below w.heap.size w w' := by
  go_enter Tryz.func31, Tryz.ntmps31
  go_wp2_with fail
  go_loopw [10] (fun i wr => i = .int .i64 0 ∧ wr = w) (fun i _ => 0)
  case atStart => exact ⟨rfl, rfl⟩
  case round =>
    obtain ⟨rfl, rfl⟩ := hrel
    go_wp2_with fail
    go_ret
    exact ⟨_, rfl, rfl, Below.refl _ _⟩
theorem firstL_any (K : Nat) (cb : Array Value) (E : Nat → Nat) (X : List Ln) (v : Value) (A : Nat → Addr) (w : World) (eg : ∀ args w, (callFunc K args).run Tryz.prog w = .ok (.enter K args) w) (hX : X.length ≤ 1000000) (hv : LnAt .u32 w v X)
    (hK : ∀ i (h : i < X.length) W, Below w.heap.size w W → Calls Tryz.prog K (#[.int .i64 (i : Int), .agg #[.string X[i].1.1, .string X[i].1.2, .int .u32 (X[i].2 : Nat)]] ++ cb) W fun e w' => e = .returned (errA A (E i)) ∧ Below W.heap.size W w') :
    Calls Tryz.prog 31 #[v, .func (.func K) #[] cb] w fun e w' => ∃ u, e = .returned u ∧ ErrAt w' A u (codeE E X.length) (fstE E X.length) ∧ Below w.heap.size w w' := by
  obtain ⟨a, c, rfl, _, h⟩ := hv
  cases X with
  | nil => exact firstL_none K cb E a c A w
  | cons x r =>
    obtain ⟨b, o, rfl, h2⟩ := h (by simp)
    exact first_lns K cb E (x :: r) b o c A w eg hX h2 hK
def idxL (P : Ln → Bool) (X : List Ln) : Int := match X.findIdx? P with
  | some k => (k : Int)
  | none => -1
theorem idxL_hit {P : Ln → Bool} {X : List Ln} {k : Nat} (hk : k < X.length) (h0 : ∀ j (hj : j < X.length), j < k → P X[j] = false) (h : P X[k] = true) : idxL P X = (k : Int) := by
  unfold idxL
  rw [List.findIdx?_eq_some_iff_getElem.2 ⟨hk, h, fun j hj => by simpa using h0 j (by omega) hj⟩]
theorem idxL_miss {P : Ln → Bool} {X : List Ln} (h0 : ∀ j (hj : j < X.length), P X[j] = false) : idxL P X = -1 := by
  unfold idxL
  rw [List.findIdx?_eq_none_iff.2 fun x hx => by obtain ⟨j, hj, rfl⟩ := List.getElem_of_mem hx; exact h0 j hj]
theorem idxL_next {P : Ln → Bool} {X : List Ln} {k : Nat} (hk : k < X.length) (h0 : ∀ j (hj : j < X.length), j < k → P X[j] = false) (h : P X[k] = false) : ∀ j (hj : j < X.length), j < k + 1 → P X[j] = false := fun j hj hjk => by
  rcases Nat.lt_or_ge j k with h1 | h1
  · exact h0 j hj h1
  · have : j = k := by omega
    subst this; exact h
set_option maxHeartbeats 1000000 in
theorem idxFL_some (K : Nat) (cb : Array Value) (P : Ln → Bool) (X : List Ln) (b o c : Nat) (w : World) (eg : ∀ args w, (callFunc K args).run Tryz.prog w = .ok (.enter K args) w) (hX : X.length ≤ 1000000)
    (hc : ∀ j (h : j < X.length), w.cell? ⟨b, o + j * 3, none⟩ = some (.string X[j].1.1) ∧ w.cell? ⟨b, o + j * 3 + 1, none⟩ = some (.string X[j].1.2) ∧ w.cell? ⟨b, o + j * 3 + 2, none⟩ = some (.int .u32 (X[j].2 : Nat)))
    (hK : ∀ x W, x ∈ X → Below w.heap.size w W → Calls Tryz.prog K (#[.agg #[.string x.1.1, .string x.1.2, .int .u32 (x.2 : Nat)]] ++ cb) W fun e w' => e = .returned (.bool (P x)) ∧ Below W.heap.size W w') :
    Calls Tryz.prog 68 #[.slice (some ⟨b, o, none⟩) X.length c, .func (.func K) #[] cb] w fun e w' => e = .returned (.int .i64 (idxL P X)) ∧ Below w.heap.size w w' := by
  have HK := hid hK
  have HC := hid hc
  have HHIT := hid (fun (k : Nat) (hk : k < X.length) h0 h => idxL_hit (P := P) hk h0 h)
  have HMISS := hid (fun h0 => idxL_miss (P := P) (X := X) h0)
  have HNEXT := hid (fun (k : Nat) (hk : k < X.length) h0 h => idxL_next (P := P) hk h0 h)
  generalize idxL P X = ans at *
  clear hK hc
  go_enter Tryz.func68, Tryz.ntmps68
  go_wp2_with fail
  go_loopw [8] (fun i wr => ∃ k : Nat, k ≤ X.length ∧ i = .int .i64 k ∧ Hid (∀ j (hj : j < X.length), j < k → P X[j] = false) ∧ Hid (Below w.heap.size w wr)) (fun i _ => X.length - (intOf i).toNat)
  case atStart => exact ⟨0, Nat.zero_le _, rfl, hid (fun j _ hj => absurd hj (by omega)), hid (Below.refl _ _)⟩
  case round =>
    obtain ⟨k, hk, rfl, HE, HB⟩ := hrel
    by_cases hlt : k < X.length
    · have hx := cell_below HB.out (HC.out k hlt).1
      have hy := cell_below HB.out (HC.out k hlt).2.1
      have hz := cell_below HB.out (HC.out k hlt).2.2
      have HP := hid (HK.out X[k] wr (List.getElem_mem hlt) HB.out)
      have HH := hid (HHIT.out k hlt HE.out)
      have HN := hid (HNEXT.out k hlt HE.out)
      have HLT := hid hlt
      generalize hq : P X[k] = q at *
      cases q
      · have HN2 := hid (HN.out rfl)
        clear hq
        go_wp2_with fail
        refine HP.out.mono ?_
        rintro e w1 ⟨rfl, hb1⟩
        have HB1 := hid (HB.out.trans (hb1.mono HB.out.size))
        clear hb1
        go_wp2_with fail
        go_roundw
        case rel => exact ⟨k + 1, by omega, by go_num, HN2, HB1⟩
        case measure => simp [intOf]; omega
      · have HH2 := hid (HH.out rfl)
        clear hq
        go_wp2_with fail
        refine HP.out.mono ?_
        rintro e w1 ⟨rfl, hb1⟩
        have HB1 := hid (HB.out.trans (hb1.mono HB.out.size))
        clear hb1
        go_wp2_with fail
        go_ret
        exact ⟨congrArg (fun z => Ending.returned (Value.int .i64 z)) HH2.out.symm, HB1.out⟩
    · have HM := hid (HMISS.out fun j hj => HE.out j hj (by omega))
      go_wp2_with fail
      go_ret
      exact ⟨congrArg (fun z => Ending.returned (Value.int .i64 z)) HM.out.symm, HB.out⟩
theorem idxFL_none (K : Nat) (cb : Array Value) (a : Option Addr) (c : Nat) (w : World) :
    Calls Tryz.prog 68 #[.slice a 0 c, .func (.func K) #[] cb] w fun e w' => e = .returned (.int .i64 (-1)) ∧ Below w.heap.size w w' := by
  go_enter Tryz.func68, Tryz.ntmps68
  go_wp2_with fail
  go_loopw [8] (fun i wr => i = .int .i64 0 ∧ wr = w) (fun i _ => 0)
  case atStart => exact ⟨rfl, rfl⟩
  case round =>
    obtain ⟨rfl, rfl⟩ := hrel
    go_wp2_with fail
    go_ret
    exact ⟨rfl, Below.refl _ _⟩
theorem idxFL_any (K : Nat) (cb : Array Value) (P : Ln → Bool) (X : List Ln) (v : Value) (w : World) (eg : ∀ args w, (callFunc K args).run Tryz.prog w = .ok (.enter K args) w) (hX : X.length ≤ 1000000) (hv : LnAt .u32 w v X)
    (hK : ∀ x W, x ∈ X → Below w.heap.size w W → Calls Tryz.prog K (#[.agg #[.string x.1.1, .string x.1.2, .int .u32 (x.2 : Nat)]] ++ cb) W fun e w' => e = .returned (.bool (P x)) ∧ Below W.heap.size W w') :
    Calls Tryz.prog 68 #[v, .func (.func K) #[] cb] w fun e w' => e = .returned (.int .i64 (idxL P X)) ∧ Below w.heap.size w w' := by
  obtain ⟨a, c, rfl, _, h⟩ := hv
  cases X with
  | nil => exact idxFL_none K cb a c w
  | cons x r =>
    obtain ⟨b, o, rfl, h2⟩ := h (by simp)
    exact idxFL_some K cb P (x :: r) b o c w eg hX h2 hK
end Ve
end Go.Proofs.YtpafkniapacfdaaGreatDoor
