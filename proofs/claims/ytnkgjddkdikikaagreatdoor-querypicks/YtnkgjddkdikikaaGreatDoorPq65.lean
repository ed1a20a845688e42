/-
  LkC RtB
-/
import Derived.Test.YtnkgjddkdikikaaGreatDoorPq3
import Derived.Test.YtnkgjddkdikikaaGreatDoorPq4
import Derived.Test.YtnkgjddkdikikaaGreatDoorPq7
import Derived.Test.YtnkgjddkdikikaaGreatDoorPq10
import Derived.Test.YtnkgjddkdikikaaGreatDoorPq13
import Derived.Test.YtnkgjddkdikikaaGreatDoorPq23
import Derived.Test.YtnkgjddkdikikaaGreatDoorPq27
import Derived.Test.YtnkgjddkdikikaaGreatDoorPq24
import Derived.Test.YtnkgjddkdikikaaGreatDoorPq29
import Derived.Test.YtnkgjddkdikikaaGreatDoorPq31
import Derived.Test.YtnkgjddkdikikaaGreatDoorPq12
import Derived.Test.YtnkgjddkdikikaaGreatDoorPq5
import Derived.Test.YtnkgjddkdikikaaGreatDoorPq32
import Derived.Test.YtnkgjddkdikikaaGreatDoorPq37
import Derived.Test.YtnkgjddkdikikaaGreatDoorPq34
import Derived.Test.YtnkgjddkdikikaaGreatDoorPq64
import Derived.Test.YtnkgjddkdikikaaGreatDoorPq2
import Derived.Test.YtnkgjddkdikikaaGreatDoorPq30
import Derived.Test.YtnkgjddkdikikaaGreatDoorPq1
import Derived.Test.YtnkgjddkdikikaaGreatDoorPq69
import Derived.Test.YtnkgjddkdikikaaGreatDoorPq35
namespace Go.Proofs.YtnkgjddkdikikaaGreatDoor
open Go.RowKit Go.Maps
namespace Ve
structure VerOk (Q : List Raw) (t : ByteArray) (X : List ByteArray) : Prop where
  at_ : ∀ j (hj : j < X.length), ∃ k, ∃ hk : k < Q.length, idxOf (isM (t, X[j])) Q = (k : Int) ∧ Q[k].1.2 = X[j] ∧ verErr X[j].data.toList = 0 ∧ X[j].size < 999999 ∧ rkV Q t X[j] = rnk Q[k]
theorem verOk_of {Q : List Raw} {t : ByteArray} {X : List ByteArray} (g : Good Q) (hz : ∀ r, r ∈ Q → r.1.1.size ≤ 80 ∧ r.1.2.size ≤ 80) (hK : Kept (verL (ofP t Q)) (verL (ofP t Q)).length X) : VerOk Q t X := ⟨fun j hj => by
  obtain ⟨n, h⟩ := one_of g hK (List.getElem_mem hj)
  have hq := h.mem
  have h1 := g.ofP_mem.1 hq
  refine ⟨n, h.lt, h.idx, h.same, h.ver, ?_, ?_⟩
  · have := (hz _ h1.1).2
    rw [h.same] at this
    omega
  · have h2 := rkV_at g h1.1
    rw [h1.2, h.same] at h2
    exact h2⟩
set_option maxRecDepth 100000 in
set_option maxHeartbeats 4000000 in
theorem liked_any (Q : List Raw) (t : ByteArray) (X : List ByteArray) (v u : Value) (w : World) (hL : Q.length ≤ 1000) (hX : X.length ≤ 1000000) (hok : VerOk Q t X) (hv : EsAt w v Q) (hu : TxAt w u X) :
    Calls Tryz.prog 94 #[v, .string t, u, .bool false] w fun e w' => e = .returned (.string (likN Q t X X.length).1) ∧ Below w.heap.size w w' := by
  have HRK := hid (fun j (hj : j < X.length) W (h : Below w.heap.size w W) => show Calls Tryz.prog 158 #[v, .string t, .string X[j]] W fun e w' => e = .returned (.int .i64 (rkV Q t X[j] : Nat)) ∧ Below W.heap.size W w' by
    obtain ⟨k, hk, h1, h2, h3, h4, h5⟩ := hok.at_ j hj
    rw [h5]
    exact rank_any Q t X[j] k v W hL h4 hk h1 h2 h3 (hv.below h))
  have HU := hid (fun W (h : Below w.heap.size w W) => hu.below h)
  obtain ⟨va, vc, hv1, -⟩ := id hv
  subst hv1
  obtain ⟨ua, uc, hu1, -⟩ := id hu
  subst hu1
  clear hv hu hok
  go_enter Tryz.func94, Tryz.ntmps94
  go_wp2_with fail
  go_loopw [9, 10, 11] (fun bv rv iv wr => ∃ i : Nat, i ≤ X.length ∧ iv = .int .i64 i ∧ bv = .string (likN Q t X i).1 ∧ rv = .int .i64 (likN Q t X i).2 ∧ Hid (Below w.heap.size w wr)) (fun _ _ iv _ => X.length - (intOf iv).toNat)
  case atStart => exact ⟨0, Nat.zero_le _, rfl, rfl, rfl, hid (Below.refl _ _)⟩
  case round =>
    obtain ⟨i, hi, rfl, rfl, rfl, HB⟩ := hrel
    by_cases hlt : i < X.length
    · have hiI := ix_lt hlt
      have hii := ix_pos i
      have HLI := hid hlt
      obtain ⟨b, o, hua, y0⟩ := tx_cellK (HU.out _ HB.out) hlt
      subst hua
      have HRI := hid (HRK.out i hlt wr HB.out)
      have HNX := hid (likN_next (Q := Q) (t := t) hlt)
      unfold likS at HNX
      generalize X[i] = x at *
      generalize rkV Q t x = z at *
      obtain ⟨s, hs⟩ : ∃ s, likN Q t X i = s := ⟨_, rfl⟩
      rw [hs] at HNX ⊢
      obtain ⟨bs, br⟩ := s
      simp only at HNX ⊢
      clear hlt hs
      rcases Int.lt_trichotomy br (z : Int) with hc | hc | hc
      · rw [if_pos (Int.le_of_lt hc)] at HNX
        go_wp2_with fail
        refine HRI.out.mono ?_
        rintro e w1 ⟨rfl, hb⟩
        have HB1 := hid (HB.out.trans (hb.mono HB.out.size))
        have y1 := cell_below hb y0
        clear hb
        go_wp2_with fail
        go_roundw
        case rel => first | exact ⟨i + 1, HLI.out, nr_idx i, by rw [HNX.out], by rw [HNX.out], HB1⟩ | exact ⟨i + 1, HLI.out, nx_idx HLI.out hX, by rw [HNX.out], by rw [HNX.out], HB1⟩
        case measure => first | exact nr_meas HLI.out | exact nx_meas HLI.out hX
      · subst hc
        rw [if_pos (Int.le_refl _)] at HNX
        have hn1 : ¬ ((z : Nat) : Int) < ((z : Nat) : Int) := Int.lt_irrefl _
        have hn2 : (((z : Nat) : Int) == ((z : Nat) : Int)) = true := beq_self_eq_true _
        go_wp2_with fail
        refine HRI.out.mono ?_
        rintro e w1 ⟨rfl, hb⟩
        have HB1 := hid (HB.out.trans (hb.mono HB.out.size))
        have y1 := cell_below hb y0
        clear hb
        go_wp2_with fail
        go_roundw
        case rel => first | exact ⟨i + 1, HLI.out, nr_idx i, by rw [HNX.out], by rw [HNX.out], HB1⟩ | exact ⟨i + 1, HLI.out, nx_idx HLI.out hX, by rw [HNX.out], by rw [HNX.out], HB1⟩
        case measure => first | exact nr_meas HLI.out | exact nx_meas HLI.out hX
      · rw [if_neg (Int.not_le.2 hc)] at HNX
        have hn1 : ¬ br < ((z : Nat) : Int) := Int.not_lt.2 (Int.le_of_lt hc)
        have hn2 : (((z : Nat) : Int) == br) = false := by rw [beq_eq_false_iff_ne]; exact Int.ne_of_lt hc
        have hn3 : ¬ ((z : Nat) : Int) = br := Int.ne_of_lt hc
        go_wp2_with fail
        refine HRI.out.mono ?_
        rintro e w1 ⟨rfl, hb⟩
        have HB1 := hid (HB.out.trans (hb.mono HB.out.size))
        clear hb
        go_wp2_with fail
        go_roundw
        case rel => first | exact ⟨i + 1, HLI.out, nr_idx i, by rw [HNX.out], by rw [HNX.out], HB1⟩ | exact ⟨i + 1, HLI.out, nx_idx HLI.out hX, by rw [HNX.out], by rw [HNX.out], HB1⟩
        case measure => first | exact nr_meas HLI.out | exact nx_meas HLI.out hX
    · have hiI := ix_nlt hlt
      have hie : i = X.length := Nat.le_antisymm hi (Nat.le_of_not_lt hlt)
      subst hie
      clear hlt
      go_wp2_with fail
      go_ret
      exact ⟨rfl, HB.out⟩
end Ve
end Go.Proofs.YtnkgjddkdikikaaGreatDoor
namespace Go.Proofs.YtnkgjddkdikikaaGreatDoor
open Go.RowKit Go.Maps
namespace Ve
theorem nonE_five {Q : List Raw} {R : List Bm} : codeE (nonE Q R) R.length = 0 ∨ codeE (nonE Q R) R.length = 5 := by
  unfold codeE
  cases h : fstE (nonE Q R) R.length with
  | none => exact Or.inl rfl
  | some j =>
    obtain ⟨h1, h2, _⟩ := fstE_of_some h
    show nonE Q R j = 0 ∨ nonE Q R j = 5
    rw [nonE_at h1] at h2 ⊢
    unfold nonW at h2 ⊢
    by_cases h3 : idxOf (isM R[j]) Q < 0
    · rw [if_pos h3]; exact Or.inr rfl
    · rw [if_neg h3]; exact Or.inl rfl
theorem reqE2_bad {Q : List Raw} {L : List Ent} {i k : Nat} (hi : i < L.length) (hk : k < L[i].2.1.length) (h : idxOf (isM L[i].2.1[k]) Q < 0) : reqE2 Q L i = 5 := by
  rw [reqE2_at hi]
  rcases nonE_five (Q := Q) (R := L[i].2.1) with h1 | h1
  · exfalso
    unfold codeE at h1
    cases h2 : fstE (nonE Q L[i].2.1) L[i].2.1.length with
    | none =>
      have := fstE_of_none h2 k hk
      rw [nonE_at hk] at this
      unfold nonW at this
      rw [if_pos h] at this; cases this
    | some j =>
      rw [h2] at h1
      exact (fstE_of_some h2).2.1 h1
  · exact h1
theorem reqE2_good {Q : List Raw} {L : List Ent} {i : Nat} (hi : i < L.length) (h : ∀ k (hk : k < L[i].2.1.length), 0 ≤ idxOf (isM L[i].2.1[k]) Q) : reqE2 Q L i = 0 := by
  rw [reqE2_at hi]
  exact codeE_none (fstE_none fun j hj => by
    rw [nonE_at hj]
    unfold nonW
    rw [if_neg (Int.not_lt.2 (h j hj))])
set_option maxRecDepth 100000 in
set_option maxHeartbeats 8000000 in
theorem iFault_some (Q : List Raw) (L : List Ent) (b o c : Nat) (w : World) (hn : L.length ≤ 1000) (sh : ∀ e, e ∈ L → ShE e) (I : Ixs w (.slice (some ⟨b, o, none⟩) Q.length c) Q L) (h0 : 0 < L.length) :
    Calls Tryz.prog 90 #[.slice (some ⟨b, o, none⟩) Q.length c] w fun e w' => e = .returned (faultV (chk Q L)) ∧ Below w.heap.size w w' := by
  have HLN := hid I.ln
  have hqn : Q.length ≤ 1000 := by rw [I.ln]; exact hn
  have HB0 := hid ((Below.refl w.heap.size w).alloc (Nat.le_refl _) (.cells #[.int .i64 0, .int .i64 0] 62))
  have HE0 := hid (heap_new w (.cells #[.int .i64 0, .int .i64 0] 62))
  by_cases h1 : 100 < L.length
  · have q1 : (100 : Int) < (Q.length : Int) := by have := HLN.out; omega
    have HBR := hid (fun W => rbare_any 7 W)
    have HX := hid (chk_full (Q := Q) h1)
    clear I sh h1
    go_enter Tryz.func90, Tryz.ntmps90
    go_wp2_with fail
    refine (HBR.out _).mono ?_
    rintro e w1 ⟨rfl, hb⟩
    have HB1 := hid (HB0.out.trans (hb.mono HB0.out.size))
    have HE1 := hid ((hb.block _ (lt_of_blk HE0.out)).trans HE0.out)
    clear hb
    have s0 : w1.cell? ⟨w.heap.size, 0, none⟩ = some (.int .i64 0) := by rw [Lib.cell_of_heap HE1.out]; rfl
    have s1 : w1.cell? ⟨w.heap.size, 1, none⟩ = some (.int .i64 0) := by rw [Lib.cell_of_heap HE1.out]; rfl
    have tf := fun o => Lib.frozen_of_heap HE1.out o
    go_wp2_with fail
    refine bodyPost_ret (v := .agg #[.int .i64 7, .int .i64 (-1)]) (by simp [results, Tryz.results90, go_sem, s0, s1]) rfl ⟨by rw [HX.out]; rfl, ?_⟩
    exact put2_below HB1.out (Nat.le_refl _)
  · have q1 : ¬ (100 : Int) < (Q.length : Int) := by have := HLN.out; omega
    have HEN := hid (fun i (hi : i < L.length) W (h : Below w.heap.size w W) => entE_any Q L _ i W hn sh (I.below h) hi)
    have HFO := hid (fun m W (h : Below w.heap.size w W) => findOf_any Q m _ W (by omega) (by have := HLN.out; omega) (I.below h).es)
    have HFN := hid (fun W => fine_any W)
    have HI := hid I
    have HSZ := hid sh
    have H1 := hid h1
    clear I sh h1 hn h0
    go_enter Tryz.func90, Tryz.ntmps90
    go_wp2_with fail
    go_loopw [3] (fun iv wr => ∃ i : Nat, i ≤ Q.length ∧ iv = .int .i64 i ∧ Hid (∀ j, j < i → entE L j = 0) ∧ Hid (Below w.heap.size w wr) ∧ Hid (wr.heap[w.heap.size]? = some (.cells #[.int .i64 0, .int .i64 0] 62 (0, 0)))) (fun iv _ => Q.length - (intOf iv).toNat)
    case atStart => exact ⟨0, Nat.zero_le _, rfl, hid (fun j h => absurd h (Nat.not_lt_zero _)), HB0, HE0⟩
    case round =>
      obtain ⟨i, hi, rfl, HZ, HBr, HEr⟩ := hrel
      by_cases hlt : i < Q.length
      · have hiI : (i : Int) < (Q.length : Int) := by omega
        have HLT := hid hlt
        have hil : i < L.length := by rw [← HLN.out]; exact hlt
        have HE := hid (HEN.out i hil _ HBr.out)
        have HNX := hid (show entE L i = 0 → ∀ j, j < i + 1 → entE L j = 0 from fun h => zero_next HZ.out h)
        have HBD := hid (show entE L i ≠ 0 → chk Q L = (entE L i, some i) from fun h => chk_each H1.out (fstE_some HZ.out h hil))
        generalize entE L i = z at *
        clear hlt hil
        by_cases hz : z = 0
        · subst hz
          have HN2 := hid (HNX.out rfl)
          go_wp2_with fail
          refine HE.out.mono ?_
          rintro e w1 ⟨rfl, hb⟩
          have HB1 := hid (HBr.out.trans (hb.mono HBr.out.size))
          have HE1 := hid ((hb.block _ (lt_of_blk HEr.out)).trans HEr.out)
          clear hb
          go_wp2_with fail
          go_roundw
          case rel => first | exact ⟨i + 1, HLT.out, nr_idx i, HN2, HB1, HE1⟩ | exact ⟨i + 1, HLT.out, nx_idx HLT.out (by omega), HN2, HB1, HE1⟩
          case measure => first | exact nr_meas HLT.out | exact nx_meas HLT.out (by omega)
        · have HX := hid (HBD.out hz)
          have hpos : (0 : Int) < (z : Int) := by omega
          clear hz
          go_wp2_with fail
          refine HE.out.mono ?_
          rintro e w1 ⟨rfl, hb⟩
          have HB1 := hid (HBr.out.trans (hb.mono HBr.out.size))
          have HE1 := hid ((hb.block _ (lt_of_blk HEr.out)).trans HEr.out)
          clear hb
          have s0 : w1.cell? ⟨w.heap.size, 0, none⟩ = some (.int .i64 0) := by rw [Lib.cell_of_heap HE1.out]; rfl
          have s1 : w1.cell? ⟨w.heap.size, 1, none⟩ = some (.int .i64 0) := by rw [Lib.cell_of_heap HE1.out]; rfl
          have tf := fun o => Lib.frozen_of_heap HE1.out o
          go_wp2_with fail
          refine bodyPost_ret (v := .agg #[.int .i64 (z : Int), .int .i64 (i : Int)]) (by simp [results, Tryz.results90, go_sem, s0, s1]) rfl ⟨by rw [HX.out]; rfl, ?_⟩
          exact put2_below HB1.out (Nat.le_refl _)
      · have hiI : ¬ (i : Int) < (Q.length : Int) := by omega
        have HNE := hid (show fstE (entE L) L.length = none from fstE_none fun j hj => HZ.out j (by have := HLN.out; omega))
        have HX0 := hid (chk_reqs (Q := Q) H1.out HNE.out)
        clear hlt HZ HEN
        go_wp2_with fail
        go_loopw [5] (fun iv wr => ∃ i : Nat, i ≤ Q.length ∧ iv = .int .i64 i ∧ Hid (∀ j, j < i → reqE2 Q L j = 0) ∧ Hid (Below w.heap.size w wr) ∧ Hid (wr.heap[w.heap.size]? = some (.cells #[.int .i64 0, .int .i64 0] 62 (0, 0)))) (fun iv _ => Q.length - (intOf iv).toNat)
        case atStart => exact ⟨0, Nat.zero_le _, rfl, hid (fun j h => absurd h (Nat.not_lt_zero _)), HBr, HEr⟩
        case round =>
          obtain ⟨i2, hi2, rfl, HZ2, HB2, HE2⟩ := hrel
          by_cases hqi : i2 < Q.length
          · have hlt : i2 < L.length := by rw [← HLN.out]; exact hqi
            have hiI2 : (i2 : Int) < (Q.length : Int) := by omega
            have hi00 : (0 : Int) ≤ (i2 : Int) := by omega
            have HLI := hid hqi
            have HCE := hid (fun W (h : Below w.heap.size w W) => (es_all (HI.out.below h).es hqi).2.2.2.1)
            have HMR := hid (fun W (h : Below w.heap.size w W) => ((HI.out.below h).ok i2 hqi hlt).rq)
            have HNX := hid (show reqE2 Q L i2 = 0 → ∀ j, j < i2 + 1 → reqE2 Q L j = 0 from fun h => zero_next HZ2.out h)
            have HGD := hid (reqE2_good (Q := Q) hlt)
            have HBD := hid (fun k (hk : k < L[i2].2.1.length) h => show chk Q L = (5, some i2) by
              have h5 := reqE2_bad (Q := Q) hlt hk h
              have hs := fstE_some HZ2.out (by rw [h5]; decide) hlt
              rw [HX0.out, hs, codeE_some hs, h5])
            have hRl := (HSZ.out L[i2] (List.getElem_mem hlt)).rn
            generalize (L[i2]'hlt).2.1 = R at *
            generalize (Q[i2]'hqi).2.1 = rv at *
            obtain ⟨ra, rc, hrv, -⟩ := HMR.out w (Below.refl _ _)
            subst hrv
            clear hlt hqi
            go_wp2_with fail
            go_loopw [6] (fun kv wr => ∃ k : Nat, k ≤ R.length ∧ kv = .int .i64 k ∧ Hid (∀ j (h : j < R.length), j < k → 0 ≤ idxOf (isM R[j]) Q) ∧ Hid (Below w.heap.size w wr) ∧ Hid (wr.heap[w.heap.size]? = some (.cells #[.int .i64 0, .int .i64 0] 62 (0, 0)))) (fun kv _ => R.length - (intOf kv).toNat)
            case atStart => exact ⟨0, Nat.zero_le _, rfl, hid (fun j _ h => absurd h (Nat.not_lt_zero _)), HB2, HE2⟩
            case round =>
              obtain ⟨k, hk, rfl, HZ3, HB3, HE3⟩ := hrel
              have x2 := HCE.out _ HB3.out
              by_cases hlk : k < R.length
              · have hkI : (k : Int) < (R.length : Int) := by omega
                have hk0 : (0 : Int) ≤ (k : Int) := by omega
                obtain ⟨xb, xo, hxa, y0, y1⟩ := (HMR.out _ HB3.out).cells hlk
                subst hxa
                have HLK := hid hlk
                have HF := hid (HFO.out R[k] _ HB3.out)
                have HNK := hid (show 0 ≤ idxOf (isM R[k]) Q → ∀ j (h : j < R.length), j < k + 1 → 0 ≤ idxOf (isM R[j]) Q from fun h0 j h1 h3 => by
                  rcases Nat.lt_or_ge j k with h | h
                  · exact HZ3.out j h1 h
                  · have : j = k := by omega
                    subst this; exact h0)
                have HBK := hid (HBD.out k hlk)
                generalize R[k] = x at *
                obtain ⟨x1, x2'⟩ := x
                generalize idxOf (isM (x1, x2')) Q = ix at *
                clear hlk
                by_cases hix : ix < 0
                · have HX := hid (HBK.out hix)
                  go_wp2_with fail
                  refine HF.out.mono ?_
                  rintro e w1 ⟨rfl, hb⟩
                  have HB4 := hid (HB3.out.trans (hb.mono HB3.out.size))
                  have HE4 := hid ((hb.block _ (lt_of_blk HE3.out)).trans HE3.out)
                  clear hb
                  have s0 : w1.cell? ⟨w.heap.size, 0, none⟩ = some (.int .i64 0) := by rw [Lib.cell_of_heap HE4.out]; rfl
                  have s1 : w1.cell? ⟨w.heap.size, 1, none⟩ = some (.int .i64 0) := by rw [Lib.cell_of_heap HE4.out]; rfl
                  have tf := fun o => Lib.frozen_of_heap HE4.out o
                  go_wp2_with fail
                  refine bodyPost_ret (v := .agg #[.int .i64 5, .int .i64 (i2 : Int)]) (by simp [results, Tryz.results90, go_sem, s0, s1]) rfl ⟨by rw [HX.out]; rfl, ?_⟩
                  exact put2_below HB4.out (Nat.le_refl _)
                · have HN2 := hid (HNK.out (Int.not_lt.1 hix))
                  go_wp2_with fail
                  refine HF.out.mono ?_
                  rintro e w1 ⟨rfl, hb⟩
                  have HB4 := hid (HB3.out.trans (hb.mono HB3.out.size))
                  have HE4 := hid ((hb.block _ (lt_of_blk HE3.out)).trans HE3.out)
                  clear hb
                  go_wp2_with fail
                  go_roundw
                  case rel => first | exact ⟨k + 1, HLK.out, nr_idx k, HN2, HB4, HE4⟩ | exact ⟨k + 1, HLK.out, nx_idx HLK.out hRl, HN2, HB4, HE4⟩
                  case measure => first | exact nr_meas HLK.out | exact nx_meas HLK.out hRl
              · have hkI : ¬ (k : Int) < (R.length : Int) := by omega
                have HN2 := hid (HNX.out (HGD.out (fun j h => HZ3.out j h (by omega))))
                clear hlk
                go_wp2_with fail
                go_roundw
                case rel => first | exact ⟨i2 + 1, HLI.out, nr_idx i2, HN2, HB3, HE3⟩ | exact ⟨i2 + 1, HLI.out, nx_idx HLI.out (by omega), HN2, HB3, HE3⟩
                case measure => first | exact nr_meas HLI.out | exact nx_meas HLI.out (by omega)
          · have hiI2 : ¬ (i2 : Int) < (Q.length : Int) := by omega
            have HX := hid (show chk Q L = (0, none) by
              have hs := fstE_none (E := reqE2 Q L) (n := L.length) (fun j hj => HZ2.out j (by have := HLN.out; omega))
              rw [HX0.out, hs, codeE_none hs])
            clear hqi
            go_wp2_with fail
            refine (HFN.out _).mono ?_
            rintro e w1 ⟨rfl, hb⟩
            have HB4 := hid (HB2.out.trans (hb.mono HB2.out.size))
            have HE4 := hid ((hb.block _ (lt_of_blk HE2.out)).trans HE2.out)
            clear hb
            have s0 : w1.cell? ⟨w.heap.size, 0, none⟩ = some (.int .i64 0) := by rw [Lib.cell_of_heap HE4.out]; rfl
            have s1 : w1.cell? ⟨w.heap.size, 1, none⟩ = some (.int .i64 0) := by rw [Lib.cell_of_heap HE4.out]; rfl
            have tf := fun o => Lib.frozen_of_heap HE4.out o
            go_wp2_with fail
            refine bodyPost_ret (v := .agg #[.int .i64 0, .int .i64 (-1)]) (by simp [results, Tryz.results90, go_sem, s0, s1]) rfl ⟨by rw [HX.out]; rfl, ?_⟩
            exact put2_below HB4.out (Nat.le_refl _)
theorem iFault_none (a : Option Addr) (c : Nat) (w : World) : Calls Tryz.prog 90 #[.slice a 0 c] w fun e w' => e = .returned (faultV (0, none)) ∧ Below w.heap.size w w' := by
  have HB0 := hid ((Below.refl w.heap.size w).alloc (Nat.le_refl _) (.cells #[.int .i64 0, .int .i64 0] 62))
  have HE0 := hid (heap_new w (.cells #[.int .i64 0, .int .i64 0] 62))
  have HFN := hid (fun W => fine_any W)
  go_enter Tryz.func90, Tryz.ntmps90
  go_wp2_with fail
  go_loopw [3] (fun i wr => i = .int .i64 0 ∧ Hid (wr = w.alloc (.cells #[.int .i64 0, .int .i64 0] 62))) (fun i _ => 0)
  case atStart => exact ⟨rfl, hid rfl⟩
  case round =>
    obtain ⟨rfl, HW⟩ := hrel
    obtain rfl := HW.out
    clear HW
    go_wp2_with fail
    go_loopw [5] (fun i wr => i = .int .i64 0 ∧ Hid (wr = w.alloc (.cells #[.int .i64 0, .int .i64 0] 62))) (fun i _ => 0)
    case atStart => exact ⟨rfl, hid rfl⟩
    case round =>
      obtain ⟨rfl, HW⟩ := hrel
      obtain rfl := HW.out
      clear HW
      go_wp2_with fail
      refine (HFN.out _).mono ?_
      rintro e w1 ⟨rfl, hb⟩
      have HB4 := hid (HB0.out.trans (hb.mono HB0.out.size))
      have HE4 := hid ((hb.block _ (lt_of_blk HE0.out)).trans HE0.out)
      clear hb
      have s0 : w1.cell? ⟨w.heap.size, 0, none⟩ = some (.int .i64 0) := by rw [Lib.cell_of_heap HE4.out]; rfl
      have s1 : w1.cell? ⟨w.heap.size, 1, none⟩ = some (.int .i64 0) := by rw [Lib.cell_of_heap HE4.out]; rfl
      have tf := fun o => Lib.frozen_of_heap HE4.out o
      go_wp2_with fail
      refine bodyPost_ret (v := .agg #[.int .i64 0, .int .i64 (-1)]) (by simp [results, Tryz.results90, go_sem, s0, s1]) rfl ⟨rfl, ?_⟩
      exact put2_below HB4.out (Nat.le_refl _)
theorem iFault_any (Q : List Raw) (L : List Ent) (v : Value) (w : World) (hn : L.length ≤ 1000) (sh : ∀ e, e ∈ L → ShE e) (I : Ixs w v Q L) :
    Calls Tryz.prog 90 #[v] w fun e w' => e = .returned (faultV (chk Q L)) ∧ Below w.heap.size w w' := by
  obtain ⟨a, c, rfl, _, _, h⟩ := id I.es
  by_cases hQ : Q = []
  · subst hQ
    have hl : L = [] := List.length_eq_zero_iff.1 I.ln.symm
    subst hl
    exact iFault_none a c w
  · obtain ⟨b, o, rfl, _⟩ := h hQ
    exact iFault_some Q L b o c w hn sh I (by rw [← I.ln]; exact List.length_pos_iff.2 hQ)
end Ve
end Go.Proofs.YtnkgjddkdikikaaGreatDoor
