/-
  What the document's answer says of an index (IndexFault).
-/
import Derived.Test.YtffjaliegglddaaGreatDoorJn5
import Derived.Test.YtffjaliegglddaaGreatDoorJn1
import Derived.Laws.MakeOwn
import Derived.Deep.DeepCutAuto
import Derived.Test.YtffjaliegglddaaGreatDoorJn3
import Derived.Test.YtffjaliegglddaaGreatDoorCode
namespace Go.Proofs.YtffjaliegglddaaGreatDoor
open Go.RowKit Go.Maps
namespace Ve

theorem put2_below {W w : World} {B b : Nat} {x y : Value} (h : Below B w W) (hb : B ≤ b) : Below B w ((W.setCell ⟨b, 0, none⟩ x).setCell ⟨b, 1, none⟩ y) :=
  (h.setCell (p := ⟨b, 0, none⟩) hb _).setCell (p := ⟨b, 1, none⟩) hb _
theorem nonE_five {Q : List Raw} {R : List Bm} : codeE (nonE Q R) R.length = 0 ∨ codeE (nonE Q R) R.length = 5 := by
  unfold codeE
  cases h : fstE (nonE Q R) R.length with
  | none => exact Or.inl rfl
  | some j =>
    obtain ⟨h1, h2, _⟩ := fstE_of_some h
    show nonE Q R j = 0 ∨ nonE Q R j = 5
    rw [nonE_at h1] at h2 ⊢
    unfold nonW at h2 ⊢
    by_cases h3 : idxOf (isM R[j]) Q < 0
    · rw [if_pos h3]; exact Or.inr rfl
    · rw [if_neg h3]; exact Or.inl rfl
theorem reqE2_bad {Q : List Raw} {L : List Ent} {i k : Nat} (hi : i < L.length) (hk : k < L[i].2.1.length) (h : idxOf (isM L[i].2.1[k]) Q < 0) : reqE2 Q L i = 5 := by
  rw [reqE2_at hi]
  rcases nonE_five (Q := Q) (R := L[i].2.1) with h1 | h1
  · exfalso
    unfold codeE at h1
    cases h2 : fstE (nonE Q L[i].2.1) L[i].2.1.length with
    | none =>
      have := fstE_of_none h2 k hk
      rw [nonE_at hk] at this
      unfold nonW at this
      rw [if_pos h] at this; cases this
    | some j =>
      rw [h2] at h1
      exact (fstE_of_some h2).2.1 h1
  · exact h1
theorem reqE2_good {Q : List Raw} {L : List Ent} {i : Nat} (hi : i < L.length) (h : ∀ k (hk : k < L[i].2.1.length), 0 ≤ idxOf (isM L[i].2.1[k]) Q) : reqE2 Q L i = 0 := by
  rw [reqE2_at hi]
  exact codeE_none (fstE_none fun j hj => by
    rw [nonE_at hj]
    unfold nonW
    rw [if_neg (Int.not_lt.2 (h j hj))])
set_option maxRecDepth 100000 in
set_option maxHeartbeats 8000000 in
theorem iFault_some (Q : List Raw) (L : List Ent) (b o c : Nat) (w : World) (hn : L.length ≤ 1000) (sh : ∀ e, e ∈ L → ShE e) (I : Ixs w (.slice (some ⟨b, o, none⟩) Q.length c) Q L) (h0 : 0 < L.length) :
    Calls Tryz.prog 34 #[.slice (some ⟨b, o, none⟩) Q.length c] w fun e w' => e = .returned (faultV (chk Q L)) ∧ Below w.heap.size w w' := by
  have HLN := hid I.ln
  have hqn : Q.length ≤ 1000 := by rw [I.ln]; exact hn
  have HB0 := hid ((Below.refl w.heap.size w).alloc (Nat.le_refl _) (.cells #[.int .i64 0, .int .i64 0] 36))
  have HE0 := hid (heap_new w (.cells #[.int .i64 0, .int .i64 0] 36))
  by_cases h1 : 100 < L.length
  · have q1 : (100 : Int) < (Q.length : Int) := by have := HLN.out; omega
    have HBR := hid (fun W => rbare_any 7 W)
    have HX := hid (chk_full (Q := Q) h1)
    clear I sh h1
    go_enter Tryz.func34, Tryz.ntmps34
    go_wp2_with fail
    refine (HBR.out _).mono ?_
    rintro e w1 ⟨rfl, hb⟩
    have HB1 := hid (HB0.out.trans (hb.mono HB0.out.size))
    have HE1 := hid ((hb.block _ (lt_of_blk HE0.out)).trans HE0.out)
    clear hb
    have s0 : w1.cell? ⟨w.heap.size, 0, none⟩ = some (.int .i64 0) := by rw [Lib.cell_of_heap HE1.out]; rfl
    have s1 : w1.cell? ⟨w.heap.size, 1, none⟩ = some (.int .i64 0) := by rw [Lib.cell_of_heap HE1.out]; rfl
    have tf := fun o => Lib.frozen_of_heap HE1.out o
    go_wp2_with fail
    refine bodyPost_ret (v := .agg #[.int .i64 7, .int .i64 (-1)]) (by simp [results, Tryz.results34, go_sem, s0, s1]) rfl ⟨by rw [HX.out]; rfl, ?_⟩
    exact put2_below HB1.out (Nat.le_refl _)
  · have q1 : ¬ (100 : Int) < (Q.length : Int) := by have := HLN.out; omega
    have HEN := hid (fun i (hi : i < L.length) W (h : Below w.heap.size w W) => entE_any Q L _ i W hn sh (I.below h) hi)
    have HFO := hid (fun m W (h : Below w.heap.size w W) => findOf_any Q m _ W (by omega) (by have := HLN.out; omega) (I.below h).es)
    have HFN := hid (fun W => fine_any W)
    have HI := hid I
    have HSZ := hid sh
    have H1 := hid h1
    clear I sh h1 hn h0
    go_enter Tryz.func34, Tryz.ntmps34
    go_wp2_with fail
    go_loopw [3] (fun iv wr => ∃ i : Nat, i ≤ Q.length ∧ iv = .int .i64 i ∧ Hid (∀ j, j < i → entE L j = 0) ∧ Hid (Below w.heap.size w wr) ∧ Hid (wr.heap[w.heap.size]? = some (.cells #[.int .i64 0, .int .i64 0] 36 (0, 0)))) (fun iv _ => Q.length - (intOf iv).toNat)
    case atStart => exact ⟨0, Nat.zero_le _, rfl, hid (fun j h => absurd h (Nat.not_lt_zero _)), HB0, HE0⟩
    case round =>
      obtain ⟨i, hi, rfl, HZ, HBr, HEr⟩ := hrel
      by_cases hlt : i < Q.length
      · have hiI : (i : Int) < (Q.length : Int) := by omega
        have HLT := hid hlt
        have hil : i < L.length := by rw [← HLN.out]; exact hlt
        have HE := hid (HEN.out i hil _ HBr.out)
        have HNX := hid (show entE L i = 0 → ∀ j, j < i + 1 → entE L j = 0 from fun h => zero_next HZ.out h)
        have HBD := hid (show entE L i ≠ 0 → chk Q L = (entE L i, some i) from fun h => chk_each H1.out (fstE_some HZ.out h hil))
        generalize entE L i = z at *
        clear hlt hil
        by_cases hz : z = 0
        · subst hz
          have HN2 := hid (HNX.out rfl)
          go_wp2_with fail
          refine HE.out.mono ?_
          rintro e w1 ⟨rfl, hb⟩
          have HB1 := hid (HBr.out.trans (hb.mono HBr.out.size))
          have HE1 := hid ((hb.block _ (lt_of_blk HEr.out)).trans HEr.out)
          clear hb
          go_wp2_with fail
          go_roundw
          case rel => first | exact ⟨i + 1, HLT.out, nr_idx i, HN2, HB1, HE1⟩ | exact ⟨i + 1, HLT.out, nx_idx HLT.out (by omega), HN2, HB1, HE1⟩
          case measure => first | exact nr_meas HLT.out | exact nx_meas HLT.out (by omega)
        · have HX := hid (HBD.out hz)
          have hpos : (0 : Int) < (z : Int) := by omega
          clear hz
          go_wp2_with fail
          refine HE.out.mono ?_
          rintro e w1 ⟨rfl, hb⟩
          have HB1 := hid (HBr.out.trans (hb.mono HBr.out.size))
          have HE1 := hid ((hb.block _ (lt_of_blk HEr.out)).trans HEr.out)
          clear hb
          have s0 : w1.cell? ⟨w.heap.size, 0, none⟩ = some (.int .i64 0) := by rw [Lib.cell_of_heap HE1.out]; rfl
          have s1 : w1.cell? ⟨w.heap.size, 1, none⟩ = some (.int .i64 0) := by rw [Lib.cell_of_heap HE1.out]; rfl
          have tf := fun o => Lib.frozen_of_heap HE1.out o
          go_wp2_with fail
          refine bodyPost_ret (v := .agg #[.int .i64 (z : Int), .int .i64 (i : Int)]) (by simp [results, Tryz.results34, go_sem, s0, s1]) rfl ⟨by rw [HX.out]; rfl, ?_⟩
          exact put2_below HB1.out (Nat.le_refl _)
      · have hiI : ¬ (i : Int) < (Q.length : Int) := by omega
        have HNE := hid (show fstE (entE L) L.length = none from fstE_none fun j hj => HZ.out j (by have := HLN.out; omega))
        have HX0 := hid (chk_reqs (Q := Q) H1.out HNE.out)
        clear hlt HZ HEN
        go_wp2_with fail
        go_loopw [5] (fun iv wr => ∃ i : Nat, i ≤ Q.length ∧ iv = .int .i64 i ∧ Hid (∀ j, j < i → reqE2 Q L j = 0) ∧ Hid (Below w.heap.size w wr) ∧ Hid (wr.heap[w.heap.size]? = some (.cells #[.int .i64 0, .int .i64 0] 36 (0, 0)))) (fun iv _ => Q.length - (intOf iv).toNat)
        case atStart => exact ⟨0, Nat.zero_le _, rfl, hid (fun j h => absurd h (Nat.not_lt_zero _)), HBr, HEr⟩
        case round =>
          obtain ⟨i2, hi2, rfl, HZ2, HB2, HE2⟩ := hrel
          by_cases hqi : i2 < Q.length
          · have hlt : i2 < L.length := by rw [← HLN.out]; exact hqi
            have hiI2 : (i2 : Int) < (Q.length : Int) := by omega
            have hi00 : (0 : Int) ≤ (i2 : Int) := by omega
            have HLI := hid hqi
            have HCE := hid (fun W (h : Below w.heap.size w W) => (es_all (HI.out.below h).es hqi).2.2.2.1)
            have HMR := hid (fun W (h : Below w.heap.size w W) => ((HI.out.below h).ok i2 hqi hlt).rq)
            have HNX := hid (show reqE2 Q L i2 = 0 → ∀ j, j < i2 + 1 → reqE2 Q L j = 0 from fun h => zero_next HZ2.out h)
            have HGD := hid (reqE2_good (Q := Q) hlt)
            have HBD := hid (fun k (hk : k < L[i2].2.1.length) h => show chk Q L = (5, some i2) by
              have h5 := reqE2_bad (Q := Q) hlt hk h
              have hs := fstE_some HZ2.out (by rw [h5]; decide) hlt
              rw [HX0.out, hs, codeE_some hs, h5])
            have hRl := (HSZ.out L[i2] (List.getElem_mem hlt)).rn
            generalize (L[i2]'hlt).2.1 = R at *
            generalize (Q[i2]'hqi).2.1 = rv at *
            obtain ⟨ra, rc, hrv, -⟩ := HMR.out w (Below.refl _ _)
            subst hrv
            clear hlt hqi
            go_wp2_with fail
            go_loopw [6] (fun kv wr => ∃ k : Nat, k ≤ R.length ∧ kv = .int .i64 k ∧ Hid (∀ j (h : j < R.length), j < k → 0 ≤ idxOf (isM R[j]) Q) ∧ Hid (Below w.heap.size w wr) ∧ Hid (wr.heap[w.heap.size]? = some (.cells #[.int .i64 0, .int .i64 0] 36 (0, 0)))) (fun kv _ => R.length - (intOf kv).toNat)
            case atStart => exact ⟨0, Nat.zero_le _, rfl, hid (fun j _ h => absurd h (Nat.not_lt_zero _)), HB2, HE2⟩
            case round =>
              obtain ⟨k, hk, rfl, HZ3, HB3, HE3⟩ := hrel
              have x2 := HCE.out _ HB3.out
              by_cases hlk : k < R.length
              · have hkI : (k : Int) < (R.length : Int) := by omega
                have hk0 : (0 : Int) ≤ (k : Int) := by omega
                obtain ⟨xb, xo, hxa, y0, y1⟩ := (HMR.out _ HB3.out).cells hlk
                subst hxa
                have HLK := hid hlk
                have HF := hid (HFO.out R[k] _ HB3.out)
                have HNK := hid (show 0 ≤ idxOf (isM R[k]) Q → ∀ j (h : j < R.length), j < k + 1 → 0 ≤ idxOf (isM R[j]) Q from fun h0 j h1 h3 => by
                  rcases Nat.lt_or_ge j k with h | h
                  · exact HZ3.out j h1 h
                  · have : j = k := by omega
                    subst this; exact h0)
                have HBK := hid (HBD.out k hlk)
                generalize R[k] = x at *
                obtain ⟨x1, x2'⟩ := x
                generalize idxOf (isM (x1, x2')) Q = ix at *
                clear hlk
                by_cases hix : ix < 0
                · have HX := hid (HBK.out hix)
                  go_wp2_with fail
                  refine HF.out.mono ?_
                  rintro e w1 ⟨rfl, hb⟩
                  have HB4 := hid (HB3.out.trans (hb.mono HB3.out.size))
                  have HE4 := hid ((hb.block _ (lt_of_blk HE3.out)).trans HE3.out)
                  clear hb
                  have s0 : w1.cell? ⟨w.heap.size, 0, none⟩ = some (.int .i64 0) := by rw [Lib.cell_of_heap HE4.out]; rfl
                  have s1 : w1.cell? ⟨w.heap.size, 1, none⟩ = some (.int .i64 0) := by rw [Lib.cell_of_heap HE4.out]; rfl
                  have tf := fun o => Lib.frozen_of_heap HE4.out o
                  go_wp2_with fail
                  refine bodyPost_ret (v := .agg #[.int .i64 5, .int .i64 (i2 : Int)]) (by simp [results, Tryz.results34, go_sem, s0, s1]) rfl ⟨by rw [HX.out]; rfl, ?_⟩
                  exact put2_below HB4.out (Nat.le_refl _)
                · have HN2 := hid (HNK.out (Int.not_lt.1 hix))
                  go_wp2_with fail
                  refine HF.out.mono ?_
                  rintro e w1 ⟨rfl, hb⟩
                  have HB4 := hid (HB3.out.trans (hb.mono HB3.out.size))
                  have HE4 := hid ((hb.block _ (lt_of_blk HE3.out)).trans HE3.out)
                  clear hb
                  go_wp2_with fail
                  go_roundw
                  case rel => first | exact ⟨k + 1, HLK.out, nr_idx k, HN2, HB4, HE4⟩ | exact ⟨k + 1, HLK.out, nx_idx HLK.out hRl, HN2, HB4, HE4⟩
                  case measure => first | exact nr_meas HLK.out | exact nx_meas HLK.out hRl
              · have hkI : ¬ (k : Int) < (R.length : Int) := by omega
                have HN2 := hid (HNX.out (HGD.out (fun j h => HZ3.out j h (by omega))))
                clear hlk
                go_wp2_with fail
                go_roundw
                case rel => first | exact ⟨i2 + 1, HLI.out, nr_idx i2, HN2, HB3, HE3⟩ | exact ⟨i2 + 1, HLI.out, nx_idx HLI.out (by omega), HN2, HB3, HE3⟩
                case measure => first | exact nr_meas HLI.out | exact nx_meas HLI.out (by omega)
          · have hiI2 : ¬ (i2 : Int) < (Q.length : Int) := by omega
            have HX := hid (show chk Q L = (0, none) by
              have hs := fstE_none (E := reqE2 Q L) (n := L.length) (fun j hj => HZ2.out j (by have := HLN.out; omega))
              rw [HX0.out, hs, codeE_none hs])
            clear hqi
            go_wp2_with fail
            refine (HFN.out _).mono ?_
            rintro e w1 ⟨rfl, hb⟩
            have HB4 := hid (HB2.out.trans (hb.mono HB2.out.size))
            have HE4 := hid ((hb.block _ (lt_of_blk HE2.out)).trans HE2.out)
            clear hb
            have s0 : w1.cell? ⟨w.heap.size, 0, none⟩ = some (.int .i64 0) := by rw [Lib.cell_of_heap HE4.out]; rfl
            have s1 : w1.cell? ⟨w.heap.size, 1, none⟩ = some (.int .i64 0) := by rw [Lib.cell_of_heap HE4.out]; rfl
            have tf := fun o => Lib.frozen_of_heap HE4.out o
            go_wp2_with fail
            refine bodyPost_ret (v := .agg #[.int .i64 0, .int .i64 (-1)]) (by simp [results, Tryz.results34, go_sem, s0, s1]) rfl ⟨by rw [HX.out]; rfl, ?_⟩
            exact put2_below HB4.out (Nat.le_refl _)
theorem iFault_none (a : Option Addr) (c : Nat) (w : World) : Calls Tryz.prog 34 #[.slice a 0 c] w fun e w' => e = .returned (faultV (0, none)) ∧ Below w.heap.size w w' := by
  have HB0 := hid ((Below.refl w.heap.size w).alloc (Nat.le_refl _) (.cells #[.int .i64 0, .int .i64 0] 36))
  have HE0 := hid (heap_new w (.cells #[.int .i64 0, .int .i64 0] 36))
  have HFN := hid (fun W => fine_any W)
  go_enter Tryz.func34, Tryz.ntmps34
  go_wp2_with fail
  go_loopw [3] (fun i wr => i = .int .i64 0 ∧ Hid (wr = w.alloc (.cells #[.int .i64 0, .int .i64 0] 36))) (fun i _ => 0)
  case atStart => exact ⟨rfl, hid rfl⟩
  case round =>
    obtain ⟨rfl, HW⟩ := hrel
    obtain rfl := HW.out
    clear HW
    go_wp2_with fail
    go_loopw [5] (fun i wr => i = .int .i64 0 ∧ Hid (wr = w.alloc (.cells #[.int .i64 0, .int .i64 0] 36))) (fun i _ => 0)
    case atStart => exact ⟨rfl, hid rfl⟩
    case round =>
      obtain ⟨rfl, HW⟩ := hrel
      obtain rfl := HW.out
      clear HW
      go_wp2_with fail
      refine (HFN.out _).mono ?_
      rintro e w1 ⟨rfl, hb⟩
      have HB4 := hid (HB0.out.trans (hb.mono HB0.out.size))
      have HE4 := hid ((hb.block _ (lt_of_blk HE0.out)).trans HE0.out)
      clear hb
      have s0 : w1.cell? ⟨w.heap.size, 0, none⟩ = some (.int .i64 0) := by rw [Lib.cell_of_heap HE4.out]; rfl
      have s1 : w1.cell? ⟨w.heap.size, 1, none⟩ = some (.int .i64 0) := by rw [Lib.cell_of_heap HE4.out]; rfl
      have tf := fun o => Lib.frozen_of_heap HE4.out o
      go_wp2_with fail
      refine bodyPost_ret (v := .agg #[.int .i64 0, .int .i64 (-1)]) (by simp [results, Tryz.results34, go_sem, s0, s1]) rfl ⟨rfl, ?_⟩
      exact put2_below HB4.out (Nat.le_refl _)
/-- pewholderref1.IndexFault. -/
theorem iFault_any (Q : List Raw) (L : List Ent) (v : Value) (w : World) (hn : L.length ≤ 1000) (sh : ∀ e, e ∈ L → ShE e) (I : Ixs w v Q L) :
    Calls Tryz.prog 34 #[v] w fun e w' => e = .returned (faultV (chk Q L)) ∧ Below w.heap.size w w' := by
  obtain ⟨a, c, rfl, _, _, h⟩ := id I.es
  by_cases hQ : Q = []
  · subst hQ
    have hl : L = [] := List.length_eq_zero_iff.1 I.ln.symm
    subst hl
    exact iFault_none a c w
  · obtain ⟨b, o, rfl, _⟩ := h hQ
    exact iFault_some Q L b o c w hn sh I (by rw [← I.ln]; exact List.length_pos_iff.2 hQ)
end Ve
end Go.Proofs.YtffjaliegglddaaGreatDoor

/-
  What the document's answer says of roots that may be no entries (rootsFault).
-/
namespace Go.Proofs.YtffjaliegglddaaGreatDoor
open Go.RowKit Go.Maps
namespace Ve

theorem findOf_none (a : Option Addr) (c : Nat) (m : Bm) (w : World) : Calls Tryz.prog 18 #[.slice a 0 c, .agg #[.string m.1, .string m.2]] w fun e w' => e = .returned (.int .i64 (-1)) ∧ Below w.heap.size w w' := by
  have HB0 := hid ((Below.refl w.heap.size w).alloc (Nat.le_refl _) (.cells #[.string m.1, .string m.2] 25))
  go_enter Tryz.func18, Tryz.ntmps18
  go_wp2_with fail
  go_loopw [5] (fun i wr => i = .int .i64 0 ∧ Hid (Below w.heap.size w wr)) (fun i _ => 0)
  case atStart => exact ⟨rfl, HB0⟩
  case round =>
    obtain ⟨rfl, HB⟩ := hrel
    go_wp2_with fail
    go_ret
    exact ⟨rfl, HB.out⟩
/-- pewholderref1.FindOf. -/
theorem findOf_all (Q : List Raw) (m : Bm) (v : Value) (w : World) (hL : Q.length ≤ 1000000) (hv : EsAt w v Q) :
    Calls Tryz.prog 18 #[v, .agg #[.string m.1, .string m.2]] w fun e w' => e = .returned (.int .i64 (idxOf (isM m) Q)) ∧ Below w.heap.size w w' := by
  by_cases hQ : Q = []
  · subst hQ
    obtain ⟨a, c, rfl, _⟩ := hv
    exact findOf_none a c m w
  · exact findOf_any Q m v w hL (List.length_pos_iff.2 hQ) hv
theorem nonE_bad {Q : List Raw} {R : List Bm} {k : Nat} (hk : k < R.length) (h0 : ∀ j (h : j < R.length), j < k → 0 ≤ idxOf (isM R[j]) Q) (h : idxOf (isM R[k]) Q < 0) : (codeE (nonE Q R) R.length, fstE (nonE Q R) R.length) = (5, some k) := by
  have hz : ∀ j, j < k → nonE Q R j = 0 := fun j hj => by
    rw [nonE_at (by omega)]
    unfold nonW
    rw [if_neg (Int.not_lt.2 (h0 j (by omega) hj))]
  have h5 : nonE Q R k = 5 := by
    rw [nonE_at hk]
    unfold nonW
    rw [if_pos h]
  have hs := fstE_some hz (by rw [h5]; decide) hk
  rw [codeE_some hs, hs, h5]
theorem nonE_good {Q : List Raw} {R : List Bm} (h0 : ∀ j (h : j < R.length), 0 ≤ idxOf (isM R[j]) Q) : (codeE (nonE Q R) R.length, fstE (nonE Q R) R.length) = (0, none) := by
  have hs : fstE (nonE Q R) R.length = none := fstE_none fun j hj => by
    rw [nonE_at hj]
    unfold nonW
    rw [if_neg (Int.not_lt.2 (h0 j hj))]
  rw [codeE_none hs, hs]
set_option maxRecDepth 100000 in
set_option maxHeartbeats 4000000 in
/-- pewholderref2.rootsFault. -/
theorem rFault_any (Q : List Raw) (R : List Bm) (v rv : Value) (w : World) (hn : Q.length ≤ 1000) (hR : R.length ≤ 1000000) (hv : EsAt w v Q) (hr : MsAt w rv R) :
    Calls Tryz.prog 35 #[v, rv] w fun e w' => e = .returned (faultV (codeE (nonE Q R) R.length, fstE (nonE Q R) R.length)) ∧ Below w.heap.size w w' := by
  have HB0 := hid ((Below.refl w.heap.size w).alloc (Nat.le_refl _) (.cells #[.int .i64 0, .int .i64 0] 36))
  have HE0 := hid (heap_new w (.cells #[.int .i64 0, .int .i64 0] 36))
  have HFO := hid (fun m W (h : Below w.heap.size w W) => findOf_all Q m v W (by omega) (hv.below h))
  have HFN := hid (fun W => fine_any W)
  have HMR := hid (fun W (h : Below w.heap.size w W) => hr.below h)
  have HGD := hid (nonE_good (Q := Q) (R := R))
  have HBD := hid (fun k (hk : k < R.length) h0 h => nonE_bad (Q := Q) hk h0 h)
  obtain ⟨a, c, hv1, -⟩ := id hv
  subst hv1
  obtain ⟨ra, rc, hrv, -⟩ := id hr
  subst hrv
  generalize (codeE (nonE Q R) R.length, fstE (nonE Q R) R.length) = ans at *
  clear hv hr
  go_enter Tryz.func35, Tryz.ntmps35
  go_wp2_with fail
  go_loopw [5] (fun kv wr => ∃ k : Nat, k ≤ R.length ∧ kv = .int .i64 k ∧ Hid (∀ j (h : j < R.length), j < k → 0 ≤ idxOf (isM R[j]) Q) ∧ Hid (Below w.heap.size w wr) ∧ Hid (wr.heap[w.heap.size]? = some (.cells #[.int .i64 0, .int .i64 0] 36 (0, 0)))) (fun kv _ => R.length - (intOf kv).toNat)
  case atStart => exact ⟨0, Nat.zero_le _, rfl, hid (fun j _ h => absurd h (Nat.not_lt_zero _)), HB0, HE0⟩
  case round =>
    obtain ⟨k, hk, rfl, HZ3, HB3, HE3⟩ := hrel
    by_cases hlk : k < R.length
    · have hkI : (k : Int) < (R.length : Int) := by omega
      have hk0 : (0 : Int) ≤ (k : Int) := by omega
      obtain ⟨xb, xo, hxa, y0, y1⟩ := (HMR.out _ HB3.out).cells hlk
      subst hxa
      have HLK := hid hlk
      have HF := hid (HFO.out R[k] _ HB3.out)
      have HNK := hid (show 0 ≤ idxOf (isM R[k]) Q → ∀ j (h : j < R.length), j < k + 1 → 0 ≤ idxOf (isM R[j]) Q from fun h0 j h1 h3 => by
        rcases Nat.lt_or_ge j k with h | h
        · exact HZ3.out j h1 h
        · have : j = k := by omega
          subst this; exact h0)
      have HBK := hid (HBD.out k hlk HZ3.out)
      generalize R[k] = x at *
      obtain ⟨x1, x2'⟩ := x
      generalize idxOf (isM (x1, x2')) Q = ix at *
      clear hlk
      by_cases hix : ix < 0
      · have HX := hid (HBK.out hix)
        go_wp2_with fail
        refine HF.out.mono ?_
        rintro e w1 ⟨rfl, hb⟩
        have HB4 := hid (HB3.out.trans (hb.mono HB3.out.size))
        have HE4 := hid ((hb.block _ (lt_of_blk HE3.out)).trans HE3.out)
        clear hb
        have s0 : w1.cell? ⟨w.heap.size, 0, none⟩ = some (.int .i64 0) := by rw [Lib.cell_of_heap HE4.out]; rfl
        have s1 : w1.cell? ⟨w.heap.size, 1, none⟩ = some (.int .i64 0) := by rw [Lib.cell_of_heap HE4.out]; rfl
        have tf := fun o => Lib.frozen_of_heap HE4.out o
        go_wp2_with fail
        refine bodyPost_ret (v := .agg #[.int .i64 5, .int .i64 (k : Int)]) (by simp [results, Tryz.results35, go_sem, s0, s1]) rfl ⟨by rw [HX.out]; rfl, ?_⟩
        exact put2_below HB4.out (Nat.le_refl _)
      · have HN2 := hid (HNK.out (Int.not_lt.1 hix))
        go_wp2_with fail
        refine HF.out.mono ?_
        rintro e w1 ⟨rfl, hb⟩
        have HB4 := hid (HB3.out.trans (hb.mono HB3.out.size))
        have HE4 := hid ((hb.block _ (lt_of_blk HE3.out)).trans HE3.out)
        clear hb
        go_wp2_with fail
        go_roundw
        case rel => first | exact ⟨k + 1, HLK.out, nr_idx k, HN2, HB4, HE4⟩ | exact ⟨k + 1, HLK.out, nx_idx HLK.out hR, HN2, HB4, HE4⟩
        case measure => first | exact nr_meas HLK.out | exact nx_meas HLK.out hR
    · have hkI : ¬ (k : Int) < (R.length : Int) := by omega
      have HX := hid (HGD.out (fun j h => HZ3.out j h (by omega)))
      clear hlk
      go_wp2_with fail
      refine (HFN.out _).mono ?_
      rintro e w1 ⟨rfl, hb⟩
      have HB4 := hid (HB3.out.trans (hb.mono HB3.out.size))
      have HE4 := hid ((hb.block _ (lt_of_blk HE3.out)).trans HE3.out)
      clear hb
      have s0 : w1.cell? ⟨w.heap.size, 0, none⟩ = some (.int .i64 0) := by rw [Lib.cell_of_heap HE4.out]; rfl
      have s1 : w1.cell? ⟨w.heap.size, 1, none⟩ = some (.int .i64 0) := by rw [Lib.cell_of_heap HE4.out]; rfl
      have tf := fun o => Lib.frozen_of_heap HE4.out o
      go_wp2_with fail
      refine bodyPost_ret (v := .agg #[.int .i64 0, .int .i64 (-1)]) (by simp [results, Tryz.results35, go_sem, s0, s1]) rfl ⟨by rw [HX.out]; rfl, ?_⟩
      exact put2_below HB4.out (Nat.le_refl _)
end Ve
end Go.Proofs.YtffjaliegglddaaGreatDoor

/-
  The document's marks and how far one is off, plain.
-/
namespace Go.Proofs.YtffjaliegglddaaGreatDoor
namespace Ve

/-- How many are not marked. -/
def unm : List Bool → Nat
  | [] => 0
  | true :: l => unm l
  | false :: l => unm l + 1
theorem unm_set : ∀ (O : List Bool) (a : Nat) (h : a < O.length), O[a] = false → unm (O.set a true) + 1 = unm O
  | [], _, h, _ => absurd h (Nat.not_lt_zero _)
  | b :: O, 0, _, e => by
    have : b = false := e
    subst this
    rfl
  | b :: O, a + 1, h, e => by
    have ih := unm_set O a (by simpa using h) (by simpa using e)
    rw [List.set_cons_succ]
    cases b
    · show unm (O.set a true) + 1 + 1 = unm O + 1
      omega
    · exact ih
/-- Marks that are right. -/
structure Mk (req : Bm → List Bm) (U roots : List Bm) (O : List Bool) : Prop where
  ln : O.length = U.length
  so : ∀ i (h : i < U.length) (h' : i < O.length), O[i] = true → Rch req roots U[i]
theorem Mk.none (req : Bm → List Bm) (U roots : List Bm) : Mk req U roots (List.replicate U.length false) :=
  ⟨by simp, fun i h h' e => by rw [List.getElem_replicate] at e; cases e⟩
theorem Mk.set {req : Bm → List Bm} {U roots : List Bm} {O : List Bool} (h : Mk req U roots O) {a : Nat} (ha : a < U.length) (hr : Rch req roots U[a]) : Mk req U roots (O.set a true) := by
  refine ⟨by rw [List.length_set]; exact h.ln, fun i hi hi' e => ?_⟩
  by_cases hia : a = i
  · subst hia; exact hr
  · rw [List.getElem_set_ne hia] at e
    exact h.so i hi (by rw [h.ln]; exact hi) e
/-- Is it marked? -/
def At1 (U : List Bm) (O : List Bool) (m : Bm) : Prop := ∃ a, ∃ h : a < U.length, ∃ h' : a < O.length, U[a] = m ∧ O[a] = true
theorem At1.set {U : List Bm} {O : List Bool} {m : Bm} (h : At1 U O m) (a : Nat) : At1 U (O.set a true) m := by
  obtain ⟨k, hk, hk', e1, e2⟩ := h
  refine ⟨k, hk, by rw [List.length_set]; exact hk', e1, ?_⟩
  by_cases hka : a = k
  · subst hka; rw [List.getElem_set_self]
  · rw [List.getElem_set_ne hka]; exact e2
theorem At1.new {U : List Bm} {O : List Bool} {a : Nat} (ha : a < U.length) (hl : O.length = U.length) : At1 U (O.set a true) U[a] :=
  ⟨a, ha, by rw [List.length_set, hl]; exact ha, rfl, by rw [List.getElem_set_self]⟩
/-- What those below i require is marked. -/
def Cl1 (req : Bm → List Bm) (U : List Bm) (O : List Bool) (i : Nat) : Prop := ∀ j (h : j < U.length) (h' : j < O.length), j < i → O[j] = true → ∀ m, m ∈ req U[j] → At1 U O m
theorem Mk.iff {req : Bm → List Bm} {U roots : List Bm} {O : List Bool} (h : Mk req U roots O) (hn : U.Nodup) (hr : ∀ m, m ∈ roots → At1 U O m) (hc : Cl1 req U O U.length) {i : Nat} (hi : i < U.length) (hi' : i < O.length) : O[i] = true ↔ Rch req roots U[i] := by
  refine ⟨h.so i hi hi', fun hR => ?_⟩
  have all : ∀ m, Rch req roots m → At1 U O m := fun m hm => by
    induction hm with
    | root hm => exact hr _ hm
    | step _ hm ih =>
      obtain ⟨a, ha, ha', e1, e2⟩ := ih
      rw [← e1] at hm
      exact hc a ha ha' ha e2 _ hm
  obtain ⟨a, ha, ha', e1, e2⟩ := all _ hR
  have hp := List.pairwise_iff_getElem.1 hn
  have : a = i := by
    rcases Nat.lt_trichotomy a i with h1 | h1 | h1
    · exact absurd e1 (hp a i ha hi h1)
    · exact h1
    · exact absurd e1.symm (hp i a hi ha h1)
  subst this
  exact e2
/-- One that is reached has a shortest way. -/
theorem rch_wn {req : Bm → List Bm} {roots : List Bm} {m : Bm} (h : Rch req roots m) : ∃ n, Wn req roots n m := by
  induction h with
  | root hr => exact ⟨1, .root hr⟩
  | step _ hr ih => obtain ⟨n, hn⟩ := ih; exact ⟨n + 1, .step hn hr⟩
theorem wn_dst {req : Bm → List Bm} {roots : List Bm} {m : Bm} : ∀ (n : Nat), Wn req roots n m → ∃ d, Dst req roots m d := fun n => by
  induction n using Nat.strongRecOn with
  | ind n ih =>
    intro h
    by_cases hs : ∃ k, k < n ∧ Wn req roots k m
    · obtain ⟨k, hk, hw⟩ := hs
      exact ih k hk hw
    · exact ⟨n, h, fun k hk => Nat.le_of_not_lt fun hlt => hs ⟨k, hlt, hk⟩⟩
theorem Dst.row {req : Bm → List Bm} {roots : List Bm} : ∀ {d : Nat} {m : Bm}, Dst req roots m d → ∃ Y : List Bm, Y.length = d ∧ Y.Nodup ∧ ∀ y, y ∈ Y → ∃ k, k ≤ d ∧ Dst req roots y k
  | 0, m, h => absurd h.1.pos (by omega)
  | d + 1, m, h => by
    have hs := h
    obtain ⟨hw, hm⟩ := h
    cases hw with
    | root hr => exact ⟨[m], rfl, by simp, fun y hy => by rw [List.mem_singleton] at hy; subst hy; exact ⟨_, Nat.le_refl _, hs⟩⟩
    | @step _ p _ hp hr =>
      have hd : Dst req roots p d := ⟨hp, fun k hk => by have := hm _ (.step hk hr); omega⟩
      obtain ⟨Y, h1, h2, h3⟩ := Dst.row hd
      refine ⟨m :: Y, by simp [h1], List.nodup_cons.2 ⟨fun hmem => ?_, h2⟩, fun y hy => ?_⟩
      · obtain ⟨k, hk, hk2⟩ := h3 m hmem
        have := hk2.one hs
        omega
      · rcases List.mem_cons.1 hy with rfl | hy
        · exact ⟨_, Nat.le_refl _, hs⟩
        · obtain ⟨k, hk, hk2⟩ := h3 y hy
          exact ⟨k, by omega, hk2⟩
theorem Dst.le {req : Bm → List Bm} {roots U : List Bm} (hU : ∀ m, Rch req roots m → m ∈ U) {d : Nat} {m : Bm} (h : Dst req roots m d) : d ≤ U.length := by
  obtain ⟨Y, h1, h2, h3⟩ := h.row
  rw [← h1]
  exact nd_len Y U h2 fun y hy => by
    obtain ⟨_, _, hk⟩ := h3 y hy
    exact hU y hk.1.rch
/-- How far, as far as n: in the breadth n, those below i done, and of the one at i the first of R. -/
structure Fr (req : Bm → List Bm) (U roots : List Bm) (n i : Nat) (F : List Nat) : Prop where
  ln : F.length = U.length
  so : ∀ j (h : j < U.length) (h' : j < F.length), F[j] ≠ 0 → Wn req roots F[j] U[j]
  bd : ∀ j (h' : j < F.length), F[j] ≤ n + 1
  lo : ∀ d j (h : j < U.length) (h' : j < F.length), d ≤ n → Wn req roots d U[j] → F[j] ≠ 0 ∧ F[j] ≤ d
  dn : ∀ j (h : j < U.length) (h' : j < F.length), j < i → F[j] = n → ∀ m, m ∈ req U[j] → ∃ a, ∃ h : a < U.length, ∃ h' : a < F.length, U[a] = m ∧ F[a] ≠ 0
theorem Fr.none (req : Bm → List Bm) (U roots : List Bm) : Fr req U roots 0 0 (List.replicate U.length 0) :=
  ⟨by simp, fun j _ _ e => by rw [List.getElem_replicate] at e; exact absurd rfl e, fun j _ => by rw [List.getElem_replicate]; omega, fun d j _ _ hd hw => absurd hw.pos (by omega), fun _ _ _ h => absurd h (Nat.not_lt_zero _)⟩
/-- One that was not come to. -/
theorem Fr.set {req : Bm → List Bm} {U roots : List Bm} {n i : Nat} {F : List Nat} (h : Fr req U roots n i F) {a : Nat} (ha : a < U.length) (ha' : a < F.length) (e0 : F[a] = 0) (hw : Wn req roots (n + 1) U[a]) : Fr req U roots n i (F.set a (n + 1)) := by
  refine ⟨by rw [List.length_set]; exact h.ln, fun j hj hj' e => ?_, fun j hj' => ?_, fun d j hj hj' hd hwn => ?_, fun j hj hj' hji e m hm => ?_⟩
  · by_cases hja : a = j
    · subst hja; rw [List.getElem_set_self]; exact hw
    · rw [List.getElem_set_ne hja] at e ⊢
      exact h.so j hj _ e
  · by_cases hja : a = j
    · subst hja; rw [List.getElem_set_self]; exact Nat.le_refl _
    · rw [List.getElem_set_ne hja]; exact h.bd j _
  · have h1 := h.lo d j hj (by rw [h.ln]; exact hj) hd hwn
    by_cases hja : a = j
    · subst hja; exact absurd e0 h1.1
    · rw [List.getElem_set_ne hja]; exact h1
  · have hja : a ≠ j := fun hja => by subst hja; rw [List.getElem_set_self] at e; omega
    rw [List.getElem_set_ne hja] at e
    obtain ⟨t, ht, ht', e1, e2⟩ := h.dn j hj (by rw [h.ln]; exact hj) hji e m hm
    refine ⟨t, ht, by rw [List.length_set]; exact ht', e1, ?_⟩
    have hta : a ≠ t := fun hta => by subst hta; exact e2 e0
    rw [List.getElem_set_ne hta]; exact e2
/-- A root, be it there before or not. -/
theorem Fr.root {req : Bm → List Bm} {U roots : List Bm} {F : List Nat} (h : Fr req U roots 0 0 F) {a : Nat} (ha : a < U.length) (hr : U[a] ∈ roots) : Fr req U roots 0 0 (F.set a 1) := by
  have ha' : a < F.length := by rw [h.ln]; exact ha
  by_cases e0 : F[a] = 0
  · exact h.set ha ha' e0 (.root hr)
  · have e1 : F[a] = 1 := by have := h.bd a ha'; omega
    have : F.set a 1 = F := by rw [← e1]; exact List.set_getElem_self ha'
    rw [this]; exact h
/-- From the roots to the first breadth. -/
theorem Fr.first {req : Bm → List Bm} {U roots : List Bm} {F : List Nat} (h : Fr req U roots 0 0 F) (hr : ∀ j (_ : j < U.length) (h' : j < F.length), U[j] ∈ roots → F[j] ≠ 0) : Fr req U roots 1 0 F := by
  refine ⟨h.ln, h.so, fun j hj => Nat.le_succ_of_le (h.bd j hj), fun d j hj hj' hd hw => ?_, fun _ _ _ hh => absurd hh (Nat.not_lt_zero _)⟩
  have hb := h.bd j hj'
  have hp := hw.pos
  have : d = 1 := by omega
  subst this
  cases hw with
  | root hm => exact ⟨hr j hj hj' hm, hb⟩
  | step hq _ => exact absurd hq.pos (by omega)
/-- One more of those of a breadth is done. -/
theorem Fr.next {req : Bm → List Bm} {U roots : List Bm} {n i : Nat} {F : List Nat} (h : Fr req U roots n i F) (hd : ∀ (hi : i < U.length) (hi' : i < F.length), F[i] = n → ∀ m, m ∈ req U[i] → ∃ a, ∃ h : a < U.length, ∃ h' : a < F.length, U[a] = m ∧ F[a] ≠ 0) : Fr req U roots n (i + 1) F :=
  ⟨h.ln, h.so, h.bd, h.lo, fun j hj hj' hji e m hm => by
    rcases Nat.lt_or_ge j i with h1 | h1
    · exact h.dn j hj hj' h1 e m hm
    · have : j = i := by omega
      subst this
      exact hd hj hj' e m hm⟩
/-- The next breadth. -/
theorem Fr.turn {req : Bm → List Bm} {U roots : List Bm} {n : Nat} {F : List Nat} (h : Fr req U roots n U.length F) (hn : 1 ≤ n) (hN : U.Nodup) (hU : ∀ m, Rch req roots m → m ∈ U) : Fr req U roots (n + 1) 0 F := by
  refine ⟨h.ln, h.so, fun j hj => Nat.le_succ_of_le (h.bd j hj), fun d j hj hj' hd hw => ?_, fun _ _ _ hh => absurd hh (Nat.not_lt_zero _)⟩
  rcases Nat.lt_or_ge n d with h1 | h1
  · have : d = n + 1 := by omega
    subst this
    generalize hm : U[j] = m at hw
    cases hw with
    | root hr => omega
    | @step _ p _ hp hr =>
      obtain ⟨k, hk, rfl⟩ := List.getElem_of_mem (hU p hp.rch)
      have hk' : k < F.length := by rw [h.ln]; exact hk
      obtain ⟨q1, q2⟩ := h.lo n k hk hk' (Nat.le_refl _) hp
      rcases Nat.lt_or_ge F[k] n with h2 | h2
      · have := h.lo (F[k] + 1) j hj hj' h2 (by rw [hm]; exact .step (h.so k hk hk' q1) hr)
        exact ⟨this.1, by omega⟩
      · obtain ⟨a, ha, ha', e1, e2⟩ := h.dn k hk hk' hk (by omega) m hr
        have hp2 := List.pairwise_iff_getElem.1 hN
        have : a = j := by
          rcases Nat.lt_trichotomy a j with h1 | h1 | h1
          · exact absurd (e1.trans hm.symm) (hp2 a j ha hj h1)
          · exact h1
          · exact absurd (hm.trans e1.symm) (hp2 j a hj ha h1)
        subst this
        exact ⟨e2, h.bd a ha'⟩
  · exact h.lo d j hj hj' h1 hw
/-- At the end. -/
theorem Fr.zero {req : Bm → List Bm} {U roots : List Bm} {n i : Nat} {F : List Nat} (h : Fr req U roots n i F) (hn : U.length ≤ n) (hU : ∀ m, Rch req roots m → m ∈ U) {j : Nat} (hj : j < U.length) (hj' : j < F.length) : F[j] = 0 ↔ ¬ Rch req roots U[j] := by
  constructor
  · intro e hR
    obtain ⟨k, hk⟩ := rch_wn hR
    obtain ⟨d, hd⟩ := wn_dst k hk
    exact (h.lo d j hj hj' (Nat.le_trans (hd.le hU) hn) hd.1).1 e
  · intro hR
    by_cases e : F[j] = 0
    · exact e
    · exact absurd (h.so j hj hj' e).rch hR
theorem Fr.dst {req : Bm → List Bm} {U roots : List Bm} {n i : Nat} {F : List Nat} (h : Fr req U roots n i F) (hn : U.length ≤ n) (hU : ∀ m, Rch req roots m → m ∈ U) {j : Nat} (hj : j < U.length) (hj' : j < F.length) (e : F[j] ≠ 0) : Dst req roots U[j] F[j] := by
  have hw := h.so j hj hj' e
  obtain ⟨d, hd⟩ := wn_dst _ hw
  have := (h.lo d j hj hj' (Nat.le_trans (hd.le hU) hn) hd.1).2
  have h2 := hd.2 _ hw
  rw [show F[j] = d by omega]
  exact hd
end Ve
end Go.Proofs.YtffjaliegglddaaGreatDoor

/-
  What the document's answer marks as reached (marks).
-/
namespace Go.Proofs.YtffjaliegglddaaGreatDoor
open Go.RowKit Go.Maps
namespace Ve

theorem infoBool : (Tryz.prog.info? 4).map (fun i => (i.zero, i.size, i.bytes)) = some (some (.bool false), 1, 1) := by kernel_rfl
/-- Marks in memory. -/
def bwc (O : List Bool) : Array Value := (O.map Value.bool).toArray
theorem bwc_set (O : List Bool) (a : Nat) : (bwc O).setIfInBounds a (.bool true) = bwc (O.set a true) := by
  unfold bwc
  rw [List.setIfInBounds_toArray, List.map_set]
theorem bwc_at {W : World} {g : Nat} {O : List Bool} (h : W.heap[g]? = some (.cells (bwc O) 4 (0, 0))) {a : Nat} (ha : a < O.length) : W.cell? ⟨g, a, none⟩ = some (.bool O[a]) := by
  rw [Lib.cell_of_heap h]
  simp [bwc, ha]
theorem made_bools (n : Nat) : madeCells (Value.bool false).cells n = bwc (List.replicate n false) := by
  unfold madeCells bwc
  simp [Value.cells]
  apply Array.ext
  · simp
  · intro i h1 h2
    simp [Nat.mod_one]
theorem make_bools (n : Nat) (w : World) (hn : n ≤ 1000000) : (Instr.makeSlice 66 (.int .i64 (n : Int)) (.int .i64 (n : Int))).run Tryz.prog w = .ok (.slice (some ⟨w.heap.size, 0, none⟩) n n) (w.alloc (.cells (bwc (List.replicate n false)) 4)) := by
  obtain ⟨i0, hi, hz0, hz1, hz2⟩ := info_parts infoBool
  have h := run_makeSlice (P := Tryz.prog) w 66 4 i0 (.bool false) Tryz.underlying66 hi hz0 .i64 .i64 (n : Int) (n : Int) (by omega) (by omega) (by rw [hz1]; simp; omega) (by rw [hz2]; omega) (by omega)
  rw [hz1] at h
  simp only [Int.toNat_natCast, Nat.mul_one] at h
  rw [made_bools] at h
  exact h
def unmV : List Value → Nat
  | [] => 0
  | .bool false :: l => unmV l + 1
  | _ :: l => unmV l
theorem unmV_is : ∀ O : List Bool, unmV (O.map Value.bool) = unm O
  | [] => rfl
  | true :: O => by show unmV (O.map Value.bool) = unm O; exact unmV_is O
  | false :: O => by show unmV (O.map Value.bool) + 1 = unm O + 1; rw [unmV_is O]
def unmW : Option Obj → Nat
  | some (.cells cs _ _) => unmV cs.toList
  | _ => 0
theorem unmW_is {W : World} {g : Nat} {O : List Bool} (h : W.heap[g]? = some (.cells (bwc O) 4 (0, 0))) : unmW W.heap[g]? = unm O := by
  rw [h]
  show unmV (bwc O).toList = unm O
  unfold bwc
  rw [List.toList_toArray, unmV_is]
def measM (ag : Value) (o : Option Obj) : Nat := match ag with
  | .bool false => 0
  | _ => unmW o + 1
/-- The marks, as far as they are made. -/
structure Mks (w W : World) (Q : List Raw) (L : List Ent) (roots : List Bm) (O : List Bool) : Prop where
  bl : Below w.heap.size w W
  hp : W.heap[w.heap.size]? = some (.cells (bwc O) 4 (0, 0))
  ok : Mk (reqQ Q L) (univ L) roots O
theorem Mks.below {w W W' : World} {Q : List Raw} {L : List Ent} {roots : List Bm} {O : List Bool} (h : Mks w W Q L roots O) (hb : Below W.heap.size W W') : Mks w W' Q L roots O :=
  ⟨h.bl.trans (hb.mono h.bl.size), (hb.block _ (lt_of_blk h.hp)).trans h.hp, h.ok⟩
theorem Mks.set {w W : World} {Q : List Raw} {L : List Ent} {roots : List Bm} {O : List Bool} (h : Mks w W Q L roots O) {a : Nat} (ha : a < (univ L).length) (hr : Rch (reqQ Q L) roots (univ L)[a]) : Mks w (W.setCell ⟨w.heap.size, a, none⟩ (.bool true)) Q L roots (O.set a true) :=
  ⟨h.bl.setCell (Nat.le_refl _) _, by rw [set_block h.hp, bwc_set], h.ok.set ha hr⟩
theorem idx_univ {w : World} {v : Value} {Q : List Raw} {L : List Ent} (I : Ixs w v Q L) {m : Bm} (hm : m ∈ univ L) : ∃ k, ∃ hk : k < (univ L).length, idxOf (isM m) Q = (k : Int) ∧ (univ L)[k] = m := by
  obtain ⟨k, hk⟩ := (found_iff I m).1 hm
  obtain ⟨h1, h2⟩ := idx_is hk
  have h3 : k < L.length := by rw [← I.ln]; exact h1
  refine ⟨k, by simpa [univ] using h3, hk, ?_⟩
  have := of_decide_eq_true h2
  simp only [univ, List.getElem_map]
  rw [← (I.ok k h1 h3).m]
  exact Prod.ext this.1 this.2
theorem univ_nd {Q : List Raw} {L : List Ent} (h : (chk Q L).1 = 0) : (univ L).Nodup :=
  (univ_rises h).imp fun {a b} h e => by subst e; rw [mAhead_irr] at h; cases h
theorem req_at {w : World} {v : Value} {Q : List Raw} {L : List Ent} (I : Ixs w v Q L) (h : (chk Q L).1 = 0) {i : Nat} (hi : i < L.length) (hi' : i < (univ L).length) : reqQ Q L (univ L)[i] = L[i].2.1 := by
  obtain ⟨k, hk, e1, e2⟩ := idx_univ I (List.getElem_mem hi')
  have hki : k = i := by
    have hp := List.pairwise_iff_getElem.1 (univ_nd h)
    rcases Nat.lt_trichotomy k i with h1 | h1 | h1
    · exact absurd e2 (hp k i hk hi' h1)
    · exact h1
    · exact absurd e2.symm (hp i k hi' hk h1)
  subst hki
  exact reqQ_at e1 hi
set_option maxRecDepth 100000 in
set_option maxHeartbeats 8000000 in
/-- pewholderref2.marks. -/
theorem marks_any (Q : List Raw) (L : List Ent) (roots : List Bm) (v rv : Value) (w : World) (hn : L.length ≤ 1000) (hrn : roots.length ≤ 1000000) (sh : ∀ e, e ∈ L → ShE e) (I : Ixs w v Q L) (hr : MsAt w rv roots) (h0 : (chkG Q L roots).1 = 0) :
    Calls Tryz.prog 36 #[v, rv] w fun e w' => ∃ O : List Bool, e = .returned (.slice (some ⟨w.heap.size, 0, none⟩) Q.length Q.length) ∧ Mks w w' Q L roots O ∧ ∀ i (hi : i < (univ L).length) (hi' : i < O.length), O[i] = true ↔ Rch (reqQ Q L) roots (univ L)[i] := by
  have HLN := hid I.ln
  have hqn : Q.length ≤ 1000 := by rw [I.ln]; exact hn
  have HUL := hid (show (univ L).length = Q.length by rw [I.ln]; simp [univ])
  have HC := hid (rgt_of I h0).c
  have HRU := hid (rgt_of I h0).r
  have HFO := hid (fun m W (h : Below w.heap.size w W) => findOf_all Q m v W (by omega) (I.below h).es)
  have HIU := hid (fun m (hm : m ∈ univ L) => idx_univ I hm)
  have HMR := hid (fun W (h : Below w.heap.size w W) => hr.below h)
  have HI := hid I
  have HSZ := hid sh
  have HB0 := hid (show Mks w (w.alloc (.cells (bwc (List.replicate Q.length false)) 4)) Q L roots (List.replicate Q.length false) from ⟨(Below.refl w.heap.size w).alloc (Nat.le_refl _) _, heap_new w _, by rw [← HUL.out]; exact Mk.none _ _ _⟩)
  obtain ⟨a, c, hv1, -⟩ := id I.es
  subst hv1
  obtain ⟨ra, rc, hrv, -⟩ := id hr
  subst hrv
  have hmk := make_bools Q.length w (by omega)
  clear I hr sh h0 hn
  go_enter Tryz.func36, Tryz.ntmps36
  go_wp2_with fail
  clear hmk
  go_loopw [6] (fun iv wr => ∃ k : Nat, k ≤ roots.length ∧ iv = .int .i64 k ∧ Hid (∃ O, Mks w wr Q L roots O ∧ ∀ j (h : j < roots.length), j < k → At1 (univ L) O roots[j])) (fun iv _ => roots.length - (intOf iv).toNat)
  case atStart => exact ⟨0, Nat.zero_le _, rfl, hid ⟨_, HB0.out, fun j _ h => absurd h (Nat.not_lt_zero _)⟩⟩
  case round =>
    obtain ⟨k, hk, rfl, HO⟩ := hrel
    obtain ⟨O, hO, hAt⟩ := HO.out
    by_cases hlt : k < roots.length
    · have hkI : (k : Int) < (roots.length : Int) := by omega
      have hk0 : (0 : Int) ≤ (k : Int) := by omega
      obtain ⟨xb, xo, hxa, y0, y1⟩ := (HMR.out _ hO.bl).cells hlt
      subst hxa
      obtain ⟨n, hnU, e1, e2⟩ := HIU.out roots[k] (HRU.out _ (List.getElem_mem hlt))
      have HF := hid (HFO.out roots[k] _ hO.bl)
      rw [e1] at HF
      have hnq : n < Q.length := by rw [← HUL.out]; exact hnU
      have hnI : (n : Int) < (Q.length : Int) := by omega
      have hn0 : (0 : Int) ≤ (n : Int) := by omega
      have HLT := hid hlt
      have hOl : O.length = (univ L).length := hO.ok.ln
      have HNX := hid (fun W (hb : Below wr.heap.size wr W) => show ∃ O', Mks w (W.setCell ⟨w.heap.size, n, none⟩ (.bool true)) Q L roots O' ∧ ∀ j (h : j < roots.length), j < k + 1 → At1 (univ L) O' roots[j] from ⟨O.set n true, (hO.below hb).set hnU (by rw [e2]; exact .root (List.getElem_mem hlt)), fun j h1 h2 => by
        rcases Nat.lt_or_ge j k with h | h
        · exact (hAt j h1 h).set n
        · have : j = k := by omega
          subst this
          rw [← e2]; exact At1.new hnU hOl⟩)
      have HCE := hid (fun W (hb : Below wr.heap.size wr W) => show W.cell? ⟨w.heap.size, n, none⟩ = some (.bool (O[n]'(by rw [hOl]; exact hnU))) ∧ ∀ o, W.frozen? ⟨w.heap.size, o, none⟩ = false from ⟨bwc_at (hO.below hb).hp _, fun o => Lib.frozen_of_heap (hO.below hb).hp o⟩)
      generalize (O[n]'(by rw [hOl]; exact hnU)) = bo at *
      generalize roots[k] = x at *
      obtain ⟨x1, x2⟩ := x
      clear hlt e1 e2 hO hAt hOl HO hnU
      go_wp2_with fail
      refine HF.out.mono ?_
      rintro e w1 ⟨rfl, hb⟩
      obtain ⟨z0, zf⟩ := HCE.out w1 hb
      have HN2 := hid (HNX.out w1 hb)
      clear hb
      go_wp2_with fail
      go_roundw
      case rel => first | exact ⟨k + 1, HLT.out, nr_idx k, HN2⟩ | exact ⟨k + 1, HLT.out, nx_idx HLT.out hrn, HN2⟩
      case measure => first | exact nr_meas HLT.out | exact nx_meas HLT.out hrn
    · have hkI : ¬ (k : Int) < (roots.length : Int) := by omega
      have HO2 := hid (show ∃ O, Mks w wr Q L roots O ∧ ∀ m, m ∈ roots → At1 (univ L) O m from ⟨O, hO, fun m hm => by
        obtain ⟨j, hj, rfl⟩ := List.getElem_of_mem hm
        exact hAt j hj (by omega)⟩)
      clear hlt hO hAt HO
      go_wp2_with fail
      go_loopw [7] (fun ag wr => (ag = .bool true ∨ ag = .bool false) ∧ Hid (∃ O, Mks w wr Q L roots O ∧ (∀ m, m ∈ roots → At1 (univ L) O m) ∧ (ag = .bool false → Cl1 (reqQ Q L) (univ L) O (univ L).length))) (fun ag wr => measM ag wr.heap[w.heap.size]?)
      case atStart =>
        obtain ⟨O, hO, hA⟩ := HO2.out
        exact ⟨Or.inl rfl, hid ⟨O, hO, hA, fun h => by cases h⟩⟩
      case round =>
        clear HO2
        obtain ⟨hag, HO3⟩ := hrel
        rcases hag with rfl | rfl
        · obtain ⟨N0, HN0⟩ : ∃ N0, Hid (unmW wr.heap[w.heap.size]? = N0) := ⟨_, hid rfl⟩
          have HO4 := hid (show ∃ O, Mks w wr Q L roots O ∧ (∀ m, m ∈ roots → At1 (univ L) O m) ∧ unm O ≤ N0 ∧ Cl1 (reqQ Q L) (univ L) O 0 by
            obtain ⟨O, hO, hA, _⟩ := HO3.out
            exact ⟨O, hO, hA, by rw [← HN0.out, unmW_is hO.hp]; exact Nat.le_refl _, fun j _ _ h => absurd h (Nat.not_lt_zero _)⟩)
          clear HO3
          go_wp2_with fail
          go_loopw [7, 8] (fun ag iv wr => (ag = .bool true ∨ ag = .bool false) ∧ ∃ i : Nat, i ≤ Q.length ∧ iv = .int .i64 i ∧ Hid (∃ O, Mks w wr Q L roots O ∧ (∀ m, m ∈ roots → At1 (univ L) O m) ∧ unm O ≤ N0 ∧ (ag = .bool true → unm O < N0) ∧ (ag = .bool false → Cl1 (reqQ Q L) (univ L) O i))) (fun _ iv _ => Q.length - (intOf iv).toNat)
          case atStart =>
            obtain ⟨O, hO, hA, hu, hc⟩ := HO4.out
            exact ⟨Or.inr rfl, 0, Nat.zero_le _, rfl, hid ⟨O, hO, hA, hu, (fun h => by cases h), fun _ => hc⟩⟩
          case round =>
            clear HO4
            obtain ⟨hag, i, hi, rfl, HO5⟩ := hrel
            by_cases hlt : i < Q.length
            · have hiI : (i : Int) < (Q.length : Int) := by omega
              have hi0 : (0 : Int) ≤ (i : Int) := by omega
              have HLI := hid hlt
              have hil : i < L.length := by rw [← HLN.out]; exact hlt
              have hiU : i < (univ L).length := by rw [HUL.out]; exact hlt
              have HCE := hid (fun W (h : Below w.heap.size w W) => es_cells (HI.out.below h).es hlt)
              have HMS := hid (fun W (h : Below w.heap.size w W) => ((HI.out.below h).ok i hlt hil).rq)
              have HRQ := hid (show ∀ (h : i < (univ L).length), reqQ Q L (univ L)[i] = L[i].2.1 from fun h => req_at HI.out HC.out hil h)
              have hRl := (HSZ.out L[i] (List.getElem_mem hil)).rn
              have HRX := hid (show ∀ x, x ∈ L[i].2.1 → x ∈ univ L from fun x hx => chk_reqs0 HI.out HC.out _ (List.getElem_mem hiU) x (by rw [HRQ.out]; exact hx))
              generalize (L[i]'hil).2.1 = R at *
              generalize (Q[i]'hlt).2.1 = qv at *
              obtain ⟨qa, qc, hqv, -⟩ := HMS.out w (Below.refl _ _)
              subst hqv
              obtain ⟨eb, eo, hea, -⟩ := HCE.out w (Below.refl _ _)
              subst hea
              have HX2 := hid (fun W (h : Below w.heap.size w W) => show W.cell? ⟨eb, eo + i * 5 + 2, none⟩ = some (.slice qa R.length qc) by
                obtain ⟨eb', eo', e, h2⟩ := HCE.out W h
                injection e with e
                injection e with e1 e2
                subst e1 e2
                exact h2)
              have HIU2 := hid hiU
              clear hlt hil hiU HCE
              go_wp2_with fail
              go_loopw [7, 9] (fun ag kv wr => (ag = .bool true ∨ ag = .bool false) ∧ ∃ k : Nat, k ≤ R.length ∧ kv = .int .i64 k ∧ Hid (∃ O, Mks w wr Q L roots O ∧ (∀ m, m ∈ roots → At1 (univ L) O m) ∧ unm O ≤ N0 ∧ (ag = .bool true → unm O < N0) ∧ (ag = .bool false → Cl1 (reqQ Q L) (univ L) O i ∧ ∀ j (h : j < R.length), j < k → O[i]? = some true → At1 (univ L) O R[j]))) (fun _ kv _ => R.length - (intOf kv).toNat)
              case atStart =>
                obtain ⟨O, hO, hA, hu, h1, h2⟩ := HO5.out
                exact ⟨hag, 0, Nat.zero_le _, rfl, hid ⟨O, hO, hA, hu, h1, fun h => ⟨h2 h, fun j _ hj => absurd hj (Nat.not_lt_zero _)⟩⟩⟩
              case round =>
                clear HO5 hag
                obtain ⟨hag, k, hk, rfl, HO6⟩ := hrel
                obtain ⟨O, hO, hA, hu, ht, hf⟩ := HO6.out
                have hOl : O.length = (univ L).length := hO.ok.ln
                have hiO : i < O.length := by rw [hOl]; exact HIU2.out
                have z0 := bwc_at hO.hp hiO
                have x2 := HX2.out _ hO.bl
                cases hoi : O[i]
                · rw [hoi] at z0
                  have HE := hid (show ∃ O, Mks w wr Q L roots O ∧ (∀ m, m ∈ roots → At1 (univ L) O m) ∧ unm O ≤ N0 ∧ (u7 = .bool true → unm O < N0) ∧ (u7 = .bool false → Cl1 (reqQ Q L) (univ L) O (i + 1)) from ⟨O, hO, hA, hu, ht, fun h j hj hj' hji ho m hm => by
                    rcases Nat.lt_or_ge j i with h1 | h1
                    · exact (hf h).1 j hj hj' h1 ho m hm
                    · have : j = i := by omega
                      subst this
                      rw [hoi] at ho; cases ho⟩)
                  clear hoi hO hA hu ht hf hOl hiO HO6
                  go_wp2_with fail
                  go_roundw
                  case rel => first | exact ⟨hag, i + 1, HLI.out, nr_idx i, HE⟩ | exact ⟨hag, i + 1, HLI.out, nx_idx HLI.out (by omega), HE⟩
                  case measure => first | exact nr_meas HLI.out | exact nx_meas HLI.out (by omega)
                · rw [hoi] at z0
                  have hRi := hO.ok.so i HIU2.out hiO hoi
                  by_cases hlk : k < R.length
                  · have hkI : (k : Int) < (R.length : Int) := by omega
                    have hk0 : (0 : Int) ≤ (k : Int) := by omega
                    obtain ⟨xb, xo, hxa, y0, y1⟩ := (HMS.out _ hO.bl).cells hlk
                    subst hxa
                    obtain ⟨n, hnU, e1, e2⟩ := HIU.out R[k] (HRX.out _ (List.getElem_mem hlk))
                    have HF := hid (HFO.out R[k] _ hO.bl)
                    rw [e1] at HF
                    have hnq : n < Q.length := by rw [← HUL.out]; exact hnU
                    have hnI : (n : Int) < (Q.length : Int) := by omega
                    have hn0 : (0 : Int) ≤ (n : Int) := by omega
                    have hnO : n < O.length := by rw [hOl]; exact hnU
                    have HLK := hid hlk
                    have hRn : Rch (reqQ Q L) roots (univ L)[n] := by
                      rw [e2]
                      exact .step hRi (by rw [HRQ.out]; exact List.getElem_mem hlk)
                    cases hon : O[n]
                    · have HNX := hid (fun W (hb : Below wr.heap.size wr W) => show ∃ O', Mks w (W.setCell ⟨w.heap.size, n, none⟩ (.bool true)) Q L roots O' ∧ (∀ m, m ∈ roots → At1 (univ L) O' m) ∧ unm O' ≤ N0 ∧ unm O' < N0 from by
                        have hs := unm_set O n hnO hon
                        exact ⟨O.set n true, (hO.below hb).set hnU hRn, fun m hm => (hA m hm).set n, by omega, by omega⟩)
                      have HCL := hid (fun W (hb : Below wr.heap.size wr W) => show W.cell? ⟨w.heap.size, n, none⟩ = some (.bool false) ∧ ∀ o, W.frozen? ⟨w.heap.size, o, none⟩ = false from ⟨by rw [bwc_at (hO.below hb).hp hnO, hon], fun o => Lib.frozen_of_heap (hO.below hb).hp o⟩)
                      generalize R[k] = x at *
                      obtain ⟨x1, x2'⟩ := x
                      clear hlk e1 e2 hO hA hu ht hf hOl hiO hon hnO hnU hRn hRi hoi HO6
                      go_wp2_with fail
                      refine HF.out.mono ?_
                      rintro e w1 ⟨rfl, hb⟩
                      obtain ⟨t0, tf⟩ := HCL.out w1 hb
                      obtain ⟨O', g1, g2, g3, g4⟩ := HNX.out w1 hb
                      have HN2 := hid (show ∃ O, Mks w (w1.setCell ⟨w.heap.size, n, none⟩ (.bool true)) Q L roots O ∧ (∀ m, m ∈ roots → At1 (univ L) O m) ∧ unm O ≤ N0 ∧ (Value.bool true = .bool true → unm O < N0) ∧ (Value.bool true = .bool false → Cl1 (reqQ Q L) (univ L) O i ∧ ∀ j (h : j < R.length), j < k + 1 → O[i]? = some true → At1 (univ L) O R[j]) from ⟨O', g1, g2, g3, fun _ => g4, fun h => by cases h⟩)
                      clear hb g1 g2 g3 g4
                      go_wp2_with fail
                      go_roundw
                      case rel => first | exact ⟨Or.inl rfl, k + 1, HLK.out, nr_idx k, HN2⟩ | exact ⟨Or.inl rfl, k + 1, HLK.out, nx_idx HLK.out hRl, HN2⟩ | exact ⟨by simp, k + 1, HLK.out, nr_idx k, by simpa using HN2⟩
                      case measure => first | exact nr_meas HLK.out | exact nx_meas HLK.out hRl
                    · have HNX := hid (fun W (hb : Below wr.heap.size wr W) => show ∃ O, Mks w W Q L roots O ∧ (∀ m, m ∈ roots → At1 (univ L) O m) ∧ unm O ≤ N0 ∧ (u7 = .bool true → unm O < N0) ∧ (u7 = .bool false → Cl1 (reqQ Q L) (univ L) O i ∧ ∀ j (h : j < R.length), j < k + 1 → O[i]? = some true → At1 (univ L) O R[j]) from ⟨O, hO.below hb, hA, hu, ht, fun h => ⟨(hf h).1, fun j h1 h2 h3 => by
                        rcases Nat.lt_or_ge j k with h4 | h4
                        · exact (hf h).2 j h1 h4 h3
                        · have : j = k := by omega
                          subst this
                          exact ⟨n, hnU, hnO, e2, hon⟩⟩⟩)
                      have HCL := hid (fun W (hb : Below wr.heap.size wr W) => show W.cell? ⟨w.heap.size, n, none⟩ = some (.bool true) by rw [bwc_at (hO.below hb).hp hnO, hon])
                      generalize R[k] = x at *
                      obtain ⟨x1, x2'⟩ := x
                      clear hlk e1 e2 hO hA hu ht hf hOl hiO hon hnO hnU hRn hRi hoi HO6
                      go_wp2_with fail
                      refine HF.out.mono ?_
                      rintro e w1 ⟨rfl, hb⟩
                      have t0 := HCL.out w1 hb
                      have HN2 := hid (HNX.out w1 hb)
                      clear hb
                      go_wp2_with fail
                      go_roundw
                      case rel => first | exact ⟨hag, k + 1, HLK.out, nr_idx k, HN2⟩ | exact ⟨hag, k + 1, HLK.out, nx_idx HLK.out hRl, HN2⟩
                      case measure => first | exact nr_meas HLK.out | exact nx_meas HLK.out hRl
                  · have hkI : ¬ (k : Int) < (R.length : Int) := by omega
                    have HE := hid (show ∃ O, Mks w wr Q L roots O ∧ (∀ m, m ∈ roots → At1 (univ L) O m) ∧ unm O ≤ N0 ∧ (u7 = .bool true → unm O < N0) ∧ (u7 = .bool false → Cl1 (reqQ Q L) (univ L) O (i + 1)) from ⟨O, hO, hA, hu, ht, fun h j hj hj' hji ho m hm => by
                      rcases Nat.lt_or_ge j i with h1 | h1
                      · exact (hf h).1 j hj hj' h1 ho m hm
                      · have : j = i := by omega
                        subst this
                        rw [HRQ.out] at hm
                        obtain ⟨t, ht2, rfl⟩ := List.getElem_of_mem hm
                        exact (hf h).2 t ht2 (by omega) (by rw [List.getElem?_eq_getElem hj', ho])⟩)
                    clear hlk hoi hO hA hu ht hf hOl hiO hRi HO6
                    go_wp2_with fail
                    go_roundw
                    case rel => first | exact ⟨hag, i + 1, HLI.out, nr_idx i, HE⟩ | exact ⟨hag, i + 1, HLI.out, nx_idx HLI.out (by omega), HE⟩
                    case measure => first | exact nr_meas HLI.out | exact nx_meas HLI.out (by omega)
            · have hiI : ¬ (i : Int) < (Q.length : Int) := by omega
              have hie : i = Q.length := by omega
              obtain ⟨O, hO, hA, hu, ht, hf⟩ := HO5.out
              have HE := hid (show ∃ O, Mks w wr Q L roots O ∧ (∀ m, m ∈ roots → At1 (univ L) O m) ∧ (u7 = .bool false → Cl1 (reqQ Q L) (univ L) O (univ L).length) from ⟨O, hO, hA, fun h => by rw [HUL.out, ← hie]; exact hf h⟩)
              have HME := hid (show measM u7 wr.heap[w.heap.size]? < N0 + 1 by
                rcases hag with rfl | rfl
                · show unmW _ + 1 < N0 + 1
                  rw [unmW_is hO.hp]
                  have := ht rfl
                  omega
                · exact Nat.succ_pos _)
              clear hlt hO hA hu ht hf HO5
              go_wp2_with fail
              go_roundw
              case rel => exact ⟨hag, HE⟩
              case measure =>
                have h1 := HME.out
                rw [← HN0.out] at h1
                exact h1
        · obtain ⟨O, hO, hA, hc⟩ := HO3.out
          have HFI := hid (show ∃ O : List Bool, Mks w wr Q L roots O ∧ ∀ i (hi : i < (univ L).length) (hi' : i < O.length), O[i] = true ↔ Rch (reqQ Q L) roots (univ L)[i] from ⟨O, hO, fun i hi hi' => hO.ok.iff (univ_nd HC.out) hA (hc rfl) hi hi'⟩)
          clear hO hA hc HO3
          go_wp2_with fail
          go_ret
          obtain ⟨O, h1, h2⟩ := HFI.out
          exact ⟨O, rfl, h1, h2⟩
end Ve
end Go.Proofs.YtffjaliegglddaaGreatDoor

/-
  What the document's answer says is reached (ReachOf).
-/
namespace Go.Proofs.YtffjaliegglddaaGreatDoor
open Go.RowKit Go.Maps
namespace Ve

theorem box_two {W : World} {g : Nat} {x y : Value} {T : TypeId} (h : W.heap[g]? = some (.cells #[x, y] T (0, 0))) : W.cell? ⟨g, 0, none⟩ = some x ∧ W.cell? ⟨g, 1, none⟩ = some y ∧ ∀ o, W.frozen? ⟨g, o, none⟩ = false :=
  ⟨by rw [Lib.cell_of_heap h]; rfl, by rw [Lib.cell_of_heap h]; rfl, fun o => Lib.frozen_of_heap h o⟩
set_option maxRecDepth 100000 in
set_option maxHeartbeats 4000000 in
theorem reachOf_ix (Q : List Raw) (L : List Ent) (roots : List Bm) (v rv : Value) (w : World) (hn : L.length ≤ 1000) (sh : ∀ e, e ∈ L → ShE e) (I : Ixs w v Q L) (hr : MsAt w rv roots) (h0 : (chk Q L).1 ≠ 0) :
    Calls Tryz.prog 14 #[v, rv] w fun e w' => e = .returned (.tuple #[.slice none 0 0, faultV (chk Q L)]) ∧ Below w.heap.size w w' := by
  have HB0 := hid ((Below.refl w.heap.size w).alloc (Nat.le_refl _) (.cells #[.int .i64 0, .int .i64 0] 36))
  have HE0 := hid (heap_new w (.cells #[.int .i64 0, .int .i64 0] 36))
  have HIF := hid (iFault_any Q L v _ hn sh (I.below HB0.out))
  obtain ⟨a, c, hv1, -⟩ := id I.es
  subst hv1
  obtain ⟨ra, rc, hrv, -⟩ := id hr
  subst hrv
  obtain ⟨cc, oo, hco⟩ : ∃ cc oo, chk Q L = (cc, oo) := ⟨_, _, rfl⟩
  rw [hco] at HIF h0 ⊢
  unfold faultV at HIF ⊢
  simp only at HIF h0 ⊢
  generalize atOf oo = ao at *
  have hpos : (0 : Int) < (cc : Int) := by omega
  have hnz : ((cc : Int) == 0) = false := by simp; omega
  have hnz2 : ¬ (cc : Int) = 0 := by omega
  clear I hr sh h0 hco
  go_enter Tryz.func14, Tryz.ntmps14
  go_wp2_with fail
  refine HIF.out.mono ?_
  rintro e w1 ⟨rfl, hb⟩
  have HB1 := hid (HB0.out.trans (hb.mono HB0.out.size))
  have HE1 := hid ((hb.block _ (lt_of_blk HE0.out)).trans HE0.out)
  clear hb
  have HB2 := hid (HB1.out.alloc HB1.out.size (.cells #[.int .i64 (cc : Int), .int .i64 ao] 36))
  have HE2 := hid (heap_old w1 (.cells #[.int .i64 (cc : Int), .int .i64 ao] 36) HE1.out)
  have HF2 := hid (heap_new w1 (.cells #[.int .i64 (cc : Int), .int .i64 ao] 36))
  have hlt := lt_of_blk HE1.out
  have hne : ¬ w1.heap.size = w.heap.size := by omega
  have hne2 : ¬ w.heap.size = w1.heap.size := by omega
  go_wp2_with fail
  generalize w1.alloc (.cells #[.int .i64 (cc : Int), .int .i64 ao] 36) = w2 at *
  obtain ⟨s0, s1, tf⟩ := box_two HE2.out
  obtain ⟨f0, f1, _⟩ := box_two HF2.out
  go_region_with fail
  all_goals
    go_wp2_with fail
    refine bodyPost_ret (v := .tuple #[.slice none 0 0, .agg #[.int .i64 (cc : Int), .int .i64 ao]]) (by simp [results, Tryz.results14, go_sem, s0, s1]) rfl ⟨rfl, ?_⟩
    exact put2_below (below_drawn_of HB2.out 1) (Nat.le_refl _)
set_option maxRecDepth 100000 in
set_option maxHeartbeats 4000000 in
theorem reachOf_rt (Q : List Raw) (L : List Ent) (roots : List Bm) (v rv : Value) (w : World) (hn : L.length ≤ 1000) (hrn : roots.length ≤ 1000000) (sh : ∀ e, e ∈ L → ShE e) (I : Ixs w v Q L) (hr : MsAt w rv roots) (h0 : (chk Q L).1 = 0) (h1 : codeE (nonE Q roots) roots.length ≠ 0) :
    Calls Tryz.prog 14 #[v, rv] w fun e w' => e = .returned (.tuple #[.slice none 0 0, faultV (codeE (nonE Q roots) roots.length, fstE (nonE Q roots) roots.length)]) ∧ Below w.heap.size w w' := by
  have HB0 := hid ((Below.refl w.heap.size w).alloc (Nat.le_refl _) (.cells #[.int .i64 0, .int .i64 0] 36))
  have HE0 := hid (heap_new w (.cells #[.int .i64 0, .int .i64 0] 36))
  have HIF := hid (iFault_any Q L v _ hn sh (I.below HB0.out))
  have HRF := hid (fun W (h : Below w.heap.size w W) => rFault_any Q roots v rv W (by rw [I.ln]; exact hn) hrn (I.below h).es (hr.below h))
  obtain ⟨a, c, hv1, -⟩ := id I.es
  subst hv1
  obtain ⟨ra, rc, hrv, -⟩ := id hr
  subst hrv
  obtain ⟨oo0, hco⟩ : ∃ oo, chk Q L = (0, oo) := ⟨(chk Q L).2, Prod.ext h0 rfl⟩
  rw [hco] at HIF
  unfold faultV at HIF HRF
  simp only at HIF HRF
  generalize atOf oo0 = ao0 at *
  unfold faultV
  simp only
  generalize codeE (nonE Q roots) roots.length = rc0 at *
  generalize atOf (fstE (nonE Q roots) roots.length) = ao at *
  have hpos : (0 : Int) < (rc0 : Int) := by omega
  clear I hr sh h0 hco h1
  go_enter Tryz.func14, Tryz.ntmps14
  go_wp2_with fail
  refine HIF.out.mono ?_
  rintro e w1 ⟨rfl, hb⟩
  have HB1 := hid (HB0.out.trans (hb.mono HB0.out.size))
  have HE1 := hid ((hb.block _ (lt_of_blk HE0.out)).trans HE0.out)
  clear hb
  have HB2 := hid (HB1.out.alloc HB1.out.size (.cells #[.int .i64 0, .int .i64 ao0] 36))
  have HE2 := hid (heap_old w1 (.cells #[.int .i64 0, .int .i64 ao0] 36) HE1.out)
  have HF2 := hid (heap_new w1 (.cells #[.int .i64 0, .int .i64 ao0] 36))
  have hlt := lt_of_blk HE1.out
  have hne : ¬ w1.heap.size = w.heap.size := by omega
  have hne2 : ¬ w.heap.size = w1.heap.size := by omega
  go_wp2_with fail
  refine (HRF.out _ HB2.out).mono ?_
  rintro e w3 ⟨rfl, hb⟩
  have HB3 := hid (HB2.out.trans (hb.mono HB2.out.size))
  have HE3 := hid ((hb.block _ (lt_of_blk HE2.out)).trans HE2.out)
  have HF3 := hid ((hb.block _ (lt_of_blk HF2.out)).trans HF2.out)
  clear hb
  have HB4 := hid (put2_below (x := .int .i64 (rc0 : Int)) (y := .int .i64 ao) HB3.out (Nat.le_of_lt hlt))
  have HE4 := hid (keep_set (fb := w1.heap.size) (o := 1) (x := .int .i64 ao) (keep_set (fb := w1.heap.size) (o := 0) (x := .int .i64 (rc0 : Int)) HE3.out hne2) hne2)
  have HF4 := hid (set_block (o := 1) (x := .int .i64 ao) (set_block (o := 0) (x := .int .i64 (rc0 : Int)) HF3.out))
  obtain ⟨g0, g1, gf⟩ := box_two HF3.out
  go_wp2_with fail
  generalize (w3.setCell ⟨w1.heap.size, 0, none⟩ (.int .i64 (rc0 : Int))).setCell ⟨w1.heap.size, 1, none⟩ (.int .i64 ao) = w4 at *
  obtain ⟨s0, s1, tf⟩ := box_two HE4.out
  have f0 : w4.cell? ⟨w1.heap.size, 0, none⟩ = some (.int .i64 (rc0 : Int)) := by rw [Lib.cell_of_heap HF4.out]; rfl
  have f1 : w4.cell? ⟨w1.heap.size, 1, none⟩ = some (.int .i64 ao) := by rw [Lib.cell_of_heap HF4.out]; rfl
  go_region_with fail
  all_goals
    go_wp2_with fail
    refine bodyPost_ret (v := .tuple #[.slice none 0 0, .agg #[.int .i64 (rc0 : Int), .int .i64 ao]]) (by simp [results, Tryz.results14, go_sem, s0, s1]) rfl ⟨rfl, ?_⟩
    exact put2_below (below_drawn_of HB4.out 1) (Nat.le_refl _)
/-- Those that are marked. -/
def selO : List Bool → List Bm → List Bm
  | b :: O, m :: U => if b then m :: selO O U else selO O U
  | _, _ => []
theorem selO_take : ∀ (O : List Bool) (U : List Bm) (k : Nat) (h : k < O.length) (h' : k < U.length), selO (O.take (k + 1)) (U.take (k + 1)) = selO (O.take k) (U.take k) ++ (if O[k] then [U[k]] else [])
  | [], _, _, h, _ => absurd h (Nat.not_lt_zero _)
  | _ :: _, [], _, _, h' => absurd h' (Nat.not_lt_zero _)
  | b :: O, m :: U, 0, _, _ => by cases b <;> simp [selO]
  | b :: O, m :: U, k + 1, h, h' => by
    have ih := selO_take O U k (by simpa using h) (by simpa using h')
    simp only [List.take_succ_cons, selO, List.getElem_cons_succ]
    cases b <;> simp [ih]
theorem selO_filter : ∀ (O : List Bool) (U : List Bm) (P : Bm → Bool), O.length = U.length → (∀ i (h : i < U.length) (h' : i < O.length), O[i] = P U[i]) → selO O U = U.filter P
  | [], [], _, _, _ => rfl
  | [], _ :: _, _, h, _ => by simp at h
  | _ :: _, [], _, h, _ => by simp at h
  | b :: O, m :: U, P, h, hp => by
    have h0 := hp 0 (by simp) (by simp)
    have ih := selO_filter O U P (by simpa using h) (fun i h1 h2 => by
      have h3 := hp (i + 1) (by simpa using h1) (by simpa using h2)
      simp only [List.getElem_cons_succ] at h3
      exact h3)
    simp only [List.getElem_cons_zero] at h0
    simp only [selO, List.filter_cons, ih, h0]
theorem selO_go {w : World} {v : Value} {Q : List Raw} {L : List Ent} {roots : List Bm} {O : List Bool} {T : By} (I : Ixs w v Q L) (hl : O.length = (univ L).length) (hO : ∀ i (hi : i < (univ L).length) (hi' : i < O.length), O[i] = true ↔ Rch (reqQ Q L) roots (univ L)[i]) (hT : Came (reqQ Q L) (univ L) roots T) : selO O (univ L) = goM T Q := by
  rw [selO_filter O (univ L) (cameB T) hl (fun i h h' => by
    cases ho : O[i]
    · cases hc : cameB T (univ L)[i]
      · rfl
      · have := (hO i h h').2 ((hT.cameB _).1 hc)
        rw [ho] at this; cases this
    · exact ((hT.cameB _).2 ((hO i h h').1 ho)).symm), ← univ_eq I]
  unfold goM goQ
  rw [List.filter_map]
  rfl
set_option maxRecDepth 100000 in
set_option maxHeartbeats 4000000 in
theorem reachOf_good (Q : List Raw) (L : List Ent) (roots : List Bm) (v rv : Value) (w : World) (hn : L.length ≤ 1000) (hrn : roots.length ≤ 1000000) (sh : ∀ e, e ∈ L → ShE e) (I : Ixs w v Q L) (hr : MsAt w rv roots) (hg : (chkG Q L roots).1 = 0) :
    Calls Tryz.prog 14 #[v, rv] w fun e w' => ∃ u O, e = .returned (.tuple #[u, .agg #[.int .i64 0, .int .i64 (-1)]]) ∧ O.length = (univ L).length ∧ (∀ i (hi : i < (univ L).length) (hi' : i < O.length), O[i] = true ↔ Rch (reqQ Q L) roots (univ L)[i]) ∧ w'.ownsRow w.heap.size 25 2 u (selO O (univ L)).length (flatM (selO O (univ L))) ∧ Below w.heap.size w w' := by
  have HB0 := hid ((Below.refl w.heap.size w).alloc (Nat.le_refl _) (.cells #[.int .i64 0, .int .i64 0] 36))
  have HE0 := hid (heap_new w (.cells #[.int .i64 0, .int .i64 0] 36))
  have HIF := hid (iFault_any Q L v _ hn sh (I.below HB0.out))
  have h0 : (chk Q L).1 = 0 := (rgt_of I hg).c
  have h1 : (codeE (nonE Q roots) roots.length, fstE (nonE Q roots) roots.length) = (0, none) := by
    have h := hg
    rw [chkG_ok h0] at h
    have h2 : codeE (nonE Q roots) roots.length = 0 := h
    cases h3 : fstE (nonE Q roots) roots.length with
    | none => rw [h2]
    | some j =>
      rw [codeE_some h3] at h2
      exact absurd h2 (fstE_of_some h3).2.1
  have HUL := hid (show (univ L).length = Q.length by rw [I.ln]; simp [univ])
  have hqn : Q.length ≤ 1000 := by rw [I.ln]; exact hn
  have HMK := hid (fun W (h : Below w.heap.size w W) => marks_any Q L roots v rv W hn hrn sh (I.below h) (hr.below h) hg)
  have HEA := hid (fun i (hi : i < Q.length) W (h : Below w.heap.size w W) => (I.below h).es)
  have HUM := hid (fun i (hi : i < Q.length) (hi' : i < (univ L).length) => show Q[i].1 = (univ L)[i] by
    have := (I.ok i hi (by rw [← I.ln]; exact hi)).m
    simp only [univ, List.getElem_map]
    exact this)
  obtain ⟨i0, hi0, hz0, hz1, hz2⟩ := info_parts infoMod
  have HRF := hid (fun W (h : Below w.heap.size w W) => rFault_any Q roots v rv W (by rw [I.ln]; exact hn) hrn (I.below h).es (hr.below h))
  obtain ⟨a, c, hv1, -⟩ := id I.es
  subst hv1
  obtain ⟨ra, rc, hrv, -⟩ := id hr
  subst hrv
  obtain ⟨oo0, hco⟩ : ∃ oo, chk Q L = (0, oo) := ⟨(chk Q L).2, Prod.ext h0 rfl⟩
  rw [hco] at HIF
  unfold faultV at HIF HRF
  simp only at HIF HRF
  generalize atOf oo0 = ao0 at *
  have e1 : codeE (nonE Q roots) roots.length = 0 := congrArg Prod.fst h1
  have e2 : fstE (nonE Q roots) roots.length = none := congrArg Prod.snd h1
  rw [e1, e2, show atOf none = -1 from rfl] at HRF
  clear I hr sh h0 hco h1 e1 e2 hg
  go_enter Tryz.func14, Tryz.ntmps14
  go_wp2_with fail
  refine HIF.out.mono ?_
  rintro e w1 ⟨rfl, hb⟩
  have HB1 := hid (HB0.out.trans (hb.mono HB0.out.size))
  have HE1 := hid ((hb.block _ (lt_of_blk HE0.out)).trans HE0.out)
  clear hb
  have HB2 := hid (HB1.out.alloc HB1.out.size (.cells #[.int .i64 0, .int .i64 ao0] 36))
  have HE2 := hid (heap_old w1 (.cells #[.int .i64 0, .int .i64 ao0] 36) HE1.out)
  have HF2 := hid (heap_new w1 (.cells #[.int .i64 0, .int .i64 ao0] 36))
  have hlt := lt_of_blk HE1.out
  have hne : ¬ w1.heap.size = w.heap.size := by omega
  have hne2 : ¬ w.heap.size = w1.heap.size := by omega
  go_wp2_with fail
  refine (HRF.out _ HB2.out).mono ?_
  rintro e w3 ⟨rfl, hb⟩
  have HB3 := hid (HB2.out.trans (hb.mono HB2.out.size))
  have HE3 := hid ((hb.block _ (lt_of_blk HE2.out)).trans HE2.out)
  have HF3 := hid ((hb.block _ (lt_of_blk HF2.out)).trans HF2.out)
  clear hb
  have HB4 := hid (put2_below (x := .int .i64 0) (y := .int .i64 (-1)) HB3.out (Nat.le_of_lt hlt))
  have HE4 := hid (keep_set (fb := w1.heap.size) (o := 1) (x := .int .i64 (-1)) (keep_set (fb := w1.heap.size) (o := 0) (x := .int .i64 0) HE3.out hne2) hne2)
  have HF4 := hid (set_block (o := 1) (x := .int .i64 (-1)) (set_block (o := 0) (x := .int .i64 0) HF3.out))
  obtain ⟨g0, g1, gf⟩ := box_two HF3.out
  go_wp2_with fail
  generalize (w3.setCell ⟨w1.heap.size, 0, none⟩ (.int .i64 0)).setCell ⟨w1.heap.size, 1, none⟩ (.int .i64 (-1)) = w4 at *
  refine (HMK.out w4 HB4.out).mono ?_
  rintro e w5 ⟨O, rfl, hM, hO⟩
  have HB5 := hid (HB4.out.trans (hM.bl.mono HB4.out.size))
  have HE5 := hid ((hM.bl.block _ (lt_of_blk HE4.out)).trans HE4.out)
  have HHP := hid hM.hp
  have HOI := hid hO
  have HOL := hid hM.ok.ln
  have h45 := hM.bl.size
  have hw4 := HB4.out.size
  clear hM hO HMK
  go_wp2_with fail
  go_loopw [8, 9] (fun ov iv wr => ∃ i : Nat, i ≤ Q.length ∧ iv = .int .i64 i ∧ Hid (wr.ownsRow w5.heap.size 25 2 ov (selO (O.take i) ((univ L).take i)).length (flatM (selO (O.take i) ((univ L).take i)))) ∧ (selO (O.take i) ((univ L).take i)).length ≤ i ∧ Hid (Below w5.heap.size w5 wr)) (fun _ iv _ => Q.length - (intOf iv).toNat)
  case atStart => exact ⟨0, Nat.zero_le _, rfl, hid (by simp only [List.take_zero, selO]; exact World.ownsRow_nil _ _ _ _), by simp [selO], hid (Below.refl _ _)⟩
  case round =>
    obtain ⟨i, hi, rfl, HOW, hsl, HBr⟩ := hrel
    by_cases hlt2 : i < Q.length
    · have hiI : (i : Int) < (Q.length : Int) := by omega
      have hii : (0 : Int) ≤ (i : Int) := by omega
      have HLI := hid hlt2
      have hiU : i < (univ L).length := by rw [HUL.out]; exact hlt2
      have hiO : i < O.length := by rw [HOL.out]; exact hiU
      have HBw := hid (HB5.out.trans (HBr.out.mono HB5.out.size))
      have m0 := cell_below HBr.out (bwc_at HHP.out hiO)
      have hes := HEA.out i hlt2 _ HBw.out
      obtain ⟨b, o, hab⟩ : ∃ b o, a = some ⟨b, o, none⟩ := by
        obtain ⟨a', c', e, _, _, h⟩ := hes
        injection e with q1 q2 q3
        obtain ⟨b, o, h4, _⟩ := h (fun h => by rw [h] at hlt2; simp at hlt2)
        exact ⟨b, o, by rw [q1, h4]⟩
      subst hab
      obtain ⟨-, x0, x1, -, -, -⟩ := es_all hes hlt2
      have HST := hid (selO_take O (univ L) i hiO hiU)
      rw [HUM.out i hlt2 hiU] at x0 x1
      generalize (univ L)[i] = um at *
      obtain ⟨up, uq⟩ := um
      simp only at x0 x1
      have hwz := HBr.out.size
      clear hes hlt2
      cases hoi : O[i]
      · rw [hoi] at m0 HST
        have HST2 := hid (show selO (O.take (i + 1)) ((univ L).take (i + 1)) = selO (O.take i) ((univ L).take i) by rw [HST.out]; simp)
        clear hoi
        go_wp2_with fail
        go_roundw
        case rel => first | exact ⟨i + 1, HLI.out, nr_idx i, hid (by rw [HST2.out]; exact HOW.out), by rw [HST2.out]; omega, HBr⟩ | exact ⟨i + 1, HLI.out, nx_idx HLI.out (by omega), hid (by rw [HST2.out]; exact HOW.out), by rw [HST2.out]; omega, HBr⟩
        case measure => first | exact nr_meas HLI.out | exact nx_meas HLI.out (by omega)
      · rw [hoi] at m0 HST
        have HST2 := hid (show selO (O.take (i + 1)) ((univ L).take (i + 1)) = selO (O.take i) ((univ L).take i) ++ [(up, uq)] by rw [HST.out]; simp)
        obtain ⟨SX, hSX⟩ : ∃ SX, selO (O.take i) ((univ L).take i) = SX := ⟨_, rfl⟩
        rw [hSX] at HOW HST2 hsl
        clear hoi hSX HST
        go_wp2_with (at_builtin; refine wpList_append_own _ rfl _ _ 23 rfl w5.heap.size 25 i0 _ 2 32 Tryz.underlying23 hi0 hz0 hz1 hz2 rfl (by decide) _ _ _ rfl (HOW.out.alloc _) ⟨wr.heap.size, 0, none⟩ 1 1 [.string up, .string uq] rfl rfl ?c1 ?c2 ?c3 ?c4 ?c5 ?_)
        case c1 =>
          intro t u ht
          match t, ht with
          | 0, ht => simp at ht; subst ht; simp [Addr.add]
          | 1, ht => simp at ht; subst ht; simp [Addr.add]
          | t + 2, ht => simp at ht
        case c2 => intro u hu; simp at hu; rcases hu with rfl | rfl <;> rfl
        case c3 => unfold maxLen; omega
        case c4 => omega
        case c5 => first | omega | (simp; omega)
        intro v' w6 hown hgrow _
        have HR3 := hid (rel_app2 HBr.out.size HBr.out HOW.out (Below.refl _ _) hgrow)
        have HO4 := hid (show w6.ownsRow w5.heap.size 25 2 v' (SX ++ [(up, uq)]).length (flatM (SX ++ [(up, uq)])) by rw [List.length_append, flatM_app]; exact hown)
        clear hown hgrow
        go_wp2_with fail
        go_roundw
        case rel => first | exact ⟨i + 1, HLI.out, nr_idx i, hid (by rw [HST2.out]; exact HO4.out), by rw [HST2.out]; simp; omega, HR3⟩ | exact ⟨i + 1, HLI.out, nx_idx HLI.out (by omega), hid (by rw [HST2.out]; exact HO4.out), by rw [HST2.out]; simp; omega, HR3⟩
        case measure => first | exact nr_meas HLI.out | exact nx_meas HLI.out (by omega)
    · have hiI : ¬ (i : Int) < (Q.length : Int) := by omega
      have hie : i = Q.length := by omega
      have HOF := hid (show wr.ownsRow w5.heap.size 25 2 u8 (selO O (univ L)).length (flatM (selO O (univ L))) by
        have h := HOW.out
        rw [List.take_of_length_le (by rw [HOL.out, HUL.out]; omega), List.take_of_length_le (by rw [HUL.out]; omega)] at h
        exact h)
      have HFN := hid (fun W => fine_any W)
      clear hlt2 HOW hsl
      obtain ⟨oa, on, oc, hov⟩ := own_sl HOF.out
      subst hov
      go_wp2_with fail
      refine (HFN.out _).mono ?_
      rintro e w6 ⟨rfl, hb⟩
      have HB6 := hid ((HB5.out.trans (HBr.out.mono HB5.out.size)).trans (hb.mono (Nat.le_trans HB5.out.size HBr.out.size)))
      have HE6 := hid ((hb.block _ (Nat.lt_of_lt_of_le (lt_of_blk HE5.out) HBr.out.size)).trans ((HBr.out.block _ (lt_of_blk HE5.out)).trans HE5.out))
      have HO6 := hid (owns_below HOF.out hb)
      clear hb
      obtain ⟨s0, s1, tf⟩ := box_two HE6.out
      have hw5 := lt_of_blk HE5.out
      have hnb : (Value.slice oa on oc).ownBlock ≠ some w.heap.size := fun h => by
        have := (own_lt HO6.out h).2
        omega
      have HO7 := hid (own_base (owns_set (o := 1) (x := .int .i64 (-1)) (owns_set (o := 0) (x := .int .i64 0) HO6.out hnb) hnb) (show w.heap.size ≤ w5.heap.size by omega))
      go_wp2_with fail
      refine bodyPost_ret (v := .tuple #[.slice oa on oc, .agg #[.int .i64 0, .int .i64 (-1)]]) (by simp [results, Tryz.results14, go_sem, s0, s1]) rfl ⟨_, O, rfl, HOL.out, HOI.out, HO7.out, ?_⟩
      exact put2_below HB6.out (Nat.le_refl _)
end Ve
end Go.Proofs.YtffjaliegglddaaGreatDoor

/-
  How far the document's answer says that one is off (FarOf).
-/
namespace Go.Proofs.YtffjaliegglddaaGreatDoor
open Go.RowKit Go.Maps
namespace Ve

theorem rch_uni {w : World} {v : Value} {Q : List Raw} {L : List Ent} {roots : List Bm} (I : Ixs w v Q L) (h : (chkG Q L roots).1 = 0) {m : Bm} (hm : Rch (reqQ Q L) roots m) : m ∈ univ L := by
  have r := rgt_of I h
  induction hm with
  | root hr => exact r.r _ hr
  | step _ hr ih => exact chk_reqs0 I r.c _ ih _ hr
theorem reachOf_bad (Q : List Raw) (L : List Ent) (roots : List Bm) (v rv : Value) (w : World) (hn : L.length ≤ 1000) (hrn : roots.length ≤ 1000000) (sh : ∀ e, e ∈ L → ShE e) (I : Ixs w v Q L) (hr : MsAt w rv roots) (h0 : (chkG Q L roots).1 ≠ 0) :
    Calls Tryz.prog 14 #[v, rv] w fun e w' => e = .returned (.tuple #[.slice none 0 0, faultV (chkG Q L roots)]) ∧ Below w.heap.size w w' := by
  by_cases hc : (chk Q L).1 = 0
  · rw [chkG_ok hc] at h0 ⊢
    exact reachOf_rt Q L roots v rv w hn hrn sh I hr hc h0
  · rw [chkG_bad hc]
    exact reachOf_ix Q L roots v rv w hn sh I hr hc
set_option maxRecDepth 100000 in
set_option maxHeartbeats 4000000 in
theorem farOf_bad (Q : List Raw) (L : List Ent) (roots : List Bm) (m : Bm) (v rv : Value) (w : World) (hn : L.length ≤ 1000) (hrn : roots.length ≤ 1000000) (sh : ∀ e, e ∈ L → ShE e) (I : Ixs w v Q L) (hr : MsAt w rv roots) (h0 : (chkG Q L roots).1 ≠ 0) :
    Calls Tryz.prog 20 #[v, rv, .agg #[.string m.1, .string m.2]] w fun e w' => e = .returned (.tuple #[.int .i64 0, faultV (chkG Q L roots)]) ∧ Below w.heap.size w w' := by
  have HRO := hid (fun W (h : Below w.heap.size w W) => reachOf_bad Q L roots v rv W hn hrn sh (I.below h) (hr.below h) h0)
  obtain ⟨mp, mq⟩ := m
  have HBm := hid ((Below.refl w.heap.size w).alloc (Nat.le_refl _) (.cells #[.string mp, .string mq] 25))
  have HB0 := hid (HBm.out.alloc HBm.out.size (.cells #[.int .i64 0, .int .i64 0] 36))
  have HM0 := hid (heap_old (w.alloc (.cells #[.string mp, .string mq] 25)) (.cells #[.int .i64 0, .int .i64 0] 36) (heap_new w (.cells #[.string mp, .string mq] 25)))
  have HE0 := hid (show ((w.alloc (.cells #[.string mp, .string mq] 25)).alloc (.cells #[.int .i64 0, .int .i64 0] 36)).heap[w.heap.size + 1]? = some (.cells #[.int .i64 0, .int .i64 0] 36 (0, 0)) by
    have h := heap_new (w.alloc (.cells #[.string mp, .string mq] 25)) (.cells #[.int .i64 0, .int .i64 0] 36)
    have e : (w.alloc (.cells #[.string mp, .string mq] 25)).heap.size = w.heap.size + 1 := by simp
    rw [e] at h
    exact h)
  simp only
  obtain ⟨a, c, hv1, -⟩ := id I.es
  subst hv1
  obtain ⟨ra, rc, hrv, -⟩ := id hr
  subst hrv
  obtain ⟨cc, oo, hco⟩ : ∃ cc oo, chkG Q L roots = (cc, oo) := ⟨_, _, rfl⟩
  rw [hco] at HRO h0 ⊢
  unfold faultV at HRO ⊢
  simp only at HRO h0 ⊢
  generalize atOf oo = ao at *
  have hpos : (0 : Int) < (cc : Int) := by omega
  clear I hr sh h0 hco
  go_enter Tryz.func20, Tryz.ntmps20
  go_wp2_with fail
  refine (HRO.out _ HB0.out).mono ?_
  rintro e w1 ⟨rfl, hb⟩
  have HB1 := hid (HB0.out.trans (hb.mono HB0.out.size))
  have HE1 := hid ((hb.block _ (lt_of_blk HE0.out)).trans HE0.out)
  have HB2 := hid (HB1.out.alloc HB1.out.size (.cells #[.int .i64 (cc : Int), .int .i64 ao] 36))
  have HE2 := hid (heap_old w1 (.cells #[.int .i64 (cc : Int), .int .i64 ao] 36) HE1.out)
  have HF2 := hid (heap_new w1 (.cells #[.int .i64 (cc : Int), .int .i64 ao] 36))
  have hlt := lt_of_blk HE1.out
  have hne : ¬ w1.heap.size = w.heap.size + 1 := by omega
  have hne2 : ¬ w.heap.size + 1 = w1.heap.size := by omega
  have HM1 := hid ((hb.block _ (lt_of_blk HM0.out)).trans HM0.out)
  clear hb
  go_wp2_with fail
  generalize w1.alloc (.cells #[.int .i64 (cc : Int), .int .i64 ao] 36) = w2 at *
  obtain ⟨s0, s1, tf⟩ := box_two HE2.out
  obtain ⟨f0, f1, _⟩ := box_two HF2.out
  go_region_with fail
  all_goals
    go_wp2_with fail
    refine bodyPost_ret (v := .tuple #[.int .i64 0, .agg #[.int .i64 (cc : Int), .int .i64 ao]]) (by simp [results, Tryz.results20, go_sem, s0, s1]) rfl ⟨rfl, ?_⟩
    exact put2_below (below_drawn_of HB2.out 1) (Nat.le_succ _)
/-- Numbers in memory. -/
def iwc (F : List Nat) : Array Value := (F.map fun n : Nat => Value.int .i64 (n : Int)).toArray
theorem iwc_set (F : List Nat) (a n : Nat) : (iwc F).setIfInBounds a (.int .i64 (n : Int)) = iwc (F.set a n) := by
  unfold iwc
  rw [List.setIfInBounds_toArray, List.map_set]
theorem iwc_at {W : World} {g : Nat} {F : List Nat} (h : W.heap[g]? = some (.cells (iwc F) 3 (0, 0))) {a : Nat} (ha : a < F.length) : W.cell? ⟨g, a, none⟩ = some (.int .i64 (F[a] : Int)) := by
  rw [Lib.cell_of_heap h]
  simp [iwc, ha]
theorem made_ints (n : Nat) : madeCells (Value.int .i64 0).cells n = iwc (List.replicate n 0) := by
  unfold madeCells iwc
  simp [Value.cells]
  apply Array.ext
  · simp
  · intro i h1 h2
    simp [Nat.mod_one]
theorem make_ints (n : Nat) (w : World) (hn : n ≤ 1000000) : (Instr.makeSlice 76 (.int .i64 (n : Int)) (.int .i64 (n : Int))).run Tryz.prog w = .ok (.slice (some ⟨w.heap.size, 0, none⟩) n n) (w.alloc (.cells (iwc (List.replicate n 0)) 3)) := by
  obtain ⟨i0, hi, hz0, hz1, hz2⟩ := info_parts infoInt
  have h := run_makeSlice (P := Tryz.prog) w 76 3 i0 (.int .i64 0) Tryz.underlying76 hi hz0 .i64 .i64 (n : Int) (n : Int) (by omega) (by omega) (by rw [hz1]; simp; omega) (by rw [hz2]; omega) (by omega)
  rw [hz1] at h
  simp only [Int.toNat_natCast, Nat.mul_one] at h
  rw [made_ints] at h
  exact h
/-- How far, in memory. -/
structure Fas (w W : World) (g : Nat) (Q : List Raw) (L : List Ent) (roots : List Bm) (n i : Nat) (F : List Nat) : Prop where
  gg : w.heap.size = g
  bl : Below w.heap.size w W
  hp : W.heap[g]? = some (.cells (iwc F) 3 (0, 0))
  ok : Fr (reqQ Q L) (univ L) roots n i F
theorem Fas.below {w W W' : World} {g : Nat} {Q : List Raw} {L : List Ent} {roots : List Bm} {n i : Nat} {F : List Nat} (h : Fas w W g Q L roots n i F) (hb : Below W.heap.size W W') : Fas w W' g Q L roots n i F :=
  ⟨h.gg, h.bl.trans (hb.mono h.bl.size), (hb.block _ (lt_of_blk h.hp)).trans h.hp, h.ok⟩
theorem Fas.fr {w W : World} {g : Nat} {Q : List Raw} {L : List Ent} {roots : List Bm} {n i n' i' : Nat} {F : List Nat} (h : Fas w W g Q L roots n i F) (hf : Fr (reqQ Q L) (univ L) roots n' i' F) : Fas w W g Q L roots n' i' F := ⟨h.gg, h.bl, h.hp, hf⟩
theorem Fas.put {w W : World} {g : Nat} {Q : List Raw} {L : List Ent} {roots : List Bm} {n i k : Nat} {F : List Nat} (h : Fas w W g Q L roots n i F) {a : Nat} {x : Value} (hx : x = .int .i64 (k : Int)) (hf : Fr (reqQ Q L) (univ L) roots n i (F.set a k)) : Fas w (W.setCell ⟨g, a, none⟩ x) g Q L roots n i (F.set a k) :=
  ⟨h.gg, h.bl.setCell (by rw [h.gg]; exact Nat.le_refl _) _, by rw [set_block h.hp, hx, iwc_set], hf⟩
/-- Was it come to? -/
def AtF (U : List Bm) (F : List Nat) (m : Bm) : Prop := ∃ a, ∃ h : a < U.length, ∃ h' : a < F.length, U[a] = m ∧ F[a] ≠ 0
theorem AtF.set {U : List Bm} {F : List Nat} {m : Bm} (h : AtF U F m) (a n : Nat) : AtF U (F.set a (n + 1)) m := by
  obtain ⟨k, hk, hk', e1, e2⟩ := h
  refine ⟨k, hk, by rw [List.length_set]; exact hk', e1, ?_⟩
  by_cases hka : a = k
  · subst hka; rw [List.getElem_set_self]; omega
  · rw [List.getElem_set_ne hka]; exact e2
theorem AtF.new {U : List Bm} {F : List Nat} {a : Nat} (n : Nat) (ha : a < U.length) (hl : F.length = U.length) : AtF U (F.set a (n + 1)) U[a] :=
  ⟨a, ha, by rw [List.length_set, hl]; exact ha, rfl, by rw [List.getElem_set_self]; omega⟩
theorem AtF.at {U : List Bm} {F : List Nat} (hN : U.Nodup) {j : Nat} (hj : j < U.length) (hj' : j < F.length) (h : AtF U F U[j]) : F[j] ≠ 0 := by
  obtain ⟨k, hk, hk', e1, e2⟩ := h
  have hp := List.pairwise_iff_getElem.1 hN
  have : k = j := by
    rcases Nat.lt_trichotomy k j with h1 | h1 | h1
    · exact absurd e1 (hp k j hk hj h1)
    · exact h1
    · exact absurd e1.symm (hp j k hj hk h1)
  subst this
  exact e2
/-- What FarOf answers. -/
def FarR (Q : List Raw) (L : List Ent) (roots : List Bm) (m : Bm) (d : Nat) (f : Value) : Prop :=
  (¬ Rch (reqQ Q L) roots m ∧ d = 0 ∧ f = .agg #[.int .i64 5, .int .i64 (-1)]) ∨ (Dst (reqQ Q L) roots m d ∧ f = .agg #[.int .i64 0, .int .i64 (-1)])
set_option maxRecDepth 100000 in
set_option maxHeartbeats 8000000 in
theorem farOf_good (Q : List Raw) (L : List Ent) (roots : List Bm) (m : Bm) (v rv : Value) (w : World) (hn : L.length ≤ 1000) (hrn : roots.length ≤ 1000000) (sh : ∀ e, e ∈ L → ShE e) (I : Ixs w v Q L) (hr : MsAt w rv roots) (h0 : (chkG Q L roots).1 = 0) :
    Calls Tryz.prog 20 #[v, rv, .agg #[.string m.1, .string m.2]] w fun e w' => ∃ (d : Nat) (f : Value), e = .returned (.tuple #[.int .i64 (d : Int), f]) ∧ FarR Q L roots m d f ∧ Below w.heap.size w w' := by
  have HRO := hid (fun W (h : Below w.heap.size w W) => reachOf_good Q L roots v rv W hn hrn sh (I.below h) (hr.below h) h0)
  obtain ⟨mp, mq⟩ := m
  have HBm := hid ((Below.refl w.heap.size w).alloc (Nat.le_refl _) (.cells #[.string mp, .string mq] 25))
  have HB0 := hid (HBm.out.alloc HBm.out.size (.cells #[.int .i64 0, .int .i64 0] 36))
  have HM0 := hid (heap_old (w.alloc (.cells #[.string mp, .string mq] 25)) (.cells #[.int .i64 0, .int .i64 0] 36) (heap_new w (.cells #[.string mp, .string mq] 25)))
  have HE0 := hid (show ((w.alloc (.cells #[.string mp, .string mq] 25)).alloc (.cells #[.int .i64 0, .int .i64 0] 36)).heap[w.heap.size + 1]? = some (.cells #[.int .i64 0, .int .i64 0] 36 (0, 0)) by
    have h := heap_new (w.alloc (.cells #[.string mp, .string mq] 25)) (.cells #[.int .i64 0, .int .i64 0] 36)
    have e : (w.alloc (.cells #[.string mp, .string mq] 25)).heap.size = w.heap.size + 1 := by simp
    rw [e] at h
    exact h)
  have HLN := hid I.ln
  have hqn : Q.length ≤ 1000 := by rw [I.ln]; exact hn
  have HUL := hid (show (univ L).length = Q.length by rw [I.ln]; simp [univ])
  have HC := hid (rgt_of I h0).c
  have HND := hid (univ_nd HC.out)
  have HRU := hid (rgt_of I h0).r
  have HUN := hid (fun x (hx : Rch (reqQ Q L) roots x) => rch_uni I h0 hx)
  have HFO := hid (fun x W (h : Below w.heap.size w W) => findOf_all Q x v W (by omega) (I.below h).es)
  have HIU := hid (fun x (hm : x ∈ univ L) => idx_univ I hm)
  have HFI := hid (found_iff I (mp, mq))
  have HMR := hid (fun W (h : Below w.heap.size w W) => hr.below h)
  have HI := hid I
  have HSZ := hid sh
  obtain ⟨a, c, hv1, -⟩ := id I.es
  subst hv1
  obtain ⟨ra, rc, hrv, -⟩ := id hr
  subst hrv
  clear I hr sh h0 hn
  simp only
  go_enter Tryz.func20, Tryz.ntmps20
  go_wp2_with fail
  refine (HRO.out _ HB0.out).mono ?_
  rintro e w1 ⟨u, O, rfl, -, -, hown, hb⟩
  obtain ⟨oa, on, oc, hov⟩ := own_sl hown
  subst hov
  have HB1 := hid (HB0.out.trans (hb.mono HB0.out.size))
  have HE1 := hid ((hb.block _ (lt_of_blk HE0.out)).trans HE0.out)
  clear hown HRO
  have HB2 := hid (HB1.out.alloc HB1.out.size (.cells #[.int .i64 0, .int .i64 (-1)] 36))
  have HE2 := hid (heap_old w1 (.cells #[.int .i64 0, .int .i64 (-1)] 36) HE1.out)
  have HF2 := hid (heap_new w1 (.cells #[.int .i64 0, .int .i64 (-1)] 36))
  have hlt := lt_of_blk HE1.out
  have hne : ¬ w1.heap.size = w.heap.size + 1 := by omega
  have hne2 : ¬ w.heap.size + 1 = w1.heap.size := by omega
  have HM1 := hid ((hb.block _ (lt_of_blk HM0.out)).trans HM0.out)
  clear hb
  have HW2 := hid (show (w1.alloc (.cells #[.int .i64 0, .int .i64 (-1)] 36)).heap.size = w1.heap.size + 1 by simp)
  have hmk := make_ints Q.length (w1.alloc (.cells #[.int .i64 0, .int .i64 (-1)] 36)) (by omega)
  go_wp2_with fail
  clear hmk
  have HBG := hid (show ∀ W, Below (w1.alloc (.cells #[.int .i64 0, .int .i64 (-1)] 36)).heap.size (w1.alloc (.cells #[.int .i64 0, .int .i64 (-1)] 36)) W → Below w.heap.size w W from fun W h => HB2.out.trans (h.mono HB2.out.size))
  have HM2 := hid (heap_old w1 (.cells #[.int .i64 0, .int .i64 (-1)] 36) HM1.out)
  have HS0 := hid (show Fas (w1.alloc (.cells #[.int .i64 0, .int .i64 (-1)] 36)) ((w1.alloc (.cells #[.int .i64 0, .int .i64 (-1)] 36)).alloc (.cells (iwc (List.replicate Q.length 0)) 3)) (w1.heap.size + 1) Q L roots 0 0 (List.replicate Q.length 0) from ⟨HW2.out, (Below.refl _ _).alloc (Nat.le_refl _) _, by
    have h := heap_new (w1.alloc (.cells #[.int .i64 0, .int .i64 (-1)] 36)) (.cells (iwc (List.replicate Q.length 0)) 3)
    rw [HW2.out] at h
    exact h, by rw [← HUL.out]; exact Fr.none _ _ _⟩)
  have HWL := hid (show w.heap.size + 1 < (w1.alloc (.cells #[.int .i64 0, .int .i64 (-1)] 36)).heap.size by rw [HW2.out]; omega)
  generalize (w1.alloc (.cells #[.int .i64 0, .int .i64 (-1)] 36)) = w2 at *
  generalize w1.heap.size + 1 = g at *
  clear HW2 HF2 HE1 HM1 HB1 hne hne2 hlt HE0 HM0 HB0 HBm
  go_loopw [11] (fun iv wr => ∃ k : Nat, k ≤ roots.length ∧ iv = .int .i64 k ∧ Hid (∃ F, Fas w2 wr g Q L roots 0 0 F ∧ ∀ j (h : j < roots.length), j < k → AtF (univ L) F roots[j])) (fun iv _ => roots.length - (intOf iv).toNat)
  case atStart => exact ⟨0, Nat.zero_le _, rfl, hid ⟨_, HS0.out, fun j _ h => absurd h (Nat.not_lt_zero _)⟩⟩
  case round =>
    clear HS0
    obtain ⟨k, hk, rfl, HO⟩ := hrel
    obtain ⟨F, hF, hAt⟩ := HO.out
    by_cases hlt : k < roots.length
    · have hkI : (k : Int) < (roots.length : Int) := by omega
      have hk0 : (0 : Int) ≤ (k : Int) := by omega
      obtain ⟨xb, xo, hxa, y0, y1⟩ := (HMR.out _ (HBG.out _ hF.bl)).cells hlt
      subst hxa
      obtain ⟨n, hnU, e1, e2⟩ := HIU.out roots[k] (HRU.out _ (List.getElem_mem hlt))
      have HFF := hid (HFO.out roots[k] _ (HBG.out _ hF.bl))
      rw [e1] at HFF
      have hnq : n < Q.length := by rw [← HUL.out]; exact hnU
      have hnI : (n : Int) < (Q.length : Int) := by omega
      have hn0 : (0 : Int) ≤ (n : Int) := by omega
      have HLT := hid hlt
      have hFl : F.length = (univ L).length := hF.ok.ln
      have HNX := hid (fun W (hb : Below wr.heap.size wr W) => show ∃ F', Fas w2 (W.setCell ⟨g, n, none⟩ (.int .i64 1)) g Q L roots 0 0 F' ∧ ∀ j (h : j < roots.length), j < k + 1 → AtF (univ L) F' roots[j] from ⟨F.set n 1, (hF.below hb).put rfl (hF.ok.root hnU (by rw [e2]; exact List.getElem_mem hlt)), fun j h1 h2 => by
        rcases Nat.lt_or_ge j k with h | h
        · exact (hAt j h1 h).set n 0
        · have : j = k := by omega
          subst this
          rw [← e2]; exact AtF.new 0 hnU hFl⟩)
      have HCE := hid (fun W (hb : Below wr.heap.size wr W) => show W.cell? ⟨g, n, none⟩ = some (.int .i64 ((F[n]'(by rw [hFl]; exact hnU) : Nat) : Int)) ∧ ∀ o, W.frozen? ⟨g, o, none⟩ = false from ⟨iwc_at (hF.below hb).hp _, fun o => Lib.frozen_of_heap (hF.below hb).hp o⟩)
      generalize (F[n]'(by rw [hFl]; exact hnU)) = bo at *
      generalize roots[k] = x at *
      obtain ⟨x1, x2⟩ := x
      clear hlt e1 e2 hF hAt hFl HO hnU
      go_wp2_with fail
      refine HFF.out.mono ?_
      rintro e w3 ⟨rfl, hb⟩
      obtain ⟨z0, zf⟩ := HCE.out w3 hb
      have HN2 := hid (HNX.out w3 hb)
      clear hb
      go_wp2_with fail
      go_roundw
      case rel => first | exact ⟨k + 1, HLT.out, nr_idx k, HN2⟩ | exact ⟨k + 1, HLT.out, nx_idx HLT.out hrn, HN2⟩
      case measure => first | exact nr_meas HLT.out | exact nx_meas HLT.out hrn
    · have hkI : ¬ (k : Int) < (roots.length : Int) := by omega
      have HO2 := hid (show ∃ F, Fas w2 wr g Q L roots 1 0 F from ⟨F, hF.fr (hF.ok.first fun j hj hj' hm => by
        obtain ⟨t, ht, e⟩ := List.getElem_of_mem hm
        have h1 := hAt t ht (by omega)
        rw [e] at h1
        exact h1.at HND.out hj hj')⟩)
      clear hlt hF hAt HO
      go_wp2_with fail
      go_loopw [12] (fun nv wr => ∃ n : Nat, 1 ≤ n ∧ n ≤ Q.length + 1 ∧ nv = .int .i64 n ∧ Hid (∃ F, Fas w2 wr g Q L roots n 0 F)) (fun nv _ => Q.length + 1 - (intOf nv).toNat)
      case atStart => exact ⟨1, Nat.le_refl _, by omega, rfl, HO2⟩
      case round =>
        clear HO2
        obtain ⟨n, hn1, hn2, rfl, HO3⟩ := hrel
        by_cases hlt : n < Q.length + 1
        · have hnI : (n : Int) ≤ (Q.length : Int) := by omega
          have HLN1 := hid hlt
          go_wp2_with fail
          go_loopw [13] (fun iv wr => ∃ i : Nat, i ≤ Q.length ∧ iv = .int .i64 i ∧ Hid (∃ F, Fas w2 wr g Q L roots n i F)) (fun iv _ => Q.length - (intOf iv).toNat)
          case atStart => exact ⟨0, Nat.zero_le _, rfl, HO3⟩
          case round =>
            clear HO3
            obtain ⟨i, hi, rfl, HO5⟩ := hrel
            by_cases hlti : i < Q.length
            · have hiI : (i : Int) < (Q.length : Int) := by omega
              have hi0 : (0 : Int) ≤ (i : Int) := by omega
              have HLI := hid hlti
              have hil : i < L.length := by rw [← HLN.out]; exact hlti
              have hiU : i < (univ L).length := by rw [HUL.out]; exact hlti
              have HCE := hid (fun W (h : Below w.heap.size w W) => es_cells (HI.out.below h).es hlti)
              have HMS := hid (fun W (h : Below w.heap.size w W) => ((HI.out.below h).ok i hlti hil).rq)
              have HRQ := hid (show ∀ (h : i < (univ L).length), reqQ Q L (univ L)[i] = L[i].2.1 from fun h => req_at HI.out HC.out hil h)
              have hRl := (HSZ.out L[i] (List.getElem_mem hil)).rn
              have HRX := hid (show ∀ x, x ∈ L[i].2.1 → x ∈ univ L from fun x hx => chk_reqs0 HI.out HC.out _ (List.getElem_mem hiU) x (by rw [HRQ.out]; exact hx))
              generalize (L[i]'hil).2.1 = R at *
              generalize (Q[i]'hlti).2.1 = qv at *
              obtain ⟨qa, qc, hqv, -⟩ := HMS.out w (Below.refl _ _)
              subst hqv
              obtain ⟨eb, eo, hea, -⟩ := HCE.out w (Below.refl _ _)
              subst hea
              have HX2 := hid (fun W (h : Below w.heap.size w W) => show W.cell? ⟨eb, eo + i * 5 + 2, none⟩ = some (.slice qa R.length qc) by
                obtain ⟨eb', eo', e, h2⟩ := HCE.out W h
                injection e with e
                injection e with e1 e2
                subst e1 e2
                exact h2)
              have HIU2 := hid hiU
              clear hlti hil hiU HCE hlt
              go_wp2_with fail
              go_loopw [14] (fun kv wr => ∃ k : Nat, k ≤ R.length ∧ kv = .int .i64 k ∧ Hid (∃ F, Fas w2 wr g Q L roots n i F ∧ ∀ j (h : j < R.length), j < k → AtF (univ L) F R[j])) (fun kv _ => R.length - (intOf kv).toNat)
              case atStart =>
                obtain ⟨F, hF⟩ := HO5.out
                exact ⟨0, Nat.zero_le _, rfl, hid ⟨F, hF, fun j _ hj => absurd hj (Nat.not_lt_zero _)⟩⟩
              case round =>
                clear HO5
                obtain ⟨k, hk, rfl, HO6⟩ := hrel
                obtain ⟨F, hF, hA⟩ := HO6.out
                have hFl : F.length = (univ L).length := hF.ok.ln
                have hiF : i < F.length := by rw [hFl]; exact HIU2.out
                have z0 := iwc_at hF.hp hiF
                have x2 := HX2.out _ (HBG.out _ hF.bl)
                by_cases hfi : F[i] = n
                · rw [hfi] at z0
                  have hWi : Wn (reqQ Q L) roots n ((univ L)[i]'HIU2.out) := by
                    have := hF.ok.so i HIU2.out hiF (by omega)
                    rw [hfi] at this
                    exact this
                  by_cases hlk : k < R.length
                  · have hkI : (k : Int) < (R.length : Int) := by omega
                    have hk0 : (0 : Int) ≤ (k : Int) := by omega
                    obtain ⟨xb, xo, hxa, y0, y1⟩ := (HMS.out _ (HBG.out _ hF.bl)).cells hlk
                    subst hxa
                    obtain ⟨t, htU, e1, e2⟩ := HIU.out R[k] (HRX.out _ (List.getElem_mem hlk))
                    have HFF := hid (HFO.out R[k] _ (HBG.out _ hF.bl))
                    rw [e1] at HFF
                    have htq : t < Q.length := by rw [← HUL.out]; exact htU
                    have htI : (t : Int) < (Q.length : Int) := by omega
                    have ht0 : (0 : Int) ≤ (t : Int) := by omega
                    have htF : t < F.length := by rw [hFl]; exact htU
                    have HLK := hid hlk
                    have hWt : Wn (reqQ Q L) roots (n + 1) (univ L)[t] := by
                      have hmm : R[k] ∈ reqQ Q L ((univ L)[i]'HIU2.out) := by
                        rw [HRQ.out HIU2.out]; exact List.getElem_mem hlk
                      rw [e2]
                      exact .step hWi hmm
                    by_cases hft : F[t] = 0
                    · have HNX := hid (fun W x (hx : x = .int .i64 ((n + 1 : Nat) : Int)) (hb : Below wr.heap.size wr W) => show ∃ F', Fas w2 (W.setCell ⟨g, t, none⟩ x) g Q L roots n i F' ∧ ∀ j (h : j < R.length), j < k + 1 → AtF (univ L) F' R[j] from
                        ⟨F.set t (n + 1), (hF.below hb).put hx (hF.ok.set htU htF hft hWt), fun j h1 h2 => by
                          rcases Nat.lt_or_ge j k with h | h
                          · exact (hA j h1 h).set t n
                          · have : j = k := by omega
                            subst this
                            rw [← e2]; exact AtF.new n htU hFl⟩)
                      have HCL := hid (fun W (hb : Below wr.heap.size wr W) => show W.cell? ⟨g, t, none⟩ = some (.int .i64 0) ∧ ∀ o, W.frozen? ⟨g, o, none⟩ = false from ⟨by rw [iwc_at (hF.below hb).hp htF, hft]; rfl, fun o => Lib.frozen_of_heap (hF.below hb).hp o⟩)
                      generalize R[k] = x at *
                      obtain ⟨x1, x2'⟩ := x
                      clear hlk e1 e2 hF hA hFl hiF hft htF htU hWt hWi hfi HO6
                      go_wp2_with fail
                      refine HFF.out.mono ?_
                      rintro e w3 ⟨rfl, hb⟩
                      obtain ⟨t0, tf⟩ := HCL.out w3 hb
                      have HN1 := hid (fun x hx => HNX.out w3 x hx hb)
                      clear hb
                      go_wp2_with fail
                      go_roundw
                      case rel => first | exact ⟨k + 1, HLK.out, nr_idx k, hid (HN1.out _ rfl)⟩ | exact ⟨k + 1, HLK.out, nr_idx k, hid (HN1.out _ (nx_idx HLN1.out (by omega)))⟩ | exact ⟨k + 1, HLK.out, nx_idx HLK.out hRl, hid (HN1.out _ rfl)⟩ | exact ⟨k + 1, HLK.out, nx_idx HLK.out hRl, hid (HN1.out _ (nx_idx HLN1.out (by omega)))⟩
                      case measure => first | exact nr_meas HLK.out | exact nx_meas HLK.out hRl
                    · have HNX := hid (fun W (hb : Below wr.heap.size wr W) => show ∃ F', Fas w2 W g Q L roots n i F' ∧ ∀ j (h : j < R.length), j < k + 1 → AtF (univ L) F' R[j] from
                        ⟨F, hF.below hb, fun j h1 h2 => by
                          rcases Nat.lt_or_ge j k with h | h
                          · exact hA j h1 h
                          · have : j = k := by omega
                            subst this
                            exact ⟨t, htU, htF, e2, hft⟩⟩)
                      have HCL := hid (fun W (hb : Below wr.heap.size wr W) => show W.cell? ⟨g, t, none⟩ = some (.int .i64 ((F[t] : Nat) : Int)) from iwc_at (hF.below hb).hp htF)
                      have hft2 : ¬ ((F[t] : Nat) : Int) = 0 := by omega
                      generalize F[t] = ft at *
                      generalize R[k] = x at *
                      obtain ⟨x1, x2'⟩ := x
                      clear hlk e1 e2 hF hA hFl hiF hft htF htU hWt hWi hfi HO6
                      go_wp2_with fail
                      refine HFF.out.mono ?_
                      rintro e w3 ⟨rfl, hb⟩
                      have t0 := HCL.out w3 hb
                      have HN2 := hid (HNX.out w3 hb)
                      clear hb
                      go_wp2_with fail
                      go_roundw
                      case rel => first | exact ⟨k + 1, HLK.out, nr_idx k, HN2⟩ | exact ⟨k + 1, HLK.out, nx_idx HLK.out hRl, HN2⟩
                      case measure => first | exact nr_meas HLK.out | exact nx_meas HLK.out hRl
                  · have hkI : ¬ (k : Int) < (R.length : Int) := by omega
                    have HE := hid (show ∃ F, Fas w2 wr g Q L roots n (i + 1) F from ⟨F, hF.fr (hF.ok.next fun hi hi' _ x hx => by
                      rw [HRQ.out] at hx
                      obtain ⟨t, ht2, rfl⟩ := List.getElem_of_mem hx
                      exact hA t ht2 (by omega))⟩)
                    clear hlk hF hA hFl hiF hWi hfi HO6
                    go_wp2_with fail
                    go_roundw
                    case rel => first | exact ⟨i + 1, HLI.out, nr_idx i, HE⟩ | exact ⟨i + 1, HLI.out, nx_idx HLI.out (by omega), HE⟩
                    case measure => first | exact nr_meas HLI.out | exact nx_meas HLI.out (by omega)
                · have hfi2 : ¬ ((F[i] : Nat) : Int) = (n : Int) := by omega
                  have HE := hid (show ∃ F, Fas w2 wr g Q L roots n (i + 1) F from ⟨F, hF.fr (hF.ok.next fun hi hi' e => absurd e hfi)⟩)
                  generalize F[i] = fi at *
                  clear hF hA hFl hiF hfi HO6
                  go_wp2_with fail
                  go_roundw
                  case rel => first | exact ⟨i + 1, HLI.out, nr_idx i, HE⟩ | exact ⟨i + 1, HLI.out, nx_idx HLI.out (by omega), HE⟩
                  case measure => first | exact nr_meas HLI.out | exact nx_meas HLI.out (by omega)
            · have hiI : ¬ (i : Int) < (Q.length : Int) := by omega
              have hie : i = Q.length := by omega
              have HE := hid (show ∃ F, Fas w2 wr g Q L roots (n + 1) 0 F by
                obtain ⟨F, hF⟩ := HO5.out
                rw [hie, ← HUL.out] at hF
                exact ⟨F, hF.fr (hF.ok.turn hn1 HND.out HUN.out)⟩)
              clear hlti HO5 hlt
              go_wp2_with fail
              go_roundw
              case rel => first | exact ⟨n + 1, by omega, HLN1.out, nr_idx n, HE⟩ | exact ⟨n + 1, by omega, HLN1.out, nx_idx HLN1.out (by omega), HE⟩
              case measure => first | exact nr_meas HLN1.out | exact nx_meas HLN1.out (by omega)
        · have hnI : ¬ (n : Int) ≤ (Q.length : Int) := by omega
          obtain ⟨F, hF⟩ := HO3.out
          have hFl : F.length = (univ L).length := hF.ok.ln
          have HUn : (univ L).length ≤ n := by rw [HUL.out]; omega
          have hMw := (hF.bl.block _ (Nat.lt_of_le_of_lt (Nat.le_succ _) HWL.out)).trans HM2.out
          have hEw := (hF.bl.block _ HWL.out).trans HE2.out
          obtain ⟨p0, p1, -⟩ := box_two hMw
          have HFF := hid (HFO.out (mp, mq) _ (HBG.out _ hF.bl))
          have HBw := hid (HBG.out _ hF.bl)
          have HEw := hid hEw
          have HBA := hid (fun W => rbare_any 5 W)
          have HFN := hid (fun W => fine_any W)
          rcases idx_nat (isM (mp, mq)) Q with hix | ⟨t, hix⟩
          · rw [hix] at HFF
            have HNR := hid (show ¬ Rch (reqQ Q L) roots (mp, mq) from fun h => by
              obtain ⟨k, hk⟩ := HFI.out.1 (HUN.out _ h)
              rw [hix] at hk; omega)
            clear hF hFl HUn hMw hEw HO3 hix hlt
            go_wp2_with fail
            refine HFF.out.mono ?_
            rintro e w3 ⟨rfl, hb⟩
            have HB3 := hid (HBw.out.trans (hb.mono HBw.out.size))
            have HE3 := hid ((hb.block _ (lt_of_blk HEw.out)).trans HEw.out)
            clear hb
            go_wp2_with fail
            refine (HBA.out _).mono ?_
            rintro e w4 ⟨rfl, hb⟩
            have HB4 := hid (HB3.out.trans (hb.mono HB3.out.size))
            have HE4 := hid ((hb.block _ (lt_of_blk HE3.out)).trans HE3.out)
            clear hb
            obtain ⟨s0, s1, tf⟩ := box_two HE4.out
            go_wp2_with fail
            refine bodyPost_ret (v := .tuple #[.int .i64 0, .agg #[.int .i64 5, .int .i64 (-1)]]) (by simp [results, Tryz.results20, go_sem, s0, s1]) rfl ⟨0, _, rfl, Or.inl ⟨HNR.out, rfl, rfl⟩, ?_⟩
            exact put2_below HB4.out (Nat.le_succ _)
          · rw [hix] at HFF
            have htm : (mp, mq) ∈ univ L := HFI.out.2 ⟨t, hix⟩
            obtain ⟨t', htU, e1, e2⟩ := HIU.out _ htm
            have htt : t' = t := by rw [hix] at e1; omega
            subst htt
            have htF : t' < F.length := by rw [hFl]; exact htU
            have htq : t' < Q.length := by rw [← HUL.out]; exact htU
            have htI : (t' : Int) < (Q.length : Int) := by omega
            have ht0 : (0 : Int) ≤ (t' : Int) := by omega
            have ht1 : ¬ (t' : Int) < 0 := by omega
            have HCL := hid (fun W (hb : Below wr.heap.size wr W) => show W.cell? ⟨g, t', none⟩ = some (.int .i64 ((F[t'] : Nat) : Int)) from iwc_at (hF.below hb).hp htF)
            by_cases hft : F[t'] = 0
            · rw [hft] at HCL
              have HNR := hid (show ¬ Rch (reqQ Q L) roots (mp, mq) by rw [← e2]; exact (hF.ok.zero HUn HUN.out htU htF).1 hft)
              clear hF hFl HUn hMw hEw HO3 hix hlt htm htU e1 e2 htF hft
              go_wp2_with fail
              refine HFF.out.mono ?_
              rintro e w3 ⟨rfl, hb⟩
              have HB3 := hid (HBw.out.trans (hb.mono HBw.out.size))
              have HE3 := hid ((hb.block _ (lt_of_blk HEw.out)).trans HEw.out)
              have t0 : w3.cell? ⟨g, t', none⟩ = some (.int .i64 0) := HCL.out w3 hb
              clear hb
              go_wp2_with fail
              refine (HBA.out _).mono ?_
              rintro e w4 ⟨rfl, hb⟩
              have HB4 := hid (HB3.out.trans (hb.mono HB3.out.size))
              have HE4 := hid ((hb.block _ (lt_of_blk HE3.out)).trans HE3.out)
              clear hb
              obtain ⟨s0, s1, tf⟩ := box_two HE4.out
              go_wp2_with fail
              refine bodyPost_ret (v := .tuple #[.int .i64 0, .agg #[.int .i64 5, .int .i64 (-1)]]) (by simp [results, Tryz.results20, go_sem, s0, s1]) rfl ⟨0, _, rfl, Or.inl ⟨HNR.out, rfl, rfl⟩, ?_⟩
              exact put2_below HB4.out (Nat.le_succ _)
            · have HDS := hid (show Dst (reqQ Q L) roots (mp, mq) F[t'] by rw [← e2]; exact hF.ok.dst HUn HUN.out htU htF hft)
              have hft2 : ¬ ((F[t'] : Nat) : Int) = 0 := by omega
              generalize F[t'] = ft at *
              clear hF hFl HUn hMw hEw HO3 hix hlt htm htU e1 e2 htF hft
              go_wp2_with fail
              refine HFF.out.mono ?_
              rintro e w3 ⟨rfl, hb⟩
              have HB3 := hid (HBw.out.trans (hb.mono HBw.out.size))
              have HE3 := hid ((hb.block _ (lt_of_blk HEw.out)).trans HEw.out)
              have t0 := HCL.out w3 hb
              have HC3 := hid hb
              clear hb
              go_wp2_with fail
              go_region_with (go_at_call 37; refine (HFN.out _).mono ?_; rintro e w4 ⟨rfl, hb⟩; have HB34 := hid ((below_drawn w3 1).trans (hb.mono (below_drawn w3 1).size)); have HB4 := hid (HB3.out.trans (HB34.out.mono HB3.out.size)); have t1 := HCL.out w4 (HC3.out.trans (HB34.out.mono HC3.out.size)); obtain ⟨s0, s1, tf⟩ := box_two ((HB34.out.block _ (lt_of_blk HE3.out)).trans HE3.out); clear hb)
              all_goals
                go_wp2_with fail
                refine bodyPost_ret (v := .tuple #[.int .i64 (ft : Int), .agg #[.int .i64 0, .int .i64 (-1)]]) (by simp [results, Tryz.results20, go_sem, s0, s1]) rfl ⟨ft, _, rfl, Or.inr ⟨HDS.out, rfl⟩, ?_⟩
                exact put2_below HB4.out (Nat.le_succ _)
end Ve
end Go.Proofs.YtffjaliegglddaaGreatDoor

/-
  What faulted of the statements answers of an error with its own number and place: true; two indexes of one content are one to the document's answers; the sum of the requirements.
-/
namespace Go.Proofs.YtffjaliegglddaaGreatDoor
open Go.RowKit Go.Maps
namespace Ve

theorem code_at2 (A : Nat → Addr) (x : Value) (c : Nat) (o : Option Nat) (w : World) (S : Er.Sen w A) (h : ErrAt w A x c o) (hc : c ≤ 10) :
    Calls Tryz.prog 38 #[x] w fun e w' => e = .returned (.tuple #[.int .i64 (c : Nat), .int .i64 (atOf o)]) ∧ Below w.heap.size w w' := by
  cases o with
  | none =>
    have h : x = errA A c := h
    subst h
    cases c with
    | zero => exact (Er.code_nil w).mono fun e w' h => ⟨h.1, by rw [h.2]; exact Below.refl _ _⟩
    | succ j => exact Er.code_sen A j w S (by omega)
  | some i =>
    obtain ⟨h0, b, rfl, h1, h2⟩ := h
    obtain ⟨j, rfl⟩ : ∃ j, c = j + 1 := ⟨c - 1, by omega⟩
    rw [errA_if A h0] at h2
    exact Er.code_fault b 0 i A j w S (by omega) (lt_of_cell h1) h1 h2
set_option maxHeartbeats 1000000 in
theorem faulted2_any (A : Nat → Addr) (x : Value) (r : Nat × Option Nat) (w : World) (S : Er.Sen w A) (h : ErrAt w A x r.1 r.2) (hc : r.1 ≤ 10) :
    Calls Tryz.prog 15 #[x, faultV r] w fun e w' => e = .returned (.bool true) ∧ Below w.heap.size w w' := by
  obtain ⟨c, o⟩ := r
  have HB0 := hid ((Below.refl w.heap.size w).alloc (Nat.le_refl _) (.cells #[.int .i64 (c : Nat), .int .i64 (atOf o)] 36))
  have HC := hid (code_at2 A x c o _ (S.below HB0.out) (h.below HB0.out) hc)
  unfold faultV
  simp only
  generalize atOf o = y at *
  generalize (c : Int) = z at *
  have e1 : (z == z) = true := beq_self_eq_true z
  have e2 : (y == y) = true := beq_self_eq_true y
  clear S h hc
  go_enter Tryz.func15, Tryz.ntmps15
  go_wp2_with fail
  refine HC.out.mono ?_
  rintro e w1 ⟨rfl, hb⟩
  obtain ⟨⟨r0, r1⟩, rz⟩ := res2 (hb.mono (by simp))
  have HB := hid (HB0.out.trans (hb.mono HB0.out.size))
  clear hb
  cases hz : (z == 0)
  all_goals
    go_wp2_with fail
    go_ret
    exact ⟨rfl, HB.out⟩
theorem modErr_err (p v : List UInt8) : modErr p v = 0 ∨ modErr p v = 1 ∨ modErr p v = 2 ∨ modErr p v = 4 := by
  unfold modErr
  by_cases h0 : pathErr p = 0
  · rw [if_pos h0]
    by_cases h1 : verErr v = 0
    · rw [if_pos h1]
      cases fitsB (nAt v 0) (pathN p)
      · right; right; right; rfl
      · left; rfl
    · rw [if_neg h1]
      rcases verErr_err v with h | h | h <;> omega
  · rw [if_neg h0]; exact pathErr_err p
theorem mErr_le (m : Bm) : mErr m ≤ 10 := by
  have := modErr_err m.1.data.toList m.2.data.toList
  unfold mErr; omega
theorem reqE_le (own : ByteArray) (L : List Bm) (i : Nat) : reqE own L i ≤ 10 := by
  unfold reqE
  split
  · omega
  · rename_i m _
    have := mErr_le m
    unfold reqW
    repeat' split
    all_goals omega
theorem codeE_le {E : Nat → Nat} {n : Nat} (h : ∀ i, E i ≤ 10) : codeE E n ≤ 10 := by
  cases h1 : fstE E n with
  | none => unfold codeE; rw [h1]; simp
  | some j => rw [codeE_some h1]; exact h j
theorem packErr_le (Z : List (List UInt8)) : packErr Z ≤ 10 := by
  unfold packErr
  repeat' split
  all_goals omega
theorem entR_le (e : Ent) : entR e ≤ 10 := by
  unfold entR
  repeat' split
  all_goals first | omega | exact codeE_le (reqE_le _ _) | exact packErr_le _
theorem entE_le (L : List Ent) (i : Nat) : entE L i ≤ 10 := by
  unfold entE
  split
  · omega
  · unfold entW
    repeat' split
    all_goals first | omega | exact mErr_le _ | exact entR_le _
theorem nonW_le (Q : List Raw) (m : Bm) : nonW Q m ≤ 10 := by
  unfold nonW
  split <;> omega
theorem nonE_le (Q : List Raw) (R : List Bm) (i : Nat) : nonE Q R i ≤ 10 := by
  unfold nonE
  split
  · omega
  · exact nonW_le _ _
theorem reqE2_le (Q : List Raw) (L : List Ent) (i : Nat) : reqE2 Q L i ≤ 10 := by
  unfold reqE2
  split
  · omega
  · exact codeE_le (nonE_le _ _)
theorem chk_le (Q : List Raw) (L : List Ent) : (chk Q L).1 ≤ 10 := by
  unfold chk
  repeat' split
  all_goals first | (simp only; omega) | exact entE_le _ _ | exact codeE_le (reqE2_le _ _)
theorem chkG_le (Q : List Raw) (L : List Ent) (roots : List Bm) : (chkG Q L roots).1 ≤ 10 := by
  unfold chkG
  split
  · exact chk_le _ _
  · exact codeE_le (nonE_le _ _)
/-- Two indexes of the same modules. -/
theorem isM_same {Q Q' : List Raw} (h : Q.map (fun r => r.1) = Q'.map (fun r => r.1)) (m : Bm) : idxOf (isM m) Q = idxOf (isM m) Q' := by
  have hl : Q.length = Q'.length := by have := congrArg List.length h; simpa using this
  have hf : idxE (isM m) Q = idxE (isM m) Q' := funext fun i => by
    have hi := congrArg (fun X : List Bm => X[i]?) h
    simp only [List.getElem?_map] at hi
    unfold idxE
    cases h1 : Q[i]? with
    | none =>
      rw [h1] at hi
      cases h2 : Q'[i]? with
      | none => rfl
      | some r => rw [h2] at hi; simp at hi
    | some r =>
      rw [h1] at hi
      cases h2 : Q'[i]? with
      | none => rw [h2] at hi; simp at hi
      | some r' =>
        rw [h2] at hi
        have : r.1 = r'.1 := by simpa using hi
        show (if isM m r then 1 else 0) = if isM m r' then 1 else 0
        rw [show isM m r = isM m r' by unfold isM; rw [this]]
  unfold idxOf
  rw [hf, hl]
theorem reqQ_same {Q Q' : List Raw} {L : List Ent} (h : Q.map (fun r => r.1) = Q'.map (fun r => r.1)) : reqQ Q L = reqQ Q' L := funext fun m => by
  unfold reqQ
  rw [isM_same h m]
theorem nonE_same {Q Q' : List Raw} (h : Q.map (fun r => r.1) = Q'.map (fun r => r.1)) (R : List Bm) : nonE Q R = nonE Q' R := funext fun i => by
  unfold nonE nonW
  split
  · rfl
  · rw [isM_same h]
theorem chk_same {Q Q' : List Raw} {L : List Ent} (h : Q.map (fun r => r.1) = Q'.map (fun r => r.1)) : chk Q L = chk Q' L := by
  have hr : reqE2 Q L = reqE2 Q' L := funext fun i => by
    unfold reqE2
    split
    · rfl
    · rw [nonE_same h]
  unfold chk
  rw [hr]
theorem chkG_same {Q Q' : List Raw} {L : List Ent} (h : Q.map (fun r => r.1) = Q'.map (fun r => r.1)) (roots : List Bm) : chkG Q L roots = chkG Q' L roots := by
  unfold chkG
  rw [chk_same h, nonE_same h]
/-- How many requirements modules have. -/
def sumM (req : Bm → List Bm) : List Bm → Nat
  | [] => 0
  | m :: X => (req m).length + sumM req X
theorem sumM_app (req : Bm → List Bm) : ∀ (X Y : List Bm), sumM req (X ++ Y) = sumM req X + sumM req Y
  | [], Y => by simp [sumM]
  | r :: X, Y => by
    have h := sumM_app req X Y
    simp only [List.cons_append, sumM, h]
    omega
theorem sumM_next (req : Bm → List Bm) {X : List Bm} {k : Nat} (hk : k < X.length) : sumM req (X.take (k + 1)) = sumM req (X.take k) + (req X[k]).length := by
  rw [List.take_succ_eq_append_getElem hk, sumM_app]
  simp [sumM]
theorem sumM_le (req : Bm → List Bm) (B : Nat) : ∀ (X : List Bm), (∀ r, r ∈ X → (req r).length ≤ B) → sumM req X ≤ X.length * B
  | [], _ => by simp [sumM]
  | r :: X, h => by
    have h1 := h r (by simp)
    have h2 := sumM_le req B X fun x hx => h x (by simp [hx])
    have h3 : sumM req (r :: X) = (req r).length + sumM req X := rfl
    rw [h3, List.length_cons, Nat.succ_mul]
    omega
theorem sumM_take_le (req : Bm → List Bm) (X : List Bm) (k B : Nat) (h : ∀ r, r ∈ X → (req r).length ≤ B) : sumM req (X.take k) ≤ X.length * B := by
  have h1 := sumM_le req B (X.take k) fun r hr => h r (List.mem_of_mem_take hr)
  have h2 : (X.take k).length ≤ X.length := by rw [List.length_take]; omega
  exact Nat.le_trans h1 (Nat.mul_le_mul_right B h2)
theorem sumR_M (req : Bm → List Bm) : ∀ (X : List Raw), (∀ r, r ∈ X → lenV r.2.1 = (req r.1).length) → sumR X = sumM req (X.map fun r => r.1)
  | [], _ => rfl
  | r :: X, h => by
    have h1 := h r (by simp)
    have h2 := sumR_M req X fun x hx => h x (by simp [hx])
    simp only [List.map_cons, sumR, sumM, h1, h2]
theorem len_req {w : World} {v : Value} {Q : List Raw} {L : List Ent} (I : Ixs w v Q L) (h : (chk Q L).1 = 0) : ∀ r, r ∈ Q → lenV r.2.1 = (reqQ Q L r.1).length := fun r hr => by
  obtain ⟨k, hk, rfl⟩ := List.getElem_of_mem hr
  have hk' : k < L.length := by rw [← I.ln]; exact hk
  have hu : k < (univ L).length := by rw [univ_len]; exact hk'
  rw [lenV_ms (I.ok k hk hk').rq, ← req_at I h hk' hu]
  rw [show (univ L)[k] = Q[k].1 by rw [(I.ok k hk hk').m]; simp [univ]]
theorem edges_sum {w : World} {v : Value} {Q : List Raw} {L : List Ent} (I : Ixs w v Q L) (h : (chk Q L).1 = 0) (T : By) : sumR (goQ T Q) = sumM (reqQ Q L) (goM T Q) :=
  sumR_M _ _ fun r hr => len_req I h r (List.mem_filter.1 hr).1
end Ve
end Go.Proofs.YtffjaliegglddaaGreatDoor

/-
  Both sides of chapter 5 as one function each: what is reached, how many requirements, how far; what is refused.
-/
namespace Go.Proofs.YtffjaliegglddaaGreatDoor
open Go.RowKit Go.Maps
namespace Ve

theorem ms_nil0 (w : World) : MsAt w (.slice none 0 0) [] := ⟨none, 0, rfl, Nat.le_refl _, fun h => absurd rfl h⟩
/-- What is refused. -/
def rF (Q : List Raw) (L : List Ent) (roots : List Bm) : Nat × Option Nat := if (chkG Q L roots).1 = 0 then (0, none) else chkG Q L roots
theorem rF_good {Q : List Raw} {L : List Ent} {roots : List Bm} (h : (chkG Q L roots).1 = 0) : rF Q L roots = (0, none) := if_pos h
theorem rF_bad {Q : List Raw} {L : List Ent} {roots : List Bm} (h : ¬ (chkG Q L roots).1 = 0) : rF Q L roots = chkG Q L roots := if_neg h
theorem rF_le (Q : List Raw) (L : List Ent) (roots : List Bm) : (rF Q L roots).1 ≤ 10 := by
  unfold rF
  split
  · simp
  · exact chkG_le _ _ _
theorem rF_same {Q Q' : List Raw} {L : List Ent} (h : Q.map (fun r => r.1) = Q'.map (fun r => r.1)) (roots : List Bm) : rF Q L roots = rF Q' L roots := by unfold rF; rw [chkG_same h]
open Classical in
/-- What is reached. -/
noncomputable def rX (Q : List Raw) (L : List Ent) (roots : List Bm) : List Bm := if (chkG Q L roots).1 = 0 then (univ L).filter (fun m => decide (Rch (reqQ Q L) roots m)) else []
theorem rX_same {Q Q' : List Raw} {L : List Ent} (h : Q.map (fun r => r.1) = Q'.map (fun r => r.1)) (roots : List Bm) : rX Q L roots = rX Q' L roots := by unfold rX; rw [chkG_same h, reqQ_same h]
theorem rX_bad {Q : List Raw} {L : List Ent} {roots : List Bm} (h : ¬ (chkG Q L roots).1 = 0) : rX Q L roots = [] := if_neg h
theorem rX_go {w : World} {v : Value} {Q : List Raw} {L : List Ent} {roots : List Bm} {T : By} (I : Ixs w v Q L) (h : (chkG Q L roots).1 = 0) (hT : Came (reqQ Q L) (univ L) roots T) : goM T Q = rX Q L roots := by
  unfold rX
  rw [if_pos h, ← univ_eq I]
  unfold goM goQ
  rw [List.filter_map]
  congr 1
  apply List.filter_congr
  intro r _
  show cameB T r.1 = _
  simp only [Function.comp]
  by_cases hr : Rch (reqQ Q L) roots r.1
  · rw [(hT.cameB _).2 hr]; simp [hr]
  · cases hc : cameB T r.1
    · simp [hr]
    · exact absurd ((hT.cameB _).1 hc) hr
theorem rX_sel {Q : List Raw} {L : List Ent} {roots : List Bm} {O : List Bool} (h : (chkG Q L roots).1 = 0) (hl : O.length = (univ L).length) (hO : ∀ i (hi : i < (univ L).length) (hi' : i < O.length), O[i] = true ↔ Rch (reqQ Q L) roots (univ L)[i]) : selO O (univ L) = rX Q L roots := by
  unfold rX
  rw [if_pos h]
  refine selO_filter O (univ L) _ hl fun i h1 h2 => ?_
  by_cases hr : Rch (reqQ Q L) roots (univ L)[i]
  · rw [(hO i h1 h2).2 hr]; simp [hr]
  · cases hc : O[i]
    · simp [hr]
    · exact absurd ((hO i h1 h2).1 hc) hr
theorem rX_len {Q : List Raw} {L : List Ent} {roots : List Bm} : (rX Q L roots).length ≤ L.length := by
  unfold rX
  split
  · refine Nat.le_trans (List.length_filter_le _ _) ?_
    rw [univ_len]; exact Nat.le_refl _
  · simp
theorem rX_in {Q : List Raw} {L : List Ent} {roots : List Bm} {m : Bm} (h : m ∈ rX Q L roots) : (chkG Q L roots).1 = 0 ∧ m ∈ univ L := by
  unfold rX at h
  by_cases hc : (chkG Q L roots).1 = 0
  · rw [if_pos hc] at h
    exact ⟨hc, (List.mem_filter.1 h).1⟩
  · rw [if_neg hc] at h; simp at h
open Classical in
/-- How far a module is off, and what is refused of it. -/
noncomputable def rW (Q : List Raw) (L : List Ent) (roots : List Bm) (m : Bm) : Nat × (Nat × Option Nat) := if (chkG Q L roots).1 = 0 then (if h : ∃ d, Dst (reqQ Q L) roots m d then (h.choose, (0, none)) else (0, (5, none))) else (0, chkG Q L roots)
theorem rW_same {Q Q' : List Raw} {L : List Ent} (h : Q.map (fun r => r.1) = Q'.map (fun r => r.1)) (roots : List Bm) (m : Bm) : rW Q L roots m = rW Q' L roots m := by unfold rW; rw [chkG_same h, reqQ_same h]
theorem rW_bad {Q : List Raw} {L : List Ent} {roots : List Bm} {m : Bm} (h : ¬ (chkG Q L roots).1 = 0) : rW Q L roots m = (0, chkG Q L roots) := if_neg h
theorem rW_some {Q : List Raw} {L : List Ent} {roots : List Bm} {m : Bm} {d : Nat} (h : (chkG Q L roots).1 = 0) (hd : Dst (reqQ Q L) roots m d) : rW Q L roots m = (d, (0, none)) := by
  unfold rW
  have he : ∃ d, Dst (reqQ Q L) roots m d := ⟨d, hd⟩
  rw [if_pos h, dif_pos he]
  rw [he.choose_spec.one hd]
theorem rW_none {Q : List Raw} {L : List Ent} {roots : List Bm} {m : Bm} (h : (chkG Q L roots).1 = 0) (hd : ¬ Rch (reqQ Q L) roots m) : rW Q L roots m = (0, (5, none)) := by
  unfold rW
  rw [if_pos h, dif_neg (fun ⟨d, hh⟩ => hd hh.1.rch)]
theorem rW_le (Q : List Raw) (L : List Ent) (roots : List Bm) (m : Bm) : (rW Q L roots m).2.1 ≤ 10 := by
  unfold rW
  split
  · split <;> simp
  · exact chkG_le _ _ _
theorem faultV0 : faultV (0, none) = .agg #[.int .i64 0, .int .i64 (-1)] := rfl
theorem faultV5 : faultV (5, none) = .agg #[.int .i64 5, .int .i64 (-1)] := rfl
theorem reach_all (Q : List Raw) (L : List Ent) (roots : List Bm) (v rv : Value) (A : Nat → Addr) (m : Int) (w : World) (hn : L.length ≤ 1000) (hrn : roots.length ≤ 1000000) (sh : ∀ e, e ∈ L → ShE e) (S : Te w A m) (I : Ixs w v Q L) (hr : MsAt w rv roots) :
    Calls Tryz.prog 13 #[v, rv] w fun e w' => ∃ a c x, e = .returned (.tuple #[.slice a (rX Q L roots).length c, x]) ∧ MsAt w' (.slice a (rX Q L roots).length c) (rX Q L roots) ∧ ErrAt w' A x (rF Q L roots).1 (rF Q L roots).2 ∧ Below w.heap.size w w' := by
  by_cases h : (chkG Q L roots).1 = 0
  · refine (reach_good Q L roots v rv A m w hn hrn sh S I hr h).mono ?_
    rintro e w' ⟨u, rfl, T, hT, hown, hb⟩
    rw [rX_go I h hT] at hown
    have hms := own_ms hown
    obtain ⟨a, c, hu⟩ := own_slN hown
    subst hu
    exact ⟨a, c, _, rfl, hms, by rw [rF_good h]; rfl, hb⟩
  · refine (reach_bad Q L roots v rv A m w hn hrn sh S I hr h).mono ?_
    rintro e w' ⟨T, a, rfl, he, hb⟩
    rw [rX_bad h, rF_bad h]
    exact ⟨_, _, _, rfl, ms_nil0 _, he, hb⟩
theorem reachOf_all (Q : List Raw) (L : List Ent) (roots : List Bm) (v rv : Value) (w : World) (hn : L.length ≤ 1000) (hrn : roots.length ≤ 1000000) (sh : ∀ e, e ∈ L → ShE e) (I : Ixs w v Q L) (hr : MsAt w rv roots) :
    Calls Tryz.prog 14 #[v, rv] w fun e w' => ∃ a c, e = .returned (.tuple #[.slice a (rX Q L roots).length c, faultV (rF Q L roots)]) ∧ MsAt w' (.slice a (rX Q L roots).length c) (rX Q L roots) ∧ Below w.heap.size w w' := by
  by_cases h : (chkG Q L roots).1 = 0
  · refine (reachOf_good Q L roots v rv w hn hrn sh I hr h).mono ?_
    rintro e w' ⟨u, O, rfl, hl, hO, hown, hb⟩
    rw [rX_sel h hl hO] at hown
    have hms := own_ms hown
    obtain ⟨a, c, hu⟩ := own_slN hown
    subst hu
    exact ⟨a, c, by rw [rF_good h]; rfl, hms, hb⟩
  · refine (reachOf_bad Q L roots v rv w hn hrn sh I hr h).mono ?_
    rintro e w' ⟨rfl, hb⟩
    rw [rX_bad h, rF_bad h]
    exact ⟨_, _, rfl, ms_nil0 _, hb⟩
theorem edges_all (Q : List Raw) (L : List Ent) (roots : List Bm) (v rv : Value) (A : Nat → Addr) (m : Int) (w : World) (hn : L.length ≤ 1000) (hrn : roots.length ≤ 1000000) (sh : ∀ e, e ∈ L → ShE e) (S : Te w A m) (I : Ixs w v Q L) (hr : MsAt w rv roots) :
    Calls Tryz.prog 17 #[v, rv] w fun e w' => ∃ x, e = .returned (.tuple #[.int .i64 (sumM (reqQ Q L) (rX Q L roots) : Nat), x]) ∧ ErrAt w' A x (rF Q L roots).1 (rF Q L roots).2 ∧ Below w.heap.size w w' := by
  by_cases h : (chkG Q L roots).1 = 0
  · refine (edges_good Q L roots v rv A m w hn hrn sh S I hr h).mono ?_
    rintro e w' ⟨T, rfl, hT, hb⟩
    rw [edges_sum I (rgt_of I h).c, rX_go I h hT]
    exact ⟨_, rfl, by rw [rF_good h]; rfl, hb⟩
  · refine (edges_bad Q L roots v rv A m w hn hrn sh S I hr h).mono ?_
    rintro e w' ⟨T, a, rfl, he, hb⟩
    rw [rX_bad h, rF_bad h]
    exact ⟨_, rfl, he, hb⟩
set_option maxRecDepth 100000 in
set_option maxHeartbeats 2000000 in
theorem way_bad (Q : List Raw) (L : List Ent) (roots : List Bm) (x : Bm) (v rv : Value) (A : Nat → Addr) (m : Int) (w : World) (hn : L.length ≤ 1000) (hrn : roots.length ≤ 1000000) (sh : ∀ e, e ∈ L → ShE e) (S : Te w A m) (I : Ixs w v Q L) (hr : MsAt w rv roots) (h0 : ¬ (chkG Q L roots).1 = 0) :
    Calls Tryz.prog 19 #[v, rv, .agg #[.string x.1, .string x.2]] w fun e w' => ∃ T a, e = .returned (.tuple #[.slice none 0 0, .iface T (.pointer (some a))]) ∧ ErrAt w' A (.iface T (.pointer (some a))) (chkG Q L roots).1 (chkG Q L roots).2 ∧ Below w.heap.size w w' := by
  have hBa := (Below.refl w.heap.size w).alloc (Nat.le_refl _) (.cells #[.string x.1, .string x.2] 25)
  have HBa := hid hBa
  have HCK := hid (gcheck_any Q L roots v rv A m _ hn hrn sh (S.below hBa) (I.below hBa) (hr.below hBa))
  obtain ⟨a, c, hv, -⟩ := id I.es
  subst hv
  obtain ⟨ra, rc, hrv, -⟩ := id hr
  subst hrv
  have HH0 := hid h0
  clear S I hr sh h0 hBa
  go_enter Tryz.func19, Tryz.ntmps19
  go_wp2_with fail
  refine HCK.out.mono ?_
  rintro e w1 ⟨y, rfl, he, hb⟩
  have HB1 := hid (HBa.out.trans (hb.mono (by simp)))
  have HE := hid he
  rcases he.kind with ⟨h, _⟩ | ⟨_, T, xa, rfl⟩
  · exact absurd h HH0.out
  clear hb he HCK
  go_wp2_with fail
  go_ret2
  exact ⟨_, _, rfl, HE.out, HB1.out⟩
theorem way_all (Q : List Raw) (L : List Ent) (roots : List Bm) (x : Bm) (v rv : Value) (A : Nat → Addr) (m : Int) (w : World) (hn : L.length ≤ 1000) (hrn : roots.length ≤ 1000000) (sh : ∀ e, e ∈ L → ShE e) (S : Te w A m) (I : Ixs w v Q L) (hr : MsAt w rv roots) (hx : x.1.size ≤ maxLen ∧ x.2.size ≤ maxLen) :
    Calls Tryz.prog 19 #[v, rv, .agg #[.string x.1, .string x.2]] w fun e w' => ∃ a c y, e = .returned (.tuple #[.slice a (rW Q L roots x).1 c, y]) ∧ ErrAt w' A y (rW Q L roots x).2.1 (rW Q L roots x).2.2 ∧ Below w.heap.size w w' := by
  by_cases h : (chkG Q L roots).1 = 0
  · by_cases hr2 : Rch (reqQ Q L) roots x
    · refine (way_some Q L roots x v rv A m w hn hrn sh S I hr h hx hr2).mono ?_
      rintro e w' ⟨u, rfl, Y, hms, hw, _, hb⟩
      rw [rW_some h hw.ds]
      obtain ⟨a, c, rfl, -⟩ := hms
      exact ⟨a, c, _, rfl, rfl, hb⟩
    · refine (way_none Q L roots x v rv A m w hn hrn sh S I hr h hx hr2).mono ?_
      rintro e w' ⟨a, rfl, rfl, hb⟩
      rw [rW_none h hr2]
      exact ⟨_, _, _, rfl, rfl, hb⟩
  · refine (way_bad Q L roots x v rv A m w hn hrn sh S I hr h).mono ?_
    rintro e w' ⟨T, a, rfl, he, hb⟩
    rw [rW_bad h]
    exact ⟨_, _, _, rfl, he, hb⟩
theorem farOf_all (Q : List Raw) (L : List Ent) (roots : List Bm) (x : Bm) (v rv : Value) (w : World) (hn : L.length ≤ 1000) (hrn : roots.length ≤ 1000000) (sh : ∀ e, e ∈ L → ShE e) (I : Ixs w v Q L) (hr : MsAt w rv roots) :
    Calls Tryz.prog 20 #[v, rv, .agg #[.string x.1, .string x.2]] w fun e w' => e = .returned (.tuple #[.int .i64 ((rW Q L roots x).1 : Nat), faultV (rW Q L roots x).2]) ∧ Below w.heap.size w w' := by
  by_cases h : (chkG Q L roots).1 = 0
  · refine (farOf_good Q L roots x v rv w hn hrn sh I hr h).mono ?_
    rintro e w' ⟨d, f, rfl, hR, hb⟩
    rcases hR with ⟨hno, rfl, rfl⟩ | ⟨hd, rfl⟩
    · rw [rW_none h hno]; exact ⟨rfl, hb⟩
    · rw [rW_some h hd]; exact ⟨rfl, hb⟩
  · refine (farOf_bad Q L roots x v rv w hn hrn sh I hr h).mono ?_
    rintro e w' ⟨rfl, hb⟩
    rw [rW_bad h]
    exact ⟨rfl, hb⟩
end Ve
end Go.Proofs.YtffjaliegglddaaGreatDoor

/-
  pewholderlaw2.GraphTells walked: true for every input.
-/
namespace Go.Proofs.YtffjaliegglddaaGreatDoor
open Go.RowKit Go.Maps
namespace Ve

theorem rX_lenR {Q : List Raw} {L : List Ent} {roots : List Bm} (sh : ∀ e, e ∈ L → ShE e) : ∀ m, m ∈ rX Q L roots → (reqQ Q L m).length ≤ 1000000 := fun m _ => by
  unfold reqQ
  split
  · simp
  · cases h : L[(idxOf (isM m) Q).toNat]? with
    | none => simp
    | some e => exact (sh e (List.mem_of_getElem? h)).rn
theorem rX_find {w : World} {v : Value} {Q : List Raw} {L : List Ent} {roots : List Bm} (I : Ixs w v Q L) {m : Bm} (hm : m ∈ rX Q L roots) : ∃ t, ∃ ht : t < Q.length, idxOf (isM m) Q = (t : Int) ∧ ∃ a c, Q[t].2.1 = .slice a (reqQ Q L m).length c := by
  obtain ⟨hc, hu⟩ := rX_in hm
  obtain ⟨t, htU, e1, e2⟩ := idx_univ I hu
  have htL : t < L.length := by rw [univ_len] at htU; exact htU
  have htQ : t < Q.length := by rw [I.ln]; exact htL
  refine ⟨t, htQ, e1, ?_⟩
  have h1 := req_at I (rgt_of I hc).c htL htU
  rw [e2] at h1
  obtain ⟨a, c, h2, -⟩ := (I.ok t htQ htL).rq
  exact ⟨a, c, by rw [h1]; exact h2⟩
theorem cell_set_ne {W : World} {b o g p : Nat} {x v : Value} (h : W.cell? ⟨b, o, none⟩ = some v) (hne : b ≠ g) : (W.setCell ⟨g, p, none⟩ x).cell? ⟨b, o, none⟩ = some v := by
  unfold World.cell? at h ⊢
  rw [Below.heap_setCell _ _ _ _ hne]
  exact h
theorem ErrAt.set2 {W : World} {A : Nat → Addr} {y : Value} {c : Nat} {o : Option Nat} {g : Nat} {z : Value} {n : Int} {T : TypeId} (h : ErrAt W A y c o) (hg : W.heap[g]? = some (.cells #[z, .int .i64 n] T (0, 0))) (a b : Value) : ErrAt ((W.setCell ⟨g, 0, none⟩ a).setCell ⟨g, 1, none⟩ b) A y c o := by
  cases o with
  | none => exact h
  | some i =>
    obtain ⟨h0, f, rfl, h1, h2⟩ := h
    have hne : f ≠ g := fun e => by
      subst e
      obtain ⟨_, g1, _⟩ := box_two hg
      rw [g1, errA_if A h0] at h2
      cases h2
    exact ⟨h0, f, rfl, cell_set_ne (cell_set_ne h1 hne) hne, cell_set_ne (cell_set_ne h2 hne) hne⟩
set_option maxRecDepth 100000 in
set_option maxHeartbeats 8000000 in
theorem gt_main (Q0 : List Raw) (L : List Ent) (roots : List Bm) (x : Bm) (v u : Value) (A : Nat → Addr) (m : Int) (w : World) (S : Te w A m) (N : Er.Sen w A) (I : Ixs w v Q0 L) (em : EmI Q0 L) (hr : MsAt w u roots) (her : Em u roots) (hok : okI L = true) (hrk : okLN 15 roots = true) (hx1 : x.1.size ≤ 70) (hx2 : x.2.size ≤ 60) :
    Calls Tryz.prog 3 #[v, u, .agg #[.string x.1, .string x.2]] w fun e w' => e = .returned (.bool true) ∧ Below w.heap.size w w' := by
  obtain ⟨xp, xq⟩ := x
  simp only at hx1 hx2 ⊢
  obtain ⟨a0, c0, hv0, -⟩ := id I.es
  subst hv0
  obtain ⟨ra, rc, hu0, -⟩ := id hr
  subst hu0
  have hn101 : L.length ≤ 101 := by rcases (okI_iff hok).1 with h | h <;> omega
  have hr15 : roots.length ≤ 15 := (okLN_iff hrk).1
  have HB0 := hid ((Below.refl w.heap.size w).alloc (Nat.le_refl _) (.cells #[.string xp, .string xq] 25))
  have HM0 := hid (heap_new w (.cells #[.string xp, .string xq] 25))
  have HIN := hid (rdL_any A m _ (S.below HB0.out))
  have HLO := hid (fun W (h : Below w.heap.size w W) => longI_any Q0 L _ W (I.below h))
  rw [if_pos hok] at HLO
  have HLM := hid (fun W (h : Below w.heap.size w W) => longN_any 15 (by decide) roots _ W (hr.below h))
  rw [if_pos hrk] at HLM
  have HOW := hid (fun W (h : Below w.heap.size w W) => ownI_any Q0 L _ W (by omega) (I.below h) em (okI_fits hok))
  have HOM := hid (fun W (h : Below w.heap.size w W) => ownM_any _ roots W (by omega) (hr.below h) her)
  have HS := hid (fun W (h : Below w.heap.size w W) => S.below h)
  have HN := hid (fun W (h : Below w.heap.size w W) => N.below h)
  have HI := hid (fun W (h : Below w.heap.size w W) => I.below h)
  have HR := hid (fun W (h : Below w.heap.size w W) => hr.below h)
  have HSH := hid (okI_sh hok)
  have HU0 := hid (univ_eq I)
  have hq0 : Q0.length ≤ 1000 := by rw [I.ln]; omega
  have hl1 : (xp.size : Int) ≤ 70 := by omega
  have hl2 : (xq.size : Int) ≤ 60 := by omega
  clear S N I em hok hr her hrk
  go_enter Tryz.func3, Tryz.ntmps3
  go_wp2_with fail
  refine HIN.out.mono ?_
  rintro e w1 ⟨rfl, hb⟩
  have HB1 := hid (HB0.out.trans (hb.mono HB0.out.size))
  have HM1 := hid ((hb.block _ (lt_of_blk HM0.out)).trans HM0.out)
  clear hb
  go_wp2_with fail
  refine (HLO.out w1 HB1.out).mono ?_
  rintro e w2 ⟨rfl, hb⟩
  have HB2 := hid (HB1.out.trans (hb.mono HB1.out.size))
  have HM2 := hid ((hb.block _ (lt_of_blk HM1.out)).trans HM1.out)
  clear hb
  go_wp2_with fail
  refine (HLM.out w2 HB2.out).mono ?_
  rintro e w2' ⟨rfl, rfl⟩
  obtain ⟨p0, p1, pf⟩ := box_two HM2.out
  go_wp2_with fail
  refine (HOW.out w2' HB2.out).mono ?_
  rintro e w3 ⟨ou, Q, rfl, hO, hb⟩
  have HB3 := hid (HB2.out.trans (hb.mono HB2.out.size))
  have HM3 := hid ((hb.block _ (lt_of_blk HM2.out)).trans HM2.out)
  have HIX := hid hO.ixs
  obtain ⟨oa, oc, hou, -⟩ := id hO.ixs.es
  subst hou
  clear hb hO p0 p1 pf HLO HLM HOW HIN
  have HQQ := hid (show Q.map (fun r => r.1) = Q0.map (fun r => r.1) by rw [univ_eq HIX.out, HU0.out])
  go_wp2_with fail
  refine (HOM.out w3 HB3.out).mono ?_
  rintro e w4 ⟨ru, rfl, hro, -, hb⟩
  have HB4 := hid (HB3.out.trans (hb.mono HB3.out.size))
  have HM4 := hid ((hb.block _ (lt_of_blk HM3.out)).trans HM3.out)
  have HIX4 := hid (fun W (h : Below w4.heap.size w4 W) => (HIX.out.below hb).below h)
  have HRO4 := hid (fun W (h : Below w4.heap.size w4 W) => (own_ms hro).below h)
  obtain ⟨rua, ruc, hru⟩ := own_slN hro
  subst hru
  have HBW := hid (fun W (h : Below w4.heap.size w4 W) => HB4.out.trans (h.mono HB4.out.size))
  have HRE := hid (reach_all Q L roots _ _ A m w4 (by omega) (by omega) HSH.out (HS.out _ HB4.out) (HIX4.out _ (Below.refl _ _)) (HRO4.out _ (Below.refl _ _)))
  have HRO := hid (fun W (h : Below w4.heap.size w4 W) => reachOf_all Q0 L roots _ _ W (by omega) (by omega) HSH.out (HI.out _ (HBW.out _ h)) (HR.out _ (HBW.out _ h)))
  have HED := hid (fun W (h : Below w4.heap.size w4 W) => edges_all Q L roots _ _ A m W (by omega) (by omega) HSH.out (HS.out _ (HBW.out _ h)) (HIX4.out _ h) (HRO4.out _ h))
  have HWY := hid (fun W (h : Below w4.heap.size w4 W) => way_all Q L roots (xp, xq) _ _ A m W (by omega) (by omega) HSH.out (HS.out _ (HBW.out _ h)) (HIX4.out _ h) (HRO4.out _ h) ⟨by unfold maxLen; simp only; omega, by unfold maxLen; simp only; omega⟩)
  have HFA := hid (fun W (h : Below w4.heap.size w4 W) => farOf_all Q0 L roots (xp, xq) _ _ W (by omega) (by omega) HSH.out (HI.out _ (HBW.out _ h)) (HR.out _ (HBW.out _ h)))
  rw [rX_same HQQ.out, rF_same HQQ.out] at HRE
  rw [rX_same HQQ.out, rF_same HQQ.out, reqQ_same HQQ.out] at HED
  rw [rW_same HQQ.out] at HWY
  have HXL := hid (show (rX Q0 L roots).length ≤ 101 from Nat.le_trans rX_len hn101)
  have HXR := hid (rX_lenR (Q := Q0) (roots := roots) HSH.out)
  have HXF := hid (fun x (hx : x ∈ rX Q0 L roots) => rX_find (HI.out w (Below.refl _ _)) hx)
  have HF1 := hid (fun x W (h : Below w4.heap.size w4 W) => findOf_all Q0 x _ W (by omega) (HI.out _ (HBW.out _ h)).es)
  have HES := hid (fun W (h : Below w4.heap.size w4 W) => (HI.out _ (HBW.out _ h)).es)
  have HFU := hid (fun W x (h : Below w4.heap.size w4 W) (he : ErrAt W A x (rF Q0 L roots).1 (rF Q0 L roots).2) => faulted2_any A x (rF Q0 L roots) W (HN.out _ (HBW.out _ h)) he (rF_le _ _ _))
  have HFW := hid (fun W y (h : Below w4.heap.size w4 W) (he : ErrAt W A y (rW Q0 L roots (xp, xq)).2.1 (rW Q0 L roots (xp, xq)).2.2) => faulted2_any A y (rW Q0 L roots (xp, xq)).2 W (HN.out _ (HBW.out _ h)) he (rW_le _ _ _ _))
  clear hb hro HOM HS HN HI HR HIX HIX4 HRO4 HU0 HQQ HSH
  generalize rX Q0 L roots = X at *
  generalize reqQ Q0 L = req at *
  obtain ⟨fc, fo⟩ : ∃ fo, fo = rF Q0 L roots := ⟨_, rfl⟩
  rw [← fo] at HRE HRO HED HFU
  obtain ⟨d, hd⟩ : ∃ d, d = rW Q0 L roots (xp, xq) := ⟨_, rfl⟩
  rw [← hd] at HWY HFA HFW
  clear fo hd
  obtain ⟨f1, f2⟩ := fc
  obtain ⟨d0, d1, d2⟩ := d
  unfold faultV at HRO HFA HFU HFW
  simp only at HRE HRO HED HWY HFA HFU HFW
  go_wp2_with fail
  refine HRE.out.mono ?_
  rintro e w5 ⟨xa, xc, y5, rfl, hms5, he5, hb⟩
  have HB5 := hid hb
  have HM5 := hid ((hb.block _ (lt_of_blk HM4.out)).trans HM4.out)
  have HMX := hid hms5
  have HE5 := hid he5
  clear hb hms5 he5 HRE
  go_wp2_with fail
  refine (HRO.out w5 HB5.out).mono ?_
  rintro e w6 ⟨wa, wc, rfl, hms6, hb⟩
  have HB6 := hid (HB5.out.trans (hb.mono HB5.out.size))
  have HM6 := hid ((hb.block _ (lt_of_blk HM5.out)).trans HM5.out)
  have HMX6 := hid (HMX.out.below hb)
  have HMW := hid hms6
  have HE6 := hid (HE5.out.below hb)
  clear hb hms6 HRO
  have HA7 := hid ((Below.refl w6.heap.size w6).alloc (Nat.le_refl _) (.cells #[.int .i64 (f1 : Nat), .int .i64 (atOf f2)] 36))
  have HB7 := hid (HB6.out.trans (HA7.out.mono HB6.out.size))
  have HM7 := hid (heap_old w6 (.cells #[.int .i64 (f1 : Nat), .int .i64 (atOf f2)] 36) HM6.out)
  have HF7 := hid (heap_new w6 (.cells #[.int .i64 (f1 : Nat), .int .i64 (atOf f2)] 36))
  have HMX7 := hid (HMX6.out.below HA7.out)
  have HMW7 := hid (HMW.out.below HA7.out)
  have HE7 := hid (HE6.out.below HA7.out)
  have hgm := lt_of_blk HM6.out
  have hgm2 : ¬ w.heap.size = w6.heap.size := by omega
  have HSG := hid (show w4.heap.size ≤ w6.heap.size from HB6.out.size)
  generalize hf1 : ((f1 : Nat) : Int) = F1 at *
  generalize atOf f2 = F2 at *
  go_wp2_with fail
  generalize w6.alloc (.cells #[.int .i64 F1, .int .i64 F2] 36) = w7 at *
  generalize w6.heap.size = g at *
  clear HA7 HE6 HMW HMX6 HM6 HB6 HB5 HM5 HMX HE5
  refine (HFU.out w7 y5 HB7.out HE7.out).mono ?_
  rintro e w8 ⟨rfl, hb⟩
  have HB8 := hid (HB7.out.trans (hb.mono HB7.out.size))
  have HM8 := hid ((hb.block _ (lt_of_blk HM7.out)).trans HM7.out)
  have HF8 := hid ((hb.block _ (lt_of_blk HF7.out)).trans HF7.out)
  have HSA := hid (sameM_any X _ _ w8 (by have := HXL.out; omega) (HMX7.out.below hb) (HMW7.out.below hb))
  have HMW8 := hid (HMW7.out.below hb)
  clear hb HE7 HMX7 HMW7 HM7 HF7 HB7
  go_wp2_with fail
  refine HSA.out.mono ?_
  rintro e w9 ⟨rfl, hb⟩
  have HB9 := hid (HB8.out.trans (hb.mono HB8.out.size))
  have HM9 := hid ((hb.block _ (lt_of_blk HM8.out)).trans HM8.out)
  have HF9 := hid ((hb.block _ (lt_of_blk HF8.out)).trans HF8.out)
  have HMW9 := hid (HMW8.out.below hb)
  clear hb HSA HMW8 HM8 HF8 HB8
  go_wp2_with fail
  refine (HED.out w9 HB9.out).mono ?_
  rintro e w10 ⟨y10, rfl, he10, hb⟩
  have HBx := hid (HB9.out.trans (hb.mono HB9.out.size))
  have HMx := hid ((hb.block _ (lt_of_blk HM9.out)).trans HM9.out)
  have HFx := hid ((hb.block _ (lt_of_blk HF9.out)).trans HF9.out)
  have HMWx := hid (HMW9.out.below hb)
  have HEx := hid he10
  clear hb HED he10 HMW9 HM9 HF9 HB9
  go_wp2_with fail
  go_loopw [15, 16] (fun kv iv wr => ∃ i : Nat, i ≤ X.length ∧ iv = .int .i64 i ∧ kv = .int .i64 (sumM req (X.take i) : Nat) ∧ Hid (Below w10.heap.size w10 wr)) (fun _ iv _ => X.length - (intOf iv).toNat)
  case atStart => exact ⟨0, Nat.zero_le _, rfl, by simp [sumM], hid (Below.refl _ _)⟩
  case round =>
    obtain ⟨i, hi, rfl, rfl, HBr⟩ := hrel
    by_cases hlt : i < X.length
    · have hiI : (i : Int) < (X.length : Int) := by omega
      have hi0 : (0 : Int) ≤ (i : Int) := by omega
      have HLT := hid hlt
      obtain ⟨xb, xo, hxa, y0, y1⟩ := (HMWx.out.below HBr.out).cells hlt
      subst hxa
      obtain ⟨t, ht, e1, qa, qc, e2⟩ := HXF.out X[i] (List.getElem_mem hlt)
      have HFF := hid (HF1.out X[i] wr (HBx.out.trans (HBr.out.mono HBx.out.size)))
      rw [e1] at HFF
      have htI : (t : Int) < (Q0.length : Int) := by omega
      have ht0 : (0 : Int) ≤ (t : Int) := by omega
      have HCE := hid (fun W (h : Below wr.heap.size wr W) => es_cells (HES.out W (HBx.out.trans ((HBr.out.trans (h.mono HBr.out.size)).mono HBx.out.size))) ht)
      rw [e2] at HCE
      obtain ⟨eb, eo, hea, -⟩ := HCE.out wr (Below.refl _ _)
      subst hea
      have HX2 := hid (fun W (h : Below wr.heap.size wr W) => show W.cell? ⟨eb, eo + t * 5 + 2, none⟩ = some (.slice qa (req X[i]).length qc) by
        obtain ⟨eb', eo', e, h2⟩ := HCE.out W h
        injection e with e
        injection e with e1 e2
        subst e1 e2
        exact h2)
      have hll := HXR.out X[i] (List.getElem_mem hlt)
      have HNX := hid (sumM_next req hlt)
      have hsb := sumM_take_le req X i 1000000 HXR.out
      have hxl := HXL.out
      have hsb2 : sumM req (X.take i) ≤ 1000000000 := by omega
      have HS2 := hid (show sumM req (X.take i) + (req X[i]).length ≤ 2000000000 by omega)
      generalize (req X[i]).length = rn at *
      generalize sumM req (X.take i) = sk at *
      have hsI : (sk : Int) + (rn : Int) ≤ 2000000000 := by omega
      generalize X[i] = xi at *
      obtain ⟨x1, x2⟩ := xi
      clear hlt e1 e2 HCE ht
      go_wp2_with fail
      refine HFF.out.mono ?_
      rintro e w11 ⟨rfl, hb⟩
      have t0 := HX2.out w11 hb
      have HBB := hid (HBr.out.trans (hb.mono HBr.out.size))
      clear hb
      go_wp2_with fail
      go_roundw
      case rel =>
        have e1 := HNX.out
        first | exact ⟨i + 1, HLT.out, nr_idx i, by rw [e1]; rfl, HBB⟩ | exact ⟨i + 1, HLT.out, nx_idx HLT.out (by omega), by rw [e1]; exact sum_idx HS2.out, HBB⟩ | exact ⟨i + 1, HLT.out, nr_idx i, by rw [e1]; exact sum_idx HS2.out, HBB⟩
      case measure => first | exact nr_meas HLT.out | exact nx_meas HLT.out (by omega)
    · have hiI : ¬ (i : Int) < (X.length : Int) := by omega
      have HTR := hid (show X.take i = X from List.take_of_length_le (by omega))
      have HBy := hid (HBx.out.trans (HBr.out.mono HBx.out.size))
      have HMy := hid ((HBr.out.block _ (lt_of_blk HMx.out)).trans HMx.out)
      have HFy := hid ((HBr.out.block _ (lt_of_blk HFx.out)).trans HFx.out)
      have HEy := hid (HEx.out.below HBr.out)
      rw [HTR.out]
      obtain ⟨fy0, fy1, fyf⟩ := box_two HFy.out
      generalize sumM req X = SX at *
      clear hlt
      go_wp2_with fail
      refine (HFU.out wr y10 HBy.out HEy.out).mono ?_
      rintro e w12 ⟨rfl, hb⟩
      have HBz := hid (HBy.out.trans (hb.mono HBy.out.size))
      have HMz := hid ((hb.block _ (lt_of_blk HMy.out)).trans HMy.out)
      have HFz := hid ((hb.block _ (lt_of_blk HFy.out)).trans HFy.out)
      clear hb fy0 fy1 fyf
      obtain ⟨m0, m1, mf⟩ := box_two HMz.out
      go_wp2_with fail
      refine (HWY.out w12 HBz.out).mono ?_
      rintro e w13 ⟨ya, yc, y13, rfl, he13, hb⟩
      have HB13 := hid (HBz.out.trans (hb.mono HBz.out.size))
      have HM13 := hid ((hb.block _ (lt_of_blk HMz.out)).trans HMz.out)
      have HF13 := hid ((hb.block _ (lt_of_blk HFz.out)).trans HFz.out)
      have HE13 := hid he13
      clear hb he13 m0 m1 mf
      obtain ⟨m0, m1, mf⟩ := box_two HM13.out
      go_wp2_with fail
      refine (HFA.out w13 HB13.out).mono ?_
      rintro e w14 ⟨rfl, hb⟩
      have HB14 := hid (HB13.out.trans (hb.mono HB13.out.size))
      have HF14 := hid ((hb.block _ (lt_of_blk HF13.out)).trans HF13.out)
      have HE14 := hid (HE13.out.below hb)
      clear hb m0 m1 mf
      obtain ⟨q0, q1, qf⟩ := box_two HF14.out
      have HB15 := hid (put2_below (x := .int .i64 ((d1 : Nat) : Int)) (y := .int .i64 (atOf d2)) HB14.out HSG.out)
      have HE15 := hid (HE14.out.set2 HF14.out (.int .i64 ((d1 : Nat) : Int)) (.int .i64 (atOf d2)))
      have hd0 : ((d0 : Nat) : Int) = d0 := rfl
      go_wp2_with fail
      generalize (w14.setCell ⟨g, 0, none⟩ (.int .i64 ((d1 : Nat) : Int))).setCell ⟨g, 1, none⟩ (.int .i64 (atOf d2)) = w15 at *
      refine (HFW.out w15 y13 HB15.out HE15.out).mono ?_
      rintro e w16 ⟨rfl, hb⟩
      have HB16 := hid (HBW.out _ (HB15.out.trans (hb.mono HB15.out.size)))
      clear hb
      go_wp2_with fail
      go_ret
      exact ⟨rfl, HB16.out⟩
end Ve
end Go.Proofs.YtffjaliegglddaaGreatDoor
