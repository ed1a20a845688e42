/-
  What the document's answer marks as reached (marks).
-/
import Derived.Test.YtanponneancajaaGreatDoorRtC
import Derived.Test.YtanponneancajaaGreatDoorGtA
import Derived.Test.YtanponneancajaaGreatDoorGrK
import Derived.Test.YtanponneancajaaGreatDoorGaA
import Derived.Laws.MakeOwn
namespace Go.Proofs.YtanponneancajaaGreatDoor
open Go.RowKit Go.Maps
namespace Ve

theorem infoBool : (Tryz.prog.info? 4).map (fun i => (i.zero, i.size, i.bytes)) = some (some (.bool false), 1, 1) := by kernel_rfl
/-- Marks in memory. -/
def bwc (O : List Bool) : Array Value := (O.map Value.bool).toArray
theorem bwc_set (O : List Bool) (a : Nat) : (bwc O).setIfInBounds a (.bool true) = bwc (O.set a true) := by
  unfold bwc
  rw [List.setIfInBounds_toArray, List.map_set]
theorem bwc_at {W : World} {g : Nat} {O : List Bool} (h : W.heap[g]? = some (.cells (bwc O) 4 (0, 0))) {a : Nat} (ha : a < O.length) : W.cell? ⟨g, a, none⟩ = some (.bool O[a]) := by
  rw [Lib.cell_of_heap h]
  simp [bwc, ha]
theorem made_bools (n : Nat) : madeCells (Value.bool false).cells n = bwc (List.replicate n false) := by
  unfold madeCells bwc
  simp [Value.cells]
  apply Array.ext
  · simp
  · intro i h1 h2
    simp [Nat.mod_one]
theorem make_bools (n : Nat) (w : World) (hn : n ≤ 1000000) : (Instr.makeSlice 187 (.int .i64 (n : Int)) (.int .i64 (n : Int))).run Tryz.prog w = .ok (.slice (some ⟨w.heap.size, 0, none⟩) n n) (w.alloc (.cells (bwc (List.replicate n false)) 4)) := by
  obtain ⟨i0, hi, hz0, hz1, hz2⟩ := info_parts infoBool
  have h := run_makeSlice (P := Tryz.prog) w 187 4 i0 (.bool false) Tryz.underlying187 hi hz0 .i64 .i64 (n : Int) (n : Int) (by omega) (by omega) (by rw [hz1]; simp; omega) (by rw [hz2]; omega) (by omega)
  rw [hz1] at h
  simp only [Int.toNat_natCast, Nat.mul_one] at h
  rw [made_bools] at h
  exact h
def unmV : List Value → Nat
  | [] => 0
  | .bool false :: l => unmV l + 1
  | _ :: l => unmV l
theorem unmV_is : ∀ O : List Bool, unmV (O.map Value.bool) = unm O
  | [] => rfl
  | true :: O => by show unmV (O.map Value.bool) = unm O; exact unmV_is O
  | false :: O => by show unmV (O.map Value.bool) + 1 = unm O + 1; rw [unmV_is O]
def unmW : Option Obj → Nat
  | some (.cells cs _ _) => unmV cs.toList
  | _ => 0
theorem unmW_is {W : World} {g : Nat} {O : List Bool} (h : W.heap[g]? = some (.cells (bwc O) 4 (0, 0))) : unmW W.heap[g]? = unm O := by
  rw [h]
  show unmV (bwc O).toList = unm O
  unfold bwc
  rw [List.toList_toArray, unmV_is]
def measM (ag : Value) (o : Option Obj) : Nat := match ag with
  | .bool false => 0
  | _ => unmW o + 1
/-- The marks, as far as they are made. -/
structure Mks (w W : World) (Q : List Raw) (L : List Ent) (roots : List Bm) (O : List Bool) : Prop where
  bl : Below w.heap.size w W
  hp : W.heap[w.heap.size]? = some (.cells (bwc O) 4 (0, 0))
  ok : Mk (reqQ Q L) (univ L) roots O
theorem Mks.below {w W W' : World} {Q : List Raw} {L : List Ent} {roots : List Bm} {O : List Bool} (h : Mks w W Q L roots O) (hb : Below W.heap.size W W') : Mks w W' Q L roots O :=
  ⟨h.bl.trans (hb.mono h.bl.size), (hb.block _ (lt_of_blk h.hp)).trans h.hp, h.ok⟩
theorem Mks.set {w W : World} {Q : List Raw} {L : List Ent} {roots : List Bm} {O : List Bool} (h : Mks w W Q L roots O) {a : Nat} (ha : a < (univ L).length) (hr : Rch (reqQ Q L) roots (univ L)[a]) : Mks w (W.setCell ⟨w.heap.size, a, none⟩ (.bool true)) Q L roots (O.set a true) :=
  ⟨h.bl.setCell (Nat.le_refl _) _, by rw [set_block h.hp, bwc_set], h.ok.set ha hr⟩
theorem idx_univ {w : World} {v : Value} {Q : List Raw} {L : List Ent} (I : Ixs w v Q L) {m : Bm} (hm : m ∈ univ L) : ∃ k, ∃ hk : k < (univ L).length, idxOf (isM m) Q = (k : Int) ∧ (univ L)[k] = m := by
  obtain ⟨k, hk⟩ := (found_iff I m).1 hm
  obtain ⟨h1, h2⟩ := idx_is hk
  have h3 : k < L.length := by rw [← I.ln]; exact h1
  refine ⟨k, by simpa [univ] using h3, hk, ?_⟩
  have := of_decide_eq_true h2
  simp only [univ, List.getElem_map]
  rw [← (I.ok k h1 h3).m]
  exact Prod.ext this.1 this.2
theorem univ_nd {Q : List Raw} {L : List Ent} (h : (chk Q L).1 = 0) : (univ L).Nodup :=
  (univ_rises h).imp fun {a b} h e => by subst e; rw [mAhead_irr] at h; cases h
theorem req_at {w : World} {v : Value} {Q : List Raw} {L : List Ent} (I : Ixs w v Q L) (h : (chk Q L).1 = 0) {i : Nat} (hi : i < L.length) (hi' : i < (univ L).length) : reqQ Q L (univ L)[i] = L[i].2.1 := by
  obtain ⟨k, hk, e1, e2⟩ := idx_univ I (List.getElem_mem hi')
  have hki : k = i := by
    have hp := List.pairwise_iff_getElem.1 (univ_nd h)
    rcases Nat.lt_trichotomy k i with h1 | h1 | h1
    · exact absurd e2 (hp k i hk hi' h1)
    · exact h1
    · exact absurd e2.symm (hp i k hi' hk h1)
  subst hki
  exact reqQ_at e1 hi
set_option maxRecDepth 100000 in
set_option maxHeartbeats 8000000 in
/-- pewholderref2.marks. -/
theorem marks_any (Q : List Raw) (L : List Ent) (roots : List Bm) (v rv : Value) (w : World) (hn : L.length ≤ 1000) (hrn : roots.length ≤ 1000000) (sh : ∀ e, e ∈ L → ShE e) (I : Ixs w v Q L) (hr : MsAt w rv roots) (h0 : (chkG Q L roots).1 = 0) :
    Calls Tryz.prog 176 #[v, rv] w fun e w' => ∃ O : List Bool, e = .returned (.slice (some ⟨w.heap.size, 0, none⟩) Q.length Q.length) ∧ Mks w w' Q L roots O ∧ ∀ i (hi : i < (univ L).length) (hi' : i < O.length), O[i] = true ↔ Rch (reqQ Q L) roots (univ L)[i] := by
  have HLN := hid I.ln
  have hqn : Q.length ≤ 1000 := by rw [I.ln]; exact hn
  have HUL := hid (show (univ L).length = Q.length by rw [I.ln]; simp [univ])
  have HC := hid (rgt_of I h0).c
  have HRU := hid (rgt_of I h0).r
  have HFO := hid (fun m W (h : Below w.heap.size w W) => findOf_all Q m v W (by omega) (I.below h).es)
  have HIU := hid (fun m (hm : m ∈ univ L) => idx_univ I hm)
  have HMR := hid (fun W (h : Below w.heap.size w W) => hr.below h)
  have HI := hid I
  have HSZ := hid sh
  have HB0 := hid (show Mks w (w.alloc (.cells (bwc (List.replicate Q.length false)) 4)) Q L roots (List.replicate Q.length false) from ⟨(Below.refl w.heap.size w).alloc (Nat.le_refl _) _, heap_new w _, by rw [← HUL.out]; exact Mk.none _ _ _⟩)
  obtain ⟨a, c, hv1, -⟩ := id I.es
  subst hv1
  obtain ⟨ra, rc, hrv, -⟩ := id hr
  subst hrv
  have hmk := make_bools Q.length w (by omega)
  clear I hr sh h0 hn
  go_enter Tryz.func176, Tryz.ntmps176
  go_wp2_with fail
  clear hmk
  go_loopw [6] (fun iv wr => ∃ k : Nat, k ≤ roots.length ∧ iv = .int .i64 k ∧ Hid (∃ O, Mks w wr Q L roots O ∧ ∀ j (h : j < roots.length), j < k → At1 (univ L) O roots[j])) (fun iv _ => roots.length - (intOf iv).toNat)
  case atStart => exact ⟨0, Nat.zero_le _, rfl, hid ⟨_, HB0.out, fun j _ h => absurd h (Nat.not_lt_zero _)⟩⟩
  case round =>
    obtain ⟨k, hk, rfl, HO⟩ := hrel
    obtain ⟨O, hO, hAt⟩ := HO.out
    by_cases hlt : k < roots.length
    · have hkI : (k : Int) < (roots.length : Int) := by omega
      have hk0 : (0 : Int) ≤ (k : Int) := by omega
      obtain ⟨xb, xo, hxa, y0, y1⟩ := (HMR.out _ hO.bl).cells hlt
      subst hxa
      obtain ⟨n, hnU, e1, e2⟩ := HIU.out roots[k] (HRU.out _ (List.getElem_mem hlt))
      have HF := hid (HFO.out roots[k] _ hO.bl)
      rw [e1] at HF
      have hnq : n < Q.length := by rw [← HUL.out]; exact hnU
      have hnI : (n : Int) < (Q.length : Int) := by omega
      have hn0 : (0 : Int) ≤ (n : Int) := by omega
      have HLT := hid hlt
      have hOl : O.length = (univ L).length := hO.ok.ln
      have HNX := hid (fun W (hb : Below wr.heap.size wr W) => show ∃ O', Mks w (W.setCell ⟨w.heap.size, n, none⟩ (.bool true)) Q L roots O' ∧ ∀ j (h : j < roots.length), j < k + 1 → At1 (univ L) O' roots[j] from ⟨O.set n true, (hO.below hb).set hnU (by rw [e2]; exact .root (List.getElem_mem hlt)), fun j h1 h2 => by
        rcases Nat.lt_or_ge j k with h | h
        · exact (hAt j h1 h).set n
        · have : j = k := by omega
          subst this
          rw [← e2]; exact At1.new hnU hOl⟩)
      have HCE := hid (fun W (hb : Below wr.heap.size wr W) => show W.cell? ⟨w.heap.size, n, none⟩ = some (.bool (O[n]'(by rw [hOl]; exact hnU))) ∧ ∀ o, W.frozen? ⟨w.heap.size, o, none⟩ = false from ⟨bwc_at (hO.below hb).hp _, fun o => Lib.frozen_of_heap (hO.below hb).hp o⟩)
      generalize (O[n]'(by rw [hOl]; exact hnU)) = bo at *
      generalize roots[k] = x at *
      obtain ⟨x1, x2⟩ := x
      clear hlt e1 e2 hO hAt hOl HO hnU
      go_wp2_with fail
      refine HF.out.mono ?_
      rintro e w1 ⟨rfl, hb⟩
      obtain ⟨z0, zf⟩ := HCE.out w1 hb
      have HN2 := hid (HNX.out w1 hb)
      clear hb
      go_wp2_with fail
      go_roundw
      case rel => first | exact ⟨k + 1, HLT.out, nr_idx k, HN2⟩ | exact ⟨k + 1, HLT.out, nx_idx HLT.out hrn, HN2⟩
      case measure => first | exact nr_meas HLT.out | exact nx_meas HLT.out hrn
    · have hkI : ¬ (k : Int) < (roots.length : Int) := by omega
      have HO2 := hid (show ∃ O, Mks w wr Q L roots O ∧ ∀ m, m ∈ roots → At1 (univ L) O m from ⟨O, hO, fun m hm => by
        obtain ⟨j, hj, rfl⟩ := List.getElem_of_mem hm
        exact hAt j hj (by omega)⟩)
      clear hlt hO hAt HO
      go_wp2_with fail
      go_loopw [7] (fun ag wr => (ag = .bool true ∨ ag = .bool false) ∧ Hid (∃ O, Mks w wr Q L roots O ∧ (∀ m, m ∈ roots → At1 (univ L) O m) ∧ (ag = .bool false → Cl1 (reqQ Q L) (univ L) O (univ L).length))) (fun ag wr => measM ag wr.heap[w.heap.size]?)
      case atStart =>
        obtain ⟨O, hO, hA⟩ := HO2.out
        exact ⟨Or.inl rfl, hid ⟨O, hO, hA, fun h => by cases h⟩⟩
      case round =>
        clear HO2
        obtain ⟨hag, HO3⟩ := hrel
        rcases hag with rfl | rfl
        · obtain ⟨N0, HN0⟩ : ∃ N0, Hid (unmW wr.heap[w.heap.size]? = N0) := ⟨_, hid rfl⟩
          have HO4 := hid (show ∃ O, Mks w wr Q L roots O ∧ (∀ m, m ∈ roots → At1 (univ L) O m) ∧ unm O ≤ N0 ∧ Cl1 (reqQ Q L) (univ L) O 0 by
            obtain ⟨O, hO, hA, _⟩ := HO3.out
            exact ⟨O, hO, hA, by rw [← HN0.out, unmW_is hO.hp]; exact Nat.le_refl _, fun j _ _ h => absurd h (Nat.not_lt_zero _)⟩)
          clear HO3
          go_wp2_with fail
          go_loopw [7, 8] (fun ag iv wr => (ag = .bool true ∨ ag = .bool false) ∧ ∃ i : Nat, i ≤ Q.length ∧ iv = .int .i64 i ∧ Hid (∃ O, Mks w wr Q L roots O ∧ (∀ m, m ∈ roots → At1 (univ L) O m) ∧ unm O ≤ N0 ∧ (ag = .bool true → unm O < N0) ∧ (ag = .bool false → Cl1 (reqQ Q L) (univ L) O i))) (fun _ iv _ => Q.length - (intOf iv).toNat)
          case atStart =>
            obtain ⟨O, hO, hA, hu, hc⟩ := HO4.out
            exact ⟨Or.inr rfl, 0, Nat.zero_le _, rfl, hid ⟨O, hO, hA, hu, (fun h => by cases h), fun _ => hc⟩⟩
          case round =>
            clear HO4
            obtain ⟨hag, i, hi, rfl, HO5⟩ := hrel
            by_cases hlt : i < Q.length
            · have hiI : (i : Int) < (Q.length : Int) := by omega
              have hi0 : (0 : Int) ≤ (i : Int) := by omega
              have HLI := hid hlt
              have hil : i < L.length := by rw [← HLN.out]; exact hlt
              have hiU : i < (univ L).length := by rw [HUL.out]; exact hlt
              have HCE := hid (fun W (h : Below w.heap.size w W) => es_cells (HI.out.below h).es hlt)
              have HMS := hid (fun W (h : Below w.heap.size w W) => ((HI.out.below h).ok i hlt hil).rq)
              have HRQ := hid (show ∀ (h : i < (univ L).length), reqQ Q L (univ L)[i] = L[i].2.1 from fun h => req_at HI.out HC.out hil h)
              have hRl := (HSZ.out L[i] (List.getElem_mem hil)).rn
              have HRX := hid (show ∀ x, x ∈ L[i].2.1 → x ∈ univ L from fun x hx => chk_reqs0 HI.out HC.out _ (List.getElem_mem hiU) x (by rw [HRQ.out]; exact hx))
              generalize (L[i]'hil).2.1 = R at *
              generalize (Q[i]'hlt).2.1 = qv at *
              obtain ⟨qa, qc, hqv, -⟩ := HMS.out w (Below.refl _ _)
              subst hqv
              obtain ⟨eb, eo, hea, -⟩ := HCE.out w (Below.refl _ _)
              subst hea
              have HX2 := hid (fun W (h : Below w.heap.size w W) => show W.cell? ⟨eb, eo + i * 5 + 2, none⟩ = some (.slice qa R.length qc) by
                obtain ⟨eb', eo', e, h2⟩ := HCE.out W h
                injection e with e
                injection e with e1 e2
                subst e1 e2
                exact h2)
              have HIU2 := hid hiU
              clear hlt hil hiU HCE
              go_wp2_with fail
              go_loopw [7, 9] (fun ag kv wr => (ag = .bool true ∨ ag = .bool false) ∧ ∃ k : Nat, k ≤ R.length ∧ kv = .int .i64 k ∧ Hid (∃ O, Mks w wr Q L roots O ∧ (∀ m, m ∈ roots → At1 (univ L) O m) ∧ unm O ≤ N0 ∧ (ag = .bool true → unm O < N0) ∧ (ag = .bool false → Cl1 (reqQ Q L) (univ L) O i ∧ ∀ j (h : j < R.length), j < k → O[i]? = some true → At1 (univ L) O R[j]))) (fun _ kv _ => R.length - (intOf kv).toNat)
              case atStart =>
                obtain ⟨O, hO, hA, hu, h1, h2⟩ := HO5.out
                exact ⟨hag, 0, Nat.zero_le _, rfl, hid ⟨O, hO, hA, hu, h1, fun h => ⟨h2 h, fun j _ hj => absurd hj (Nat.not_lt_zero _)⟩⟩⟩
              case round =>
                clear HO5 hag
                obtain ⟨hag, k, hk, rfl, HO6⟩ := hrel
                obtain ⟨O, hO, hA, hu, ht, hf⟩ := HO6.out
                have hOl : O.length = (univ L).length := hO.ok.ln
                have hiO : i < O.length := by rw [hOl]; exact HIU2.out
                have z0 := bwc_at hO.hp hiO
                have x2 := HX2.out _ hO.bl
                cases hoi : O[i]
                · rw [hoi] at z0
                  have HE := hid (show ∃ O, Mks w wr Q L roots O ∧ (∀ m, m ∈ roots → At1 (univ L) O m) ∧ unm O ≤ N0 ∧ (u7 = .bool true → unm O < N0) ∧ (u7 = .bool false → Cl1 (reqQ Q L) (univ L) O (i + 1)) from ⟨O, hO, hA, hu, ht, fun h j hj hj' hji ho m hm => by
                    rcases Nat.lt_or_ge j i with h1 | h1
                    · exact (hf h).1 j hj hj' h1 ho m hm
                    · have : j = i := by omega
                      subst this
                      rw [hoi] at ho; cases ho⟩)
                  clear hoi hO hA hu ht hf hOl hiO HO6
                  go_wp2_with fail
                  go_roundw
                  case rel => first | exact ⟨hag, i + 1, HLI.out, nr_idx i, HE⟩ | exact ⟨hag, i + 1, HLI.out, nx_idx HLI.out (by omega), HE⟩
                  case measure => first | exact nr_meas HLI.out | exact nx_meas HLI.out (by omega)
                · rw [hoi] at z0
                  have hRi := hO.ok.so i HIU2.out hiO hoi
                  by_cases hlk : k < R.length
                  · have hkI : (k : Int) < (R.length : Int) := by omega
                    have hk0 : (0 : Int) ≤ (k : Int) := by omega
                    obtain ⟨xb, xo, hxa, y0, y1⟩ := (HMS.out _ hO.bl).cells hlk
                    subst hxa
                    obtain ⟨n, hnU, e1, e2⟩ := HIU.out R[k] (HRX.out _ (List.getElem_mem hlk))
                    have HF := hid (HFO.out R[k] _ hO.bl)
                    rw [e1] at HF
                    have hnq : n < Q.length := by rw [← HUL.out]; exact hnU
                    have hnI : (n : Int) < (Q.length : Int) := by omega
                    have hn0 : (0 : Int) ≤ (n : Int) := by omega
                    have hnO : n < O.length := by rw [hOl]; exact hnU
                    have HLK := hid hlk
                    have hRn : Rch (reqQ Q L) roots (univ L)[n] := by
                      rw [e2]
                      exact .step hRi (by rw [HRQ.out]; exact List.getElem_mem hlk)
                    cases hon : O[n]
                    · have HNX := hid (fun W (hb : Below wr.heap.size wr W) => show ∃ O', Mks w (W.setCell ⟨w.heap.size, n, none⟩ (.bool true)) Q L roots O' ∧ (∀ m, m ∈ roots → At1 (univ L) O' m) ∧ unm O' ≤ N0 ∧ unm O' < N0 from by
                        have hs := unm_set O n hnO hon
                        exact ⟨O.set n true, (hO.below hb).set hnU hRn, fun m hm => (hA m hm).set n, by omega, by omega⟩)
                      have HCL := hid (fun W (hb : Below wr.heap.size wr W) => show W.cell? ⟨w.heap.size, n, none⟩ = some (.bool false) ∧ ∀ o, W.frozen? ⟨w.heap.size, o, none⟩ = false from ⟨by rw [bwc_at (hO.below hb).hp hnO, hon], fun o => Lib.frozen_of_heap (hO.below hb).hp o⟩)
                      generalize R[k] = x at *
                      obtain ⟨x1, x2'⟩ := x
                      clear hlk e1 e2 hO hA hu ht hf hOl hiO hon hnO hnU hRn hRi hoi HO6
                      go_wp2_with fail
                      refine HF.out.mono ?_
                      rintro e w1 ⟨rfl, hb⟩
                      obtain ⟨t0, tf⟩ := HCL.out w1 hb
                      obtain ⟨O', g1, g2, g3, g4⟩ := HNX.out w1 hb
                      have HN2 := hid (show ∃ O, Mks w (w1.setCell ⟨w.heap.size, n, none⟩ (.bool true)) Q L roots O ∧ (∀ m, m ∈ roots → At1 (univ L) O m) ∧ unm O ≤ N0 ∧ (Value.bool true = .bool true → unm O < N0) ∧ (Value.bool true = .bool false → Cl1 (reqQ Q L) (univ L) O i ∧ ∀ j (h : j < R.length), j < k + 1 → O[i]? = some true → At1 (univ L) O R[j]) from ⟨O', g1, g2, g3, fun _ => g4, fun h => by cases h⟩)
                      clear hb g1 g2 g3 g4
                      go_wp2_with fail
                      go_roundw
                      case rel => first | exact ⟨Or.inl rfl, k + 1, HLK.out, nr_idx k, HN2⟩ | exact ⟨Or.inl rfl, k + 1, HLK.out, nx_idx HLK.out hRl, HN2⟩ | exact ⟨by simp, k + 1, HLK.out, nr_idx k, by simpa using HN2⟩
                      case measure => first | exact nr_meas HLK.out | exact nx_meas HLK.out hRl
                    · have HNX := hid (fun W (hb : Below wr.heap.size wr W) => show ∃ O, Mks w W Q L roots O ∧ (∀ m, m ∈ roots → At1 (univ L) O m) ∧ unm O ≤ N0 ∧ (u7 = .bool true → unm O < N0) ∧ (u7 = .bool false → Cl1 (reqQ Q L) (univ L) O i ∧ ∀ j (h : j < R.length), j < k + 1 → O[i]? = some true → At1 (univ L) O R[j]) from ⟨O, hO.below hb, hA, hu, ht, fun h => ⟨(hf h).1, fun j h1 h2 h3 => by
                        rcases Nat.lt_or_ge j k with h4 | h4
                        · exact (hf h).2 j h1 h4 h3
                        · have : j = k := by omega
                          subst this
                          exact ⟨n, hnU, hnO, e2, hon⟩⟩⟩)
                      have HCL := hid (fun W (hb : Below wr.heap.size wr W) => show W.cell? ⟨w.heap.size, n, none⟩ = some (.bool true) by rw [bwc_at (hO.below hb).hp hnO, hon])
                      generalize R[k] = x at *
                      obtain ⟨x1, x2'⟩ := x
                      clear hlk e1 e2 hO hA hu ht hf hOl hiO hon hnO hnU hRn hRi hoi HO6
                      go_wp2_with fail
                      refine HF.out.mono ?_
                      rintro e w1 ⟨rfl, hb⟩
                      have t0 := HCL.out w1 hb
                      have HN2 := hid (HNX.out w1 hb)
                      clear hb
                      go_wp2_with fail
                      go_roundw
                      case rel => first | exact ⟨hag, k + 1, HLK.out, nr_idx k, HN2⟩ | exact ⟨hag, k + 1, HLK.out, nx_idx HLK.out hRl, HN2⟩
                      case measure => first | exact nr_meas HLK.out | exact nx_meas HLK.out hRl
                  · have hkI : ¬ (k : Int) < (R.length : Int) := by omega
                    have HE := hid (show ∃ O, Mks w wr Q L roots O ∧ (∀ m, m ∈ roots → At1 (univ L) O m) ∧ unm O ≤ N0 ∧ (u7 = .bool true → unm O < N0) ∧ (u7 = .bool false → Cl1 (reqQ Q L) (univ L) O (i + 1)) from ⟨O, hO, hA, hu, ht, fun h j hj hj' hji ho m hm => by
                      rcases Nat.lt_or_ge j i with h1 | h1
                      · exact (hf h).1 j hj hj' h1 ho m hm
                      · have : j = i := by omega
                        subst this
                        rw [HRQ.out] at hm
                        obtain ⟨t, ht2, rfl⟩ := List.getElem_of_mem hm
                        exact (hf h).2 t ht2 (by omega) (by rw [List.getElem?_eq_getElem hj', ho])⟩)
                    clear hlk hoi hO hA hu ht hf hOl hiO hRi HO6
                    go_wp2_with fail
                    go_roundw
                    case rel => first | exact ⟨hag, i + 1, HLI.out, nr_idx i, HE⟩ | exact ⟨hag, i + 1, HLI.out, nx_idx HLI.out (by omega), HE⟩
                    case measure => first | exact nr_meas HLI.out | exact nx_meas HLI.out (by omega)
            · have hiI : ¬ (i : Int) < (Q.length : Int) := by omega
              have hie : i = Q.length := by omega
              obtain ⟨O, hO, hA, hu, ht, hf⟩ := HO5.out
              have HE := hid (show ∃ O, Mks w wr Q L roots O ∧ (∀ m, m ∈ roots → At1 (univ L) O m) ∧ (u7 = .bool false → Cl1 (reqQ Q L) (univ L) O (univ L).length) from ⟨O, hO, hA, fun h => by rw [HUL.out, ← hie]; exact hf h⟩)
              have HME := hid (show measM u7 wr.heap[w.heap.size]? < N0 + 1 by
                rcases hag with rfl | rfl
                · show unmW _ + 1 < N0 + 1
                  rw [unmW_is hO.hp]
                  have := ht rfl
                  omega
                · exact Nat.succ_pos _)
              clear hlt hO hA hu ht hf HO5
              go_wp2_with fail
              go_roundw
              case rel => exact ⟨hag, HE⟩
              case measure =>
                have h1 := HME.out
                rw [← HN0.out] at h1
                exact h1
        · obtain ⟨O, hO, hA, hc⟩ := HO3.out
          have HFI := hid (show ∃ O : List Bool, Mks w wr Q L roots O ∧ ∀ i (hi : i < (univ L).length) (hi' : i < O.length), O[i] = true ↔ Rch (reqQ Q L) roots (univ L)[i] from ⟨O, hO, fun i hi hi' => hO.ok.iff (univ_nd HC.out) hA (hc rfl) hi hi'⟩)
          clear hO hA hc HO3
          go_wp2_with fail
          go_ret
          obtain ⟨O, h1, h2⟩ := HFI.out
          exact ⟨O, rfl, h1, h2⟩
end Ve
end Go.Proofs.YtanponneancajaaGreatDoor
