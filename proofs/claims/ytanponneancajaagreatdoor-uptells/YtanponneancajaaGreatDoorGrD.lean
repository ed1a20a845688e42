/-
  What graph.walk answers.
-/
import Derived.Test.YtanponneancajaaGreatDoorFoA
import Derived.Test.YtanponneancajaaGreatDoorGrC
import Derived.Test.YtanponneancajaaGreatDoorIxQ
import Derived.Deep.DeepCutAuto
namespace Go.Proofs.YtanponneancajaaGreatDoor
open Go.RowKit Go.Maps
namespace Ve

/-- The modules of an index. -/
def univ (L : List Ent) : List Bm := L.map fun e => e.1
theorem univ_len (L : List Ent) : (univ L).length = L.length := by simp [univ]
/-- Whom a module of an index requires. -/
def reqQ (Q : List Raw) (L : List Ent) (m : Bm) : List Bm := if idxOf (isM m) Q < 0 then [] else ((L[(idxOf (isM m) Q).toNat]?).map fun e => e.2.1).getD []
theorem ixs_get {w : World} {v : Value} {Q : List Raw} {L : List Ent} (I : Ixs w v Q L) {j : Nat} (hj : j < Q.length) : ∃ hj' : j < L.length, Q[j].1 = L[j].1 := by
  have hj' : j < L.length := by rw [← I.ln]; exact hj
  exact ⟨hj', (I.ok j hj hj').m⟩
theorem isM_iff {m : Bm} {r : Raw} : isM m r = true ↔ r.1 = m := by
  unfold isM
  constructor
  · intro h; have h2 := of_decide_eq_true h; exact Prod.ext h2.1 h2.2
  · intro h; exact decide_eq_true (by rw [h]; exact ⟨rfl, rfl⟩)
theorem idx_nat (P : Raw → Bool) (Q : List Raw) : idxOf P Q = -1 ∨ ∃ k : Nat, idxOf P Q = (k : Int) := by
  unfold idxOf
  cases fstE (idxE P Q) Q.length with
  | none => exact Or.inl rfl
  | some k => exact Or.inr ⟨k, rfl⟩
theorem idx_none {P : Raw → Bool} {Q : List Raw} (h : idxOf P Q = -1) : ∀ r, r ∈ Q → P r = false := fun r hr => by
  obtain ⟨j, hj, rfl⟩ := List.getElem_of_mem hr
  unfold idxOf at h
  cases h1 : fstE (idxE P Q) Q.length with
  | some k => rw [h1] at h; simp only at h; omega
  | none =>
    have := fstE_of_none h1 j hj
    rw [idxE_at hj] at this
    cases hp : P Q[j] with
    | false => rfl
    | true => rw [hp] at this; simp at this
/-- What is found is a module of the index. -/
theorem found_iff {w : World} {v : Value} {Q : List Raw} {L : List Ent} (I : Ixs w v Q L) (m : Bm) : m ∈ univ L ↔ ∃ k : Nat, idxOf (isM m) Q = (k : Int) := by
  constructor
  · intro h
    rcases idx_nat (isM m) Q with h1 | h1
    · obtain ⟨e, he, rfl⟩ := List.mem_map.1 h
      obtain ⟨j, hj, rfl⟩ := List.getElem_of_mem he
      have hj2 : j < Q.length := by rw [I.ln]; exact hj
      have := idx_none h1 Q[j] (List.getElem_mem hj2)
      rw [isM_iff.2 (I.ok j hj2 hj).m] at this
      cases this
    · exact h1
  · rintro ⟨k, h⟩
    obtain ⟨hk, h1⟩ := idx_is h
    obtain ⟨hk', h2⟩ := ixs_get I hk
    exact List.mem_map.2 ⟨L[k], List.getElem_mem hk', by rw [← h2]; exact isM_iff.1 h1⟩
theorem reqQ_at {Q : List Raw} {L : List Ent} {m : Bm} {k : Nat} (h : idxOf (isM m) Q = (k : Int)) (hk : k < L.length) : reqQ Q L m = L[k].2.1 := by
  unfold reqQ
  rw [h, if_neg (by omega), Int.toNat_natCast, List.getElem?_eq_getElem hk]
  rfl

set_option maxRecDepth 100000 in
set_option maxHeartbeats 2000000 in
theorem walk_any (Q : List Raw) (L : List Ent) (roots : List Bm) (v rv : Value) (w : World) (hn : L.length ≤ 1000) (hrn : roots.length ≤ 1000000) (I : Ixs w v Q L) (hr : MsAt w rv roots) (hz : ∀ m, m ∈ univ L → m.1.size ≤ maxLen ∧ m.2.size ≤ maxLen) (hrl : ∀ e, e ∈ L → e.2.1.length ≤ 1000000)
    (hru : ∀ m, m ∈ roots → m ∈ univ L) (hlu : ∀ m, m ∈ univ L → ∀ x, x ∈ reqQ Q L m → x ∈ univ L) :
    Calls Tryz.prog 167 #[v, rv] w fun e w' => ∃ b, e = .returned (.map (some b)) ∧ ∃ T, ByAt w' b T ∧ szT T ∧ Came (reqQ Q L) (univ L) roots T ∧ Below w.heap.size w w' := by
  obtain ⟨a, c, hv, -⟩ := id I.es
  subst hv
  obtain ⟨ra, rc, hrv, -⟩ := id hr
  subst hrv
  have HI := hid I
  have HR := hid hr
  have HZ := hid hz
  have HRL := hid hrl
  have HRU := hid hru
  have HLU := hid hlu
  have eg : ∀ args w, (callFunc 214 args).run Tryz.prog w = .ok (.enter 214 args) w := enters_of Tryz.func214 (by kernel_rfl) rfl
  have hmk : ∀ W : World, (Instr.makeMap 179 none).run Tryz.prog W = .ok (.map (some W.heap.size)) (W.alloc (.map #[] 0)) := fun W => run_makeMap 179 W
  clear I hr hz hrl hru hlu
  go_enter Tryz.func167, Tryz.ntmps167
  go_wp2_with fail
  have HW0 := hid (show Wk w (((w.alloc (.map #[] 0)).alloc (.cells #[.map (some w.heap.size)] 179)).alloc (.cells #[.slice none 0 0] 52)) (w.heap.size + 1) (w.heap.size + 1 + 1) w.heap.size [] by
    have b1 := (Below.refl w.heap.size w).alloc (Nat.le_refl _) (.map #[] 0)
    have b2 := b1.alloc (by simp) (.cells #[.map (some w.heap.size)] 179)
    have b3 := b2.alloc (by simp; omega) (.cells #[.slice none 0 0] 52)
    have c1 := (Below.refl (w.alloc (.map #[] 0)).heap.size (w.alloc (.map #[] 0))).alloc (Nat.le_refl _) (.cells #[.map (some w.heap.size)] 179)
    have c2 := (Below.refl ((w.alloc (.map #[] 0)).alloc (.cells #[.map (some w.heap.size)] 179)).heap.size ((w.alloc (.map #[] 0)).alloc (.cells #[.map (some w.heap.size)] 179))).alloc (Nat.le_refl _) (.cells #[.slice none 0 0] 52)
    have m0 : ByAt (w.alloc (.map #[] 0)) w.heap.size [] := World.ownsMap_made w Tryz.prog 51 rB
    have h1 := heap_new (w.alloc (.map #[] 0)) (.cells #[.map (some w.heap.size)] 179)
    have h2 := heap_new ((w.alloc (.map #[] 0)).alloc (.cells #[.map (some w.heap.size)] 179)) (.cells #[.slice none 0 0] 52)
    have s1 : (w.alloc (.map #[] 0)).heap.size = w.heap.size + 1 := by simp
    have s2 : ((w.alloc (.map #[] 0)).alloc (.cells #[.map (some w.heap.size)] 179)).heap.size = w.heap.size + 1 + 1 := by simp
    rw [s1] at h1
    rw [s2] at h2
    exact ⟨b3, fun x hx => (by cases hx), by omega, by omega, by omega, heap_old _ _ h1, (m0.below c1).below c2, _, h2, World.ownsRow_nil _ _ _ _⟩)
  generalize hW0 : ((w.alloc (.map #[] 0)).alloc (.cells #[.map (some w.heap.size)] 179)).alloc (.cells #[.slice none 0 0] 52) = W0 at *
  clear hW0
  go_loopw [17] (fun iv wr => ∃ k : Nat, k ≤ roots.length ∧ iv = .int .i64 k ∧ Hid (∃ T, Wk w wr (w.heap.size + 1) (w.heap.size + 1 + 1) w.heap.size T ∧ Bfs (reqQ Q L) (univ L) roots T 0 ∧ (∀ m, m ∈ roots.take k → m ∈ whoT T) ∧ ∃ V, LvOk (reqQ Q L) roots T 0 V ∧ ∀ k (hk : k < V.length), V[k] = 1)) (fun i _ => roots.length - (intOf i).toNat)
  case atStart => exact ⟨0, Nat.zero_le _, rfl, hid ⟨[], HW0.out, Bfs.none _ _ _, fun m hm => by simp at hm, [], LvOk.none _ _, fun _ h => absurd h (Nat.not_lt_zero _)⟩⟩
  case round =>
    obtain ⟨k, hk, rfl, HT⟩ := hrel
    by_cases hlt : k < roots.length
    · obtain ⟨T, hT⟩ := HT.out
      have HTT := hid hT
      have HRM := hid (HR.out.below hT.1.bl)
      obtain ⟨rb, ro, hra, hcc⟩ := HRM.out.cells hlt
      subst hra
      have x0 := hcc.1
      have x1 := hcc.2
      have HMU := hid (HRU.out roots[k] (List.getElem_mem hlt))
      have HMR := hid (List.getElem_mem hlt)
      have HTK := hid (show ∀ x, x ∈ roots.take (k + 1) → x ∈ roots.take k ∨ x = roots[k] from fun x hx => by
        rw [List.take_succ_eq_append_getElem hlt] at hx
        rcases List.mem_append.1 hx with h | h
        · exact Or.inl h
        · exact Or.inr (List.mem_singleton.1 h))
      have HLT := hid hlt
      have hkI : (k : Int) < (roots.length : Int) := by omega
      clear hT hcc
      generalize roots[k] = m at *
      clear hlt
      have HBa := hid ((Below.refl wr.heap.size wr).alloc (Nat.le_refl _) (.cells #[.string m.1, .string m.2] 51))
      have HCO := hid (come_any w _ (w.heap.size + 1) (w.heap.size + 1 + 1) w.heap.size T m m (HZ.out m HMU.out) (by have := HTT.out.2.1.len; rw [univ_len] at this; omega) (HTT.out.1.below HBa.out))
      go_wp2_with fail
      refine HCO.out.mono ?_
      rintro e w1 ⟨rfl, hk1⟩
      have HN := hid (show ∃ T, Wk w w1 (w.heap.size + 1) (w.heap.size + 1 + 1) w.heap.size T ∧ Bfs (reqQ Q L) (univ L) roots T 0 ∧ (∀ m, m ∈ roots.take (k + 1) → m ∈ whoT T) ∧ ∃ V, LvOk (reqQ Q L) roots T 0 V ∧ ∀ k (hk : k < V.length), V[k] = 1 from
        ⟨_, hk1, HTT.out.2.1.come HMU.out (Or.inl ⟨rfl, HMR.out⟩), fun x hx => by
          rcases HTK.out x hx with h | rfl
          · exact come_sub (HTT.out.2.2.1 x h)
          · exact come_mem _ _ _, by
          obtain ⟨V, h1, h2⟩ := HTT.out.2.2.2
          exact h1.root h2 HMR.out⟩)
      clear hk1
      go_wp2_with fail
      go_roundw
      case rel => exact ⟨k + 1, HLT.out, nr_idx k, HN⟩
      case measure => exact nr_meas HLT.out
    · have HALL := hid (show ∃ T, Wk w wr (w.heap.size + 1) (w.heap.size + 1 + 1) w.heap.size T ∧ Bfs (reqQ Q L) (univ L) roots T 0 ∧ (∀ m, m ∈ roots → m ∈ whoT T) ∧ ∃ V, LvOk (reqQ Q L) roots T 0 V by
        have := HT.out
        rw [List.take_of_length_le (by omega)] at this
        obtain ⟨T, h1, h2, h3, V, h4, _⟩ := this
        exact ⟨T, h1, h2, h3, V, h4⟩)
      have hkI : ¬ (k : Int) < (roots.length : Int) := by omega
      clear HT hlt
      go_wp2_with fail
      go_loopw [10] (fun iv wr => ∃ i : Nat, iv = .int .i64 i ∧ Hid (∃ T, Wk w wr (w.heap.size + 1) (w.heap.size + 1 + 1) w.heap.size T ∧ Bfs (reqQ Q L) (univ L) roots T i ∧ (∀ m, m ∈ roots → m ∈ whoT T) ∧ ∃ V, LvOk (reqQ Q L) roots T i V)) (fun i _ => L.length - (intOf i).toNat)
      case atStart => exact ⟨0, rfl, HALL⟩
      case round =>
        obtain ⟨i, rfl, HA⟩ := hrel
        obtain ⟨T, hT⟩ := HA.out
        have HTT := hid hT
        obtain ⟨ov, o1, o2⟩ := hT.1.oc
        have hTl : T.length ≤ L.length := by have := hT.2.1.len; rw [univ_len] at this; exact this
        obtain ⟨oa, oc, hov⟩ := own_slN o2
        subst hov
        have z0 : wr.cell? ⟨w.heap.size + 1 + 1, 0, none⟩ = some (.slice oa T.length oc) := by rw [Lib.cell_of_heap o1]; rfl
        have HO2 := hid o2
        clear hT o1 o2 HA
        by_cases hlt : i < T.length
        · have hiI : (i : Int) < (T.length : Int) := by omega
          obtain ⟨b1, o1, hoa, yy0, yy1⟩ := (own_ms (L := whoT T) (by rw [whoT_len]; exact HO2.out)).cells (k := i) (by rw [whoT_len]; exact hlt)
          subst hoa
          rw [whoT_get hlt] at yy0 yy1
          have HLT := hid hlt
          have HOU := hid (HTT.out.2.1.un T[i].1 (whoT_mem.2 ⟨i, hlt, rfl⟩))
          have HOM := hid (show T[i].1 ∈ whoT T from whoT_mem.2 ⟨i, hlt, rfl⟩)
          obtain ⟨o, ho, y0, y1, hou, hom⟩ : ∃ o, T[i].1 = o ∧ wr.cell? ⟨b1, o1 + i * 2, none⟩ = some (.string o.1) ∧ wr.cell? ⟨b1, o1 + i * 2 + 1, none⟩ = some (.string o.2) ∧ o ∈ univ L ∧ o ∈ whoT T := ⟨_, rfl, yy0, yy1, HOU.out, HOM.out⟩
          clear yy0 yy1 HOU HOM
          have HOU := hid hou
          have HOM := hid hom
          have HOI := hid (show ∃ h : i < T.length, (T[i]'h).1 = o from ⟨hlt, ho⟩)
          clear hou hom
          obtain ⟨kq, hkq⟩ := (found_iff HI.out o).1 HOU.out
          obtain ⟨hkl, -⟩ := idx_is hkq
          have hkl2 : kq < L.length := by rw [← HI.out.ln]; exact hkl
          have HFI := hid (find_any Q o (.slice a Q.length c) wr (by rw [HI.out.ln]; omega) (HI.out.below HTT.out.1.bl).es)
          rw [hkq] at HFI
          have HRQ := hid (reqQ_at hkq hkl2)
          have hkI : (kq : Int) < (Q.length : Int) := by omega
          have hk0 : (0 : Int) ≤ (kq : Int) := by omega
          have HES := hid (fun W (h : Below w.heap.size w W) => es_cells (HI.out.below h).es hkl)
          have HMS := hid (fun W (h : Below w.heap.size w W) => ((HI.out.below h).ok kq hkl hkl2).rq)
          have hrl2 := HRL.out L[kq] (List.getElem_mem hkl2)
          generalize (L[kq]'hkl2).2.1 = R at *
          generalize (Q[kq]'hkl).2.1 = qv at *
          obtain ⟨qa, qc, hqv, -⟩ := HMS.out w (Below.refl _ _)
          subst hqv
          clear hkq hkl hkl2 ho hlt
          go_wp2_with fail
          refine HFI.out.mono ?_
          rintro e w1 ⟨rfl, hb⟩
          have HW1 := hid (HTT.out.1.below hb)
          obtain ⟨eb, eo, ha, x2⟩ := HES.out w1 HW1.out.bl
          subst ha
          clear hb HFI
          go_wp2_with fail
          have HMS1 := hid (HMS.out w1 HW1.out.bl)
          have HST := hid (show ∃ T', Wk w w1 (w.heap.size + 1) (w.heap.size + 1 + 1) w.heap.size T' ∧ Bfs (reqQ Q L) (univ L) roots T' i ∧ (∀ m, m ∈ roots → m ∈ whoT T') ∧ (∃ h : i < T'.length, (T'[i]'h).1 = o) ∧ (∀ m, m ∈ R.take 0 → m ∈ whoT T') ∧ ∃ V, LvOk (reqQ Q L) roots T' i V from
            ⟨T, HW1.out, HTT.out.2.1, HTT.out.2.2.1, HOI.out, fun m hm => by simp at hm, HTT.out.2.2.2⟩)
          clear HW1 HTT x2 y0 y1 z0
          go_loopw [43] (fun iv wr => ∃ k : Nat, k ≤ R.length ∧ iv = .int .i64 k ∧ Hid (∃ T', Wk w wr (w.heap.size + 1) (w.heap.size + 1 + 1) w.heap.size T' ∧ Bfs (reqQ Q L) (univ L) roots T' i ∧ (∀ m, m ∈ roots → m ∈ whoT T') ∧ (∃ h : i < T'.length, (T'[i]'h).1 = o) ∧ (∀ m, m ∈ R.take k → m ∈ whoT T') ∧ ∃ V, LvOk (reqQ Q L) roots T' i V)) (fun i _ => R.length - (intOf i).toNat)
          case atStart => exact ⟨0, Nat.zero_le _, rfl, HST⟩
          case round =>
            obtain ⟨k2, hk2, rfl, HS2⟩ := hrel
            by_cases hlt : k2 < R.length
            · obtain ⟨T2, hT2⟩ := HS2.out
              have HT2 := hid hT2
              obtain ⟨qb, qo, hqa, xx0, xx1⟩ := (HMS.out wr hT2.1.bl).cells hlt
              subst hqa
              have HMR := hid (show R[k2] ∈ reqQ Q L o by rw [HRQ.out]; exact List.getElem_mem hlt)
              have HTK := hid (show ∀ x, x ∈ R.take (k2 + 1) → x ∈ R.take k2 ∨ x = R[k2] from fun x hx => by
                rw [List.take_succ_eq_append_getElem hlt] at hx
                rcases List.mem_append.1 hx with h | h
                · exact Or.inl h
                · exact Or.inr (List.mem_singleton.1 h))
              have HLT2 := hid hlt
              have hkI2 : (k2 : Int) < (R.length : Int) := by omega
              obtain ⟨m, hm, x0, x1, hmr, htk⟩ : ∃ m, R[k2] = m ∧ wr.cell? ⟨qb, qo + k2 * 2, none⟩ = some (.string m.1) ∧ wr.cell? ⟨qb, qo + k2 * 2 + 1, none⟩ = some (.string m.2) ∧ m ∈ reqQ Q L o ∧ ∀ x, x ∈ R.take (k2 + 1) → x ∈ R.take k2 ∨ x = m := ⟨_, rfl, xx0, xx1, HMR.out, HTK.out⟩
              clear HMR HTK xx0 xx1
              have HMR := hid hmr
              have HTK := hid htk
              have HMU := hid (HLU.out o HOU.out m hmr)
              obtain ⟨hi2, ho2⟩ := hT2.2.2.2.1
              have HFO := hid (show o ∈ whoT T2 from whoT_mem.2 ⟨i, hi2, ho2⟩)
              obtain ⟨ov, o1, o2⟩ := hT2.1.oc
              obtain ⟨oa2, oc2, hov⟩ := own_slN o2
              subst hov
              have hBa := (Below.refl wr.heap.size wr).alloc (Nat.le_refl _) (.cells #[.string m.1, .string m.2] 51)
              obtain ⟨b3, o3, hoa, w0, w1'⟩ := (own_ms (L := whoT T2) (by rw [whoT_len]; exact o2)).cells (k := i) (by rw [whoT_len]; exact hi2)
              subst hoa
              rw [whoT_get hi2] at w0 w1'
              have hiI2 : (i : Int) < (T2.length : Int) := by omega
              have hi00 : (0 : Int) ≤ (i : Int) := by omega
              obtain ⟨q0, q1⟩ : (wr.alloc (.cells #[.string m.1, .string m.2] 51)).cell? ⟨b3, o3 + i * 2, none⟩ = some (.string o.1) ∧ (wr.alloc (.cells #[.string m.1, .string m.2] 51)).cell? ⟨b3, o3 + i * 2 + 1, none⟩ = some (.string o.2) := ⟨cell_below hBa (by rw [← ho2]; exact w0), cell_below hBa (by rw [← ho2]; exact w1')⟩
              have q2 : (wr.alloc (.cells #[.string m.1, .string m.2] 51)).cell? ⟨w.heap.size + 1 + 1, 0, none⟩ = some (.slice (some ⟨b3, o3, none⟩) T2.length oc2) := cell_below hBa (by rw [Lib.cell_of_heap o1]; rfl)
              have HCO := hid (fun W (h : Wk w W (w.heap.size + 1) (w.heap.size + 1 + 1) w.heap.size T2) => come_any w W (w.heap.size + 1) (w.heap.size + 1 + 1) w.heap.size T2 m o (HZ.out m HMU.out) (by have := HT2.out.2.1.len; rw [univ_len] at this; omega) h)
              have HWB := hid (hT2.1.below hBa)
              clear hT2 hm hmr htk o1 o2 w0 w1' hBa
              clear ho2 hi2 hlt
              go_upto_region 15 with fail
              go_region_with (go_at_call 214; refine (HCO.out _ (HWB.out.below (below_drawn _ 1))).mono ?_; rintro e w4 ⟨rfl, hk4⟩; have HK4 := hid hk4; clear hk4)
              all_goals
                have HNX := hid (show ∃ T', Wk w w4 (w.heap.size + 1) (w.heap.size + 1 + 1) w.heap.size T' ∧ Bfs (reqQ Q L) (univ L) roots T' i ∧ (∀ m, m ∈ roots → m ∈ whoT T') ∧ (∃ h : i < T'.length, (T'[i]'h).1 = o) ∧ (∀ m, m ∈ R.take (k2 + 1) → m ∈ whoT T') ∧ ∃ V, LvOk (reqQ Q L) roots T' i V from by
                  obtain ⟨h1, h2, h3, ⟨h4, h5⟩, h6, V, h7⟩ := HT2.out
                  refine ⟨_, HK4.out, h2.come HMU.out (Or.inr ⟨HFO.out, HMR.out⟩), fun x hx => come_sub (h3 x hx), ?_, fun x hx => ?_, by rw [← h5]; exact h7.reqs h4 h3 (by rw [h5]; exact HMR.out)⟩
                  · obtain ⟨E, hE⟩ := come_old T2 m o
                    rw [hE]
                    exact ⟨by simp; omega, by rw [List.getElem_append_left h4]; exact h5⟩
                  · rcases HTK.out x hx with h | rfl
                    · exact come_sub (h6 x h)
                    · exact come_mem _ _ _)
                go_wp2_with fail
                go_roundw
                case rel => exact ⟨k2 + 1, HLT2.out, nr_idx k2, HNX⟩
                case measure => exact nr_meas HLT2.out
            · have HSE := hid (show ∃ T', Wk w wr (w.heap.size + 1) (w.heap.size + 1 + 1) w.heap.size T' ∧ Bfs (reqQ Q L) (univ L) roots T' (i + 1) ∧ (∀ m, m ∈ roots → m ∈ whoT T') ∧ ∃ V, LvOk (reqQ Q L) roots T' (i + 1) V by
                obtain ⟨T', h1, h2, h3, ⟨h4, h5⟩, h6, V, h7⟩ := HS2.out
                rw [List.take_of_length_le (by omega)] at h6
                exact ⟨T', h1, h2.next h4 (by rw [h5, HRQ.out]; exact h6), h3, V, h7.next h4 (by rw [h5, HRQ.out]; exact h6)⟩)
              have hkI2 : ¬ (k2 : Int) < (R.length : Int) := by omega
              have HIL := hid (show i < L.length by
                obtain ⟨T', h1, h2, h3, ⟨h4, h5⟩, h6⟩ := HS2.out
                have := h2.len
                rw [univ_len] at this
                omega)
              clear HS2 hlt
              go_wp2_with fail
              go_roundw
              case rel => exact ⟨i + 1, nr_idx i, HSE⟩
              case measure => exact nr_meas HIL.out
        · have hiI : ¬ (i : Int) < (T.length : Int) := by omega
          have HTE := hid (show i = T.length by have := HTT.out.2.1.le; omega)
          have z1 : wr.cell? ⟨w.heap.size + 1, 0, none⟩ = some (.map (some w.heap.size)) := by rw [Lib.cell_of_heap HTT.out.1.bc]; rfl
          clear hlt
          go_wp2_with fail
          go_ret
          exact ⟨_, rfl, T, HTT.out.1.mp, HTT.out.1.sz, ⟨by have := HTT.out.2.1; rw [HTE.out] at this; exact this, HTT.out.2.2.1, by have := HTT.out.2.2.2; rw [HTE.out] at this; exact this⟩, HTT.out.1.bl⟩
end Ve
end Go.Proofs.YtanponneancajaaGreatDoor
