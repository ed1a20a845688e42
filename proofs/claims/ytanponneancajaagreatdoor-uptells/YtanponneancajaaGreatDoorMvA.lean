/-
  What slices.IndexFunc and slices.ContainsFunc answer over modules; what mvs.Under answers; nothing old in memory turns.
-/
import Derived.Test.YtanponneancajaaGreatDoorMvP
import Derived.Test.YtanponneancajaaGreatDoorModQ
import Derived.Deep.RegionHeld
namespace Go.Proofs.YtanponneancajaaGreatDoor
open Go.RowKit
namespace Ve

/-- The first place where a test holds, or -1. -/
def idxB (P : Bm → Bool) (L : List Bm) : Int := if L.any P then (L.findIdx P : Int) else -1
theorem idxB_hit {P : Bm → Bool} {L : List Bm} {k : Nat} (hk : k < L.length) (h0 : ∀ j (hj : j < L.length), j < k → P L[j] = false) (h : P L[k] = true) : idxB P L = (k : Int) := by
  unfold idxB
  rw [if_pos (List.any_eq_true.2 ⟨L[k], List.getElem_mem hk, h⟩), (List.findIdx_eq hk).2 ⟨h, fun j hj => h0 j (by omega) hj⟩]
theorem idxB_not {P : Bm → Bool} {L : List Bm} (h0 : ∀ j (hj : j < L.length), P L[j] = false) : idxB P L = -1 := by
  unfold idxB
  rw [if_neg]
  intro h
  obtain ⟨x, hx, h1⟩ := List.any_eq_true.1 h
  obtain ⟨j, hj, rfl⟩ := List.getElem_of_mem hx
  rw [h0 j hj] at h1; cases h1
theorem idxB_next {P : Bm → Bool} {L : List Bm} {k : Nat} (hk : k < L.length) (h0 : ∀ j (hj : j < L.length), j < k → P L[j] = false) (h : P L[k] = false) : ∀ j (hj : j < L.length), j < k + 1 → P L[j] = false := fun j hj hjk => by
  rcases Nat.lt_or_ge j k with h1 | h1
  · exact h0 j hj h1
  · have : j = k := by omega
    subst this; exact h
theorem idxB_kind (P : Bm → Bool) (L : List Bm) : (idxB P L = -1 ∧ ∀ x, x ∈ L → P x = false) ∨ ∃ k, ∃ hk : k < L.length, idxB P L = (k : Int) ∧ P L[k] = true ∧ ∀ j (hj : j < L.length), j < k → P L[j] = false := by
  by_cases h : L.any P
  · refine Or.inr ⟨L.findIdx P, List.findIdx_lt_length.2 (List.any_eq_true.1 h), by unfold idxB; rw [if_pos h], List.findIdx_getElem, fun j hj hjk => ?_⟩
    have := List.not_of_lt_findIdx hjk
    simpa using this
  · refine Or.inl ⟨by unfold idxB; rw [if_neg h], fun x hx => ?_⟩
    cases hp : P x
    · rfl
    · exact absurd (List.any_eq_true.2 ⟨x, hx, hp⟩) h
set_option maxHeartbeats 2000000 in
set_option maxRecDepth 100000 in
theorem idxM_some (K : Nat) (cb : Array Value) (P : Bm → Bool) (L : List Bm) (b o c : Nat) (w : World) (eg : ∀ args w, (callFunc K args).run Tryz.prog w = .ok (.enter K args) w) (hL : L.length ≤ 1000000)
    (hc : ∀ j (h : j < L.length), w.cell? ⟨b, o + j * 2, none⟩ = some (.string L[j].1) ∧ w.cell? ⟨b, o + j * 2 + 1, none⟩ = some (.string L[j].2))
    (hK : ∀ i (h : i < L.length) W, Below w.heap.size w W → Calls Tryz.prog K (#[.agg #[.string L[i].1, .string L[i].2]] ++ cb) W fun e w' => e = .returned (.bool (P L[i])) ∧ Below W.heap.size W w') :
    Calls Tryz.prog 80 #[.slice (some ⟨b, o, none⟩) L.length c, .func (.func K) #[] cb] w fun e w' => e = .returned (.int .i64 (idxB P L)) ∧ Below w.heap.size w w' := by
  have HK := hid hK
  have HC := hid hc
  generalize hr : idxB P L = r
  have HR := hid hr
  clear hK hc hr
  go_enter Tryz.func80, Tryz.ntmps80
  go_wp2_with fail
  go_loopw [8] (fun i wr => ∃ k : Nat, k ≤ L.length ∧ i = .int .i64 k ∧ Hid (∀ j (h : j < L.length), j < k → P L[j] = false) ∧ Hid (Below w.heap.size w wr)) (fun i _ => L.length - (intOf i).toNat)
  case atStart => exact ⟨0, Nat.zero_le _, rfl, hid (fun j _ hj => absurd hj (by omega)), hid (Below.refl _ _)⟩
  case round =>
    obtain ⟨k, hk, rfl, HA, HB⟩ := hrel
    by_cases hlt : k < L.length
    · have HP := hid (HK.out k hlt wr HB.out)
      have x0 := cell_below HB.out (HC.out k hlt).1
      have x1 := cell_below HB.out (HC.out k hlt).2
      have hkI : (k : Int) < (L.length : Int) := by omega
      have HLT := hid hlt
      have HF := hid (fun h => idxB_hit hlt HA.out h)
      have HN := hid (fun h => idxB_next hlt HA.out h)
      generalize hx : L[k] = x at *
      cases hp : P x
      · rw [hp] at HP
        have HN2 := hid (HN.out hp)
        clear hp hx hlt
        go_wp2_with fail
        refine HP.out.mono ?_
        rintro e w1 ⟨rfl, hb⟩
        have HB1 := hid (HB.out.trans (hb.mono HB.out.size))
        clear hb
        go_wp2_with fail
        go_roundw
        case rel => exact ⟨k + 1, by have := HLT.out; omega, by go_num, HN2, HB1⟩
        case measure => have := HLT.out; simp [intOf]; omega
      · rw [hp] at HP
        have HF2 := hid (HF.out hp)
        clear hp hx hlt
        go_wp2_with fail
        refine HP.out.mono ?_
        rintro e w1 ⟨rfl, hb⟩
        have HB1 := hid (HB.out.trans (hb.mono HB.out.size))
        clear hb
        go_wp2_with fail
        go_ret
        exact ⟨by rw [← HR.out, HF2.out]; rfl, HB1.out⟩
    · have HF := hid (idxB_not (P := P) (L := L) (fun j hj => HA.out j hj (by omega)))
      go_wp2_with fail
      go_ret
      exact ⟨by rw [← HR.out, HF.out]; rfl, HB.out⟩
theorem idxM_none (K : Nat) (cb : Array Value) (a : Option Addr) (c : Nat) (w : World) :
    Calls Tryz.prog 80 #[.slice a 0 c, .func (.func K) #[] cb] w fun e w' => e = .returned (.int .i64 (-1)) ∧ Below w.heap.size w w' := by
  go_enter Tryz.func80, Tryz.ntmps80
  go_wp2_with fail
  go_loopw [8] (fun i wr => i = .int .i64 0 ∧ wr = w) (fun i _ => 0)
  case atStart => exact ⟨rfl, rfl⟩
  case round =>
    obtain ⟨rfl, rfl⟩ := hrel
    go_wp2_with fail
    go_ret
    exact ⟨rfl, Below.refl _ _⟩
theorem idxM_any (K : Nat) (cb : Array Value) (P : Bm → Bool) (L : List Bm) (v : Value) (w : World) (eg : ∀ args w, (callFunc K args).run Tryz.prog w = .ok (.enter K args) w) (hL : L.length ≤ 1000000) (hv : MsAt w v L)
    (hK : ∀ i (h : i < L.length) W, Below w.heap.size w W → Calls Tryz.prog K (#[.agg #[.string L[i].1, .string L[i].2]] ++ cb) W fun e w' => e = .returned (.bool (P L[i])) ∧ Below W.heap.size W w') :
    Calls Tryz.prog 80 #[v, .func (.func K) #[] cb] w fun e w' => e = .returned (.int .i64 (idxB P L)) ∧ Below w.heap.size w w' := by
  obtain ⟨a, c, rfl, _, h⟩ := hv
  cases L with
  | nil => exact idxM_none K cb a c w
  | cons x r =>
    obtain ⟨b, o, rfl, h2⟩ := h (by simp)
    exact idxM_some K cb P (x :: r) b o c w eg hL h2 hK
set_option maxHeartbeats 1000000 in
theorem hasM_any (K : Nat) (cb : Array Value) (P : Bm → Bool) (L : List Bm) (v : Value) (w : World) (eg : ∀ args w, (callFunc K args).run Tryz.prog w = .ok (.enter K args) w) (hL : L.length ≤ 1000000) (hv : MsAt w v L)
    (hK : ∀ i (h : i < L.length) W, Below w.heap.size w W → Calls Tryz.prog K (#[.agg #[.string L[i].1, .string L[i].2]] ++ cb) W fun e w' => e = .returned (.bool (P L[i])) ∧ Below W.heap.size W w') :
    Calls Tryz.prog 78 #[v, .func (.func K) #[] cb] w fun e w' => e = .returned (.bool (L.any P)) ∧ Below w.heap.size w w' := by
  obtain ⟨va, vn, vc, hv1⟩ := hv.slice
  have HI := hid (idxM_any K cb P L v w eg hL hv hK)
  have HX := hid (show decide (0 ≤ idxB P L) = L.any P by
    unfold idxB
    cases h : L.any P
    · simp
    · simp)
  generalize L.any P = z at *
  generalize idxB P L = x at *
  subst hv1
  clear hK hv eg
  by_cases h0 : 0 ≤ x
  · go_enter Tryz.func78, Tryz.ntmps78
    go_wp2_with fail
    refine HI.out.mono ?_
    rintro e w1 ⟨rfl, hb⟩
    have HB := hid hb
    clear hb
    go_wp2_with fail
    go_ret
    exact ⟨ret_bool (by rw [← HX.out]; simp [h0]), HB.out⟩
  · go_enter Tryz.func78, Tryz.ntmps78
    go_wp2_with fail
    refine HI.out.mono ?_
    rintro e w1 ⟨rfl, hb⟩
    have HB := hid hb
    clear hb
    go_wp2_with fail
    go_ret
    exact ⟨ret_bool (by rw [← HX.out]), HB.out⟩
set_option maxHeartbeats 1000000 in
theorem undP_any (x m : Bm) (b : Nat) (W : World) (h0 : W.cell? ⟨b, 0, none⟩ = some (.string m.1)) (h1 : W.cell? ⟨b, 1, none⟩ = some (.string m.2)) :
    Calls Tryz.prog 81 (#[.agg #[.string x.1, .string x.2]] ++ #[.pointer (some ⟨b, 0, none⟩)]) W fun e w' => e = .returned (.bool (decide (x.1 = m.1))) ∧ Below W.heap.size W w' := by
  obtain ⟨p, v⟩ := x
  obtain ⟨q, u⟩ := m
  simp only at h0 h1
  show Calls Tryz.prog 81 #[.agg #[.string p, .string v], .pointer (some ⟨b, 0, none⟩)] W _
  have HB0 := hid ((Below.refl W.heap.size W).alloc (Nat.le_refl _) (.cells #[.string p, .string v] 51))
  have c0 := cell_below HB0.out h0
  have c1 := cell_below HB0.out h1
  have hbb : ¬ b = W.heap.size := by have := lt_of_cell h0; simp at this; omega
  have hbb2 : ¬ W.heap.size = b := fun h => hbb h.symm
  by_cases h : p = q
  · subst h
    have he := str_refl p
    have HD := hid (show decide (p = p) = true by simp)
    generalize decide (p = p) = z at *
    go_enter Tryz.func81, Tryz.ntmps81
    go_wp2_with fail
    go_ret
    exact ⟨ret_bool HD.out.symm, HB0.out⟩
  · have he := str_ne h
    have HD := hid (show decide (p = q) = false by simp [h])
    generalize decide (p = q) = z at *
    go_enter Tryz.func81, Tryz.ntmps81
    go_wp2_with fail
    go_ret
    exact ⟨ret_bool HD.out.symm, HB0.out⟩
theorem hasV_none {B : List Bm} {m : Bm} (h : ∀ x, x ∈ B → decide (x.1 = m.1) = false) : hasV B m = false := by
  unfold hasV atP
  rw [List.find?_eq_none.2 (fun x hx => by rw [h x hx]; simp)]
theorem hasV_some {B : List Bm} {m : Bm} {k : Nat} (hk : k < B.length) (h1 : decide (B[k].1 = m.1) = true) (h2 : ∀ j (hj : j < B.length), j < k → decide (B[j].1 = m.1) = false) : hasV B m = !lessB (vb B[k]) (vb m) := by
  unfold hasV atP
  have : B.find? (fun x => decide (x.1 = m.1)) = some B[k] := by
    rw [List.find?_eq_some_iff_getElem]
    exact ⟨h1, k, hk, rfl, fun j hj => by rw [h2 j (by omega) hj]; rfl⟩
  rw [this]
set_option maxHeartbeats 2000000 in
theorem undK_any (B : List Bm) (m : Bm) (b : Nat) (v : Value) (A : Nat → Addr) (ml : Int) (W : World) (hB : B.length ≤ 1000000) (hs : ∀ x, x ∈ B → x.2.size < 999999) (hm : m.2.size < 999999) (S : Te W A ml) (h1 : W.cell? ⟨b, 0, none⟩ = some v) (hv : MsAt W v B) :
    Calls Tryz.prog 79 (#[.agg #[.string m.1, .string m.2]] ++ #[.pointer (some ⟨b, 0, none⟩)]) W fun e w' => e = .returned (.bool (!hasV B m)) ∧ Below W.heap.size W w' := by
  have eg : ∀ args w, (callFunc 81 args).run Tryz.prog w = .ok (.enter 81 args) w := enters_of Tryz.func81 (by kernel_rfl) rfl
  have HB0 := hid ((Below.refl W.heap.size W).alloc (Nat.le_refl _) (.cells #[.string m.1, .string m.2] 51))
  have HF := hid (idxM_any 81 #[.pointer (some ⟨W.heap.size, 0, none⟩)] (fun x => decide (x.1 = m.1)) B v (W.alloc (.cells #[.string m.1, .string m.2] 51)) eg hB (hv.below HB0.out) (fun i hi W' hW =>
    undP_any B[i] m W.heap.size W' (cell_below hW (by simp)) (cell_below hW (by simp))))
  have HS := hid S
  have HV := hid hv
  have c1 := cell_below HB0.out h1
  have hbb : ¬ b = W.heap.size := by have := lt_of_cell h1; simp at this; omega
  have hbb2 : ¬ W.heap.size = b := fun h => hbb h.symm
  show Calls Tryz.prog 79 #[.agg #[.string m.1, .string m.2], .pointer (some ⟨b, 0, none⟩)] W _
  obtain ⟨va, vc, hv1, _, hvc⟩ := hv
  subst hv1
  obtain ⟨p, q⟩ := m
  simp only at hm
  rcases idxB_kind (fun x => decide (x.1 = p)) B with ⟨e1, h2⟩ | ⟨k, hk, e1, h2, h3⟩
  · have HX := hid (hasV_none (m := (p, q)) h2)
    simp only [e1] at HF
    clear S h2 e1 eg hvc
    go_enter Tryz.func79, Tryz.ntmps79
    go_wp2_with fail
    refine HF.out.mono ?_
    rintro e w1 ⟨rfl, hb⟩
    have HB := hid (HB0.out.trans (hb.mono HB0.out.size))
    clear hb
    go_wp2_with fail
    go_quiet (fail)
    have HBd := hid (below_drawn_of HB.out nq)
    go_wp2_with fail
    go_ret
    exact ⟨ret_bool (by rw [HX.out]; rfl), HBd.out⟩
  · have HX := hid (hasV_some (m := (p, q)) hk h2 h3)
    simp only [e1] at HF
    obtain ⟨bb, o, hva, hcell⟩ := hvc (fun e => by rw [e] at hk; exact absurd hk (Nat.not_lt_zero _))
    subst hva
    have HC := hid (hcell k hk)
    have hz := hs B[k] (List.getElem_mem hk)
    have hk0 : ¬ (k : Int) < 0 := by omega
    have hkI : (k : Int) < (B.length : Int) := by omega
    generalize B[k] = x at *
    obtain ⟨x1, x2⟩ := x
    simp only at hz
    clear S h2 h3 e1 eg hcell hs
    go_enter Tryz.func79, Tryz.ntmps79
    go_wp2_with fail
    refine HF.out.mono ?_
    rintro e w1 ⟨rfl, hb⟩
    have HB := hid (HB0.out.trans (hb.mono HB0.out.size))
    have d1 := cell_below hb c1
    have d2 : w1.cell? ⟨W.heap.size, 0, none⟩ = some (.string p) := cell_below hb (by simp)
    have d3 : w1.cell? ⟨W.heap.size, 1, none⟩ = some (.string q) := cell_below hb (by simp)
    have y0 := cell_below HB.out HC.out.1
    have y1 := cell_below HB.out HC.out.2
    have HL := hid (fun W' (hW : Below w1.heap.size w1 W') => less_any x2 q (A 0) (A 1) ml W' hz hm ((HS.out.below HB.out).below hW).vs)
    clear hb c1
    have HT := hid (fun W' (hW : Below w1.heap.size w1 W') => (show W'.cell? ⟨b, 0, none⟩ = some (.slice (some ⟨bb, o, none⟩) B.length vc) ∧ W'.cell? ⟨W.heap.size, 0, none⟩ = some (.string p) ∧ W'.cell? ⟨W.heap.size, 1, none⟩ = some (.string q) ∧ W'.cell? ⟨bb, o + k * 2, none⟩ = some (.string x1) ∧ W'.cell? ⟨bb, o + k * 2 + 1, none⟩ = some (.string x2) ∧ Hid (Below w1.heap.size w1 W') from ⟨cell_below hW d1, cell_below hW d2, cell_below hW d3, cell_below hW y0, cell_below hW y1, hid hW⟩))
    go_wp2_with fail
    go_region_held (fun W' => W'.cell? ⟨b, 0, none⟩ = some (.slice (some ⟨bb, o, none⟩) B.length vc) ∧ W'.cell? ⟨W.heap.size, 0, none⟩ = some (.string p) ∧ W'.cell? ⟨W.heap.size, 1, none⟩ = some (.string q) ∧ W'.cell? ⟨bb, o + k * 2, none⟩ = some (.string x1) ∧ W'.cell? ⟨bb, o + k * 2 + 1, none⟩ = some (.string x2) ∧ Hid (Below w1.heap.size w1 W')) (first | exact HT.out _ HRa.out | exact HT.out _ (below_drawn _ 1)) (first
      | (go_at_call 16; refine (HL.out _ (below_drawn _ 1)).mono ?_; rintro e w' ⟨rfl, hb⟩; have HRa := hid ((below_drawn w1 1).trans (hb.mono (Nat.le_refl _))); clear hb))
    all_goals
      have HBe := hid (HB.out.trans (HRa.out.mono HB.out.size))
      go_wp2_with fail
      go_ret
      exact ⟨ret_bool (by rw [HX.out]; exact (Bool.not_not _).symm), HBe.out⟩
set_option maxHeartbeats 2000000 in
/-- mvs.Under. -/
theorem und_any (X B : List Bm) (v u : Value) (A : Nat → Addr) (ml : Int) (w : World) (hX : X.length ≤ 1000000) (hB : B.length ≤ 1000000) (hsX : ∀ x, x ∈ X → x.2.size < 999999) (hs : ∀ x, x ∈ B → x.2.size < 999999) (S : Te w A ml) (hv : MsAt w v X) (hu : MsAt w u B) :
    Calls Tryz.prog 33 #[v, u] w fun e w' => e = .returned (.bool (undB X B)) ∧ Below w.heap.size w w' := by
  have eg : ∀ args w, (callFunc 79 args).run Tryz.prog w = .ok (.enter 79 args) w := enters_of Tryz.func79 (by kernel_rfl) rfl
  obtain ⟨va, vn, vc, hv1⟩ := hv.slice
  obtain ⟨ua, un, uc, hu1⟩ := hu.slice
  have HB0 := hid ((Below.refl w.heap.size w).alloc (Nat.le_refl _) (.cells #[u] 52))
  have HF := hid (hasM_any 79 #[.pointer (some ⟨w.heap.size, 0, none⟩)] (fun m => !hasV B m) X v (w.alloc (.cells #[u] 52)) eg hX (hv.below HB0.out) (fun i hi W' hW =>
    undK_any B X[i] w.heap.size u A ml W' hB hs (hsX _ (List.getElem_mem hi)) ((S.below HB0.out).below hW) (cell_below hW (by simp)) ((hu.below HB0.out).below hW)))
  have HX := hid (show (!X.any fun m => !hasV B m) = undB X B by
    unfold undB
    rw [List.any_eq_not_all_not]
    simp)
  generalize (X.any fun m => !hasV B m) = z at *
  subst hv1
  subst hu1
  clear S hv hu eg
  go_enter Tryz.func33, Tryz.ntmps33
  go_wp2_with fail
  refine HF.out.mono ?_
  rintro e w1 ⟨rfl, hb⟩
  have HB := hid (HB0.out.trans (hb.mono HB0.out.size))
  clear hb
  go_wp2_with fail
  go_ret
  exact ⟨ret_bool HX.out, HB.out⟩
end Ve
end Go.Proofs.YtanponneancajaaGreatDoor
