/-
  Modules appended to an own row; the document's IsAhead; what is reached rises.
-/
import Derived.Test.YtoaobngpdaidoaaGreatDoorMl4
import Derived.Laws.OwnMore
import Derived.Test.YtoaobngpdaidoaaGreatDoorMl3
import Derived.Lib.AppendZeros
import Derived.Deep.DeepCutAuto
import Derived.Test.YtoaobngpdaidoaaGreatDoorMl1
import Derived.Deep.SlicePairs
import Derived.Lib.SmallJoins
import Derived.SliceStrings
namespace Go.Proofs.YtoaobngpdaidoaaGreatDoor
open Go.RowKit Go.Maps
namespace Ve

/-- A row of modules, appended to an own one. -/
theorem both_run (X Y : List Bm) (dv sv : Value) (W : World) (B : Nat) (hB : B ≤ W.heap.size) (hX : X.length ≤ 1000) (hY : Y.length ≤ 1000) (ho : W.ownsRow B 46 2 dv X.length (flatM X)) (h : MsAt W sv Y) (he : Em sv Y) :
    ∃ v' W', (Builtin.append_ #[23, 23] 23 #[dv, sv]).run Tryz.prog W = .ok v' W' ∧ W'.ownsRow B 46 2 v' (X ++ Y).length (flatM (X ++ Y)) ∧ W.grownBy W' dv.ownBlock := by
  obtain ⟨i0, hi, hz0, hz1, hz2⟩ := info_parts infoMod
  obtain ⟨a, c, rfl, hc, h2⟩ := h
  have some_case : ∀ a', (∀ j u, (flatM Y)[j]? = some u → W.cell? (a'.add j) = some u) → ∃ v' W', (Builtin.append_ #[23, 23] 23 #[dv, .slice (some a') Y.length c]).run Tryz.prog W = .ok v' W' ∧ W'.ownsRow B 46 2 v' (X ++ Y).length (flatM (X ++ Y)) ∧ W.grownBy W' dv.ownBlock := fun a' hcell => by
    obtain ⟨v', W', h3, h4, h5, _⟩ := run_append_own (P := Tryz.prog) W B 23 23 46 i0 _ 2 32 Tryz.underlying23 hi hz0 hz1 hz2 rfl (by decide) dv X.length (flatM X) ho a' Y.length c (flatM Y) (flatM_len Y) hcell (flat_one Y) (by unfold maxLen; omega) (by omega) hB
    exact ⟨v', W', h3, by rw [List.length_append, flatM_app]; exact h4, h5⟩
  cases Y with
  | nil =>
    rcases he a c rfl rfl with hz | ⟨a', hz⟩
    · refine ⟨dv, W, ?_, by simpa using ho, ⟨rfl, rfl, rfl, Nat.le_refl _, fun _ _ _ => rfl⟩⟩
      show (Builtin.append_ #[23, 23] 23 #[dv, .slice a 0 c]).run Tryz.prog W = _
      rw [hz]
      exact run_append_owned_none (P := Tryz.prog) (w := W) B 23 23 46 i0 2 Tryz.underlying23 hi dv X.length (flatM X) ho
    · have hz' : (Value.slice a ([] : List Bm).length c) = .slice (some a') ([] : List Bm).length c := hz
      rw [hz']
      exact some_case a' (fun j u hj => by simp [flatM] at hj)
  | cons x r =>
    obtain ⟨b, o, rfl, hcell⟩ := h2 (by simp)
    exact some_case ⟨b, o, none⟩ (fun j u hj => by rw [Addr.add_lit]; exact ms_flat hcell j u hj)
set_option maxHeartbeats 1000000 in
/-- pewholderref1.IsAhead. -/
theorem isA_any (a b : Bm) (w : World) (hv : a.2.size < 999999) (hu : b.2.size < 999999) :
    Calls Tryz.prog 103 #[.agg #[.string a.1, .string a.2], .agg #[.string b.1, .string b.2]] w fun e w' => e = .returned (.bool (mAhead a b)) ∧ Below w.heap.size w w' := by
  obtain ⟨p, v⟩ := a
  obtain ⟨q, u⟩ := b
  have HO := hid (show mAhead (p, v) (q, u) = if p.data.toList = q.data.toList then lessB v.data.toList u.data.toList else decide (Lib.compareBytes p.data.toList q.data.toList < 0) from rfl)
  have HB0 := hid (((Below.refl w.heap.size w).alloc (Nat.le_refl _) (.cells #[.string p, .string v] 46)).alloc (by simp) (.cells #[.string q, .string u] 46))
  simp only at hv hu
  by_cases h : p = q
  · subst h
    rw [if_pos rfl] at HO
    have he := str_refl p
    have HL := hid (fun W => isLess_any v u W hv hu)
    go_enter Tryz.func103, Tryz.ntmps103
    go_wp2_with fail
    refine (HL.out _).mono ?_
    rintro e w1 ⟨rfl, hb⟩
    have HB := hid (HB0.out.trans (hb.mono HB0.out.size))
    clear hb
    go_wp2_with fail
    go_ret
    exact ⟨ret_bool HO.out.symm, HB.out⟩
  · rw [if_neg (fun e => h (str_ext e))] at HO
    have he := str_ne h
    have HC := hid (show Op.bytesLess p.toList q.toList = decide (Lib.compareBytes p.data.toList q.data.toList < 0) by rw [cb_less, ByteArray.toList_eq, ByteArray.toList_eq])
    clear h
    go_enter Tryz.func103, Tryz.ntmps103
    go_wp2_with fail
    go_ret
    exact ⟨ret_bool (by rw [HO.out, ← HC.out]), HB0.out⟩
theorem univ_eq {w : World} {v : Value} {Q : List Raw} {L : List Ent} (I : Ixs w v Q L) : Q.map (fun r => r.1) = univ L := by
  apply List.ext_getElem
  · simp [univ, I.ln]
  · intro j h1 h2
    have hq : j < Q.length := by simpa using h1
    have hl : j < L.length := by rw [← I.ln]; exact hq
    simp only [univ, List.getElem_map]
    exact (I.ok j hq hl).m
theorem univ_rises {Q : List Raw} {L : List Ent} (h : (chk Q L).1 = 0) : (univ L).Pairwise fun a b => mAhead a b = true := by
  rw [List.pairwise_iff_getElem]
  intro i j hi hj hij
  have hi2 : i < L.length := by simpa [univ] using hi
  have hj2 : j < L.length := by simpa [univ] using hj
  obtain ⟨d, rfl⟩ : ∃ d, j = i + d + 1 := ⟨j - i - 1, by omega⟩
  have := ahead_all (chk_each0 h).2 d i hj2
  simpa [univ] using this
theorem goM_rises {w : World} {v : Value} {Q : List Raw} {L : List Ent} {T : By} (I : Ixs w v Q L) (h : (chk Q L).1 = 0) : (goM T Q).Pairwise fun a b => mAhead a b = true := by
  have h1 := univ_rises h
  rw [← univ_eq I] at h1
  have h2 : (goM T Q).Sublist (Q.map fun r => r.1) := by
    unfold goM goQ
    exact List.Sublist.map _ List.filter_sublist
  exact h1.sublist h2
/-- What two lists of roots reach together is what each of them reaches. -/
theorem came_app {req : Bm → List Bm} {U a b : List Bm} {Ta Tb Tc : By} (ha : Came req U a Ta) (hb : Came req U b Tb) (hc : Came req U (a ++ b) Tc) (m : Bm) : cameB Tc m = (cameB Ta m || cameB Tb m) := by
  rw [Bool.eq_iff_iff, Bool.or_eq_true, hc.cameB, ha.cameB, hb.cameB]
  exact Rch.app
theorem goM_has {w : World} {v : Value} {Q : List Raw} {L : List Ent} {T : By} (I : Ixs w v Q L) {m : Bm} (hm : m ∈ univ L) : hasM (goM T Q) m = cameB T m := by
  rw [Bool.eq_iff_iff, hasM_iff]
  constructor
  · intro h
    obtain ⟨r, hr, rfl⟩ := List.mem_map.1 h
    exact (List.mem_filter.1 hr).2
  · intro h
    obtain ⟨e, he, rfl⟩ := List.mem_map.1 hm
    obtain ⟨j, hj, rfl⟩ := List.getElem_of_mem he
    have hjq : j < Q.length := by rw [I.ln]; exact hj
    have hm1 := (I.ok j hjq hj).m
    refine List.mem_map.2 ⟨Q[j], List.mem_filter.2 ⟨List.getElem_mem hjq, ?_⟩, hm1⟩
    show cameB T Q[j].1 = true
    rw [hm1]
    exact h
end Ve
end Go.Proofs.YtoaobngpdaidoaaGreatDoor

/-
  slices.Grow of nothing, and slices.Concat of two rows of modules.
-/
namespace Go.Proofs.YtoaobngpdaidoaaGreatDoor
open Go.RowKit
namespace Ve

theorem zero_len (n : Nat) : (Builtin.zeroCells (Value.agg #[.string ⟨#[]⟩, .string ⟨#[]⟩]).cells n).size = n * 2 := by
  simp [Builtin.zeroCells, Value.cells]
set_option maxHeartbeats 2000000 in
theorem grow_zero (w : World) : Calls Tryz.prog 82 #[.slice none 0 0, .int .i64 0] w fun e w' => e = .returned (.slice none 0 0) ∧ Below w.heap.size w w' := by
  go_enter Tryz.func82, Tryz.ntmps82
  go_wp2_with fail
  go_ret
  exact ⟨rfl, Below.refl _ _⟩
set_option maxRecDepth 100000 in
set_option maxHeartbeats 4000000 in
theorem grow_some (n : Nat) (w : World) (h0 : 0 < n) (hn : n ≤ 1000000) : Calls Tryz.prog 82 #[.slice none 0 0, .int .i64 (n : Int)] w fun e w' => ∃ v, e = .returned v ∧ w'.ownsRow w.heap.size 46 2 v 0 [] ∧ Below w.heap.size w w' := by
  obtain ⟨i0, hi, hz0, hz1, hz2⟩ := info_parts infoMod
  have HA := hid (fun (W : World) ty => Lib.run_append_nil_zeros (P := Tryz.prog) W 23 3 ty 46 i0 (.agg #[.string ⟨#[]⟩, .string ⟨#[]⟩]) .i64 .i64 Tryz.underlying23 Tryz.underlying3 hi hz0 n h0 (by rw [hz1]; omega) (by omega) (by rw [hz2]; omega))
  have hn0 : ¬ (n : Int) < 0 := by omega
  have hn1 : (0 : Int) < (n : Int) := by omega
  go_enter Tryz.func82, Tryz.ntmps82
  go_wp2_with (at_builtin; refine Lib.wpList_append_run _ rfl _ _ _ _ rfl _ _ rfl rfl _ _ (HA.out _ _) ?_)
  go_ret
  refine ⟨_, rfl, ⟨by simp, Or.inr ⟨w.heap.size, grownCap w n 0 46, _, rfl, Nat.le_refl _, heap_new w _, Nat.zero_le _, grownCap_le_maxLen w n 0 46 (by unfold maxLen; omega), ?_, by simp⟩⟩, below_drawn_of ((Below.refl w.heap.size w).alloc (Nat.le_refl _) _) 1⟩
  have h1 := zero_len n
  have h2 := zero_len (grownCap w n 0 46 - n)
  have h3 := grownCap_ge w n 0 46
  simp only [Value.cells] at h1 h2
  rw [Array.size_append, h1, h2]
  omega
set_option maxRecDepth 100000 in
set_option maxHeartbeats 8000000 in
/-- slices.Concat of two. -/
theorem cat_any (A B : List Bm) (va vb : Value) (lb : Nat) (w : World) (c0 : w.cell? ⟨lb, 0, none⟩ = some va) (c1 : w.cell? ⟨lb, 1, none⟩ = some vb) (hA : MsAt w va A) (hB : MsAt w vb B) (eA : Em va A) (eB : Em vb B) (lA : A.length ≤ 500) (lB : B.length ≤ 500) :
    Calls Tryz.prog 53 #[.slice (some ⟨lb, 0, none⟩) 2 2] w fun e w' => ∃ v, e = .returned v ∧ w'.ownsRow w.heap.size 46 2 v (A ++ B).length (flatM (A ++ B)) ∧ Below w.heap.size w w' := by
  obtain ⟨aa, ac, ea⟩ : ∃ a c, va = .slice a A.length c := by obtain ⟨a, c, e, _⟩ := hA; exact ⟨a, c, e⟩
  obtain ⟨ba, bc, eb⟩ : ∃ a c, vb = .slice a B.length c := by obtain ⟨a, c, e, _⟩ := hB; exact ⟨a, c, e⟩
  subst ea eb
  have HA := hid hA
  have HB := hid hB
  have HEA := hid eA
  have HEB := hid eB
  clear hA hB eA eB
  go_enter Tryz.func53, Tryz.ntmps53
  go_wp2_with fail
  go_loopw [3, 11] (fun s i wr => Hid (wr = w) ∧ ((s = .int .i64 0 ∧ i = .int .i64 0) ∨ (s = .int .i64 (A.length : Int) ∧ i = .int .i64 1) ∨ (s = .int .i64 ((A.length + B.length : Nat) : Int) ∧ i = .int .i64 2))) (fun _ i _ => 2 - (intOf i).toNat)
  case atStart => exact ⟨hid rfl, Or.inl ⟨rfl, rfl⟩⟩
  case round =>
    obtain ⟨HWR, ⟨rfl, rfl⟩ | ⟨rfl, rfl⟩ | ⟨rfl, rfl⟩⟩ := hrel
    all_goals obtain rfl := HWR.out
    all_goals clear HWR
    · have q1 : ¬ (A.length : Int) < 0 := by omega
      go_wp2_with fail
      go_roundw
      case rel => exact ⟨hid trivial, Or.inr (Or.inl ⟨rfl, rfl⟩)⟩
      case measure => decide
    · have q1 : ¬ (A.length : Int) + (B.length : Int) < 0 := by omega
      go_wp2_with fail
      go_roundw
      case rel => exact ⟨hid trivial, Or.inr (Or.inr ⟨by go_num, rfl⟩)⟩
      case measure => decide
    · have HG := hid (show Calls Tryz.prog 82 #[.slice none 0 0, .int .i64 ((A.length + B.length : Nat) : Int)] wr fun e w' => ∃ v, e = .returned v ∧ w'.ownsRow wr.heap.size 46 2 v 0 [] ∧ Below wr.heap.size wr w' by
        by_cases h0 : A.length + B.length = 0
        · rw [h0]
          exact (grow_zero wr).mono fun _ _ h => ⟨_, h.1, World.ownsRow_nil _ _ _ _, h.2⟩
        · exact grow_some (A.length + B.length) wr (by omega) (by omega))
      go_wp2_with fail
      refine HG.out.mono ?_
      rintro e w1 ⟨v0, rfl, hown, hb⟩
      have HO := hid hown
      have HBL := hid hb
      obtain ⟨oa, on, oc, hv0⟩ := own_sl hown
      subst hv0
      clear hown hb HG
      go_wp2_with fail
      go_loopw [6, 27] (fun v i W => ∃ (k : Nat) (X : List Bm), i = .int .i64 (k : Int) ∧ ((k = 0 ∧ X = []) ∨ (k = 1 ∧ X = A) ∨ (k = 2 ∧ X = A ++ B)) ∧ Hid (W.ownsRow wr.heap.size 46 2 v X.length (flatM X)) ∧ Hid (Below wr.heap.size wr W)) (fun _ i _ => 2 - (intOf i).toNat)
      case atStart => exact ⟨0, [], rfl, Or.inl ⟨rfl, rfl⟩, HO, HBL⟩
      case round =>
        obtain ⟨k, X, rfl, hk, HOW, HBW⟩ := hrel
        have HSZ := hid HBW.out.size
        rcases hk with ⟨rfl, rfl⟩ | ⟨rfl, rfl⟩ | ⟨rfl, rfl⟩
        · have d0 := cell_below HBW.out c0
          obtain ⟨v2, W2, hrun, ho2, hg2⟩ := both_run [] A _ _ wr _ HSZ.out (by simp) (by omega) HOW.out (HA.out.below HBW.out) HEA.out
          have HRUN := hid hrun
          have HO2 := hid (show W2.ownsRow _ 46 2 v2 A.length (flatM A) from ho2)
          have HB2 := hid (HBW.out.grown hg2 HBW.out.size (fun k hk => (HOW.out.lt k hk).1))
          clear hrun ho2 hg2
          go_wp2_with (at_builtin; refine Lib.wpList_append_run _ rfl _ _ _ _ rfl _ _ rfl rfl _ _ HRUN.out ?_)
          go_roundw
          case rel => exact ⟨1, A, rfl, Or.inr (Or.inl ⟨rfl, rfl⟩), HO2, HB2⟩
          case measure => decide
        · have d1 := cell_below HBW.out c1
          obtain ⟨v2, W2, hrun, ho2, hg2⟩ := both_run X B _ _ wr _ HSZ.out (by omega) (by omega) HOW.out (HB.out.below HBW.out) HEB.out
          have HRUN := hid hrun
          have HO2 := hid ho2
          have HB2 := hid (HBW.out.grown hg2 HBW.out.size (fun k hk => (HOW.out.lt k hk).1))
          clear hrun ho2 hg2
          go_wp2_with (at_builtin; refine Lib.wpList_append_run _ rfl _ _ _ _ rfl _ _ rfl rfl _ _ HRUN.out ?_)
          go_roundw
          case rel => exact ⟨2, X ++ B, rfl, Or.inr (Or.inr ⟨rfl, rfl⟩), HO2, HB2⟩
          case measure => decide
        · go_wp2_with fail
          go_ret
          exact ⟨_, rfl, HOW.out, HBW.out⟩
end Ve
end Go.Proofs.YtoaobngpdaidoaaGreatDoor

/-
  mvs.Join: of each path of both the greater version.
-/
namespace Go.Proofs.YtoaobngpdaidoaaGreatDoor
open Go.RowKit
namespace Ve

theorem insM_nil (a : Option Addr) (c : Nat) (W : World) : Calls Tryz.prog 149 #[.slice a 0 c, .int .i64 0, .int .i64 0, .func (.func 72) #[] #[]] W fun e w' => e = .returned (.tuple #[]) ∧ w' = W := by
  go_enter Tryz.func149, Tryz.ntmps149
  go_wp2_with fail
  go_loop [8] (fun i => i = .int .i64 1) (fun _ => 0)
  case atStart => rfl
  case round =>
    obtain rfl := hrel
    go_wp2_with fail
    go_end0
    exact ⟨rfl, rfl⟩
set_option maxRecDepth 100000 in
set_option maxHeartbeats 2000000 in
theorem pdqM_nil (a : Option Addr) (c : Nat) (n : Int) (W : World) : Calls Tryz.prog 118 #[.slice a 0 c, .int .i64 0, .int .i64 0, .int .i64 n, .func (.func 72) #[] #[]] W fun e w' => e = .returned (.tuple #[]) ∧ w' = W := by
  have HI := hid (insM_nil a c W)
  go_enter Tryz.func118, Tryz.ntmps118
  go_wp2_with fail
  go_loop [1, 2, 3, 10, 11] (fun a b _ _ _ => a = .int .i64 0 ∧ b = .int .i64 0) (fun _ _ _ _ _ => 0)
  case atStart => exact ⟨rfl, rfl⟩
  case round =>
    obtain ⟨rfl, rfl⟩ := hrel
    go_wp2_with fail
    refine HI.out.mono ?_
    rintro e w' ⟨rfl, rfl⟩
    go_wp2_with fail
    first | (go_end0; exact ⟨rfl, rfl⟩) | (go_ret; exact ⟨rfl, rfl⟩) | (refine bodyPost_ret (v := .tuple #[]) (by simp [results, Tryz.results118]) rfl ⟨rfl, rfl⟩)
set_option maxHeartbeats 1000000 in
theorem sortM_nil (a : Option Addr) (c : Nat) (W : World) : Calls Tryz.prog 71 #[.slice a 0 c, .func (.func 72) #[] #[]] W fun e w' => e = .returned (.tuple #[]) ∧ Below W.heap.size W w' := by
  have HLN := hid (show Calls Tryz.prog 119 #[.int .u64 0] W fun e w' => e = .returned (.int .i64 (Lib.bitLen 0 : Nat)) ∧ w' = W from by
    have h := Any.bits_Len (SlLaysF0.n15.bits (P := Tryz.prog) (ρ := Tryz.sortMods_ren) { Tryz.sortMods with }) 0 W (by omega) (by omega)
    exact h)
  have HP := hid (fun n => pdqM_nil a c n W)
  go_enter Tryz.func71, Tryz.ntmps71
  go_wp2_with fail
  refine HLN.out.mono ?_
  rintro e w' ⟨rfl, rfl⟩
  go_wp2_with fail
  refine (HP.out _).mono ?_
  rintro e w' ⟨rfl, rfl⟩
  go_wp2_with fail
  go_end0
  exact ⟨rfl, Below.refl _ _⟩
set_option maxHeartbeats 1000000 in
theorem delM_nil (a : Option Addr) (c : Nat) (W : World) : Calls Tryz.prog 75 #[.slice a 0 c, .func (.func 76) #[] #[]] W fun e w' => e = .returned (.slice a 0 c) ∧ Below W.heap.size W w' := by
  have HI := hid (idxM_none 76 #[] a c W)
  go_enter Tryz.func75, Tryz.ntmps75
  go_wp2_with fail
  refine HI.out.mono ?_
  rintro e w1 ⟨rfl, hb⟩
  have HB := hid hb
  clear hb
  go_wp2_with fail
  go_ret
  exact ⟨rfl, HB.out⟩
/-- A row of modules that a call owns: nothing, or in a block of its own. -/
def Mr (w0 W : World) (v : Value) (D : List Bm) : Prop := Below w0.heap.size w0 W ∧ ∃ a cap, v = .slice a D.length cap ∧ D.length ≤ cap ∧ ((D = [] ∧ (a = none → cap = 0)) ∨ ∃ g, a = some ⟨g, 0, none⟩ ∧ Mw w0 W g D)
theorem Mr.ms {w0 W : World} {v : Value} {D : List Bm} (h : Mr w0 W v D) : MsAt W v D := by
  obtain ⟨_, a, cap, rfl, hc, ⟨rfl, _⟩ | ⟨g, rfl, h⟩⟩ := h
  · exact ⟨a, cap, rfl, hc, fun h => absurd rfl h⟩
  · exact h.ms hc
theorem Mr.em {w0 W : World} {v : Value} {D : List Bm} (h : Mr w0 W v D) : Em v D := by
  obtain ⟨_, a, cap, rfl, hc, h⟩ := h
  intro a' c' e hD
  injection e with e1 e2 e3
  subst e1 e3
  cases a with
  | some a' => exact Or.inr ⟨a', rfl⟩
  | none =>
    rcases h with ⟨_, h0⟩ | ⟨g, h, _⟩
    · rw [h0 rfl]; exact Or.inl rfl
    · cases h
theorem mr_own {w0 W : World} {v : Value} {L : List Bm} (h : W.ownsRow w0.heap.size 46 2 v L.length (flatM L)) (hb : Below w0.heap.size w0 W) : Mr w0 W v L := by
  by_cases hL : L = []
  · subst hL
    obtain ⟨_, ⟨rfl, _⟩ | ⟨g, cap, cur, rfl, _, _, _, _⟩⟩ := h
    · exact ⟨hb, none, 0, rfl, Nat.le_refl _, Or.inl ⟨rfl, fun _ => rfl⟩⟩
    · exact ⟨hb, _, cap, rfl, Nat.zero_le _, Or.inl ⟨rfl, fun h => by cases h⟩⟩
  · obtain ⟨g, cap, rfl, h1, _, h3⟩ := own_mw h hb hL
    exact ⟨hb, _, cap, rfl, h1, Or.inr ⟨g, rfl, h3⟩⟩
theorem Mr.base {w w0 W : World} {v : Value} {D : List Bm} (h : Mr w0 W v D) (hb : Below w.heap.size w w0) : Mr w W v D := by
  obtain ⟨h1, a, cap, rfl, hc, hk⟩ := h
  refine ⟨hb.trans (h1.mono hb.size), a, cap, rfl, hc, ?_⟩
  rcases hk with hk | ⟨g, rfl, hM⟩
  · exact Or.inl hk
  · exact Or.inr ⟨g, rfl, hb.trans (h1.mono hb.size), Nat.le_trans hb.size hM.lo, hM.hi, hM.fz, hM.c0, hM.c1⟩
theorem Mr.sl {w0 W : World} {v : Value} {D : List Bm} (h : Mr w0 W v D) : ∃ a c, v = .slice a D.length c := by
  obtain ⟨_, a, cap, rfl, _⟩ := h
  exact ⟨a, cap, rfl⟩
set_option maxHeartbeats 2000000 in
/-- mvs.right of two. -/
theorem right_any (X Y : List Bm) (va vb : Value) (lb : Nat) (A : Nat → Addr) (ml : Int) (w : World) (c0 : w.cell? ⟨lb, 0, none⟩ = some va) (c1 : w.cell? ⟨lb, 1, none⟩ = some vb) (hA : MsAt w va X) (hB : MsAt w vb Y) (eA : Em va X) (eB : Em vb Y) (lA : X.length ≤ 500) (lB : Y.length ≤ 500)
    (hz : ∀ r, r ∈ X ++ Y → r.1.size < 999999 ∧ r.2.size < 999999) (S : Te w A ml) :
    Calls Tryz.prog 50 #[.slice (some ⟨lb, 0, none⟩) 2 2] w fun e w' => ∃ v, e = .returned v ∧ Mr w w' v (rightL (X ++ Y)) := by
  have HC := hid (cat_any X Y va vb lb w c0 c1 hA hB eA eB lA lB)
  have HS := hid S
  have HZ := hid hz
  have hl : (X ++ Y).length ≤ 1000 := by simp; omega
  generalize X ++ Y = D at *
  clear hA hB eA eB S hz c0 c1
  go_enter Tryz.func50, Tryz.ntmps50
  go_wp2_with fail
  refine HC.out.mono ?_
  rintro e w1 ⟨v, rfl, hown, hb⟩
  obtain ⟨_, a, cap, rfl, hcap, hk⟩ := mr_own hown hb
  have HBL := hid hb
  clear hown hb
  rcases hk with ⟨rfl, h0⟩ | ⟨g, rfl, hM⟩
  · have HD := hid (delM_nil a cap w1)
    go_wp2_with fail
    refine HD.out.mono ?_
    rintro e w2 ⟨rfl, hb⟩
    have HB2 := hid (HBL.out.trans (hb.mono HBL.out.size))
    clear hb
    go_wp2_with fail
    go_ret
    exact ⟨_, rfl, HB2.out, a, cap, rfl, Nat.zero_le _, Or.inl ⟨rfl, h0⟩⟩
  · have HD := hid (del_mw w w1 g cap D A ml HS.out (by omega) hcap HZ.out hM)
    have HRL := hid (show (rightL D).length ≤ cap from Nat.le_trans (List.length_filter_le _ _) hcap)
    clear hM
    go_wp2_with fail
    refine HD.out.mono ?_
    rintro e w2 ⟨rfl, hm⟩
    have HM2 := hid hm
    clear hm
    go_wp2_with fail
    go_ret
    exact ⟨_, rfl, HM2.out.bl, _, cap, rfl, HRL.out, Or.inr ⟨g, rfl, HM2.out⟩⟩
theorem Jn.nil : Jn [] [] := ⟨List.Pairwise.nil, fun _ h => absurd h (by simp), fun _ h => absurd h (by simp)⟩
theorem Jn.perm {D D' E : List Bm} (h : Jn D' E) (hp : D'.Perm D) : Jn D E :=
  ⟨h.ri, fun e he => ⟨hp.mem_iff.1 (h.sub e he).1, (h.sub e he).2⟩, fun x hx => h.top x (hp.mem_iff.2 hx)⟩
theorem Jn.right {D E : List Bm} (h : Jn (rightL D) E) : Jn D E :=
  ⟨h.ri, fun e he => ⟨(rightL_mem.1 (h.sub e he).1).1, (h.sub e he).2⟩, fun x hx hr => h.top x (rightL_mem.2 ⟨hx, hr⟩) hr⟩
set_option maxHeartbeats 2000000 in
/-- mvs.greatest of a row of its own. -/
theorem great_any (D : List Bm) (v : Value) (A : Nat → Addr) (ml : Int) (w0 w : World) (hM : Mr w0 w v D) (h12 : D.length ≤ 1000000) (hr : ∀ r, r ∈ D → Rt r) (S : Te w0 A ml) :
    Calls Tryz.prog 49 #[v] w fun e w' => ∃ u E, e = .returned u ∧ E.length ≤ D.length ∧ Jn D E ∧ Mr w0 w' u E := by
  obtain ⟨hb, a, cap, rfl, hcap, hk⟩ := hM
  by_cases hD : D = []
  · subst hD
    have HS := hid (sortM_nil a cap w)
    have HC := hid (fun W => compactM_nil a cap W)
    have h0 : a = none → cap = 0 := by
      rcases hk with ⟨_, h0⟩ | ⟨g, rfl, _⟩
      · exact h0
      · intro h; cases h
    have HBL := hid hb
    clear hk hb S
    go_enter Tryz.func49, Tryz.ntmps49
    go_wp2_with fail
    refine HS.out.mono ?_
    rintro e w1 ⟨rfl, hb⟩
    have HB1 := hid (HBL.out.trans (hb.mono HBL.out.size))
    clear hb
    go_wp2_with fail
    refine (HC.out _).mono ?_
    rintro e w2 ⟨rfl, hb⟩
    have HB2 := hid (HB1.out.trans (hb.mono HB1.out.size))
    clear hb
    go_wp2_with fail
    go_ret
    exact ⟨_, [], rfl, Nat.le_refl _, Jn.nil, HB2.out, a, cap, rfl, Nat.zero_le _, Or.inl ⟨rfl, h0⟩⟩
  · obtain ⟨g, rfl, hM⟩ : ∃ g, a = some ⟨g, 0, none⟩ ∧ Mw w0 w g D := by
      rcases hk with ⟨h, _⟩ | h
      · exact absurd h hD
      · exact h
    have HS := hid (sort_mw w0 w g cap D hD h12 A ml S hr hM)
    have HRT := hid hr
    have HD := hid hD
    clear hk hb S hM hr hD
    go_enter Tryz.func49, Tryz.ntmps49
    go_wp2_with fail
    refine HS.out.mono ?_
    rintro e w1 ⟨rfl, D1, hp, hs, hM1⟩
    have hl : D1.length = D.length := hp.length_eq
    have HC := hid (compact_mw w0 w1 g cap D1 (fun e => HD.out (by rw [e] at hl; exact List.length_eq_zero_iff.1 hl.symm)) (by omega) (by omega) (fun r h => HRT.out r (hp.mem_iff.1 h)) hs hM1)
    have HP := hid hp
    rw [hl] at HC
    clear hp hs hM1 HS
    go_wp2_with fail
    refine HC.out.mono ?_
    rintro e w2 ⟨E, rfl, hEl, hj, hM2⟩
    have HJ := hid (hj.perm HP.out)
    have HM2 := hid hM2
    clear hj hM2
    go_wp2_with fail
    go_ret
    exact ⟨_, E, rfl, hEl, HJ.out, HM2.out.bl, _, cap, rfl, by omega, Or.inr ⟨g, rfl, HM2.out⟩⟩
set_option maxHeartbeats 2000000 in
/-- mvs.Join. -/
theorem join_mods (X Y : List Bm) (va vb : Value) (A : Nat → Addr) (ml : Int) (w : World) (hA : MsAt w va X) (hB : MsAt w vb Y) (eA : Em va X) (eB : Em vb Y) (lA : X.length ≤ 500) (lB : Y.length ≤ 500)
    (hz : ∀ r, r ∈ X ++ Y → r.1.size < 999999 ∧ r.2.size < 999999) (S : Te w A ml) :
    Calls Tryz.prog 20 #[va, vb] w fun e w' => ∃ v E, e = .returned v ∧ E.length ≤ (X ++ Y).length ∧ Jn (X ++ Y) E ∧ Mr w w' v E := by
  obtain ⟨aa, an, ac, ea⟩ := hA.slice
  obtain ⟨ba, bn, bc, eb⟩ := hB.slice
  subst ea eb
  have HB0 := hid ((Below.refl w.heap.size w).alloc (Nat.le_refl _) (.cells #[.slice aa an ac, .slice ba bn bc] 23))
  have HR := hid (right_any X Y _ _ w.heap.size A ml (w.alloc (.cells #[.slice aa an ac, .slice ba bn bc] 23)) (by simp) (by simp) (hA.below HB0.out) (hB.below HB0.out) eA eB lA lB hz (S.below HB0.out))
  have HS := hid S
  have HRT := hid (show ∀ r, r ∈ rightL (X ++ Y) → Rt r from fun r h => ⟨(rightL_mem.1 h).2, (hz r (rightL_mem.1 h).1).1, (hz r (rightL_mem.1 h).1).2⟩)
  have hl : (X ++ Y).length ≤ 1000 := by simp; omega
  have HRL := hid (show (rightL (X ++ Y)).length ≤ (X ++ Y).length from List.length_filter_le _ _)
  generalize X ++ Y = D at *
  clear hA hB eA eB S hz
  go_enter Tryz.func20, Tryz.ntmps20
  go_wp2_with fail
  refine HR.out.mono ?_
  rintro e w1 ⟨v, rfl, hm⟩
  have HG := hid (great_any (rightL D) v A ml _ w1 hm (by have := HRL.out; omega) HRT.out (HS.out.below HB0.out))
  obtain ⟨va, vc, hv⟩ := hm.sl
  subst hv
  clear hm HR
  go_wp2_with fail
  refine HG.out.mono ?_
  rintro e w2 ⟨u, E, rfl, hl2, hj, hM⟩
  have HJ := hid hj.right
  have HM := hid (hM.base HB0.out)
  have HEL := hid (Nat.le_trans hl2 HRL.out)
  obtain ⟨ua, uc, hu⟩ := hM.sl
  subst hu
  clear hj hM hl2
  go_wp2_with fail
  go_ret
  exact ⟨_, E, rfl, HEL.out, HJ.out, HM.out⟩
end Ve
end Go.Proofs.YtoaobngpdaidoaaGreatDoor

/-
  What mvs.Build answers; the closed fact of the statements (built).
-/
namespace Go.Proofs.YtoaobngpdaidoaaGreatDoor
open Go.RowKit Go.Maps
namespace Ve

theorem goM_sub {w : World} {v : Value} {Q : List Raw} {L : List Ent} (I : Ixs w v Q L) {T : By} {m : Bm} (h : m ∈ goM T Q) : m ∈ univ L := by
  rw [← univ_eq I]
  unfold goM goQ at h
  obtain ⟨r, hr, e⟩ := List.mem_map.1 h
  exact List.mem_map.2 ⟨r, (List.mem_filter.1 hr).1, e⟩
theorem univ_szJ {L : List Ent} (sh : ∀ e, e ∈ L → ShE e) {m : Bm} (h : m ∈ univ L) : m.1.size < 999999 ∧ m.2.size < 999999 := by
  obtain ⟨e, he, rfl⟩ := List.mem_map.1 h
  exact ⟨(sh e he).p, (sh e he).v⟩
theorem goM_lenJ {w : World} {v : Value} {Q : List Raw} {L : List Ent} (I : Ixs w v Q L) (T : By) : (goM T Q).length ≤ L.length := by
  unfold goM goQ
  rw [List.length_map, ← I.ln]
  exact List.length_filter_le _ _
theorem em_none : Em (.slice none 0 0) [] := fun a c e _ => by
  injection e with e1 e2 e3
  subst e1 e3
  exact Or.inl rfl
theorem ms_none (w : World) : MsAt w (.slice none 0 0) [] := ⟨none, 0, rfl, Nat.le_refl _, fun h => absurd rfl h⟩
set_option maxRecDepth 100000 in
set_option maxHeartbeats 2000000 in
theorem build_bad (Q : List Raw) (L : List Ent) (roots : List Bm) (v rv : Value) (A : Nat → Addr) (m : Int) (w : World) (hn : L.length ≤ 1000) (hrn : roots.length ≤ 1000000) (sh : ∀ e, e ∈ L → ShE e) (S : Te w A m) (I : Ixs w v Q L) (hr : MsAt w rv roots) (h0 : (chkG Q L roots).1 ≠ 0) :
    Calls Tryz.prog 11 #[v, rv] w fun e w' => ∃ T a, e = .returned (.tuple #[.slice none 0 0, .iface T (.pointer (some a))]) ∧ ErrAt w' A (.iface T (.pointer (some a))) (chkG Q L roots).1 (chkG Q L roots).2 ∧ Below w.heap.size w w' := by
  have HCK := hid (reach_bad Q L roots v rv A m w hn hrn sh S I hr h0)
  obtain ⟨a, c, hv, -⟩ := id I.es
  subst hv
  obtain ⟨ra, rc, hrv, -⟩ := id hr
  subst hrv
  clear S I hr sh h0
  go_enter Tryz.func11, Tryz.ntmps11
  go_wp2_with fail
  refine HCK.out.mono ?_
  rintro e w1 ⟨T, xa, rfl, he, hb⟩
  have HB := hid hb
  have HE := hid he
  clear hb he HCK
  go_wp2_with fail
  go_ret2
  exact ⟨_, _, rfl, HE.out, HB.out⟩
/-- What is built: of what is reached, of each path the greatest. -/
structure Bt (Q : List Raw) (L : List Ent) (roots E : List Bm) : Prop where
  c : ∃ T, Came (reqQ Q L) (univ L) roots T ∧ Jn (goM T Q) E ∧ E.length ≤ (goM T Q).length
set_option maxRecDepth 100000 in
set_option maxHeartbeats 2000000 in
theorem build_good (Q : List Raw) (L : List Ent) (roots : List Bm) (v rv : Value) (A : Nat → Addr) (m : Int) (w : World) (hn : L.length ≤ 1000) (hrn : roots.length ≤ 1000000) (sh : ∀ e, e ∈ L → ShE e) (S : Te w A m) (I : Ixs w v Q L) (hr : MsAt w rv roots) (h0 : (chkG Q L roots).1 = 0) :
    Calls Tryz.prog 11 #[v, rv] w fun e w' => ∃ u E, e = .returned (.tuple #[u, .nilIface]) ∧ Bt Q L roots E ∧ Mr w w' u E := by
  have HRE := hid (reach_good Q L roots v rv A m w hn hrn sh S I hr h0)
  have hl : L.length ≤ 100 := by
    by_cases hc : (chk Q L).1 = 0
    · exact (chk_each0 hc).1
    · rw [chkG_bad hc] at h0; exact absurd h0 hc
  have HS := hid S
  have HI := hid I
  have HSH := hid sh
  obtain ⟨a, c, hv, -⟩ := id I.es
  subst hv
  obtain ⟨ra, rc, hrv, -⟩ := id hr
  subst hrv
  clear S I hr sh h0
  go_enter Tryz.func11, Tryz.ntmps11
  go_wp2_with fail
  refine HRE.out.mono ?_
  rintro e w1 ⟨u, rfl, T, hcm, hown, hb⟩
  have HCM := hid hcm
  have HB := hid hb
  have hgl := goM_lenJ HI.out T
  have HM := hid (mr_own hown hb)
  have HJ := hid (join_mods (goM T Q) [] u (.slice none 0 0) A m w1 HM.out.ms (ms_none w1) HM.out.em em_none (by omega) (by simp) (fun r hr => univ_szJ HSH.out (goM_sub HI.out (by simpa using hr))) (HS.out.below hb))
  rw [List.append_nil] at HJ
  obtain ⟨ua, uc, hu⟩ := HM.out.sl
  subst hu
  clear hcm hown hb HRE HM
  go_wp2_with fail
  refine HJ.out.mono ?_
  rintro e w2 ⟨x, E, rfl, hel, hj, hm⟩
  have HMX := hid (hm.base HB.out)
  have HBT := hid (show Bt Q L roots E from ⟨T, HCM.out, hj, hel⟩)
  obtain ⟨xa, xc, hx⟩ := hm.sl
  subst hx
  clear hel hj hm HJ
  go_wp2_with fail
  go_ret2
  exact ⟨_, E, rfl, HBT.out, HMX.out⟩
theorem sm_chkG2 (g : Nat) : (chkG (smQ g) smL [ma0, ma1]).1 = 0 := by
  rw [chkG_ok (by rw [sm_chk])]
  show codeE (nonE (smQ g) [ma0, ma1]) 2 = 0
  kernel_rfl
theorem sm_go2 {g : Nat} {T : By} (h : Came (reqQ (smQ g) smL) (univ smL) [ma0, ma1] T) : goM T (smQ g) = [ma0, ma1, mb0] := by
  have c0 : cameB T ma0 = true := (h.cameB _).2 (.root (by simp))
  have c1 : cameB T ma1 = true := (h.cameB _).2 (.root (by simp))
  have cb : cameB T mb0 = true := (h.cameB _).2 (.step (.root (show ma1 ∈ [ma0, ma1] by simp)) (by rw [sm_r1]; simp))
  unfold goM goQ smQ
  simp [c0, c1, cb]
theorem sm_jn : Jn [ma0, ma1, mb0] [ma1, mb0] := by
  have e0 : decide (ordV (vb ma0) (vb ma1) ≤ 0) = true := by kernel_rfl
  have e1 : decide (ordV (vb ma1) (vb ma1) ≤ 0) = true := by kernel_rfl
  have e2 : decide (ordV (vb mb0) (vb mb0) ≤ 0) = true := by kernel_rfl
  have m1 : mErr ma1 = 0 := by kernel_rfl
  have m2 : mErr mb0 = 0 := by kernel_rfl
  have l1 : lt ma1.1 mb0.1 = true := by kernel_rfl
  refine ⟨?_, fun e he => ?_, fun x hx _ => ?_⟩
  · refine List.pairwise_cons.2 ⟨fun b hb => ?_, List.pairwise_singleton _ _⟩
    rw [List.mem_singleton.1 hb]; exact l1
  · rcases List.mem_cons.1 he with rfl | he
    · exact ⟨by simp, m1⟩
    · rw [List.mem_singleton.1 he]; exact ⟨by simp, m2⟩
  · rcases List.mem_cons.1 hx with rfl | hx
    · exact ⟨ma1, by simp, rfl, of_decide_eq_true e0⟩
    · rcases List.mem_cons.1 hx with rfl | hx
      · exact ⟨ma1, by simp, rfl, of_decide_eq_true e1⟩
      · rw [List.mem_singleton.1 hx]
        exact ⟨mb0, by simp, rfl, of_decide_eq_true e2⟩
theorem sm_bt {g : Nat} {E : List Bm} (h : Bt (smQ g) smL [ma0, ma1] E) : E = [ma1, mb0] := by
  obtain ⟨T, h1, h2, _⟩ := h.c
  rw [sm_go2 h1] at h2
  exact h2.one sm_jn (fun _ _ => Iff.rfl)
set_option maxRecDepth 100000 in
set_option maxHeartbeats 4000000 in
/-- pewholderlaw2.built. -/
theorem built_any (A : Nat → Addr) (m : Int) (w : World) (S : Te w A m) : Calls Tryz.prog 7 #[] w fun e w' => e = .returned (.bool true) ∧ Below w.heap.size w w' := by
  have HSM := hid smallI_any
  have HS := hid S
  clear S
  go_enter Tryz.func7, Tryz.ntmps7
  go_wp2_with fail
  refine (HSM.out w).mono ?_
  rintro e w1 ⟨g, q, rfl, hix, hb⟩
  have hBa := (Below.refl w1.heap.size w1).alloc (Nat.le_refl _) (.cells #[.string ⟨#[97]⟩, .string ⟨#[118, 49, 46, 48, 46, 48]⟩, .string ⟨#[97]⟩, .string ⟨#[118, 49, 46, 49, 46, 48]⟩] 46)
  have hB1 := hb.trans (hBa.mono hb.size)
  have hms : MsAt (w1.alloc (.cells #[.string ⟨#[97]⟩, .string ⟨#[118, 49, 46, 48, 46, 48]⟩, .string ⟨#[97]⟩, .string ⟨#[118, 49, 46, 49, 46, 48]⟩] 46)) (.slice (some ⟨w1.heap.size, 0, none⟩) 2 2) [ma0, ma1] := ⟨some ⟨w1.heap.size, 0, none⟩, 2, rfl, Nat.le_refl _, fun _ => ⟨w1.heap.size, 0, rfl, fun j hj => by
    have hj2 : j < 2 := hj
    rcases (by omega : j = 0 ∨ j = 1) with rfl | rfl
    · refine ⟨?_, ?_⟩ <;> (rw [Lib.cell_of_heap (heap_alloc_new w1 _)]; rfl)
    · refine ⟨?_, ?_⟩ <;> (rw [Lib.cell_of_heap (heap_alloc_new w1 _)]; rfl)⟩⟩
  have HBU := hid (build_good (smQ g) smL [ma0, ma1] _ _ A m _ (by decide) (by decide) sm_sh (HS.out.below hB1) (hix.below hBa) hms (sm_chkG2 g))
  have HB1 := hid hB1
  clear hix hb hBa hms hB1
  go_wp2_with fail
  refine HBU.out.mono ?_
  rintro e w2 ⟨u, E, rfl, hbt, hM⟩
  obtain rfl := sm_bt hbt
  have HB2 := hid (HB1.out.trans (hM.1.mono HB1.out.size))
  have hms := hM.ms
  obtain ⟨_, ua, uc, rfl, huc, hk⟩ := hM
  obtain ⟨ug, rfl, hmw⟩ : ∃ g, ua = some ⟨g, 0, none⟩ ∧ Mw _ w2 g [ma1, mb0] := by
    rcases hk with ⟨h, _⟩ | h
    · cases h
    · exact h
  have k0 : w2.cell? ⟨ug, 0, none⟩ = some (.string ⟨#[97]⟩) := hmw.c0 0 (by decide)
  have k1 : w2.cell? ⟨ug, 1, none⟩ = some (.string ⟨#[118, 49, 46, 49, 46, 48]⟩) := hmw.c1 0 (by decide)
  have hm1 : MsAt w2 (.slice (some ⟨ug, 0, none⟩) 1 uc) [ma1] := ⟨_, uc, rfl, by have h2 : 2 ≤ uc := huc; show 1 ≤ uc; omega, fun _ => ⟨ug, 0, rfl, fun j hj => by
    have hj2 : j < 1 := hj
    obtain rfl : j = 0 := by omega
    exact ⟨k0, k1⟩⟩⟩
  have HUN := hid (und_any [ma1] [ma1, mb0] _ _ A m w2 (by decide) (by decide) (fun x hx => by rw [List.mem_singleton.1 hx]; decide) (fun x hx => by
    rcases List.mem_cons.1 hx with rfl | hx
    · decide
    · rw [List.mem_singleton.1 hx]; decide) (HS.out.below HB2.out) hm1 hms)
  have hub : undB [ma1] [ma1, mb0] = true := by kernel_rfl
  rw [hub, show ([ma1, mb0] : List Bm).length = 2 from rfl] at HUN
  have s1 : ((⟨#[118, 49, 46, 49, 46, 48]⟩ : ByteArray).toList == (⟨#[118, 49, 46, 49, 46, 48]⟩ : ByteArray).toList) = true := by simp
  have huc2 : (2 : Int) ≤ (uc : Int) := by have h2 : 2 ≤ uc := huc; omega
  have huc1 : (1 : Int) ≤ (uc : Int) := by omega
  clear hbt hk hmw hms hm1 hub HBU
  go_wp2_with fail
  refine HUN.out.mono ?_
  rintro e w3 ⟨rfl, hb⟩
  have HB3 := hid (HB2.out.trans (hb.mono HB2.out.size))
  clear hb
  go_wp2_with fail
  go_ret
  exact ⟨rfl, HB3.out⟩
end Ve
end Go.Proofs.YtoaobngpdaidoaaGreatDoor

/-
  What slices.Equal answers over modules; what mvs.IsSelection answers: do paths rise?
-/
namespace Go.Proofs.YtoaobngpdaidoaaGreatDoor
open Go.RowKit Go.Maps
namespace Ve

set_option maxHeartbeats 2000000 in
theorem eqS_len (a a' : Option Addr) (n n' c c' : Nat) (w : World) (h : n ≠ n') : Calls Tryz.prog 55 #[.slice a n c, .slice a' n' c'] w fun e w' => e = .returned (.bool false) ∧ Below w.heap.size w w' := by
  have h1 : ¬ (n : Int) = (n' : Int) := by omega
  have h2 : ((n : Int) == (n' : Int)) = false := by simp; omega
  go_enter Tryz.func55, Tryz.ntmps55
  go_wp2_with fail
  go_ret
  exact ⟨rfl, Below.refl _ _⟩
set_option maxHeartbeats 2000000 in
theorem eqS_some (L M : List Bm) (b o c b' o' c' : Nat) (w : World) (hn : L.length ≤ 1000000) (hl : M.length = L.length)
    (hc : ∀ j (h : j < L.length), w.cell? ⟨b, o + j * 2, none⟩ = some (.string L[j].1) ∧ w.cell? ⟨b, o + j * 2 + 1, none⟩ = some (.string L[j].2))
    (hd : ∀ j (h : j < M.length), w.cell? ⟨b', o' + j * 2, none⟩ = some (.string M[j].1) ∧ w.cell? ⟨b', o' + j * 2 + 1, none⟩ = some (.string M[j].2)) :
    Calls Tryz.prog 55 #[.slice (some ⟨b, o, none⟩) L.length c, .slice (some ⟨b', o', none⟩) L.length c'] w fun e w' => e = .returned (.bool (decide (L = M))) ∧ Below w.heap.size w w' := by
  have HC := hid hc
  have HD := hid hd
  have hgd := modGuard
  have HX := hid (show (∀ j (h : j < L.length) (h' : j < M.length), L[j] = M[j]) → decide (L = M) = true from fun h => decide_eq_true (List.ext_getElem hl.symm (fun j h1 h2 => h j h1 h2)))
  have HY := hid (show ∀ j (h : j < L.length) (h' : j < M.length), L[j] ≠ M[j] → decide (L = M) = false from fun j h h' hne => decide_eq_false (fun e => hne (by subst e; rfl)))
  generalize decide (L = M) = z at *
  clear hc hd
  go_enter Tryz.func55, Tryz.ntmps55
  go_wp2_with fail
  go_loopw [13] (fun i wr => ∃ k : Nat, k ≤ L.length ∧ i = .int .i64 k ∧ Hid (∀ j (h : j < L.length) (h' : j < M.length), j < k → L[j] = M[j]) ∧ Hid (Below w.heap.size w wr)) (fun i _ => L.length - (intOf i).toNat)
  case atStart => exact ⟨0, Nat.zero_le _, rfl, hid (fun j _ _ hj => absurd hj (Nat.not_lt_zero _)), hid (Below.refl _ _)⟩
  case round =>
    obtain ⟨k, hk, rfl, HE, HB⟩ := hrel
    by_cases hlt : k < L.length
    · have hlm : k < M.length := by omega
      have hx := cell_below HB.out (HC.out k hlt).1
      have hy := cell_below HB.out (HC.out k hlt).2
      have hx' := cell_below HB.out (HD.out k hlm).1
      have hy' := cell_below HB.out (HD.out k hlm).2
      have hne := fun W => modNeq L[k].1 L[k].2 M[k].1 M[k].2 W
      have hkI : (k : Int) < (L.length : Int) := by omega
      have HLT := hid hlt
      have HN := hid (show L[k] = M[k] → ∀ j (h : j < L.length) (h' : j < M.length), j < k + 1 → L[j] = M[j] from fun h0 j h1 h2 h3 => by
        rcases Nat.lt_or_ge j k with h | h
        · exact HE.out j h1 h2 h
        · have : j = k := by omega
          subst this; exact h0)
      have HYK := hid (HY.out k hlt hlm)
      generalize L[k] = x at *
      generalize M[k] = y at *
      obtain ⟨x1, x2⟩ := x
      obtain ⟨y1, y2⟩ := y
      simp only at hx hy hx' hy' hne
      clear hlt hlm
      by_cases he : x1 = y1 ∧ x2 = y2
      · rw [decide_eq_true he] at hne
        have HN2 := hid (HN.out (Prod.ext he.1 he.2))
        clear he HN
        go_wp2_with fail
        go_quiet (fail)
        go_wp2_with fail
        go_roundw
        case rel => first | exact ⟨k + 1, HLT.out, nr_idx k, HN2, hid (below_drawn_of HB.out _)⟩ | exact ⟨k + 1, HLT.out, nx_idx HLT.out hn, HN2, hid (below_drawn_of HB.out _)⟩
        case measure => first | exact nr_meas HLT.out | exact nx_meas HLT.out hn
      · rw [decide_eq_false he] at hne
        have HZ := hid (HYK.out (fun e => he (by injection e with e1 e2; exact ⟨e1, e2⟩)))
        clear he HN
        go_wp2_with fail
        go_quiet (fail)
        go_wp2_with fail
        go_ret
        exact ⟨by rw [HZ.out]; rfl, below_drawn_of HB.out _⟩
    · have hkI : ¬ (k : Int) < (L.length : Int) := by omega
      have HZ := hid (HX.out (fun j h h' => HE.out j h h' (by omega)))
      go_wp2_with fail
      go_ret
      exact ⟨by rw [HZ.out]; rfl, HB.out⟩
theorem eqS_none (a a' : Option Addr) (c c' : Nat) (w : World) : Calls Tryz.prog 55 #[.slice a 0 c, .slice a' 0 c'] w fun e w' => e = .returned (.bool true) ∧ Below w.heap.size w w' := by
  go_enter Tryz.func55, Tryz.ntmps55
  go_wp2_with fail
  go_loopw [13] (fun i wr => i = .int .i64 0 ∧ wr = w) (fun i _ => 0)
  case atStart => exact ⟨rfl, rfl⟩
  case round =>
    obtain ⟨rfl, rfl⟩ := hrel
    go_wp2_with fail
    go_ret
    exact ⟨rfl, Below.refl _ _⟩
theorem eqS_any (L M : List Bm) (v u : Value) (w : World) (hn : L.length ≤ 1000000) (hv : MsAt w v L) (hu : MsAt w u M) : Calls Tryz.prog 55 #[v, u] w fun e w' => e = .returned (.bool (decide (L = M))) ∧ Below w.heap.size w w' := by
  obtain ⟨a, c, rfl, _, h⟩ := hv
  obtain ⟨a', c', rfl, _, h'⟩ := hu
  by_cases hl : M.length = L.length
  · cases L with
    | nil =>
      have : M = [] := List.length_eq_zero_iff.1 hl
      subst this
      exact eqS_none a a' c c' w
    | cons x r =>
      obtain ⟨b, o, rfl, h2⟩ := h (by simp)
      obtain ⟨b', o', rfl, h3⟩ := h' (fun e => by rw [e] at hl; simp at hl)
      rw [hl]
      exact eqS_some (x :: r) M b o c b' o' c' w hn hl h2 h3
  · rw [decide_eq_false (fun e => hl (by rw [e]))]
    exact eqS_len a a' _ _ c c' w (fun e => hl e.symm)
/-- Do paths rise? -/
def risB2 : List Bm → Bool
  | [] => true
  | [_] => true
  | a :: b :: r => lt a.1 b.1 && risB2 (b :: r)
theorem risB2_iff : ∀ {L : List Bm}, risB2 L = true ↔ rising L
  | [] => ⟨fun _ => List.Pairwise.nil, fun _ => rfl⟩
  | [a] => ⟨fun _ => List.pairwise_singleton _ _, fun _ => rfl⟩
  | a :: b :: r => by
    unfold risB2
    rw [Bool.and_eq_true, risB2_iff]
    constructor
    · rintro ⟨h1, h2⟩
      refine List.pairwise_cons.2 ⟨fun c hc => ?_, h2⟩
      rcases List.mem_cons.1 hc with rfl | hc
      · exact h1
      · exact lt_trans h1 ((List.pairwise_cons.1 h2).1 c hc)
    · intro h
      obtain ⟨h1, h2⟩ := List.pairwise_cons.1 h
      exact ⟨h1 b (by simp), h2⟩
theorem risB2_all : ∀ {L : List Bm}, (∀ j (h : j + 1 < L.length), lt (L[j]'(by omega)).1 L[j + 1].1 = true) → risB2 L = true
  | [], _ => rfl
  | [_], _ => rfl
  | a :: b :: r, h => by
    unfold risB2
    rw [Bool.and_eq_true]
    exact ⟨h 0 (by simp), risB2_all (L := b :: r) fun j hj => h (j + 1) (by simpa using hj)⟩
theorem risB2_not {L : List Bm} {j : Nat} (h : j + 1 < L.length) (hn : lt (L[j]'(by omega)).1 L[j + 1].1 = false) : risB2 L = false := by
  cases hb : risB2 L
  · rfl
  · have := List.pairwise_iff_getElem.1 (risB2_iff.1 hb) j (j + 1) (by omega) h (by omega)
    rw [hn] at this; cases this
theorem geqB (a b : ByteArray) (X : World) : (binOp BinOp.geq 9 (.string a) (.string b)).run Tryz.prog X = .ok (.bool (!lt a b)) X := by rw [← noLess_lt, ← noLess_is]; rfl
theorem isSel_none (a : Option Addr) (c : Nat) (w : World) : Calls Tryz.prog 57 #[.slice a 0 c] w fun e w' => e = .returned (.bool true) ∧ Below w.heap.size w w' := by
  go_enter Tryz.func57, Tryz.ntmps57
  go_wp2_with fail
  go_loopw [3] (fun i wr => i = .int .i64 1 ∧ wr = w) (fun i _ => 0)
  case atStart => exact ⟨rfl, rfl⟩
  case round =>
    obtain ⟨rfl, rfl⟩ := hrel
    go_wp2_with fail
    go_ret
    exact ⟨rfl, Below.refl _ _⟩
set_option maxHeartbeats 2000000 in
theorem isSel_some (L : List Bm) (b o c : Nat) (w : World) (hn : L.length ≤ 1000000) (h0 : 0 < L.length)
    (hc : ∀ j (h : j < L.length), w.cell? ⟨b, o + j * 2, none⟩ = some (.string L[j].1) ∧ w.cell? ⟨b, o + j * 2 + 1, none⟩ = some (.string L[j].2)) :
    Calls Tryz.prog 57 #[.slice (some ⟨b, o, none⟩) L.length c] w fun e w' => e = .returned (.bool (risB2 L)) ∧ Below w.heap.size w w' := by
  have HC := hid hc
  have HX := hid (show (∀ j (h : j + 1 < L.length), lt (L[j]'(by omega)).1 L[j + 1].1 = true) → risB2 L = true from fun h => risB2_all h)
  have HY := hid (show ∀ j (h : j + 1 < L.length), lt (L[j]'(by omega)).1 L[j + 1].1 = false → risB2 L = false from fun j h hne => risB2_not h hne)
  generalize risB2 L = z at *
  clear hc
  go_enter Tryz.func57, Tryz.ntmps57
  go_wp2_with fail
  go_loopw [3] (fun i wr => ∃ k : Nat, k + 1 ≤ L.length ∧ i = .int .i64 ((k : Int) + 1) ∧ Hid (∀ j (h : j + 1 < L.length), j < k → lt (L[j]'(by omega)).1 L[j + 1].1 = true) ∧ Hid (Below w.heap.size w wr)) (fun i _ => L.length - (intOf i).toNat)
  case atStart => exact ⟨0, h0, rfl, hid (fun j _ hj => absurd hj (Nat.not_lt_zero _)), hid (Below.refl _ _)⟩
  case round =>
    obtain ⟨k, hk, rfl, HE, HB⟩ := hrel
    by_cases hlt : k + 1 < L.length
    · have hx := cell_below HB.out (HC.out k (Nat.lt_of_succ_lt hlt)).1
      have hx' := cell_below HB.out (HC.out (k + 1) hlt).1
      have hge := fun W => geqB (L[k]'(by omega)).1 L[k + 1].1 W
      have hkI : (k : Int) + 1 < (L.length : Int) := by omega
      have kx1 : (0 : Int) ≤ (k : Int) + 1 := by omega
      have kx2 : (k : Int) + 1 - 1 = (k : Int) := by omega
      have kx3 : (k : Int) < (L.length : Int) := by omega
      have kx4 : (0 : Int) ≤ (k : Int) := by omega
      have ktn : ((k : Int) + 1).toNat = k + 1 := by omega
      have kw0 : wrap64 (k : Int) = (k : Int) := IntWalk.wrap64_in _ (by omega)
      have kw1 : IntKind.i64.wrap (k : Int) = (k : Int) := by rw [IntKind.wrap_i64] <;> omega
      have kw2 : wrap64 ((k : Int) + 1 + 1) = (k : Int) + 1 + 1 := IntWalk.wrap64_in _ (by omega)
      have HLT := hid hlt
      have HN := hid (show lt (L[k]'(by omega)).1 L[k + 1].1 = true → ∀ j (h : j + 1 < L.length), j < k + 1 → lt (L[j]'(by omega)).1 L[j + 1].1 = true from fun h0 j h1 h2 => by
        rcases Nat.lt_or_ge j k with h | h
        · exact HE.out j h1 h
        · have : j = k := by omega
          subst this; exact h0)
      have HYK := hid (HY.out k hlt)
      generalize (L[k]'(Nat.lt_of_succ_lt hlt)) = x at *
      generalize (L[k + 1]'hlt) = y at *
      obtain ⟨x1, x2⟩ := x
      obtain ⟨y1, y2⟩ := y
      simp only at hx hx' hge HN HYK
      clear hlt hk
      cases he : lt x1 y1 with
      | true =>
        have HN2 := hid (HN.out he)
        rw [he] at hge
        clear he HN HYK
        go_wp2_with fail
        go_quiet (fail)
        go_wp2_with fail
        go_roundw
        case rel => exact ⟨k + 1, HLT.out, by first | rfl | (simp only [kw2]; push_cast; rfl), HN2, hid (below_drawn_of HB.out _)⟩
        case measure =>
          have := HLT.out
          simp only [intOf]
          omega
      | false =>
        have HZ := hid (HYK.out he)
        rw [he] at hge
        clear he HN HYK
        go_wp2_with fail
        go_quiet (fail)
        go_wp2_with fail
        go_ret
        exact ⟨by rw [HZ.out]; rfl, below_drawn_of HB.out _⟩
    · have hkI : ¬ (k : Int) + 1 < (L.length : Int) := by omega
      have HZ := hid (HX.out (fun j h => HE.out j h (by omega)))
      go_wp2_with fail
      go_ret
      exact ⟨by rw [HZ.out]; rfl, HB.out⟩
/-- mvs.IsSelection. -/
theorem isSel_any (L : List Bm) (v : Value) (w : World) (hv : MsAt w v L) (hn : L.length ≤ 1000000) :
    Calls Tryz.prog 57 #[v] w fun e w' => e = .returned (.bool (risB2 L)) ∧ Below w.heap.size w w' := by
  obtain ⟨a, c, rfl, _, h⟩ := hv
  cases L with
  | nil => exact isSel_none a c w
  | cons x r =>
    obtain ⟨b, o, rfl, h2⟩ := h (by simp)
    exact isSel_some (x :: r) b o c w hn (by simp) h2
end Ve
end Go.Proofs.YtoaobngpdaidoaaGreatDoor

/-
  What mvs.check and mvs.Closed answer.
-/
namespace Go.Proofs.YtoaobngpdaidoaaGreatDoor
open Go.RowKit Go.Maps
namespace Ve

/-- What is wrong with an index, roots and a selection. -/
def chkC (Q : List Raw) (L : List Ent) (roots sel : List Bm) : Nat × Option Nat := if (chkG Q L roots).1 ≠ 0 then chkG Q L roots else if codeE (nonE Q sel) sel.length ≠ 0 then (codeE (nonE Q sel) sel.length, fstE (nonE Q sel) sel.length) else if risB2 sel then (0, none) else (8, none)
theorem univ_right {Q : List Raw} {L : List Ent} (h : (chk Q L).1 = 0) : ∀ m, m ∈ univ L → mErr m = 0 := fun m hm => by
  obtain ⟨e, he, rfl⟩ := List.mem_map.1 hm
  obtain ⟨j, hj, rfl⟩ := List.getElem_of_mem he
  exact entE_mod hj ((chk_each0 h).2 j hj)
theorem chkC_bad {Q : List Raw} {L : List Ent} {roots sel : List Bm} (h : (chkG Q L roots).1 ≠ 0) : chkC Q L roots sel = chkG Q L roots := by unfold chkC; rw [if_pos h]
theorem chkC_sel {Q : List Raw} {L : List Ent} {roots sel : List Bm} (h : (chkG Q L roots).1 = 0) (h2 : codeE (nonE Q sel) sel.length ≠ 0) : chkC Q L roots sel = (codeE (nonE Q sel) sel.length, fstE (nonE Q sel) sel.length) := by unfold chkC; rw [if_neg (by simp [h]), if_pos h2]
theorem chkC_ris {Q : List Raw} {L : List Ent} {roots sel : List Bm} (h : (chkG Q L roots).1 = 0) (h2 : codeE (nonE Q sel) sel.length = 0) : chkC Q L roots sel = if risB2 sel then (0, none) else (8, none) := by unfold chkC; rw [if_neg (by simp [h]), if_neg (by simp [h2])]
set_option maxRecDepth 100000 in
set_option maxHeartbeats 4000000 in
/-- mvs.check. -/
theorem mcheck_all (Q : List Raw) (L : List Ent) (roots sel : List Bm) (v rv sv : Value) (A : Nat → Addr) (m : Int) (w : World) (hn : L.length ≤ 1000) (hrn : roots.length ≤ 1000000) (hsn : sel.length ≤ 500) (sh : ∀ e, e ∈ L → ShE e) (S : Te w A m) (I : Ixs w v Q L) (hr : MsAt w rv roots) (hs : MsAt w sv sel) (es : Em sv sel) :
    Calls Tryz.prog 36 #[v, rv, sv] w fun e w' => ∃ x, e = .returned x ∧ ErrAt w' A x (chkC Q L roots sel).1 (chkC Q L roots sel).2 ∧ Below w.heap.size w w' := by
  have HCK := hid (icheck_any Q L v A m w (by omega) sh S I)
  have HCM := hid (fun W (h : Below w.heap.size w W) => cmods_any Q roots v rv A m W (by rw [I.ln]; omega) hrn (S.below h) (I.es.below h) (hr.below h))
  have HCS := hid (fun W (h : Below w.heap.size w W) => cmods_any Q sel v sv A m W (by rw [I.ln]; omega) (by omega) (S.below h) (I.es.below h) (hs.below h))
  have HIS := hid (fun W (h : Below w.heap.size w W) (_ : (chk Q L).1 = 0) (_ : codeE (nonE Q sel) sel.length = 0) => isSel_any sel sv W (hs.below h) (by omega))
  have HS := hid S
  obtain ⟨a, c, hv, -⟩ := id I.es
  subst hv
  obtain ⟨ra, rc, hrv, -⟩ := id hr
  subst hrv
  obtain ⟨sa, sc, hsv, -⟩ := id hs
  subst hsv
  clear S I hr sh hs es
  by_cases h0 : (chk Q L).1 = 0
  · have hG : chkG Q L roots = (codeE (nonE Q roots) roots.length, fstE (nonE Q roots) roots.length) := chkG_ok h0
    go_enter Tryz.func36, Tryz.ntmps36
    go_wp2_with fail
    refine HCK.out.mono ?_
    rintro e w1 ⟨x, rfl, he, hb⟩
    have HB1 := hid hb
    rcases he.kind with ⟨_, rfl⟩ | ⟨h, _⟩
    · clear he hb HCK
      by_cases h1 : codeE (nonE Q roots) roots.length = 0
      · have hg0 : (chkG Q L roots).1 = 0 := by rw [hG]; exact h1
        go_wp2_with fail
        refine (HCM.out _ HB1.out).mono ?_
        rintro e w2 ⟨x, rfl, he, hb⟩
        have HB2 := hid (HB1.out.trans (hb.mono HB1.out.size))
        rcases he.kind with ⟨_, rfl⟩ | ⟨h, _⟩
        · clear he hb HCM
          by_cases h2 : codeE (nonE Q sel) sel.length = 0
          · go_wp2_with fail
            refine (HCS.out _ HB2.out).mono ?_
            rintro e w3 ⟨x, rfl, he, hb⟩
            have HB3 := hid (HB2.out.trans (hb.mono HB2.out.size))
            rcases he.kind with ⟨_, rfl⟩ | ⟨h, _⟩
            · clear he hb HCS
              have HSL := hid (HIS.out w3 HB3.out h0 h2)
              have HC := hid (chkC_ris (sel := sel) hg0 h2)
              clear h0 h1 h2 hG hg0 HIS
              cases hs : risB2 sel
              · rw [hs] at HSL HC
                clear hs
                go_wp2_with fail
                refine HSL.out.mono ?_
                rintro e w4 ⟨rfl, hb⟩
                have HB4 := hid (HB3.out.trans (hb.mono HB3.out.size))
                have g7 := (HS.out.below HB4.out).sen.g7
                clear hb
                go_wp2_with fail
                go_ret
                exact ⟨_, rfl, by rw [HC.out]; rfl, HB4.out⟩
              · rw [hs] at HSL HC
                clear hs
                go_wp2_with fail
                refine HSL.out.mono ?_
                rintro e w4 ⟨rfl, hb⟩
                have HB4 := hid (HB3.out.trans (hb.mono HB3.out.size))
                clear hb
                go_wp2_with fail
                go_ret
                exact ⟨_, rfl, by rw [HC.out]; rfl, HB4.out⟩
            · exact absurd h2 h
          · go_wp2_with fail
            refine (HCS.out _ HB2.out).mono ?_
            rintro e w3 ⟨x, rfl, he, hb⟩
            have HB3 := hid (HB2.out.trans (hb.mono HB2.out.size))
            have HE := hid he
            rcases he.kind with ⟨h, _⟩ | ⟨_, T, xa, rfl⟩
            · exact absurd h h2
            have HC := hid (chkC_sel hg0 h2)
            clear he hb HCS h0 h1 h2 hG hg0
            go_wp2_with fail
            go_ret
            exact ⟨_, rfl, by rw [HC.out]; exact HE.out, HB3.out⟩
        · exact absurd h1 h
      · go_wp2_with fail
        refine (HCM.out _ HB1.out).mono ?_
        rintro e w2 ⟨x, rfl, he, hb⟩
        have HB2 := hid (HB1.out.trans (hb.mono HB1.out.size))
        have HE := hid he
        rcases he.kind with ⟨h, _⟩ | ⟨_, T, xa, rfl⟩
        · exact absurd h h1
        have HC := hid (chkC_bad (sel := sel) (show (chkG Q L roots).1 ≠ 0 by rw [hG]; exact h1))
        rw [hG] at HC
        clear he hb HCM h0 h1 hG
        go_wp2_with fail
        go_ret
        exact ⟨_, rfl, by rw [HC.out]; exact HE.out, HB2.out⟩
    · exact absurd h0 h
  · have HC := hid (chkC_bad (sel := sel) (show (chkG Q L roots).1 ≠ 0 by rw [chkG_bad h0]; exact h0))
    rw [chkG_bad h0] at HC
    go_enter Tryz.func36, Tryz.ntmps36
    go_wp2_with fail
    refine HCK.out.mono ?_
    rintro e w1 ⟨x, rfl, he, hb⟩
    have HB1 := hid hb
    have HE := hid he
    rcases he.kind with ⟨h, _⟩ | ⟨_, T, xa, rfl⟩
    · exact absurd h h0
    clear he hb HCK h0
    go_wp2_with fail
    go_ret
    exact ⟨_, rfl, by rw [HC.out]; exact HE.out, HB1.out⟩
/-- Is a selection closed? -/
def closB (Q : List Raw) (L : List Ent) (roots sel : List Bm) : Bool := undB roots sel && sel.all fun m => undB (reqQ Q L m) sel
theorem reqQ_sz {Q : List Raw} {L : List Ent} (sh : ∀ e, e ∈ L → ShE e) (m : Bm) : (reqQ Q L m).length ≤ 1000000 ∧ ∀ x, x ∈ reqQ Q L m → x.1.size < 999999 ∧ x.2.size < 999999 := by
  unfold reqQ
  split
  · exact ⟨by simp, fun x hx => by cases hx⟩
  · cases h : L[(idxOf (isM m) Q).toNat]? with
    | none => exact ⟨by simp, fun x hx => by simp at hx⟩
    | some e =>
      have he := sh e (List.mem_of_getElem? h)
      exact ⟨he.rn, fun x hx => he.rs x hx⟩
set_option maxRecDepth 100000 in
set_option maxHeartbeats 4000000 in
theorem clK_any (Q : List Raw) (L : List Ent) (sel : List Bm) (x : Bm) (lb sb : Nat) (v sv : Value) (A : Nat → Addr) (m : Int) (W : World) (hn : L.length ≤ 1000) (hsn : sel.length ≤ 1000000) (hss : ∀ y, y ∈ sel → y.2.size < 999999) (sh : ∀ e, e ∈ L → ShE e) (hx : x ∈ univ L) (S : Te W A m) (I : Ixs W v Q L) (hs : MsAt W sv sel) (c0 : W.cell? ⟨lb, 0, none⟩ = some v) (c1 : W.cell? ⟨sb, 0, none⟩ = some sv) :
    Calls Tryz.prog 37 (#[.agg #[.string x.1, .string x.2]] ++ #[.pointer (some ⟨lb, 0, none⟩), .pointer (some ⟨sb, 0, none⟩)]) W fun e w' => e = .returned (.bool (!undB (reqQ Q L x) sel)) ∧ Below W.heap.size W w' := by
  obtain ⟨kq, hkq⟩ := (found_iff I x).1 hx
  obtain ⟨hkl, -⟩ := idx_is hkq
  have hkl2 : kq < L.length := by rw [← I.ln]; exact hkl
  have HB0 := hid ((Below.refl W.heap.size W).alloc (Nat.le_refl _) (.cells #[.string x.1, .string x.2] 46))
  have HFI := hid (fun W' (h : Below W.heap.size W W') => find_any Q x v W' (by rw [I.ln]; omega) (I.below h).es)
  rw [hkq] at HFI
  have HRS := hid (reqQ_sz (Q := Q) sh x)
  have HRQ := hid (reqQ_at hkq hkl2)
  have hkI : (kq : Int) < (Q.length : Int) := by omega
  have hk0 : (0 : Int) ≤ (kq : Int) := by omega
  obtain ⟨a, c, hv, -⟩ := id I.es
  subst hv
  have HES := hid (fun W' (h : Below W.heap.size W W') => es_cells (I.below h).es hkl)
  have HMS := hid (fun W' (h : Below W.heap.size W W') => ((I.below h).ok kq hkl hkl2).rq)
  rw [HRQ.out] at HRS ⊢
  generalize (L[kq]'hkl2).2.1 = R at *
  generalize (Q[kq]'hkl).2.1 = qv at *
  obtain ⟨qa, qc, hqv, -⟩ := HMS.out W (Below.refl _ _)
  subst hqv
  obtain ⟨sa, sc, hsv, -⟩ := id hs
  subst hsv
  have HUN := hid (fun W' (h : Below W.heap.size W W') => und_any R sel _ _ A m W' HRS.out.1 hsn (fun y hy => (HRS.out.2 y hy).2) hss (S.below h) (HMS.out W' h) (hs.below h))
  obtain ⟨eb, eo, ha, -⟩ := HES.out W (Below.refl _ _)
  subst ha
  have HCL := hid (fun W' (h : Below W.heap.size W W') => show W'.cell? ⟨lb, 0, none⟩ = some (.slice (some ⟨eb, eo, none⟩) Q.length c) ∧ W'.cell? ⟨sb, 0, none⟩ = some (.slice sa sel.length sc) from ⟨cell_below h c0, cell_below h c1⟩)
  have HX2 := hid (fun W' (h : Below W.heap.size W W') => show W'.cell? ⟨eb, eo + kq * 5 + 2, none⟩ = some (.slice qa R.length qc) by
    obtain ⟨eb', eo', e, h2⟩ := HES.out W' h
    injection e with e
    injection e with e1 e2
    subst e1 e2
    exact h2)
  obtain ⟨d0, d1⟩ := HCL.out _ HB0.out
  show Calls Tryz.prog 37 #[.agg #[.string x.1, .string x.2], .pointer (some ⟨lb, 0, none⟩), .pointer (some ⟨sb, 0, none⟩)] W _
  clear S I hs hkq hkl hkl2 hx HES HMS HRQ sh c0 c1 hss
  obtain ⟨Wa, hWa⟩ : ∃ Wa, W.alloc (.cells #[.string x.1, .string x.2] 46) = Wa := ⟨_, rfl⟩
  have b0 : Wa.cell? ⟨W.heap.size, 0, none⟩ = some (.string x.1) := by rw [← hWa]; simp
  have b1 : Wa.cell? ⟨W.heap.size, 1, none⟩ = some (.string x.2) := by rw [← hWa]; simp
  rw [hWa] at HB0 d0 d1
  have HW := hid (fun W' (hW : Below Wa.heap.size Wa W') => (HB0.out.trans (hW.mono HB0.out.size)))
  have HT := hid (fun W' (hW : Below Wa.heap.size Wa W') => (show (fun W' => W'.cell? ⟨lb, 0, none⟩ = some (.slice (some ⟨eb, eo, none⟩) Q.length c) ∧ W'.cell? ⟨sb, 0, none⟩ = some (.slice sa sel.length sc) ∧ W'.cell? ⟨W.heap.size, 0, none⟩ = some (.string x.1) ∧ W'.cell? ⟨W.heap.size, 1, none⟩ = some (.string x.2) ∧ W'.cell? ⟨eb, eo + kq * 5 + 2, none⟩ = some (.slice qa R.length qc) ∧ Hid (Below Wa.heap.size Wa W')) W' from ⟨(HCL.out W' (HW.out W' hW)).1, (HCL.out W' (HW.out W' hW)).2, cell_below hW b0, cell_below hW b1, HX2.out W' (HW.out W' hW), hid hW⟩))
  have x2 := HX2.out Wa HB0.out
  go_enter Tryz.func37, Tryz.ntmps37
  go_wp2_with fail
  clear hWa
  go_region_held (fun W' => W'.cell? ⟨lb, 0, none⟩ = some (.slice (some ⟨eb, eo, none⟩) Q.length c) ∧ W'.cell? ⟨sb, 0, none⟩ = some (.slice sa sel.length sc) ∧ W'.cell? ⟨W.heap.size, 0, none⟩ = some (.string x.1) ∧ W'.cell? ⟨W.heap.size, 1, none⟩ = some (.string x.2) ∧ W'.cell? ⟨eb, eo + kq * 5 + 2, none⟩ = some (.slice qa R.length qc) ∧ Hid (Below Wa.heap.size Wa W')) (first | exact HT.out _ HRb.out | exact HT.out _ HRa.out | exact HT.out _ (below_drawn _ 1)) (first
    | (go_at_call 38; refine (HFI.out _ (HW.out _ (below_drawn _ 1))).mono ?_; rintro e w' ⟨rfl, hb⟩; have HRa := hid ((below_drawn Wa 1).trans (hb.mono (Nat.le_refl _))); clear hb)
    | (go_at_call 19; refine (HUN.out _ (HW.out _ HRa.out)).mono ?_; rintro e w'' ⟨rfl, hb⟩; have HRb := hid (HRa.out.trans (hb.mono HRa.out.size)); clear hb))
  all_goals
    have HBe := hid (HW.out _ HRb.out)
    go_wp2_with fail
    go_ret
    exact ⟨rfl, HBe.out⟩
set_option maxRecDepth 100000 in
set_option maxHeartbeats 4000000 in
theorem closed_bad (Q : List Raw) (L : List Ent) (roots sel : List Bm) (v rv sv : Value) (A : Nat → Addr) (m : Int) (w : World) (hn : L.length ≤ 1000) (hrn : roots.length ≤ 1000000) (hsn : sel.length ≤ 500) (sh : ∀ e, e ∈ L → ShE e) (S : Te w A m) (I : Ixs w v Q L) (hr : MsAt w rv roots) (hs : MsAt w sv sel) (es : Em sv sel) (h0 : (chkC Q L roots sel).1 ≠ 0) :
    Calls Tryz.prog 16 #[v, rv, sv] w fun e w' => ∃ T a, e = .returned (.tuple #[.bool false, .iface T (.pointer (some a))]) ∧ ErrAt w' A (.iface T (.pointer (some a))) (chkC Q L roots sel).1 (chkC Q L roots sel).2 ∧ Below w.heap.size w w' := by
  have HB0 := hid (((Below.refl w.heap.size w).alloc (Nat.le_refl _) (.cells #[v] 22)).alloc (by simp) (.cells #[sv] 23))
  have HCK := hid (mcheck_all Q L roots sel v rv sv A m _ hn hrn hsn sh (S.below HB0.out) (I.below HB0.out) (hr.below HB0.out) (hs.below HB0.out) es)
  obtain ⟨a, c, hv, -⟩ := id I.es
  subst hv
  obtain ⟨ra, rc, hrv, -⟩ := id hr
  subst hrv
  obtain ⟨sa, sc, hsv, -⟩ := id hs
  subst hsv
  have H0 := hid h0
  clear S I hr hs es sh h0
  go_enter Tryz.func16, Tryz.ntmps16
  go_wp2_with fail
  refine HCK.out.mono ?_
  rintro e w1 ⟨x, rfl, he, hb⟩
  have HB1 := hid (HB0.out.trans (hb.mono HB0.out.size))
  have HE := hid he
  rcases he.kind with ⟨h, _⟩ | ⟨_, T, xa, rfl⟩
  · exact absurd h H0.out
  clear he hb HCK
  go_wp2_with fail
  go_ret2
  exact ⟨_, _, rfl, HE.out, HB1.out⟩
theorem chkC_good {w : World} {v : Value} {Q : List Raw} {L : List Ent} {roots sel : List Bm} (I : Ixs w v Q L) (h : (chkC Q L roots sel).1 = 0) : (chkG Q L roots).1 = 0 ∧ (∀ m, m ∈ sel → m ∈ univ L) ∧ risB2 sel = true := by
  by_cases h1 : (chkG Q L roots).1 = 0
  · have hc := (rgt_of I h1).c
    by_cases h2 : codeE (nonE Q sel) sel.length = 0
    · rw [chkC_ris h1 h2] at h
      refine ⟨h1, (rgt_of I (show (chkG Q L sel).1 = 0 by rw [chkG_ok hc]; exact h2)).r, ?_⟩
      cases hs : risB2 sel
      · rw [hs] at h; exact absurd h (by decide)
      · rfl
    · rw [chkC_sel h1 h2] at h; exact absurd h h2
  · rw [chkC_bad h1] at h; exact absurd h h1
theorem chkC_of {w : World} {v : Value} {Q : List Raw} {L : List Ent} {roots sel : List Bm} (I : Ixs w v Q L) (h1 : (chkG Q L roots).1 = 0) (h2 : ∀ m, m ∈ sel → m ∈ univ L) (h3 : risB2 sel = true) : (chkC Q L roots sel).1 = 0 := by
  have hc := (rgt_of I h1).c
  have h4 := chkG_in I hc h2
  rw [chkG_ok hc] at h4
  rw [chkC_ris h1 h4, h3]
  rfl
set_option maxRecDepth 100000 in
set_option maxHeartbeats 4000000 in
/-- mvs.Closed. -/
theorem closed_good (Q : List Raw) (L : List Ent) (roots sel : List Bm) (v rv sv : Value) (A : Nat → Addr) (m : Int) (w : World) (hn : L.length ≤ 1000) (hrn : roots.length ≤ 1000000) (hsn : sel.length ≤ 500) (sh : ∀ e, e ∈ L → ShE e) (S : Te w A m) (I : Ixs w v Q L) (hr : MsAt w rv roots) (hs : MsAt w sv sel) (es : Em sv sel) (h0 : (chkC Q L roots sel).1 = 0) :
    Calls Tryz.prog 16 #[v, rv, sv] w fun e w' => e = .returned (.tuple #[.bool (closB Q L roots sel), .nilIface]) ∧ Below w.heap.size w w' := by
  obtain ⟨hg, hsu, -⟩ := chkC_good I h0
  have hru := (rgt_of I hg).r
  have HB0 := hid (((Below.refl w.heap.size w).alloc (Nat.le_refl _) (.cells #[v] 22)).alloc (by simp) (.cells #[sv] 23))
  have HCK := hid (mcheck_all Q L roots sel v rv sv A m _ hn hrn hsn sh (S.below HB0.out) (I.below HB0.out) (hr.below HB0.out) (hs.below HB0.out) es)
  have HUN := hid (fun W (h : Below w.heap.size w W) => und_any roots sel rv sv A m W hrn (by omega) (fun y hy => (univ_szJ sh (hru y hy)).2) (fun y hy => (univ_szJ sh (hsu y hy)).2) (S.below h) (hr.below h) (hs.below h))
  have eg : ∀ args w, (callFunc 37 args).run Tryz.prog w = .ok (.enter 37 args) w := enters_of Tryz.func37 (by kernel_rfl) rfl
  have HHA := hid (fun W (h : Below w.heap.size w W) (c0 : W.cell? ⟨w.heap.size, 0, none⟩ = some v) (c1 : W.cell? ⟨w.heap.size + 1, 0, none⟩ = some sv) => hasM_any 37 #[.pointer (some ⟨w.heap.size, 0, none⟩), .pointer (some ⟨w.heap.size + 1, 0, none⟩)] (fun x => !undB (reqQ Q L x) sel) sel sv W eg (by omega) (hs.below h) (fun i hi W' hW => by
    have hb2 := h.trans (hW.mono h.size)
    exact clK_any Q L sel sel[i] w.heap.size (w.heap.size + 1) v sv A m W' hn (by omega) (fun y hy => (univ_szJ sh (hsu y hy)).2) sh (hsu _ (List.getElem_mem hi)) (S.below hb2) (I.below hb2) (hs.below hb2) (cell_below hW c0) (cell_below hW c1)))
  have HX := hid (show closB Q L roots sel = (undB roots sel && !(sel.any fun x => !undB (reqQ Q L x) sel)) by
    unfold closB
    congr 1
    rw [List.any_eq_not_all_not]
    simp)
  obtain ⟨a, c, hv, -⟩ := id I.es
  subst hv
  obtain ⟨ra, rc, hrv, -⟩ := id hr
  subst hrv
  obtain ⟨sa, sc, hsv, -⟩ := id hs
  subst hsv
  have H0 := hid h0
  generalize closB Q L roots sel = z at *
  generalize undB roots sel = zu at *
  generalize (sel.any fun x => !undB (reqQ Q L x) sel) = za at *
  clear S I hr hs es sh h0 hg hsu hru eg
  go_enter Tryz.func16, Tryz.ntmps16
  go_wp2_with fail
  refine HCK.out.mono ?_
  rintro e w1 ⟨x, rfl, he, hb⟩
  have HB1 := hid (HB0.out.trans (hb.mono HB0.out.size))
  have d0 : w1.cell? ⟨w.heap.size, 0, none⟩ = some (.slice a Q.length c) := cell_below hb (by simp)
  have d1 : w1.cell? ⟨w.heap.size + 1, 0, none⟩ = some (.slice sa sel.length sc) := cell_below hb (by simp)
  rcases he.kind with ⟨_, rfl⟩ | ⟨h, _⟩
  · clear he hb HCK
    have HU1 := hid (HUN.out w1 HB1.out)
    cases zu
    · go_wp2_with fail
      refine HU1.out.mono ?_
      rintro e w2 ⟨rfl, hb⟩
      have HB2 := hid (HB1.out.trans (hb.mono HB1.out.size))
      clear hb
      go_wp2_with fail
      go_ret2
      exact ⟨by rw [HX.out]; rfl, HB2.out⟩
    · go_wp2_with fail
      refine HU1.out.mono ?_
      rintro e w2 ⟨rfl, hb⟩
      have HB2 := hid (HB1.out.trans (hb.mono HB1.out.size))
      have f0 := cell_below hb d0
      have f1 := cell_below hb d1
      have HH1 := hid (HHA.out w2 HB2.out f0 f1)
      clear hb d0 d1
      go_wp2_with fail
      refine HH1.out.mono ?_
      rintro e w3 ⟨rfl, hb⟩
      have HB3 := hid (HB2.out.trans (hb.mono HB2.out.size))
      clear hb
      go_wp2_with fail
      go_ret2
      exact ⟨by rw [HX.out]; rfl, HB3.out⟩
  · exact absurd H0.out h
end Ve
end Go.Proofs.YtoaobngpdaidoaaGreatDoor

/-
  What is built is closed, and the least (plain).
-/
namespace Go.Proofs.YtoaobngpdaidoaaGreatDoor
open Go.RowKit Go.Maps
namespace Ve

theorem hasV_iff {B : List Bm} {m : Bm} : hasV B m = true ↔ ∃ x, atP B m.1 = some x ∧ lessB (vb x) (vb m) = false := by
  unfold hasV
  cases h : atP B m.1 with
  | none => simp
  | some x => simp
theorem atP_mem {B : List Bm} {p : ByteArray} {x : Bm} (h : atP B p = some x) : x ∈ B ∧ x.1 = p := by
  unfold atP at h
  exact ⟨List.mem_of_find?_eq_some h, by have := List.find?_some h; simpa using this⟩
theorem less_le {a b : Bm} (ha : mErr a = 0) (hb : mErr b = 0) : lessB (vb a) (vb b) = false ↔ ordV (vb b) (vb a) ≤ 0 := by
  rw [less_right (mErr_zero ha).2 (mErr_zero hb).2]
  simp only [decide_eq_false_iff_not]
  rw [ordV_swap (vb b) (vb a)]
  omega
theorem bt_mem {w : World} {v : Value} {Q : List Raw} {L : List Ent} {roots : List Bm} {T : By} (I : Ixs w v Q L) (h : Came (reqQ Q L) (univ L) roots T) {m : Bm} : m ∈ goM T Q ↔ Rch (reqQ Q L) roots m := goM_mem I h
/-- What is reached lies in the index. -/
theorem rch_univ {w : World} {v : Value} {Q : List Raw} {L : List Ent} {roots : List Bm} (I : Ixs w v Q L) (h : (chkG Q L roots).1 = 0) {m : Bm} (hm : Rch (reqQ Q L) roots m) : m ∈ univ L := by
  have r := rgt_of I h
  induction hm with
  | root hr => exact r.r _ hr
  | step _ hr ih => exact chk_reqs0 I r.c _ ih _ hr
/-- All that is built is reached, and of each that is reached there is no less. -/
theorem Bt.in_ {w : World} {v : Value} {Q : List Raw} {L : List Ent} {roots E : List Bm} (I : Ixs w v Q L) (h : Bt Q L roots E) {m : Bm} (hm : m ∈ E) : Rch (reqQ Q L) roots m := by
  obtain ⟨T, c, j, _⟩ := h.c
  exact (bt_mem I c).1 (j.sub m hm).1
theorem Bt.has {w : World} {v : Value} {Q : List Raw} {L : List Ent} {roots E : List Bm} (I : Ixs w v Q L) (h : Bt Q L roots E) (h0 : (chkG Q L roots).1 = 0) {A : List Bm} (hA : ∀ m, m ∈ A → Rch (reqQ Q L) roots m) : undB A E = true := by
  obtain ⟨T, c, j, _⟩ := h.c
  exact j.over fun m hm => ⟨(bt_mem I c).2 (hA m hm), univ_right (rgt_of I h0).c m (rch_univ I h0 (hA m hm))⟩
theorem Bt.ri {Q : List Raw} {L : List Ent} {roots E : List Bm} (h : Bt Q L roots E) : rising E := by
  obtain ⟨T, c, j, _⟩ := h.c
  exact j.ri
/-- What is built is closed. -/
theorem Bt.closed {w : World} {v : Value} {Q : List Raw} {L : List Ent} {roots E : List Bm} (I : Ixs w v Q L) (h : Bt Q L roots E) (h0 : (chkG Q L roots).1 = 0) : (chkC Q L roots E).1 = 0 ∧ closB Q L roots E = true := by
  refine ⟨chkC_of I h0 (fun m hm => rch_univ I h0 (h.in_ I hm)) (risB2_iff.2 h.ri), ?_⟩
  unfold closB
  rw [h.has I h0 (fun m hm => .root hm), Bool.true_and, List.all_eq_true]
  exact fun m hm => h.has I h0 (fun x hx => .step (h.in_ I hm) hx)
/-- Built again of itself it is itself. -/
theorem Bt.again {w : World} {v : Value} {Q : List Raw} {L : List Ent} {roots E E' : List Bm} (I : Ixs w v Q L) (h : Bt Q L roots E) (h' : Bt Q L E E') : E' = E := by
  obtain ⟨T, c, j, _⟩ := h.c
  obtain ⟨T', c', j', _⟩ := h'.c
  have up : ∀ x, Rch (reqQ Q L) E x → Rch (reqQ Q L) roots x := fun x hx => by
    induction hx with
    | root hr => exact h.in_ I hr
    | step _ hr ih => exact .step ih hr
  have jE : Jn (goM T' Q) E := ⟨j.ri, fun e he => ⟨(bt_mem I c').2 (.root he), (j.sub e he).2⟩, fun x hx hr => j.top x ((bt_mem I c).2 (up x ((bt_mem I c').1 hx))) hr⟩
  exact j'.one jE (fun _ _ => Iff.rfl)
/-- More roots build no less. -/
theorem Bt.more {w : World} {v : Value} {Q : List Raw} {L : List Ent} {a b E F : List Bm} (I : Ixs w v Q L) (h : Bt Q L a E) (h' : Bt Q L (a ++ b) F) (h0 : (chkG Q L (a ++ b)).1 = 0) : undB E F = true :=
  h'.has I h0 fun _ hm => (h.in_ I hm).mono fun _ hx => List.mem_append_left _ hx
theorem Bt.sz {w : World} {v : Value} {Q : List Raw} {L : List Ent} {a E : List Bm} (h : Bt Q L a E) (I : Ixs w v Q L) (sh : ∀ e, e ∈ L → ShE e) : ∀ r, r ∈ E → r.1.size < 999999 ∧ r.2.size < 999999 := fun r hr => by
  obtain ⟨T, _, j, _⟩ := h.c
  exact univ_szJ sh (goM_sub I (j.sub r hr).1)
theorem Bt.len {w : World} {v : Value} {Q : List Raw} {L : List Ent} {a E : List Bm} (h : Bt Q L a E) (I : Ixs w v Q L) : E.length ≤ L.length := by
  obtain ⟨T, _, _, hl⟩ := h.c
  exact Nat.le_trans hl (goM_lenJ I T)
/-- Newer versions require no less. -/
def RiseP (L : List Ent) : Prop := ∀ i k (hi : i < L.length) (hk : k < L.length), i < k → L[i].1.1 = L[k].1.1 → undB L[i].2.1 L[k].2.1 = true
theorem univ_at {w : World} {v : Value} {Q : List Raw} {L : List Ent} (I : Ixs w v Q L) {m : Bm} (hm : m ∈ univ L) : ∃ i, ∃ hi : i < L.length, L[i].1 = m ∧ reqQ Q L m = L[i].2.1 := by
  obtain ⟨k, hk⟩ := (found_iff I m).1 hm
  obtain ⟨h1, h2⟩ := idx_is hk
  have h3 : k < L.length := by rw [← I.ln]; exact h1
  refine ⟨k, h3, ?_, reqQ_at hk h3⟩
  rw [← (I.ok k h1 h3).m]
  have := of_decide_eq_true h2
  exact Prod.ext this.1 this.2
theorem hasV_up {sel : List Bm} {m r : Bm} (hr : ∀ x, x ∈ sel → mErr x = 0) (hm0 : mErr m = 0) (hr0 : mErr r = 0) (hp : r.1 = m.1) (ho : ordV (vb m) (vb r) ≤ 0) (h : hasV sel r = true) : hasV sel m = true := by
  obtain ⟨s, h1, h2⟩ := hasV_iff.1 h
  have hs := hr s (atP_mem h1).1
  rw [hp] at h1
  exact hasV_iff.2 ⟨s, h1, (less_le hs hm0).2 (ordV_le_trans (mErr_zero hm0).2 (mErr_zero hr0).2 (mErr_zero hs).2 ho ((less_le hs hr0).1 h2))⟩
/-- Where newer versions require no less, what is reached is under each selection that is closed. -/
theorem rch_under {w : World} {v : Value} {Q : List Raw} {L : List Ent} {roots sel : List Bm} (I : Ixs w v Q L) (h0 : (chkC Q L roots sel).1 = 0) (hc : closB Q L roots sel = true) (hR : RiseP L) {m : Bm} (hm : Rch (reqQ Q L) roots m) : hasV sel m = true := by
  obtain ⟨hg, hsu, _⟩ := chkC_good I h0
  have hchk := (rgt_of I hg).c
  have rt := univ_right hchk
  unfold closB at hc
  rw [Bool.and_eq_true] at hc
  have hsel := List.all_eq_true.1 hc.2
  induction hm with
  | root hr => exact List.all_eq_true.1 hc.1 _ hr
  | @step p m hp hr ih =>
    have hpu := rch_univ I hg hp
    have hmu := chk_reqs0 I hchk p hpu m hr
    obtain ⟨s, hs1, hs2⟩ := hasV_iff.1 ih
    obtain ⟨hs3, hs4⟩ := atP_mem hs1
    have hsU := hsu s hs3
    have hsr := List.all_eq_true.1 (hsel s hs3)
    obtain ⟨i, hi, ei, qi⟩ := univ_at I hpu
    obtain ⟨k, hk, ek, qk⟩ := univ_at I hsU
    have hle := (less_le (rt s hsU) (rt p hpu)).1 hs2
    rcases Nat.lt_trichotomy i k with hik | hik | hik
    · have hu := hR i k hi hk hik (by rw [ei, ek]; exact hs4.symm)
      rw [← qi, ← qk] at hu
      obtain ⟨r, hr1, hr2⟩ := hasV_iff.1 (List.all_eq_true.1 hu m hr)
      obtain ⟨hr3, hr4⟩ := atP_mem hr1
      have hrU := chk_reqs0 I hchk s hsU r hr3
      exact hasV_up (fun x hx => rt x (hsu x hx)) (rt m hmu) (rt r hrU) hr4 ((less_le (rt r hrU) (rt m hmu)).1 hr2) (hsr r hr3)
    · subst hik
      have : p = s := ei.symm.trans ek
      subst this
      exact hsr m hr
    · have ha := List.pairwise_iff_getElem.1 (univ_rises hchk) k i (by simpa [univ] using hk) (by simpa [univ] using hi) hik
      simp only [univ, List.getElem_map] at ha
      rw [ei, ek, ahead_same hs4, less_right (mErr_zero (rt s hsU)).2 (mErr_zero (rt p hpu)).2] at ha
      have ha : ordV (vb s) (vb p) < 0 := of_decide_eq_true ha
      rw [ordV_swap (vb s) (vb p)] at hle
      omega
theorem Bt.least {w : World} {v : Value} {Q : List Raw} {L : List Ent} {roots sel E : List Bm} (I : Ixs w v Q L) (h : Bt Q L roots E) (h0 : (chkC Q L roots sel).1 = 0) (hc : closB Q L roots sel = true) (hR : RiseP L) : undB E sel = true := by
  unfold undB
  rw [List.all_eq_true]
  exact fun m hm => rch_under I h0 hc hR (h.in_ I hm)
end Ve
end Go.Proofs.YtoaobngpdaidoaaGreatDoor

/-
  What has and IsUnder of the document's answer say; what rises of the statements says.
-/
namespace Go.Proofs.YtoaobngpdaidoaaGreatDoor
open Go.RowKit Go.Maps
namespace Ve

theorem fpOf_kind (L : List Bm) (p : ByteArray) : (fpOf L p = -1 ∧ ∀ x, x ∈ L → decide (x.1 = p) = false) ∨ ∃ k, ∃ hk : k < L.length, fpOf L p = (k : Int) ∧ decide (L[k].1 = p) = true ∧ ∀ j (hj : j < L.length), j < k → decide (L[j].1 = p) = false := by
  unfold fpOf
  cases h : fstE (fpE L p) L.length with
  | none =>
    refine Or.inl ⟨rfl, fun x hx => decide_eq_false fun e => ?_⟩
    obtain ⟨j, hj, rfl⟩ := List.getElem_of_mem hx
    have := fstE_of_none h j hj
    rw [fpE_at hj, if_pos e] at this; cases this
  | some k =>
    obtain ⟨h1, h2, h3⟩ := fstE_of_some h
    refine Or.inr ⟨k, h1, rfl, decide_eq_true ?_, fun j hj hjk => decide_eq_false fun e => ?_⟩
    · rw [fpE_at h1] at h2
      by_cases e : L[k].1 = p
      · exact e
      · rw [if_neg e] at h2; exact absurd rfl h2
    · have := h3 j hjk
      rw [fpE_at hj, if_pos e] at this; cases this
set_option maxRecDepth 100000 in
set_option maxHeartbeats 2000000 in
/-- pewholderref2.has. -/
theorem has2_any (B : List Bm) (m : Bm) (v : Value) (w : World) (hB : B.length ≤ 1000000) (hs : ∀ x, x ∈ B → x.2.size < 999999) (hm : m.2.size < 999999) (hv : MsAt w v B) :
    Calls Tryz.prog 44 #[v, .agg #[.string m.1, .string m.2]] w fun e w' => e = .returned (.bool (hasV B m)) ∧ Below w.heap.size w w' := by
  obtain ⟨p, q⟩ := m
  simp only at hm
  have HB0 := hid ((Below.refl w.heap.size w).alloc (Nat.le_refl _) (.cells #[.string p, .string q] 46))
  have HF := hid (fp_is B p v _ hB (hv.below HB0.out))
  obtain ⟨va, vc, hv1, _, hvc⟩ := id hv
  subst hv1
  rcases fpOf_kind B p with ⟨e1, h2⟩ | ⟨k, hk, e1, h2, h3⟩
  · have HX := hid (hasV_none (m := (p, q)) h2)
    rw [e1] at HF
    clear hv hvc e1 h2
    go_enter Tryz.func44, Tryz.ntmps44
    go_wp2_with fail
    refine HF.out.mono ?_
    rintro e w1 ⟨rfl, rfl⟩
    go_wp2_with fail
    go_ret
    exact ⟨ret_bool (by rw [HX.out]), HB0.out⟩
  · have HX := hid (hasV_some (m := (p, q)) hk h2 h3)
    rw [e1] at HF
    obtain ⟨bb, o, hva, hcell⟩ := hvc (fun e => by rw [e] at hk; exact absurd hk (Nat.not_lt_zero _))
    subst hva
    have HC := hid (hcell k hk)
    have hz := hs B[k] (List.getElem_mem hk)
    have hk0 : ¬ (k : Int) < 0 := by omega
    have hkI : (k : Int) < (B.length : Int) := by omega
    generalize B[k] = x at *
    obtain ⟨x1, x2⟩ := x
    simp only at hz
    have HL := hid (fun W => isLess_any x2 q W hz hm)
    have y0 := cell_below HB0.out HC.out.1
    have y1 := cell_below HB0.out HC.out.2
    clear hv hvc e1 h2 h3 hcell hs
    go_enter Tryz.func44, Tryz.ntmps44
    go_wp2_with fail
    refine HF.out.mono ?_
    rintro e w1 ⟨rfl, rfl⟩
    obtain ⟨Wa, hWa⟩ : ∃ Wa, w.alloc (.cells #[.string p, .string q] 46) = Wa := ⟨_, rfl⟩
    have b0 : Wa.cell? ⟨w.heap.size, 0, none⟩ = some (.string p) := by rw [← hWa]; simp
    have b1 : Wa.cell? ⟨w.heap.size, 1, none⟩ = some (.string q) := by rw [← hWa]; simp
    rw [hWa] at HB0 y0 y1 ⊢
    have HT := hid (fun W' (hW : Below Wa.heap.size Wa W') => (show (fun W' => W'.cell? ⟨bb, o + k * 2, none⟩ = some (.string x1) ∧ W'.cell? ⟨bb, o + k * 2 + 1, none⟩ = some (.string x2) ∧ W'.cell? ⟨w.heap.size, 0, none⟩ = some (.string p) ∧ W'.cell? ⟨w.heap.size, 1, none⟩ = some (.string q) ∧ Hid (Below Wa.heap.size Wa W')) W' from ⟨cell_below hW y0, cell_below hW y1, cell_below hW b0, cell_below hW b1, hid hW⟩))
    clear hWa
    go_wp2_with fail
    go_region_held (fun W' => W'.cell? ⟨bb, o + k * 2, none⟩ = some (.string x1) ∧ W'.cell? ⟨bb, o + k * 2 + 1, none⟩ = some (.string x2) ∧ W'.cell? ⟨w.heap.size, 0, none⟩ = some (.string p) ∧ W'.cell? ⟨w.heap.size, 1, none⟩ = some (.string q) ∧ Hid (Below Wa.heap.size Wa W')) (first | exact HT.out _ HRa.out | exact HT.out _ (below_drawn _ 1)) (first
      | (go_at_call 59; refine (HL.out _).mono ?_; rintro e w' ⟨rfl, hb⟩; have HRa := hid ((below_drawn Wa 1).trans (hb.mono (Nat.le_refl _))); clear hb))
    all_goals
      have HB := hid (HB0.out.trans (HRa.out.mono HB0.out.size))
      go_wp2_with fail
      go_ret
      exact ⟨ret_bool (by rw [HX.out]), HB.out⟩
set_option maxHeartbeats 2000000 in
theorem isU_some (X B : List Bm) (b o c : Nat) (v : Value) (w : World) (hX : X.length ≤ 1000000) (hB : B.length ≤ 1000000) (hsX : ∀ x, x ∈ X → x.2.size < 999999) (hs : ∀ x, x ∈ B → x.2.size < 999999)
    (hc : ∀ j (h : j < X.length), w.cell? ⟨b, o + j * 2, none⟩ = some (.string X[j].1) ∧ w.cell? ⟨b, o + j * 2 + 1, none⟩ = some (.string X[j].2)) (hv : MsAt w v B) :
    Calls Tryz.prog 18 #[.slice (some ⟨b, o, none⟩) X.length c, v] w fun e w' => e = .returned (.bool (undB X B)) ∧ Below w.heap.size w w' := by
  have HC := hid hc
  have HH := hid (fun (m : Bm) (hm : m ∈ X) W (h : Below w.heap.size w W) => has2_any B m v W hB hs (hsX m hm) (hv.below h))
  have HT := hid (show (∀ j (h : j < X.length), hasV B X[j] = true) → undB X B = true from fun h => by
    unfold undB
    rw [List.all_eq_true]
    intro x hx
    obtain ⟨j, hj, rfl⟩ := List.getElem_of_mem hx
    exact h j hj)
  have HN := hid (show ∀ j (h : j < X.length), hasV B X[j] = false → undB X B = false from fun j hj h => by
    cases hu : undB X B
    · rfl
    · have := List.all_eq_true.1 hu X[j] (List.getElem_mem hj)
      rw [h] at this; cases this)
  obtain ⟨va, vc, hv1, -⟩ := id hv
  subst hv1
  generalize undB X B = z at *
  clear hc hv hs hsX
  go_enter Tryz.func18, Tryz.ntmps18
  go_wp2_with fail
  go_loopw [5] (fun i wr => ∃ k : Nat, k ≤ X.length ∧ i = .int .i64 k ∧ Hid (∀ j (h : j < X.length), j < k → hasV B X[j] = true) ∧ Hid (Below w.heap.size w wr)) (fun i _ => X.length - (intOf i).toNat)
  case atStart => exact ⟨0, Nat.zero_le _, rfl, hid (fun j _ hj => absurd hj (Nat.not_lt_zero _)), hid (Below.refl _ _)⟩
  case round =>
    obtain ⟨k, hk, rfl, HE, HBW⟩ := hrel
    by_cases hlt : k < X.length
    · have hx := cell_below HBW.out (HC.out k hlt).1
      have hy := cell_below HBW.out (HC.out k hlt).2
      have hkI : (k : Int) < (X.length : Int) := by omega
      have HLT := hid hlt
      have HHK := hid (HH.out X[k] (List.getElem_mem hlt) wr HBW.out)
      have HNX := hid (show hasV B X[k] = true → ∀ j (h : j < X.length), j < k + 1 → hasV B X[j] = true from fun h0 j h1 h3 => by
        rcases Nat.lt_or_ge j k with h | h
        · exact HE.out j h1 h
        · have : j = k := by omega
          subst this; exact h0)
      have HNK := hid (HN.out k hlt)
      generalize X[k] = x at *
      obtain ⟨x1, x2⟩ := x
      clear hlt
      cases hh : hasV B (x1, x2)
      · rw [hh] at HHK
        have HZ := hid (HNK.out hh)
        clear hh
        go_wp2_with fail
        refine HHK.out.mono ?_
        rintro e w1 ⟨rfl, hb⟩
        have HB1 := hid (HBW.out.trans (hb.mono HBW.out.size))
        clear hb
        go_wp2_with fail
        go_ret
        exact ⟨by rw [HZ.out]; rfl, HB1.out⟩
      · rw [hh] at HHK
        have HN2 := hid (HNX.out hh)
        clear hh
        go_wp2_with fail
        refine HHK.out.mono ?_
        rintro e w1 ⟨rfl, hb⟩
        have HB1 := hid (HBW.out.trans (hb.mono HBW.out.size))
        clear hb
        go_wp2_with fail
        go_roundw
        case rel => first | exact ⟨k + 1, HLT.out, nr_idx k, HN2, HB1⟩ | exact ⟨k + 1, HLT.out, nx_idx HLT.out hX, HN2, HB1⟩
        case measure => first | exact nr_meas HLT.out | exact nx_meas HLT.out hX
    · have hkI : ¬ (k : Int) < (X.length : Int) := by omega
      have HZ := hid (HT.out (fun j h => HE.out j h (by omega)))
      go_wp2_with fail
      go_ret
      exact ⟨by rw [HZ.out]; rfl, HBW.out⟩
theorem isU_none (a : Option Addr) (c : Nat) (v : Value) (B : List Bm) (w : World) (hv : MsAt w v B) : Calls Tryz.prog 18 #[.slice a 0 c, v] w fun e w' => e = .returned (.bool true) ∧ Below w.heap.size w w' := by
  obtain ⟨va, vc, hv1, -⟩ := id hv
  subst hv1
  clear hv
  go_enter Tryz.func18, Tryz.ntmps18
  go_wp2_with fail
  go_loopw [5] (fun i wr => i = .int .i64 0 ∧ wr = w) (fun i _ => 0)
  case atStart => exact ⟨rfl, rfl⟩
  case round =>
    obtain ⟨rfl, rfl⟩ := hrel
    go_wp2_with fail
    go_ret
    exact ⟨rfl, Below.refl _ _⟩
/-- pewholderref2.IsUnder. -/
theorem isU_any (X B : List Bm) (u v : Value) (w : World) (hX : X.length ≤ 1000000) (hB : B.length ≤ 1000000) (hsX : ∀ x, x ∈ X → x.2.size < 999999) (hs : ∀ x, x ∈ B → x.2.size < 999999) (hu : MsAt w u X) (hv : MsAt w v B) :
    Calls Tryz.prog 18 #[u, v] w fun e w' => e = .returned (.bool (undB X B)) ∧ Below w.heap.size w w' := by
  obtain ⟨a, c, rfl, _, h⟩ := hu
  cases X with
  | nil => exact isU_none a c v B w hv
  | cons x r =>
    obtain ⟨b, o, rfl, h2⟩ := h (by simp)
    exact isU_some (x :: r) B b o c v w hX hB hsX hs h2 hv
end Ve
end Go.Proofs.YtoaobngpdaidoaaGreatDoor

/-
  What rises of the statements says: does a newer version require no less?
-/
namespace Go.Proofs.YtoaobngpdaidoaaGreatDoor
open Go.RowKit Go.Maps
namespace Ve

theorem es_modJ {W : World} {b o n c : Nat} {Q : List Raw} (h : EsAt W (.slice (some ⟨b, o, none⟩) n c) Q) {k : Nat} (hk : k < Q.length) : W.cell? ⟨b, o + k * 5, none⟩ = some (.string Q[k].1.1) ∧ W.cell? ⟨b, o + k * 5 + 2, none⟩ = some Q[k].2.1 := by
  obtain ⟨a', c', e, _, _, h⟩ := h
  injection e with e1 e2 e3
  subst e1
  obtain ⟨b', o', e4, h4⟩ := h (by intro h0; rw [h0] at hk; simp at hk)
  injection e4 with e4
  injection e4 with e5 e6
  subst e5 e6
  exact ⟨(h4 k hk).1, (h4 k hk).2.2.1⟩
set_option maxRecDepth 100000 in
set_option maxHeartbeats 4000000 in
theorem rises_some (Q : List Raw) (L : List Ent) (b o c : Nat) (w : World) (hn : L.length ≤ 1000) (sh : ∀ e, e ∈ L → ShE e) (I : Ixs w (.slice (some ⟨b, o, none⟩) Q.length c) Q L) :
    Calls Tryz.prog 30 #[.slice (some ⟨b, o, none⟩) Q.length c] w fun e w' => ∃ z, e = .returned (.bool z) ∧ (z = true → RiseP L) ∧ Below w.heap.size w w' := by
  have hq : Q.length ≤ 1000 := by rw [I.ln]; exact hn
  have HI := hid I
  have HSH := hid sh
  clear I sh
  go_enter Tryz.func30, Tryz.ntmps30
  go_wp2_with fail
  go_loopw [3] (fun iv wr => ∃ i : Nat, i ≤ Q.length ∧ iv = .int .i64 i ∧ Hid (∀ x y (hx : x < L.length) (hy : y < L.length), x < i → x < y → L[x].1.1 = L[y].1.1 → undB L[x].2.1 L[y].2.1 = true) ∧ Hid (Below w.heap.size w wr)) (fun iv _ => Q.length - (intOf iv).toNat)
  case atStart => exact ⟨0, Nat.zero_le _, rfl, hid (fun x _ _ _ h => absurd h (Nat.not_lt_zero _)), hid (Below.refl _ _)⟩
  case round =>
    obtain ⟨i, hi, rfl, HE, HB⟩ := hrel
    by_cases hlt : i < Q.length
    · have hiI : (i : Int) < (Q.length : Int) := by omega
      have hi0 : (0 : Int) ≤ (i : Int) := by omega
      have HLI := hid hlt
      clear hlt
      go_wp2_with fail
      go_loopw [4] (fun kv wr => ∃ k : Nat, i + 1 ≤ k ∧ k ≤ Q.length ∧ kv = .int .i64 k ∧ Hid (∀ y (hx : i < L.length) (hy : y < L.length), y < k → i < y → L[i].1.1 = L[y].1.1 → undB L[i].2.1 L[y].2.1 = true) ∧ Hid (Below w.heap.size w wr)) (fun kv _ => Q.length - (intOf kv).toNat)
      case atStart => exact ⟨i + 1, Nat.le_refl _, HLI.out, by go_num, hid (fun y _ _ h1 h2 => by omega), HB⟩
      case round =>
        obtain ⟨k, hik, hk, rfl, HF, HBW⟩ := hrel
        by_cases hlk : k < Q.length
        · have hkI : (k : Int) < (Q.length : Int) := by omega
          have hk0 : (0 : Int) ≤ (k : Int) := by omega
          have HLK := hid hlk
          have hlii := HLI.out
          have hil : i < L.length := by rw [← HI.out.ln]; exact HLI.out
          have hkl : k < L.length := by rw [← HI.out.ln]; exact hlk
          have HII := hid (HI.out.below HBW.out)
          obtain ⟨y0, y1⟩ := es_modJ HII.out.es hlii
          obtain ⟨z0, z1⟩ := es_modJ HII.out.es hlk
          have HMI := hid (fun W (h : Below w.heap.size w W) => ((HI.out.below h).ok i hlii hil).rq)
          have HMK := hid (fun W (h : Below w.heap.size w W) => ((HI.out.below h).ok k hlk hkl).rq)
          have HSI := hid (HSH.out L[i] (List.getElem_mem hil))
          have HSK := hid (HSH.out L[k] (List.getElem_mem hkl))
          have HPI := hid (show Q[i].1.1 = L[i].1.1 from congrArg Prod.fst (HII.out.ok i hlii hil).m)
          have HPK := hid (show Q[k].1.1 = L[k].1.1 from congrArg Prod.fst (HII.out.ok k hlk hkl).m)
          have HNX := hid (show (L[i].1.1 = L[k].1.1 → undB L[i].2.1 L[k].2.1 = true) → ∀ y (hx : i < L.length) (hy : y < L.length), y < k + 1 → i < y → L[i].1.1 = L[y].1.1 → undB L[i].2.1 L[y].2.1 = true from fun h0 y hx hy h1 h2 h3 => by
            rcases Nat.lt_or_ge y k with h | h
            · exact HF.out y hx hy h h2 h3
            · have : y = k := by omega
              subst this; exact h0 h3)
          rw [← HPI.out, ← HPK.out] at HNX
          have HRI := hid (show L[i].2.1.length ≤ 1000000 ∧ ∀ x, x ∈ L[i].2.1 → x.2.size < 999999 from ⟨HSI.out.rn, fun x hx => (HSI.out.rs x hx).2⟩)
          have HRK := hid (show L[k].2.1.length ≤ 1000000 ∧ ∀ x, x ∈ L[k].2.1 → x.2.size < 999999 from ⟨HSK.out.rn, fun x hx => (HSK.out.rs x hx).2⟩)
          clear HSI HSK HPI HPK
          generalize (L[i]'hil).2.1 = Ri at *
          generalize (L[k]'hkl).2.1 = Rk at *
          generalize (Q[i]'hlii).1.1 = pi at *
          generalize (Q[k]'hlk).1.1 = pk at *
          generalize (Q[i]'hlii).2.1 = vi at *
          generalize (Q[k]'hlk).2.1 = vk at *
          obtain ⟨ria, ric, hvi, -⟩ := HMI.out w (Below.refl _ _)
          subst hvi
          obtain ⟨rka, rkc, hvk, -⟩ := HMK.out w (Below.refl _ _)
          subst hvk
          have HU := hid (fun W (h : Below w.heap.size w W) => isU_any Ri Rk _ _ W HRI.out.1 HRK.out.1 HRI.out.2 HRK.out.2 (HMI.out W h) (HMK.out W h))
          clear hlk hlii HII
          by_cases hp : pi = pk
          · subst hp
            have he := str_refl pi
            go_wp2_with fail
            go_quiet (fail)
            have HBX := hid (below_drawn_of HBW.out nq)
            have HTX := hid (fun W' (hW : Below wr.heap.size wr W') => (show W'.cell? ⟨b, o + i * 5, none⟩ = some (.string pi) ∧ W'.cell? ⟨b, o + i * 5 + 2, none⟩ = some (.slice ria Ri.length ric) ∧ W'.cell? ⟨b, o + k * 5, none⟩ = some (.string pi) ∧ W'.cell? ⟨b, o + k * 5 + 2, none⟩ = some (.slice rka Rk.length rkc) from ⟨cell_below hW y0, cell_below hW y1, cell_below hW z0, cell_below hW z1⟩))
            obtain ⟨q0, q1, q2, q3⟩ := HTX.out _ (below_drawn wr nq)
            obtain ⟨wx, hwx⟩ : ∃ wx, wr.drewN nq = wx := ⟨_, rfl⟩
            rw [hwx] at HBX q0 q1 q2 q3 ⊢
            clear hwx y0 y1 z0 z1
            have HT := hid (fun W' (hW : Below wx.heap.size wx W') => (show (fun W' => W'.cell? ⟨b, o + i * 5, none⟩ = some (.string pi) ∧ W'.cell? ⟨b, o + i * 5 + 2, none⟩ = some (.slice ria Ri.length ric) ∧ W'.cell? ⟨b, o + k * 5, none⟩ = some (.string pi) ∧ W'.cell? ⟨b, o + k * 5 + 2, none⟩ = some (.slice rka Rk.length rkc) ∧ Hid (Below wx.heap.size wx W')) W' from ⟨cell_below hW q0, cell_below hW q1, cell_below hW q2, cell_below hW q3, hid hW⟩))
            have HW := hid (fun W' (hW : Below wx.heap.size wx W') => HBX.out.trans (hW.mono HBX.out.size))
            cases hu : undB Ri Rk
            · rw [hu] at HU
              clear hu
              go_wp2_with fail
              go_region_held (fun W' => W'.cell? ⟨b, o + i * 5, none⟩ = some (.string pi) ∧ W'.cell? ⟨b, o + i * 5 + 2, none⟩ = some (.slice ria Ri.length ric) ∧ W'.cell? ⟨b, o + k * 5, none⟩ = some (.string pi) ∧ W'.cell? ⟨b, o + k * 5 + 2, none⟩ = some (.slice rka Rk.length rkc) ∧ Hid (Below wx.heap.size wx W')) (first | exact HT.out _ HRa.out | exact HT.out _ (below_drawn _ 1)) (first
                | (go_at_call 18; refine (HU.out _ (HW.out _ (below_drawn _ 1))).mono ?_; rintro e w' ⟨rfl, hb⟩; have HRa := hid ((below_drawn wx 1).trans (hb.mono (Nat.le_refl _))); clear hb))
              all_goals
                have HBe := hid (HW.out _ HRa.out)
                go_wp2_with fail
                go_ret
                first | exact ⟨false, rfl, (fun h => absurd h (by decide)), HBe.out⟩ | exact Or.inl ⟨rfl, HBe.out⟩
            · rw [hu] at HU
              have HN2 := hid (HNX.out (fun _ => hu))
              clear hu
              go_wp2_with fail
              go_region_held (fun W' => W'.cell? ⟨b, o + i * 5, none⟩ = some (.string pi) ∧ W'.cell? ⟨b, o + i * 5 + 2, none⟩ = some (.slice ria Ri.length ric) ∧ W'.cell? ⟨b, o + k * 5, none⟩ = some (.string pi) ∧ W'.cell? ⟨b, o + k * 5 + 2, none⟩ = some (.slice rka Rk.length rkc) ∧ Hid (Below wx.heap.size wx W')) (first | exact HT.out _ HRa.out | exact HT.out _ (below_drawn _ 1)) (first
                | (go_at_call 18; refine (HU.out _ (HW.out _ (below_drawn _ 1))).mono ?_; rintro e w' ⟨rfl, hb⟩; have HRa := hid ((below_drawn wx 1).trans (hb.mono (Nat.le_refl _))); clear hb))
              all_goals
                have HBe := hid (HW.out _ HRa.out)
                go_wp2_with fail
                go_roundw
                case rel => first | exact ⟨k + 1, by omega, HLK.out, nr_idx k, HN2, HBe⟩ | exact ⟨k + 1, by omega, HLK.out, nx_idx HLK.out (by omega), HN2, HBe⟩
                case measure => first | exact nr_meas HLK.out | exact nx_meas HLK.out (by omega)
          · have he := str_ne hp
            have HN2 := hid (HNX.out (fun h => absurd h hp))
            clear hp
            go_wp2_with fail
            go_quiet (fail)
            have HBX := hid (below_drawn_of HBW.out nq)
            go_wp2_with fail
            go_roundw
            case rel => first | exact ⟨k + 1, by omega, HLK.out, nr_idx k, HN2, HBX⟩ | exact ⟨k + 1, by omega, HLK.out, nx_idx HLK.out (by omega), HN2, HBX⟩
            case measure => first | exact nr_meas HLK.out | exact nx_meas HLK.out (by omega)
        · have hkI : ¬ (k : Int) < (Q.length : Int) := by omega
          have HE2 := hid (show ∀ x y (hx : x < L.length) (hy : y < L.length), x < i + 1 → x < y → L[x].1.1 = L[y].1.1 → undB L[x].2.1 L[y].2.1 = true from fun x y hx hy h1 h2 h3 => by
            rcases Nat.lt_or_ge x i with h | h
            · exact HE.out x y hx hy h h2 h3
            · have : x = i := by omega
              subst this
              exact HF.out y hx hy (by have := HI.out.ln; omega) h2 h3)
          clear hlk
          go_wp2_with fail
          go_roundw
          case rel => first | exact ⟨i + 1, HLI.out, nr_idx i, HE2, HBW⟩ | exact ⟨i + 1, HLI.out, nx_idx HLI.out (by omega), HE2, HBW⟩
          case measure => first | exact nr_meas HLI.out | exact nx_meas HLI.out (by omega)
    · have hiI : ¬ (i : Int) < (Q.length : Int) := by omega
      have HR := hid (show RiseP L from fun x y hx hy hxy h => HE.out x y hx hy (by have := HI.out.ln; omega) hxy h)
      clear hlt
      go_wp2_with fail
      go_ret
      first | exact ⟨true, rfl, fun _ => HR.out, HB.out⟩ | exact Or.inr ⟨rfl, HR.out, HB.out⟩
theorem rises_none (a : Option Addr) (c : Nat) (w : World) : Calls Tryz.prog 30 #[.slice a 0 c] w fun e w' => e = .returned (.bool true) ∧ Below w.heap.size w w' := by
  go_enter Tryz.func30, Tryz.ntmps30
  go_wp2_with fail
  go_loopw [3] (fun i wr => i = .int .i64 0 ∧ wr = w) (fun i _ => 0)
  case atStart => exact ⟨rfl, rfl⟩
  case round =>
    obtain ⟨rfl, rfl⟩ := hrel
    go_wp2_with fail
    go_ret
    exact ⟨rfl, Below.refl _ _⟩
/-- pewholderlaw2.rises. -/
theorem rises_any (Q : List Raw) (L : List Ent) (v : Value) (w : World) (hn : L.length ≤ 1000) (sh : ∀ e, e ∈ L → ShE e) (I : Ixs w v Q L) :
    Calls Tryz.prog 30 #[v] w fun e w' => ∃ z, e = .returned (.bool z) ∧ (z = true → RiseP L) ∧ Below w.heap.size w w' := by
  obtain ⟨a, c, rfl, _, _, h⟩ := id I.es
  by_cases hQ : Q = []
  · subst hQ
    have hl : L = [] := List.length_eq_zero_iff.1 I.ln.symm
    subst hl
    exact (rises_none a c w).mono fun _ _ h => ⟨true, h.1, fun _ i k hi => absurd hi (Nat.not_lt_zero _), h.2⟩
  · obtain ⟨b, o, rfl, _⟩ := h hQ
    exact rises_some Q L b o c w hn sh I
end Ve
end Go.Proofs.YtoaobngpdaidoaaGreatDoor

/-
  pewholderlaw2.MvsLeast walked: what is built is closed, and where newer versions require no less it is under each selection that is closed.
-/
namespace Go.Proofs.YtoaobngpdaidoaaGreatDoor
open Go.RowKit Go.Maps
namespace Ve

set_option maxRecDepth 100000 in
set_option maxHeartbeats 8000000 in
theorem ml_head (Q0 : List Raw) (L : List Ent) (ra rb rs : List Bm) (v u s t : Value) (A : Nat → Addr) (m : Int) (w : World) (S : Te w A m) (I : Ixs w v Q0 L) (em : EmI Q0 L) (hr : MsAt w u ra) (her : Em u ra) (hr2 : MsAt w s rb) (her2 : Em s rb) (hr3 : MsAt w t rs) (her3 : Em t rs) (hok : okI L = true) (hrk : okLN 15 ra = true) (hrk2 : okLN 15 rb = true) (hrk3 : okLN 15 rs = true) :
    Calls Tryz.prog 6 #[v, u, s, t] w fun e w' => e = .returned (.bool true) ∧ Below w.heap.size w w' := by
  obtain ⟨a0, c0, hv0, -⟩ := id I.es
  subst hv0
  obtain ⟨aa, ac, hu0, -⟩ := id hr
  subst hu0
  obtain ⟨ba, bc, hs0, -⟩ := id hr2
  subst hs0
  obtain ⟨ta, tc, ht0, -⟩ := id hr3
  subst ht0
  have hn101 : L.length ≤ 101 := by rcases (okI_iff hok).1 with h | h <;> omega
  have ha15 : ra.length ≤ 15 := (okLN_iff hrk).1
  have hb15 : rb.length ≤ 15 := (okLN_iff hrk2).1
  have hs15 : rs.length ≤ 15 := (okLN_iff hrk3).1
  have HZA := hid (okLN_iff hrk).2
  have HZS := hid (okLN_iff hrk3).2
  have HIN := hid (built_any A m w S)
  have HLO := hid (fun W (h : Below w.heap.size w W) => longI_any Q0 L _ W (I.below h))
  rw [if_pos hok] at HLO
  have HLM := hid (fun W (h : Below w.heap.size w W) => longN_any 15 (by decide) ra _ W (hr.below h))
  rw [if_pos hrk] at HLM
  have HLM2 := hid (fun W (h : Below w.heap.size w W) => longN_any 15 (by decide) rb _ W (hr2.below h))
  rw [if_pos hrk2] at HLM2
  have HLM3 := hid (fun W (h : Below w.heap.size w W) => longN_any 15 (by decide) rs _ W (hr3.below h))
  rw [if_pos hrk3] at HLM3
  have HOW := hid (fun W (h : Below w.heap.size w W) => ownI_any Q0 L _ W (by omega) (I.below h) em (okI_fits hok))
  have HOM := hid (fun W (h : Below w.heap.size w W) => ownM_any _ ra W (by omega) (hr.below h) her)
  have HOM3 := hid (fun W (h : Below w.heap.size w W) => ownM_any _ rs W (by omega) (hr3.below h) her3)
  have HS := hid S
  have HR2 := hid hr2
  have HER2 := hid her2
  have HSH := hid (okI_sh hok)
  have HRI := hid (fun W (h : Below w.heap.size w W) => rises_any Q0 L _ W (by omega) (okI_sh hok) (I.below h))
  clear S I em hok hr her hr2 her2 hr3 her3 hrk hrk2 hrk3
  go_enter Tryz.func6, Tryz.ntmps6
  go_wp2_with fail
  refine HIN.out.mono ?_
  rintro e w1 ⟨rfl, hb⟩
  have HB1 := hid hb
  clear hb
  go_wp2_with fail
  refine (HLO.out w1 HB1.out).mono ?_
  rintro e w2 ⟨rfl, hb⟩
  have HB2 := hid (HB1.out.trans (hb.mono HB1.out.size))
  clear hb
  go_wp2_with fail
  refine (HLM.out w2 HB2.out).mono ?_
  rintro e w2a ⟨rfl, rfl⟩
  go_wp2_with fail
  refine (HLM2.out w2a HB2.out).mono ?_
  rintro e w2b ⟨rfl, rfl⟩
  go_wp2_with fail
  refine (HLM3.out w2b HB2.out).mono ?_
  rintro e w2c ⟨rfl, rfl⟩
  go_wp2_with fail
  refine (HOW.out w2c HB2.out).mono ?_
  rintro e w3 ⟨ou, Q, rfl, hO, hb⟩
  have HB3 := hid (HB2.out.trans (hb.mono HB2.out.size))
  have HIX3 := hid hO.ixs
  obtain ⟨oa, oc, hou, -⟩ := id hO.ixs.es
  subst hou
  clear hb hO HLO HLM HLM2 HLM3 HOW HIN HB1 HB2
  go_wp2_with fail
  refine (HOM.out w3 HB3.out).mono ?_
  rintro e w4 ⟨u4, rfl, ho4, -, hb⟩
  have HB4 := hid (HB3.out.trans (hb.mono HB3.out.size))
  have HIX4 := hid (HIX3.out.below hb)
  have HM4 := hid (own_ms ho4)
  obtain ⟨a4, c4, hu4⟩ := own_slN ho4
  subst hu4
  clear hb ho4 HB3 HIX3
  by_cases hca : (chkG Q L ra).1 = 0
  · have HCA := hid hca
    have HBU := hid (build_good Q L ra _ _ A m w4 (by omega) (by omega) HSH.out (HS.out.below HB4.out) HIX4.out HM4.out hca)
    clear hca
    go_wp2_with fail
    refine HBU.out.mono ?_
    rintro e w5 ⟨xu, X, rfl, hbt, hmx⟩
    have HBT := hid hbt
    have HB5 := hid (HB4.out.trans (hmx.1.mono HB4.out.size))
    have HIX5 := hid (HIX4.out.below hmx.1)
    have HMX5 := hid hmx.ms
    have HEX := hid hmx.em
    have hXl : X.length ≤ 101 := by have := hbt.len HIX5.out; omega
    have HXS := hid (hbt.sz HIX5.out HSH.out)
    have HCL := hid (hbt.closed HIX5.out HCA.out)
    have HXU := hid (show ∀ x, x ∈ X → x ∈ univ L from fun x hx => rch_univ HIX5.out HCA.out (hbt.in_ HIX5.out hx))
    obtain ⟨xa, xc, hxu⟩ := hmx.sl
    subst hxu
    clear hbt hmx HBU HB4 HIX4 HM4
    go_wp2_with fail
    refine (HOM.out w5 HB5.out).mono ?_
    rintro e w6 ⟨u6, rfl, ho6, -, hb⟩
    have HB6 := hid (HB5.out.trans (hb.mono HB5.out.size))
    have HIX6 := hid (HIX5.out.below hb)
    have HMX6 := hid (HMX5.out.below hb)
    have HM6 := hid (own_ms ho6)
    have HC1 := hid (closed_good Q L ra X _ _ _ A m w6 (by omega) (by omega) (by omega) HSH.out (HS.out.below HB6.out) HIX6.out HM6.out HMX6.out HEX.out HCL.out.1)
    rw [HCL.out.2] at HC1
    obtain ⟨a6, c6, hu6⟩ := own_slN ho6
    subst hu6
    clear hb ho6 HB5 HIX5 HMX5 HM6
    go_wp2_with fail
    refine HC1.out.mono ?_
    rintro e w7 ⟨rfl, hb⟩
    have HB7 := hid (HB6.out.trans (hb.mono HB6.out.size))
    have HIX7 := hid (HIX6.out.below hb)
    have HMX7 := hid (HMX6.out.below hb)
    clear hb HC1 HB6 HIX6 HMX6
    go_wp2_with fail
    refine (HOM.out w7 HB7.out).mono ?_
    rintro e w8 ⟨u8, rfl, ho8, -, hb⟩
    have HB8 := hid (HB7.out.trans (hb.mono HB7.out.size))
    have HIX8 := hid (HIX7.out.below hb)
    have HMX8 := hid (HMX7.out.below hb)
    have HM8 := hid (own_ms ho8)
    have HU1 := hid (und_any ra X _ _ A m w8 (by omega) (by omega) (fun x hx => by have := HZA.out x hx; omega) (fun x hx => (HXS.out x hx).2) (HS.out.below HB8.out) HM8.out HMX8.out)
    rw [HBT.out.has HIX8.out HCA.out (fun x hx => .root hx)] at HU1
    obtain ⟨a8, c8, hu8⟩ := own_slN ho8
    subst hu8
    clear hb ho8 HB7 HIX7 HMX7 HM8
    go_wp2_with fail
    refine HU1.out.mono ?_
    rintro e w9 ⟨rfl, hb⟩
    have HB9 := hid (HB8.out.trans (hb.mono HB8.out.size))
    have HIX9 := hid (HIX8.out.below hb)
    have HMX9 := hid (HMX8.out.below hb)
    have HCX := hid (show (chkG Q L X).1 = 0 from chkG_in HIX9.out (rgt_of HIX9.out HCA.out).c HXU.out)
    have HBU2 := hid (build_good Q L X _ _ A m w9 (by omega) (by omega) HSH.out (HS.out.below HB9.out) HIX9.out HMX9.out HCX.out)
    clear hb HU1 HB8 HIX8 HMX8
    go_wp2_with fail
    refine HBU2.out.mono ?_
    rintro e w10 ⟨yu, Y, rfl, hby, hmy⟩
    have hYX := HBT.out.again HIX9.out hby
    subst hYX
    have HB10 := hid (HB9.out.trans (hmy.1.mono HB9.out.size))
    have HIX10 := hid (HIX9.out.below hmy.1)
    have HMX10 := hid (HMX9.out.below hmy.1)
    have HSM := hid (sameM_any Y _ _ w10 (by omega) hmy.ms HMX10.out)
    obtain ⟨ya, yc, hyu⟩ := hmy.sl
    subst hyu
    clear hby hmy HBU2 HB9 HIX9 HMX9
    go_wp2_with fail
    refine HSM.out.mono ?_
    rintro e w11 ⟨rfl, hb⟩
    have HB11 := hid (HB10.out.trans (hb.mono HB10.out.size))
    have HIX11 := hid (HIX10.out.below hb)
    have HMX11 := hid (HMX10.out.below hb)
    clear hb HSM HB10 HIX10 HMX10
    go_wp2_with fail
    refine (HOM.out w11 HB11.out).mono ?_
    rintro e w12 ⟨bu, rfl, hbo, -, hb⟩
    obtain ⟨dv, w13, hrun, hown5, hgr5⟩ := both_run ra rb bu _ w12 w11.heap.size hb.size (by omega) (by omega) hbo (HR2.out.below (HB11.out.trans (hb.mono HB11.out.size))) HER2.out
    obtain ⟨rab, hrab⟩ : ∃ rab, ra ++ rb = rab := ⟨_, rfl⟩
    rw [hrab] at hown5
    have HRAB := hid hrab
    have hrl : rab.length ≤ 1000000 := by rw [← hrab]; simp; omega
    clear hrab
    have HW := hid (show Below w11.heap.size w11 w13 from hb.grown hgr5 hb.size (fun k hk => (hbo.lt k hk).1))
    have HB13 := hid (HB11.out.trans (HW.out.mono HB11.out.size))
    have HIX13 := hid (HIX11.out.below HW.out)
    have HMX13 := hid (HMX11.out.below HW.out)
    have HDV := hid (own_ms hown5)
    have HRUN := hid hrun
    obtain ⟨bua, buc, hbu⟩ := own_slN hbo
    subst hbu
    obtain ⟨da, dc, hdv⟩ := own_slN hown5
    subst hdv
    clear hb hbo hown5 hgr5 hrun HW HB11 HIX11 HMX11
    go_wp2_with (at_builtin; refine Lib.wpList_append_run _ rfl _ _ _ _ rfl _ _ rfl rfl _ _ HRUN.out ?_)
    go_wp2_with fail
    by_cases hcb : (chkG Q L rab).1 = 0
    · have HCB := hid hcb
      have HBU3 := hid (build_good Q L rab _ _ A m w13 (by omega) hrl HSH.out (HS.out.below HB13.out) HIX13.out HDV.out hcb)
      clear hcb
      refine HBU3.out.mono ?_
      rintro e w14 ⟨zu, Z, rfl, hbz, hmz⟩
      have HB14 := hid (HB13.out.trans (hmz.1.mono HB13.out.size))
      have HIX14 := hid (HIX13.out.below hmz.1)
      have HMX14 := hid (HMX13.out.below hmz.1)
      have hZl : Z.length ≤ 101 := by have := hbz.len HIX14.out; omega
      have HU2 := hid (und_any Y Z _ _ A m w14 (by omega) (by omega) (fun x hx => (HXS.out x hx).2) (fun x hx => (hbz.sz HIX14.out HSH.out x hx).2) (HS.out.below HB14.out) HMX14.out hmz.ms)
      rw [HBT.out.more HIX14.out (b := rb) (F := Z) (by rw [HRAB.out]; exact hbz) (by rw [HRAB.out]; exact HCB.out)] at HU2
      obtain ⟨za, zc, hzu⟩ := hmz.sl
      subst hzu
      clear hbz hmz HBU3 HB13 HIX13 HMX13 HRUN HDV
      go_wp2_with fail
      refine HU2.out.mono ?_
      rintro e w15 ⟨rfl, hb⟩
      have HB15 := hid (HB14.out.trans (hb.mono HB14.out.size))
      have HIX15 := hid (HIX14.out.below hb)
      have HMX15 := hid (HMX14.out.below hb)
      clear hb HU2 HB14 HIX14 HMX14
      go_wp2_with fail
      refine (HOM.out w15 HB15.out).mono ?_
      rintro e w16 ⟨u16, rfl, ho16, -, hb⟩
      have HB16 := hid (HB15.out.trans (hb.mono HB15.out.size))
      have HIX16 := hid (HIX15.out.below hb)
      have HMX16 := hid (HMX15.out.below hb)
      have HM16 := hid (own_ms ho16)
      obtain ⟨a16, c16, hu16⟩ := own_slN ho16
      subst hu16
      clear hb ho16 HB15 HIX15 HMX15
      go_wp2_with fail
      refine (HOM3.out w16 HB16.out).mono ?_
      rintro e w17 ⟨u17, rfl, ho17, -, hb⟩
      have HB17 := hid (HB16.out.trans (hb.mono HB16.out.size))
      have HIX17 := hid (HIX16.out.below hb)
      have HMX17 := hid (HMX16.out.below hb)
      have HM17 := hid (HM16.out.below hb)
      have HMS17 := hid (mr_own ho17 hb)
      obtain ⟨a17, c17, hu17⟩ := own_slN ho17
      subst hu17
      clear hb ho17 HB16 HIX16 HMX16 HM16
      by_cases hcs : (chkC Q L ra rs).1 = 0
      · have HC2 := hid (closed_good Q L ra rs _ _ _ A m w17 (by omega) (by omega) (by omega) HSH.out (HS.out.below HB17.out) HIX17.out HM17.out HMS17.out.ms HMS17.out.em hcs)
        have HLE := hid (show closB Q L ra rs = true → RiseP L → undB Y rs = true from fun h1 h2 => HBT.out.least HIX17.out hcs h1 h2)
        clear hcs
        cases hcl : closB Q L ra rs
        · rw [hcl] at HC2
          clear hcl
          go_wp2_with fail
          refine HC2.out.mono ?_
          rintro e w18 ⟨rfl, hb⟩
          have HB18 := hid (HB17.out.trans (hb.mono HB17.out.size))
          clear hb
          go_wp2_with fail
          go_ret
          exact ⟨rfl, HB18.out⟩
        · rw [hcl] at HC2
          have HLE2 := hid (HLE.out hcl)
          clear hcl
          go_wp2_with fail
          refine HC2.out.mono ?_
          rintro e w18 ⟨rfl, hb⟩
          have HB18 := hid (HB17.out.trans (hb.mono HB17.out.size))
          have HMX18 := hid (HMX17.out.below hb)
          clear hb HC2 HB17 HIX17 HMX17
          go_wp2_with fail
          refine (HRI.out w18 HB18.out).mono ?_
          rintro e w19 ⟨z, rfl, hz, hb⟩
          have HB19 := hid (HB18.out.trans (hb.mono HB18.out.size))
          have HMX19 := hid (HMX18.out.below hb)
          have HZ := hid hz
          clear hb hz HB18 HMX18
          cases z
          · go_wp2_with fail
            go_ret
            exact ⟨rfl, HB19.out⟩
          · have HUN := hid (HLE2.out (HZ.out rfl))
            go_wp2_with fail
            refine (HOM3.out w19 HB19.out).mono ?_
            rintro e w20 ⟨u20, rfl, ho20, -, hb⟩
            have HB20 := hid (HB19.out.trans (hb.mono HB19.out.size))
            have HU5 := hid (und_any Y rs _ _ A m w20 (by omega) (by omega) (fun x hx => (HXS.out x hx).2) (fun x hx => by have := HZS.out x hx; omega) (HS.out.below HB20.out) (HMX19.out.below hb) (own_ms ho20))
            rw [HUN.out] at HU5
            obtain ⟨a20, c20, hu20⟩ := own_slN ho20
            subst hu20
            clear hb ho20
            go_wp2_with fail
            refine HU5.out.mono ?_
            rintro e w21 ⟨rfl, hb⟩
            have HB21 := hid (HB20.out.trans (hb.mono HB20.out.size))
            clear hb
            go_wp2_with fail
            go_ret
            exact ⟨rfl, HB21.out⟩
      · have HC2 := hid (closed_bad Q L ra rs _ _ _ A m w17 (by omega) (by omega) (by omega) HSH.out (HS.out.below HB17.out) HIX17.out HM17.out HMS17.out.ms HMS17.out.em hcs)
        clear hcs
        go_wp2_with fail
        refine HC2.out.mono ?_
        rintro e w18 ⟨T8, p8, rfl, -, hb⟩
        have HB18 := hid (HB17.out.trans (hb.mono HB17.out.size))
        clear hb
        go_wp2_with fail
        go_ret
        exact ⟨rfl, HB18.out⟩
    · have HBU3 := hid (build_bad Q L rab _ _ A m w13 (by omega) hrl HSH.out (HS.out.below HB13.out) HIX13.out HDV.out hcb)
      clear hcb
      refine HBU3.out.mono ?_
      rintro e w15 ⟨T9, p9, rfl, -, hb⟩
      have HB15 := hid (HB13.out.trans (hb.mono HB13.out.size))
      have HIX15 := hid (HIX13.out.below hb)
      have HMX15 := hid (HMX13.out.below hb)
      clear hb HBU3 HB13 HIX13 HMX13 HRUN HDV
      go_wp2_with fail
      refine (HOM.out w15 HB15.out).mono ?_
      rintro e w16 ⟨u16, rfl, ho16, -, hb⟩
      have HB16 := hid (HB15.out.trans (hb.mono HB15.out.size))
      have HIX16 := hid (HIX15.out.below hb)
      have HMX16 := hid (HMX15.out.below hb)
      have HM16 := hid (own_ms ho16)
      obtain ⟨a16, c16, hu16⟩ := own_slN ho16
      subst hu16
      clear hb ho16 HB15 HIX15 HMX15
      go_wp2_with fail
      refine (HOM3.out w16 HB16.out).mono ?_
      rintro e w17 ⟨u17, rfl, ho17, -, hb⟩
      have HB17 := hid (HB16.out.trans (hb.mono HB16.out.size))
      have HIX17 := hid (HIX16.out.below hb)
      have HMX17 := hid (HMX16.out.below hb)
      have HM17 := hid (HM16.out.below hb)
      have HMS17 := hid (mr_own ho17 hb)
      obtain ⟨a17, c17, hu17⟩ := own_slN ho17
      subst hu17
      clear hb ho17 HB16 HIX16 HMX16 HM16
      by_cases hcs : (chkC Q L ra rs).1 = 0
      · have HC2 := hid (closed_good Q L ra rs _ _ _ A m w17 (by omega) (by omega) (by omega) HSH.out (HS.out.below HB17.out) HIX17.out HM17.out HMS17.out.ms HMS17.out.em hcs)
        have HLE := hid (show closB Q L ra rs = true → RiseP L → undB Y rs = true from fun h1 h2 => HBT.out.least HIX17.out hcs h1 h2)
        clear hcs
        cases hcl : closB Q L ra rs
        · rw [hcl] at HC2
          clear hcl
          go_wp2_with fail
          refine HC2.out.mono ?_
          rintro e w18 ⟨rfl, hb⟩
          have HB18 := hid (HB17.out.trans (hb.mono HB17.out.size))
          clear hb
          go_wp2_with fail
          go_ret
          exact ⟨rfl, HB18.out⟩
        · rw [hcl] at HC2
          have HLE2 := hid (HLE.out hcl)
          clear hcl
          go_wp2_with fail
          refine HC2.out.mono ?_
          rintro e w18 ⟨rfl, hb⟩
          have HB18 := hid (HB17.out.trans (hb.mono HB17.out.size))
          have HMX18 := hid (HMX17.out.below hb)
          clear hb HC2 HB17 HIX17 HMX17
          go_wp2_with fail
          refine (HRI.out w18 HB18.out).mono ?_
          rintro e w19 ⟨z, rfl, hz, hb⟩
          have HB19 := hid (HB18.out.trans (hb.mono HB18.out.size))
          have HMX19 := hid (HMX18.out.below hb)
          have HZ := hid hz
          clear hb hz HB18 HMX18
          cases z
          · go_wp2_with fail
            go_ret
            exact ⟨rfl, HB19.out⟩
          · have HUN := hid (HLE2.out (HZ.out rfl))
            go_wp2_with fail
            refine (HOM3.out w19 HB19.out).mono ?_
            rintro e w20 ⟨u20, rfl, ho20, -, hb⟩
            have HB20 := hid (HB19.out.trans (hb.mono HB19.out.size))
            have HU5 := hid (und_any Y rs _ _ A m w20 (by omega) (by omega) (fun x hx => (HXS.out x hx).2) (fun x hx => by have := HZS.out x hx; omega) (HS.out.below HB20.out) (HMX19.out.below hb) (own_ms ho20))
            rw [HUN.out] at HU5
            obtain ⟨a20, c20, hu20⟩ := own_slN ho20
            subst hu20
            clear hb ho20
            go_wp2_with fail
            refine HU5.out.mono ?_
            rintro e w21 ⟨rfl, hb⟩
            have HB21 := hid (HB20.out.trans (hb.mono HB20.out.size))
            clear hb
            go_wp2_with fail
            go_ret
            exact ⟨rfl, HB21.out⟩
      · have HC2 := hid (closed_bad Q L ra rs _ _ _ A m w17 (by omega) (by omega) (by omega) HSH.out (HS.out.below HB17.out) HIX17.out HM17.out HMS17.out.ms HMS17.out.em hcs)
        clear hcs
        go_wp2_with fail
        refine HC2.out.mono ?_
        rintro e w18 ⟨T8, p8, rfl, -, hb⟩
        have HB18 := hid (HB17.out.trans (hb.mono HB17.out.size))
        clear hb
        go_wp2_with fail
        go_ret
        exact ⟨rfl, HB18.out⟩
  · have HBU := hid (build_bad Q L ra _ _ A m w4 (by omega) (by omega) HSH.out (HS.out.below HB4.out) HIX4.out HM4.out hca)
    clear hca
    go_wp2_with fail
    refine HBU.out.mono ?_
    rintro e w5 ⟨T9, p9, rfl, -, hb⟩
    have HB5 := hid (HB4.out.trans (hb.mono HB4.out.size))
    clear hb HBU
    go_wp2_with fail
    go_ret
    exact ⟨rfl, HB5.out⟩
set_option maxRecDepth 100000 in
set_option maxHeartbeats 2000000 in
theorem ml_long (Q0 : List Raw) (L : List Ent) (ra rb rs : List Bm) (v u s t : Value) (A : Nat → Addr) (m : Int) (w : World) (S : Te w A m) (I : Ixs w v Q0 L) (hr : MsAt w u ra) (hr2 : MsAt w s rb) (hr3 : MsAt w t rs) (hok : okI L = false) :
    Calls Tryz.prog 6 #[v, u, s, t] w fun e w' => e = .returned (.bool true) ∧ Below w.heap.size w w' := by
  obtain ⟨a0, c0, hv0, -⟩ := id I.es
  subst hv0
  obtain ⟨aa, ac, hu0, -⟩ := id hr
  subst hu0
  obtain ⟨ba, bc, hs0, -⟩ := id hr2
  subst hs0
  obtain ⟨ta, tc, ht0, -⟩ := id hr3
  subst ht0
  have HIN := hid (built_any A m w S)
  have HLO := hid (fun W (h : Below w.heap.size w W) => longI_any Q0 L _ W (I.below h))
  rw [hok] at HLO
  clear S I hok hr hr2 hr3
  go_enter Tryz.func6, Tryz.ntmps6
  go_wp2_with fail
  refine HIN.out.mono ?_
  rintro e w1 ⟨rfl, hb⟩
  have HB1 := hid hb
  clear hb
  go_wp2_with fail
  refine (HLO.out w1 HB1.out).mono ?_
  rintro e w2 ⟨rfl, hb⟩
  have HB2 := hid (HB1.out.trans (hb.mono HB1.out.size))
  clear hb
  go_wp2_with fail
  go_ret
  exact ⟨rfl, HB2.out⟩
set_option maxRecDepth 100000 in
set_option maxHeartbeats 4000000 in
theorem ml_long2 (Q0 : List Raw) (L : List Ent) (ra rb rs : List Bm) (v u s t : Value) (A : Nat → Addr) (m : Int) (w : World) (x y z : Int) (S : Te w A m) (I : Ixs w v Q0 L) (hr : MsAt w u ra) (hr2 : MsAt w s rb) (hr3 : MsAt w t rs) (hok : okI L = true) (hx : (if okLN 15 ra then (0 : Int) else 1) = x) (hy : (if okLN 15 rb then (0 : Int) else 1) = y) (hz : (if okLN 15 rs then (0 : Int) else 1) = z)
    (hxyz : (x = 1 ∧ y = 0 ∧ z = 0) ∨ (x = 0 ∧ y = 1 ∧ z = 0) ∨ (x = 0 ∧ y = 0 ∧ z = 1) ∨ (x = 1 ∧ y = 1 ∧ z = 0) ∨ (x = 1 ∧ y = 0 ∧ z = 1) ∨ (x = 0 ∧ y = 1 ∧ z = 1) ∨ (x = 1 ∧ y = 1 ∧ z = 1)) :
    Calls Tryz.prog 6 #[v, u, s, t] w fun e w' => e = .returned (.bool true) ∧ Below w.heap.size w w' := by
  obtain ⟨a0, c0, hv0, -⟩ := id I.es
  subst hv0
  obtain ⟨aa, ac, hu0, -⟩ := id hr
  subst hu0
  obtain ⟨ba, bc, hs0, -⟩ := id hr2
  subst hs0
  obtain ⟨ta, tc, ht0, -⟩ := id hr3
  subst ht0
  have HIN := hid (built_any A m w S)
  have HLO := hid (fun W (h : Below w.heap.size w W) => longI_any Q0 L _ W (I.below h))
  rw [if_pos hok] at HLO
  have HLM := hid (fun W (h : Below w.heap.size w W) => longN_any 15 (by decide) ra _ W (hr.below h))
  rw [hx] at HLM
  have HLM2 := hid (fun W (h : Below w.heap.size w W) => longN_any 15 (by decide) rb _ W (hr2.below h))
  rw [hy] at HLM2
  have HLM3 := hid (fun W (h : Below w.heap.size w W) => longN_any 15 (by decide) rs _ W (hr3.below h))
  rw [hz] at HLM3
  clear S I hok hr hr2 hr3 hx hy hz
  rcases hxyz with ⟨rfl, rfl, rfl⟩ | ⟨rfl, rfl, rfl⟩ | ⟨rfl, rfl, rfl⟩ | ⟨rfl, rfl, rfl⟩ | ⟨rfl, rfl, rfl⟩ | ⟨rfl, rfl, rfl⟩ | ⟨rfl, rfl, rfl⟩
  all_goals
    go_enter Tryz.func6, Tryz.ntmps6
    go_wp2_with fail
    refine HIN.out.mono ?_
    rintro e w1 ⟨rfl, hb⟩
    have HB1 := hid hb
    clear hb
    go_wp2_with fail
    refine (HLO.out w1 HB1.out).mono ?_
    rintro e w2 ⟨rfl, hb⟩
    have HB2 := hid (HB1.out.trans (hb.mono HB1.out.size))
    clear hb
    go_wp2_with fail
    refine (HLM.out w2 HB2.out).mono ?_
    rintro e w3 ⟨rfl, rfl⟩
    go_wp2_with fail
    refine (HLM2.out w3 HB2.out).mono ?_
    rintro e w4 ⟨rfl, rfl⟩
    go_wp2_with fail
    refine (HLM3.out w4 HB2.out).mono ?_
    rintro e w5 ⟨rfl, rfl⟩
    go_wp2_with fail
    go_ret
    exact ⟨rfl, HB2.out⟩
theorem mvsLeast_any (Q0 : List Raw) (L : List Ent) (ra rb rs : List Bm) (v u s t : Value) (A : Nat → Addr) (m : Int) (w : World) (S : Te w A m) (I : Ixs w v Q0 L) (em : EmI Q0 L) (hr : MsAt w u ra) (her : Em u ra) (hr2 : MsAt w s rb) (her2 : Em s rb) (hr3 : MsAt w t rs) (her3 : Em t rs) :
    Calls Tryz.prog 6 #[v, u, s, t] w fun e w' => e = .returned (.bool true) ∧ Below w.heap.size w w' := by
  cases hok : okI L with
  | false => exact ml_long Q0 L ra rb rs v u s t A m w S I hr hr2 hr3 hok
  | true =>
    cases hrk : okLN 15 ra <;> cases hrk2 : okLN 15 rb <;> cases hrk3 : okLN 15 rs
    case true.true.true => exact ml_head Q0 L ra rb rs v u s t A m w S I em hr her hr2 her2 hr3 her3 hok hrk hrk2 hrk3
    all_goals exact ml_long2 Q0 L ra rb rs v u s t A m w _ _ _ S I hr hr2 hr3 hok rfl rfl rfl (by rw [hrk, hrk2, hrk3]; decide)
end Ve
end Go.Proofs.YtoaobngpdaidoaaGreatDoor

/-
  An index and a row of modules that a caller hands in, opened.
-/
namespace Go.Proofs.YtoaobngpdaidoaaGreatDoor
open Go.ChangeShapes Go.WideShapes Go.ChangeAt Go.RowKit Go.ChangeMaps Go.Joins
namespace Ve

theorem oCellsMod : Tryz.prog.cellsOf 46 = 2 := by kernel_rfl
theorem oCellsStr : Tryz.prog.cellsOf 9 = 1 := by kernel_rfl
theorem oCellsEnt : Tryz.prog.cellsOf 56 = 5 := by kernel_rfl
theorem oCellsMods : Tryz.prog.cellsOf 23 = 1 := by kernel_rfl
theorem oCellsSstr : Tryz.prog.cellsOf 54 = 1 := by kernel_rfl
theorem oCellsBool : Tryz.prog.cellsOf 4 = 1 := by kernel_rfl
/-- The bytes of a string; none of what is no string. -/
def strOf : Value → ByteArray
  | .string s => s
  | _ => ⟨#[]⟩
set_option maxRecDepth 100000 in
/-- A row of modules, opened. -/
theorem open_ms {H : Type} {enc : TypeId × Value → H} {w : World} {base fuel : Nat} {held : Bool} {v : Value} {x : DataW H × List MemPlace}
    (h : DataW.trod enc Tryz.prog w base (fun _ => true) held fuel 23 [v] = some x) : ∃ L, MsAt w v L ∧ Em v L := by
  rcases Go.Deep.open_slice_pairs Tryz.underlying23 Tryz.underlying46 oCellsMod rfl rfl oCellsStr oCellsStr h with ⟨hcs, _⟩ | ⟨a, len, cap, m, n, V0, V1, D0, D1, P0, P1, hcs, _, hl, _, hm, _, hx⟩
  · simp only [List.cons.injEq, and_true] at hcs
    subst hcs
    exact ⟨[], ⟨none, 0, rfl, Nat.le_refl _, fun h => absurd rfl h⟩, fun a c e _ => Or.inl e.symm⟩
  · simp only [List.cons.injEq, and_true] at hcs
    subst hcs
    simp only [if_true] at hm
    subst hm
    have hlen : ((List.range len).map fun i => (strOf (V0 i), strOf (V1 i))).length = len := by simp
    refine ⟨(List.range len).map fun i => (strOf (V0 i), strOf (V1 i)), ⟨some a, m, by rw [hlen], by rw [hlen]; exact hl, fun hne => ?_⟩, fun a' c e h0 => ?_⟩
    · have h0l : 0 < len := by rw [← hlen]; exact List.length_pos_iff.2 hne
      obtain ⟨b, off, spot⟩ := a
      have hspot : spot = none := by simpa [Addr.add] using World.cell?_spot (hx 0 (by omega)).1
      subst hspot
      refine ⟨b, off, rfl, fun j hj => ?_⟩
      have hj2 : j < len := by rw [← hlen]; exact hj
      obtain ⟨g0, g1, t0, t1⟩ := hx j (by omega)
      obtain ⟨s0, e0, _, _⟩ := DataW.trod_string Tryz.underlying9 t0
      obtain ⟨s1, e1, _, _⟩ := DataW.trod_string Tryz.underlying9 t1
      simp only [List.cons.injEq, and_true] at e0 e1
      rw [e0] at g0
      rw [e1] at g1
      simp only [List.getElem_map, List.getElem_range, e0, e1]
      rw [Addr.add_lit] at g0 g1
      exact ⟨g0, g1⟩
    · have hz : len = 0 := by rw [← hlen, h0]; rfl
      rw [hlen] at e
      subst hz
      right
      injection e with e1 e2 e3
      exact ⟨a, by rw [← e1]⟩
set_option maxRecDepth 100000 in
/-- A row of texts, opened. -/
theorem open_tx {H : Type} {enc : TypeId × Value → H} {w : World} {base fuel : Nat} {held : Bool} {v : Value} {x : DataW H × List MemPlace}
    (h : DataW.trod enc Tryz.prog w base (fun _ => true) held fuel 54 [v] = some x) : ∃ X, TxAt w v X ∧ EmT v X := by
  rcases open_strings Tryz.underlying54 Tryz.underlying9 oCellsStr h with ⟨hcs, _⟩ | ⟨a, len, cap, ss, hcs, _, hl, _, hm, _, hx, _⟩
  · simp only [List.cons.injEq, and_true] at hcs
    subst hcs
    exact ⟨[], ⟨none, 0, rfl, Nat.le_refl _, fun h => absurd rfl h⟩, fun a c e _ => Or.inl e.symm⟩
  · simp only [List.cons.injEq, and_true] at hcs
    subst hcs
    simp only [if_true] at hm
    have hlen : (ss.take len).length = len := by rw [List.length_take]; omega
    refine ⟨ss.take len, ⟨some a, cap, by rw [hlen], by rw [hlen]; exact hl, fun hne => ?_⟩, fun a' c e h0 => ?_⟩
    · have h0l : 0 < len := by rw [← hlen]; exact List.length_pos_iff.2 hne
      obtain ⟨b, off, spot⟩ := a
      have hspot : spot = none := by simpa [Addr.add] using World.cell?_spot (hx 0 (by omega))
      subst hspot
      refine ⟨b, off, rfl, fun j hj => ?_⟩
      have hj2 : j < len := by rw [← hlen]; exact hj
      have g := hx j (by omega)
      rw [Addr.add_lit, List.getD_eq_getElem?_getD, List.getElem?_eq_getElem (by omega)] at g
      rw [List.getElem_take]
      exact g
    · have hz : len = 0 := by rw [← hlen, h0]; rfl
      rw [hlen] at e
      subst hz
      right
      injection e with e1 e2 e3
      exact ⟨a, by rw [← e1]⟩
set_option maxRecDepth 100000 in
/-- An entry, opened. -/
theorem open_ent {H : Type} {enc : TypeId × Value → H} {w : World} {base fuel : Nat} {held : Bool} {cs : List Value} {x : DataW H × List MemPlace}
    (h : DataW.trod enc Tryz.prog w base (fun _ => true) held fuel 56 cs = some x) : ∃ (r : Raw) (e : Ent), cs = rowR r ∧ slR r ∧ RawOk w r e ∧ Em r.2.1 e.2.1 ∧ EmT r.2.2.1 e.2.2.1 := by
  obtain ⟨y0, y1, y2, y3, n, _, hl, h0, h1, h2, h3⟩ := trod_struct4 Tryz.underlying56 h
  rw [oCellsEnt] at hl
  match cs, hl with
  | [c0, c1, c2, c3, c4], _ =>
    simp only [oCellsMod, oCellsMods, oCellsSstr, oCellsBool, List.drop, List.take] at h0 h1 h2 h3
    obtain ⟨z0, z1, n2, _, _, k0, k1⟩ := trod_struct2 Tryz.underlying46 h0
    simp only [oCellsStr, List.drop, List.take] at k0 k1
    obtain ⟨s0, e0, _, _⟩ := DataW.trod_string Tryz.underlying9 k0
    obtain ⟨s1, e1, _, _⟩ := DataW.trod_string Tryz.underlying9 k1
    obtain ⟨R, hR, hER⟩ := open_ms h1
    obtain ⟨X, hX, hEX⟩ := open_tx h2
    obtain ⟨b, e4, _⟩ := DataW.trod_bool Tryz.underlying4 h3
    simp only [List.cons.injEq, and_true] at e0 e1 e4
    subst e0 e1 e4
    refine ⟨((s0, s1), c2, c3, b), ((s0, s1), R, X, b), rfl, ⟨?_, ?_⟩, ⟨rfl, hR, hX, rfl⟩, hER, hEX⟩
    · obtain ⟨a, c, e, _⟩ := hR; exact ⟨_, _, _, e⟩
    · obtain ⟨a, c, e, _⟩ := hX; exact ⟨_, _, _, e⟩
set_option maxRecDepth 100000 in
/-- An index, opened. -/
theorem open_ix {H : Type} {enc : TypeId × Value → H} {w : World} {base fuel : Nat} {held : Bool} {v : Value} {x : DataW H × List MemPlace}
    (h : DataW.trod enc Tryz.prog w base (fun _ => true) held fuel 22 [v] = some x) : ∃ Q L, Ixs w v Q L ∧ EmI Q L := by
  rcases Go.Deep.open_slice Tryz.underlying22 h with ⟨hcs, _⟩ | ⟨a, len, cap, m, n, D, Pl, hcs, _, hl, _, hm, _, hx⟩
  · simp only [List.cons.injEq, and_true] at hcs
    subst hcs
    exact ⟨[], [], ⟨⟨none, 0, rfl, Nat.le_refl _, fun r hr => (by cases hr), fun h => absurd rfl h⟩, rfl, fun j h1 => absurd h1 (Nat.not_lt_zero _)⟩, fun j h1 => absurd h1 (Nat.not_lt_zero _)⟩
  · simp only [List.cons.injEq, and_true] at hcs
    subst hcs
    simp only [if_true] at hm
    subst hm
    have each : ∀ i, i < len → ∃ q : Raw × Ent, (∀ c (hc : c < 5), w.cell? (a.add (i * 5 + c)) = (rowR q.1)[c]?) ∧ slR q.1 ∧ RawOk w q.1 q.2 ∧ Em q.1.2.1 q.2.2.1 ∧ EmT q.1.2.2.1 q.2.2.2.1 := fun i hi => by
      obtain ⟨cs', h1, h2⟩ := hx i (by omega)
      obtain ⟨r, e, hcs, k1, k2, k3, k4⟩ := open_ent h2
      rw [oCellsEnt] at h1
      obtain ⟨_, hlen, hcell⟩ := World.cells?_some h1
      refine ⟨(r, e), fun c hc => ?_, k1, k2, k3, k4⟩
      have := hcell c (by omega)
      rw [Go.Deep.add_add] at this
      rw [this, hcs]
    obtain ⟨q, hq⟩ := Go.Deep.choose_lt each
    have hlq : ((List.range len).map fun i => (q i).1).length = len := by simp
    have hll : ((List.range len).map fun i => (q i).2).length = len := by simp
    refine ⟨(List.range len).map fun i => (q i).1, (List.range len).map fun i => (q i).2, ⟨⟨some a, m, by rw [hlq], by rw [hlq]; exact hl, fun r hr => ?_, fun hne => ?_⟩, by rw [hlq, hll], fun j h1 h2 => ?_⟩, fun j h1 h2 => ?_⟩
    · obtain ⟨i, hi, rfl⟩ := List.mem_map.1 hr
      exact (hq i (List.mem_range.1 hi)).2.1
    · have h0l : 0 < len := by rw [← hlq]; exact List.length_pos_iff.2 hne
      obtain ⟨b, off, spot⟩ := a
      have g0 := (hq 0 h0l).1 0 (by omega)
      have hspot : spot = none := by
        have : ∃ u, World.cell? w ((⟨b, off, spot⟩ : Addr).add (0 * 5 + 0)) = some u := ⟨_, g0⟩
        obtain ⟨u, hu⟩ := this
        simpa [Addr.add] using World.cell?_spot hu
      subst hspot
      refine ⟨b, off, rfl, fun j hj => ?_⟩
      have hj2 : j < len := by rw [← hlq]; exact hj
      have g := (hq j hj2).1
      simp only [List.getElem_map, List.getElem_range]
      refine ⟨?_, ?_, ?_, ?_, ?_⟩
      · have := g 0 (by omega); rw [Addr.add_lit] at this; exact this
      · have := g 1 (by omega); rw [Addr.add_lit] at this; exact this
      · have := g 2 (by omega); rw [Addr.add_lit] at this; exact this
      · have := g 3 (by omega); rw [Addr.add_lit] at this; exact this
      · have := g 4 (by omega); rw [Addr.add_lit] at this; exact this
    · have hj2 : j < len := by rw [← hlq]; exact h1
      simp only [List.getElem_map, List.getElem_range]
      exact (hq j hj2).2.2.1
    · have hj2 : j < len := by rw [← hlq]; exact h1
      simp only [List.getElem_map, List.getElem_range]
      exact (hq j hj2).2.2.2
end Ve
end Go.Proofs.YtoaobngpdaidoaaGreatDoor
