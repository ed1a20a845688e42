/-
  What == and != say of two modules.
-/
import Derived.Test.YtjphlclhkaoipaaGreatDoorAhead
import Derived.Laws.StructEq
import Derived.Test.YtjphlclhkaoipaaGreatDoorJn2
import Derived.Test.YtjphlclhkaoipaaGreatDoorJn1
namespace Go.Proofs.YtjphlclhkaoipaaGreatDoor
open Go.RowKit
namespace Ve

theorem modSame (p v q u : ByteArray) (w : World) : (Op.equalIn 10000 26 (.agg #[.string p, .string v]) (.agg #[.string q, .string u])).run Tryz.prog w = .ok (decide (p = q ∧ v = u)) w := by
  have u3 := Tryz.underlying9
  have a3 := Tryz.isAgg9
  have z3 := Tryz.sizeOf9
  have hS : Tryz.prog.underlying 26 = some (.struct (Tryz.prog.fieldsOf 26)) := by kernel_rfl
  have hp : Tryz.prog.stoodInHeld 26 = false := by kernel_rfl
  rw [show (10000 : Nat) = 9999 + 1 from rfl, run_equalIn_agg w 9999 26 _ _ hS hp]
  simp only [Program.fieldsOf, Tryz.underlying26]
  by_cases h1 : p = q
  · subst h1
    by_cases h2 : v = u
    · subst h2
      have e1 := str_refl p
      have e2 := str_refl v
      go_simp
    · have e1 := str_refl p
      have e2 := str_ne h2
      go_simp
  · have e1 := str_ne h1
    go_simp
theorem modEql (p v q u : ByteArray) (w : World) : (binOp .eql 26 (.agg #[.string p, .string v]) (.agg #[.string q, .string u])).run Tryz.prog w = .ok (.bool (decide (p = q ∧ v = u))) w := by
  rw [run_eql_struct, modSame]; rfl
theorem modNeq (p v q u : ByteArray) (w : World) : (binOp .neq 26 (.agg #[.string p, .string v]) (.agg #[.string q, .string u])).run Tryz.prog w = .ok (.bool (!decide (p = q ∧ v = u))) w := by
  rw [run_neq_struct, modSame]; rfl
theorem modGuard : Tryz.prog.eqGuardType Tryz.prog.depth 26 = false := by kernel_rfl
end Ve
end Go.Proofs.YtjphlclhkaoipaaGreatDoor

/-
  What Path of package mod, checkClash and Check of package file answer; nothing old in memory turns.
-/
namespace Go.Proofs.YtjphlclhkaoipaaGreatDoor
open Go.RowKit
namespace Ve

theorem mpath_is (s : ByteArray) (A : Nat → Addr) (m : Int) (w : World) (hs : s.size < 4294967281) (S : Te w A m) :
    Calls Tryz.prog 22 #[.string s] w fun e w' => e = .returned (errA A (pathErr s.data.toList)) ∧ Below w.heap.size w w' := by
  have HP := hid (readPath_any s A m w hs S)
  clear S
  go_enter Tryz.func22, Tryz.ntmps22
  go_wp2_with fail
  refine HP.out.mono ?_
  rintro e w1 ⟨⟨H, n, v, rfl, hv, _, _⟩, hb⟩
  have HV := hid hv
  have HB := hid hb
  clear hb hv
  go_wp2_with fail
  go_ret
  exact ⟨by rw [← HV.out]; rfl, HB.out⟩

theorem mem_of_not {L : List Bm} {x : Bm} (h : ∀ j (hj : j < L.length), L[j] ≠ x) : x ∉ L := fun hm => by
  obtain ⟨j, hj, e⟩ := List.getElem_of_mem hm
  exact h j hj e
set_option maxHeartbeats 1000000 in
theorem index_mods (p v : ByteArray) (L : List Bm) (b o c : Nat) (w : World) (hL : L.length ≤ 1000000)
    (hc : ∀ j (h : j < L.length), w.cell? ⟨b, o + j * 2, none⟩ = some (.string L[j].1) ∧ w.cell? ⟨b, o + j * 2 + 1, none⟩ = some (.string L[j].2)) :
    Calls Tryz.prog 87 #[.slice (some ⟨b, o, none⟩) L.length c, .agg #[.string p, .string v]] w fun e w' => ∃ r : Int, e = .returned (.int .i64 r) ∧ decide (0 ≤ r) = hasB L (p, v) ∧ Below w.heap.size w w' := by
  have HC := hid hc
  have hgd := modGuard
  have HB0 := hid ((Below.refl w.heap.size w).alloc (Nat.le_refl _) (.cells #[.string p, .string v] 26))
  clear hc
  go_enter Tryz.func87, Tryz.ntmps87
  go_wp2_with fail
  go_loopw [8] (fun i wr => ∃ k : Nat, k ≤ L.length ∧ i = .int .i64 k ∧ Hid (∀ j (hj : j < L.length), j < k → L[j] ≠ (p, v)) ∧ Hid (Below (w.heap.size + 1) (w.alloc (.cells #[.string p, .string v] 26)) wr)) (fun i _ => L.length - (intOf i).toNat)
  case atStart => exact ⟨0, Nat.zero_le _, rfl, hid (fun j _ hj => absurd hj (by omega)), hid (Below.refl _ _)⟩
  case round =>
    obtain ⟨k, hk, rfl, HE, HB⟩ := hrel
    obtain ⟨⟨r0, r1⟩, rz⟩ := res2 HB.out
    have HBW := hid (HB0.out.trans (HB.out.mono (by omega)))
    by_cases hlt : k < L.length
    · have hx := cell_below HBW.out (HC.out k hlt).1
      have hy := cell_below HBW.out (HC.out k hlt).2
      have heq := fun W => modEql p v L[k].1 L[k].2 W
      by_cases h0 : p = L[k].1 ∧ v = L[k].2
      · have HM := hid (show (p, v) ∈ L from by rw [h0.1, h0.2]; exact List.getElem_mem hlt)
        rw [decide_eq_true h0] at heq
        clear h0
        go_wp2_with fail
        go_quiet (fail)
        go_wp2_with fail
        go_ret
        exact ⟨_, rfl, by rw [hasB_iff.2 HM.out]; exact decide_eq_true (by omega), below_drawn_of HBW.out _⟩
      · have HM := hid (show L[k] ≠ (p, v) from fun e => h0 (by rw [e]; exact ⟨rfl, rfl⟩))
        rw [decide_eq_false h0] at heq
        clear h0
        go_wp2_with fail
        go_quiet (fail)
        go_wp2_with fail
        go_roundw
        case rel => exact ⟨k + 1, by omega, by go_num, hid (fun j hj hjk => by
          rcases Nat.lt_or_ge j k with h | h
          · exact HE.out j hj h
          · have : j = k := by omega
            subst this; exact HM.out), hid (below_drawn_of HB.out _)⟩
        case measure => simp [intOf]; omega
    · have HM := hid (mem_of_not (fun j hj => HE.out j hj (by omega)))
      go_wp2_with fail
      go_ret
      exact ⟨_, rfl, by rw [hasB_not HM.out]; rfl, HBW.out⟩
theorem index_none (p v : ByteArray) (a : Option Addr) (c : Nat) (w : World) :
    Calls Tryz.prog 87 #[.slice a 0 c, .agg #[.string p, .string v]] w fun e w' => ∃ r : Int, e = .returned (.int .i64 r) ∧ decide (0 ≤ r) = false ∧ Below w.heap.size w w' := by
  have HB0 := hid ((Below.refl w.heap.size w).alloc (Nat.le_refl _) (.cells #[.string p, .string v] 26))
  go_enter Tryz.func87, Tryz.ntmps87
  go_wp2_with fail
  go_loopw [8] (fun i wr => i = .int .i64 0 ∧ Hid (Below w.heap.size w wr)) (fun i _ => 0)
  case atStart => exact ⟨rfl, HB0⟩
  case round =>
    obtain ⟨rfl, HB⟩ := hrel
    go_wp2_with fail
    go_ret
    exact ⟨_, rfl, rfl, HB.out⟩
theorem indexM_any (p v : ByteArray) (L : List Bm) (u : Value) (w : World) (hL : L.length ≤ 1000000) (hu : MsAt w u L) :
    Calls Tryz.prog 87 #[u, .agg #[.string p, .string v]] w fun e w' => ∃ r : Int, e = .returned (.int .i64 r) ∧ decide (0 ≤ r) = hasB L (p, v) ∧ Below w.heap.size w w' := by
  obtain ⟨a, c, rfl, _, h⟩ := hu
  cases L with
  | nil => exact (index_none p v a c w).mono fun e w' ⟨r, h1, h2, h3⟩ => ⟨r, h1, by rw [h2]; rfl, h3⟩
  | cons x r =>
    obtain ⟨b, o, rfl, h2⟩ := h (by simp)
    exact index_mods p v (x :: r) b o c w hL h2
set_option maxHeartbeats 1000000 in
theorem hasM_any (p v : ByteArray) (L : List Bm) (u : Value) (w : World) (hL : L.length ≤ 1000000) (hu : MsAt w u L) :
    Calls Tryz.prog 53 #[u, .agg #[.string p, .string v]] w fun e w' => e = .returned (.bool (hasB L (p, v))) ∧ Below w.heap.size w w' := by
  obtain ⟨up, un, uc, rfl⟩ := hu.slice
  have HB0 := hid ((Below.refl w.heap.size w).alloc (Nat.le_refl _) (.cells #[.string p, .string v] 26))
  have HI := hid (indexM_any p v L _ _ hL (hu.below HB0.out))
  clear hu
  go_enter Tryz.func53, Tryz.ntmps53
  go_wp2_with fail
  refine HI.out.mono ?_
  rintro e w1 ⟨r, rfl, hr, hb⟩
  have HR := hid hr
  have HB := hid (HB0.out.trans (hb.mono HB0.out.size))
  clear hb hr
  go_wp2_with fail
  go_ret
  exact ⟨ret_bool HR.out, HB.out⟩

theorem res3 {w w3 : World} {a b c : Value} {T : TypeId} (hb : Below (w.heap.size + 1) (w.alloc (.cells #[a, b, c] T)) w3) :
    (w3.cell? ⟨w.heap.size, 0, none⟩ = some a ∧ w3.cell? ⟨w.heap.size, 1, none⟩ = some b ∧ w3.cell? ⟨w.heap.size, 2, none⟩ = some c) ∧ w.heap.size < w3.heap.size := by
  refine ⟨⟨?_, ?_, ?_⟩, ?_⟩
  · rw [hb.cell (by simp)]; simp
  · rw [hb.cell (by simp)]; simp
  · rw [hb.cell (by simp)]; simp
  · have := hb.size; simp at this; omega
theorem clE_at {X L : List Bm} {i : Nat} (h : i < L.length) : clE X L i = if hasB X L[i] then 9 else 0 := by unfold clE; rw [List.getElem?_eq_getElem h]
set_option maxHeartbeats 1000000 in
theorem clK_any (X L : List Bm) (b1 : Nat) (u : Value) (A : Nat → Addr) (m : Int) (W : World) (hX : X.length ≤ 1000000) (S : Te W A m) (h1 : W.cell? ⟨b1, 2, none⟩ = some u) (hu : MsAt W u X) (i : Nat) (hi : i < L.length) :
    Calls Tryz.prog 52 (#[.int .i64 (i : Int), .agg #[.string L[i].1, .string L[i].2]] ++ #[.pointer (some ⟨b1, 0, none⟩)]) W fun e w' => e = .returned (errA A (clE X L i)) ∧ Below W.heap.size W w' := by
  rw [clE_at hi]
  show Calls Tryz.prog 52 #[.int .i64 (i : Int), .agg #[.string L[i].1, .string L[i].2], .pointer (some ⟨b1, 0, none⟩)] W _
  obtain ⟨up, un, uc, rfl⟩ := hu.slice
  generalize hp : L[i].1 = p
  generalize hv : L[i].2 = v
  have hm : L[i] = (p, v) := by rw [← hp, ← hv]
  rw [hm]
  clear hp hv hm
  have HB0 := hid ((Below.refl W.heap.size W).alloc (Nat.le_refl _) (.cells #[.string p, .string v] 26))
  have HH := hid (hasM_any p v X _ _ hX (hu.below HB0.out))
  have HS := hid (S.below HB0.out)
  have c1 := cell_below HB0.out h1
  have hlt := lt_of_cell h1
  clear hu h1 S
  cases h : hasB X (p, v)
  rotate_left
  · rw [if_pos rfl, errA_if A (by omega)]
    rw [h] at HH
    clear h
    go_enter Tryz.func52, Tryz.ntmps52
    go_wp2_with fail
    refine HH.out.mono ?_
    rintro e w1 ⟨rfl, hb⟩
    have HB := hid (HB0.out.trans (hb.mono HB0.out.size))
    have gg := (HS.out.below hb).sen.g8
    clear hb
    go_wp2_with fail
    go_ret
    exact ⟨rfl, HB.out⟩
  · rw [if_neg (by simp), errA0]
    rw [h] at HH
    clear h
    go_enter Tryz.func52, Tryz.ntmps52
    go_wp2_with fail
    refine HH.out.mono ?_
    rintro e w1 ⟨rfl, hb⟩
    have HB := hid (HB0.out.trans (hb.mono HB0.out.size))
    clear hb
    go_wp2_with fail
    go_ret
    exact ⟨rfl, HB.out⟩
set_option maxHeartbeats 1000000 in
/-- file.checkClash. -/
theorem clash_any (p : ByteArray) (L X : List Bm) (v u : Value) (A : Nat → Addr) (m : Int) (w : World) (hL : L.length ≤ 1000000) (hX : X.length ≤ 1000000) (S : Te w A m) (hv : MsAt w v L) (hu : MsAt w u X) :
    Calls Tryz.prog 25 #[.agg #[.string p, v, u]] w fun e w' => ∃ x, e = .returned x ∧ ErrAt w' A x (codeE (clE X L) L.length) (fstE (clE X L) L.length) ∧ Below w.heap.size w w' := by
  obtain ⟨vp, vn, vc, rfl⟩ := hv.slice
  obtain ⟨up, un, uc, rfl⟩ := hu.slice
  have HB0 := hid ((Below.refl w.heap.size w).alloc (Nat.le_refl _) (.cells #[.string p, .slice vp vn vc, .slice up un uc] 24))
  have eg : ∀ args w, (callFunc 52 args).run Tryz.prog w = .ok (.enter 52 args) w := enters_of Tryz.func52 (by kernel_rfl) rfl
  have HF := hid (first_any 52 #[.pointer (some ⟨w.heap.size, 0, none⟩)] (clE X L) L _ A (w.alloc (.cells #[.string p, .slice vp vn vc, .slice up un uc] 24)) eg hL (hv.below HB0.out) (fun i hi W hW =>
    clK_any X L w.heap.size _ A m W hX ((S.below HB0.out).below hW) (cell_below hW (by simp)) ((hu.below HB0.out).below hW) i hi))
  clear S hv hu eg
  go_enter Tryz.func25, Tryz.ntmps25
  go_wp2_with fail
  refine HF.out.mono ?_
  rintro e w1 ⟨x, rfl, he, hb⟩
  have HB := hid (HB0.out.trans (hb.mono HB0.out.size))
  have HE := hid he
  clear hb he
  go_wp2_with fail
  go_ret
  exact ⟨_, rfl, HE.out, HB.out⟩
end Ve
end Go.Proofs.YtjphlclhkaoipaaGreatDoor

/-
  What Check of package file answers: what is wrong with a file, and where; nothing old in memory turns.
-/
namespace Go.Proofs.YtjphlclhkaoipaaGreatDoor
open Go.RowKit
namespace Ve

/-- What the walks ask of a file. -/
structure Fl (w : World) (R X : List Bm) (v u : Value) : Prop where
  r : MsAt w v R
  x : MsAt w u X
  rs : shortL R
  xs : shortL X
  rn : R.length ≤ 1000000
  xn : X.length ≤ 1000000
theorem Fl.below {w w' : World} {R X : List Bm} {v u : Value} (h : Fl w R X v u) (hb : Below w.heap.size w w') : Fl w' R X v u := ⟨h.r.below hb, h.x.below hb, h.rs, h.xs, h.rn, h.xn⟩
theorem Fl.slices {w : World} {R X : List Bm} {v u : Value} (h : Fl w R X v u) : (∃ a c, v = .slice a R.length c) ∧ ∃ a c, u = .slice a X.length c := by
  obtain ⟨a, c, e, _⟩ := h.r
  obtain ⟨a2, c2, e2, _⟩ := h.x
  exact ⟨⟨a, c, e⟩, a2, c2, e2⟩

theorem fileF_path {p : ByteArray} {R X : List Bm} (h : pathErr p.data.toList ≠ 0) : fileF p R X = (pathErr p.data.toList, none) := by unfold fileF; rw [if_neg h]
theorem fileF_full {p : ByteArray} {R X : List Bm} (h : pathErr p.data.toList = 0) (h2 : 20 < R.length ∨ 20 < X.length) : fileF p R X = (7, none) := by unfold fileF; rw [if_pos h, if_pos h2]
theorem fileF_req {p : ByteArray} {R X : List Bm} {i : Nat} (h : pathErr p.data.toList = 0) (h2 : ¬ (20 < R.length ∨ 20 < X.length)) (h3 : fstE (reqE p R) R.length = some i) : fileF p R X = (reqE p R i, some i) := by unfold fileF; rw [if_pos h, if_neg h2, h3]
theorem fileF_ex {p : ByteArray} {R X : List Bm} {i : Nat} (h : pathErr p.data.toList = 0) (h2 : ¬ (20 < R.length ∨ 20 < X.length)) (h3 : fstE (reqE p R) R.length = none) (h4 : fstE (exE X) X.length = some i) : fileF p R X = (exE X i, some i) := by unfold fileF; rw [if_pos h, if_neg h2, h3]; simp only; rw [h4]
theorem fileF_cl {p : ByteArray} {R X : List Bm} (h : pathErr p.data.toList = 0) (h2 : ¬ (20 < R.length ∨ 20 < X.length)) (h3 : fstE (reqE p R) R.length = none) (h4 : fstE (exE X) X.length = none) : fileF p R X = (codeE (clE X R) R.length, fstE (clE X R) R.length) := by
  unfold fileF; rw [if_pos h, if_neg h2, h3]; simp only; rw [h4]; simp only
  cases h5 : fstE (clE X R) R.length with
  | none => rw [codeE_none h5]
  | some i =>
    rw [codeE_some h5]
    obtain ⟨h6, h7, _⟩ := fstE_of_some h5
    rw [clE_at h6] at h7 ⊢
    simp only
    by_cases h8 : hasB X R[i] = true
    · rw [if_pos h8]
    · rw [if_neg h8] at h7; exact absurd rfl h7

set_option maxHeartbeats 1000000 in
theorem check_path (p : ByteArray) (R X : List Bm) (v u : Value) (A : Nat → Addr) (m : Int) (w : World) (hp : p.size < 999999) (S : Te w A m) (F : Fl w R X v u) (h : pathErr p.data.toList ≠ 0) :
    Calls Tryz.prog 8 #[.agg #[.string p, v, u]] w fun e w' => ∃ x, e = .returned x ∧ ErrAt w' A x (fileF p R X).1 (fileF p R X).2 ∧ Below w.heap.size w w' := by
  rw [fileF_path h]
  obtain ⟨⟨vp, vc, rfl⟩, up, uc, rfl⟩ := F.slices
  have HB0 := hid ((Below.refl w.heap.size w).alloc (Nat.le_refl _) (.cells #[.string p, .slice vp R.length vc, .slice up X.length uc] 24))
  have HP := hid (mpath_is p A m _ (by omega) (S.below HB0.out))
  have HE := hid (errA_if A h)
  rw [HE.out] at HP
  clear S F h
  go_enter Tryz.func8, Tryz.ntmps8
  go_wp2_with fail
  refine HP.out.mono ?_
  rintro e w1 ⟨rfl, hb⟩
  have HB := hid (HB0.out.trans (hb.mono HB0.out.size))
  clear hb
  go_wp2_with fail
  go_ret
  exact ⟨_, rfl, HE.out.symm, HB.out⟩
set_option maxHeartbeats 1000000 in
theorem check_full (p : ByteArray) (R X : List Bm) (v u : Value) (A : Nat → Addr) (m : Int) (w : World) (hp : p.size < 999999) (S : Te w A m) (F : Fl w R X v u) (h : pathErr p.data.toList = 0) (h2 : 20 < R.length ∨ 20 < X.length) :
    Calls Tryz.prog 8 #[.agg #[.string p, v, u]] w fun e w' => ∃ x, e = .returned x ∧ ErrAt w' A x (fileF p R X).1 (fileF p R X).2 ∧ Below w.heap.size w w' := by
  rw [fileF_full h h2]
  obtain ⟨⟨vp, vc, rfl⟩, up, uc, rfl⟩ := F.slices
  have HB0 := hid ((Below.refl w.heap.size w).alloc (Nat.le_refl _) (.cells #[.string p, .slice vp R.length vc, .slice up X.length uc] 24))
  have HS := hid (S.below HB0.out)
  have HP := hid (mpath_is p A m _ (by omega) HS.out)
  rw [h, errA0] at HP
  clear S F h
  by_cases h3 : 20 < R.length
  · have h4 : (20 : Int) < (R.length : Int) := by omega
    go_enter Tryz.func8, Tryz.ntmps8
    go_wp2_with fail
    refine HP.out.mono ?_
    rintro e w1 ⟨rfl, hb⟩
    obtain ⟨⟨r0, r1, r2⟩, rz⟩ := res3 (hb.mono (by simp))
    have HB := hid (HB0.out.trans (hb.mono HB0.out.size))
    have gg := (HS.out.below hb).sen.g6
    clear hb
    go_wp2_with fail
    go_ret
    exact ⟨_, rfl, rfl, HB.out⟩
  · have h3' : ¬ (20 : Int) < (R.length : Int) := by omega
    have h4 : (20 : Int) < (X.length : Int) := by omega
    clear h2 h3
    go_enter Tryz.func8, Tryz.ntmps8
    go_wp2_with fail
    refine HP.out.mono ?_
    rintro e w1 ⟨rfl, hb⟩
    obtain ⟨⟨r0, r1, r2⟩, rz⟩ := res3 (hb.mono (by simp))
    have HB := hid (HB0.out.trans (hb.mono HB0.out.size))
    have gg := (HS.out.below hb).sen.g6
    clear hb
    go_wp2_with fail
    go_ret
    exact ⟨_, rfl, rfl, HB.out⟩
set_option maxHeartbeats 1000000 in
theorem check_req (p : ByteArray) (R X : List Bm) (v u : Value) (i : Nat) (A : Nat → Addr) (m : Int) (w : World) (hp : p.size < 999999) (S : Te w A m) (F : Fl w R X v u) (h : pathErr p.data.toList = 0) (h2 : ¬ (20 < R.length ∨ 20 < X.length)) (h3 : fstE (reqE p R) R.length = some i) :
    Calls Tryz.prog 8 #[.agg #[.string p, v, u]] w fun e w' => ∃ x, e = .returned x ∧ ErrAt w' A x (fileF p R X).1 (fileF p R X).2 ∧ Below w.heap.size w w' := by
  rw [fileF_req h h2 h3]
  obtain ⟨⟨vp, vc, rfl⟩, up, uc, rfl⟩ := F.slices
  have HB0 := hid ((Below.refl w.heap.size w).alloc (Nat.le_refl _) (.cells #[.string p, .slice vp R.length vc, .slice up X.length uc] 24))
  have HS := hid (S.below HB0.out)
  have HP := hid (mpath_is p A m _ (by omega) HS.out)
  rw [h, errA0] at HP
  have HF := hid (F.below HB0.out)
  have H3 := hid h3
  have h4 : ¬ (20 : Int) < (R.length : Int) := by omega
  have h5 : ¬ (20 : Int) < (X.length : Int) := by omega
  clear S F h h2 h3
  go_enter Tryz.func8, Tryz.ntmps8
  go_wp2_with fail
  refine HP.out.mono ?_
  rintro e w1 ⟨rfl, hb⟩
  obtain ⟨⟨r0, r1, r2⟩, rz⟩ := res3 (hb.mono (by simp))
  have HB := hid (HB0.out.trans (hb.mono HB0.out.size))
  have HS1 := hid (HS.out.below hb)
  have HF1 := hid (HF.out.below hb)
  clear hb
  go_wp2_with fail
  refine (reqs_any p R _ A m _ HF1.out.rn HF1.out.rs HS1.out HF1.out.r).mono ?_
  rintro e w2 ⟨x, rfl, he, hb⟩
  rw [codeE_some H3.out, H3.out] at he
  obtain ⟨h0, b, rfl, hx, hy⟩ := he
  have HX := hid (show ErrAt w2 A (.iface 79 (.pointer (some ⟨b, 0, none⟩))) (reqE p R i) (some i) from ⟨h0, b, rfl, hx, hy⟩)
  have HB2 := hid (HB.out.trans (hb.mono HB.out.size))
  clear hb hx hy h0
  go_wp2_with fail
  go_ret
  exact ⟨_, rfl, HX.out, HB2.out⟩
set_option maxHeartbeats 1000000 in
theorem check_ex (p : ByteArray) (R X : List Bm) (v u : Value) (i : Nat) (A : Nat → Addr) (m : Int) (w : World) (hp : p.size < 999999) (S : Te w A m) (F : Fl w R X v u) (h : pathErr p.data.toList = 0) (h2 : ¬ (20 < R.length ∨ 20 < X.length)) (h3 : fstE (reqE p R) R.length = none) (h4 : fstE (exE X) X.length = some i) :
    Calls Tryz.prog 8 #[.agg #[.string p, v, u]] w fun e w' => ∃ x, e = .returned x ∧ ErrAt w' A x (fileF p R X).1 (fileF p R X).2 ∧ Below w.heap.size w w' := by
  rw [fileF_ex h h2 h3 h4]
  obtain ⟨⟨vp, vc, rfl⟩, up, uc, rfl⟩ := F.slices
  have HB0 := hid ((Below.refl w.heap.size w).alloc (Nat.le_refl _) (.cells #[.string p, .slice vp R.length vc, .slice up X.length uc] 24))
  have HS := hid (S.below HB0.out)
  have HP := hid (mpath_is p A m _ (by omega) HS.out)
  rw [h, errA0] at HP
  have HF := hid (F.below HB0.out)
  have H3 := hid h3
  have H4 := hid h4
  have h5 : ¬ (20 : Int) < (R.length : Int) := by omega
  have h6 : ¬ (20 : Int) < (X.length : Int) := by omega
  clear S F h h2 h3 h4
  go_enter Tryz.func8, Tryz.ntmps8
  go_wp2_with fail
  refine HP.out.mono ?_
  rintro e w1 ⟨rfl, hb⟩
  have HBa := hid (hb.mono (show w.heap.size + 1 ≤ _ by simp))
  obtain ⟨⟨r0, r1, r2⟩, rz⟩ := res3 HBa.out
  have HB := hid (HB0.out.trans (hb.mono HB0.out.size))
  have HS1 := hid (HS.out.below hb)
  have HF1 := hid (HF.out.below hb)
  clear hb
  go_wp2_with fail
  refine (reqs_any p R _ A m _ HF1.out.rn HF1.out.rs HS1.out HF1.out.r).mono ?_
  rintro e w2 ⟨x, rfl, he, hb⟩
  rw [codeE_none H3.out, H3.out] at he
  have he : x = .nilIface := he
  subst he
  have HBb := hid (HBa.out.trans (hb.mono (by omega)))
  obtain ⟨⟨s0, s1, s2⟩, sz⟩ := res3 HBb.out
  have HB2 := hid (HB.out.trans (hb.mono HB.out.size))
  have HS2 := hid (HS1.out.below hb)
  have HF2 := hid (HF1.out.below hb)
  clear hb r0 r1 r2
  go_wp2_with fail
  refine (ex_any X _ A m _ HF2.out.xn HF2.out.xs HS2.out HF2.out.x).mono ?_
  rintro e w3 ⟨x, rfl, he, hb⟩
  rw [codeE_some H4.out, H4.out] at he
  obtain ⟨h0, b, rfl, hx, hy⟩ := he
  have HX := hid (show ErrAt w3 A (.iface 79 (.pointer (some ⟨b, 0, none⟩))) (exE X i) (some i) from ⟨h0, b, rfl, hx, hy⟩)
  have HB3 := hid (HB2.out.trans (hb.mono HB2.out.size))
  clear hb hx hy h0
  go_wp2_with fail
  go_ret
  exact ⟨_, rfl, HX.out, HB3.out⟩
set_option maxHeartbeats 1000000 in
theorem check_cl (p : ByteArray) (R X : List Bm) (v u : Value) (A : Nat → Addr) (m : Int) (w : World) (hp : p.size < 999999) (S : Te w A m) (F : Fl w R X v u) (h : pathErr p.data.toList = 0) (h2 : ¬ (20 < R.length ∨ 20 < X.length)) (h3 : fstE (reqE p R) R.length = none) (h4 : fstE (exE X) X.length = none) :
    Calls Tryz.prog 8 #[.agg #[.string p, v, u]] w fun e w' => ∃ x, e = .returned x ∧ ErrAt w' A x (fileF p R X).1 (fileF p R X).2 ∧ Below w.heap.size w w' := by
  rw [fileF_cl h h2 h3 h4]
  obtain ⟨⟨vp, vc, rfl⟩, up, uc, rfl⟩ := F.slices
  have HB0 := hid ((Below.refl w.heap.size w).alloc (Nat.le_refl _) (.cells #[.string p, .slice vp R.length vc, .slice up X.length uc] 24))
  have HS := hid (S.below HB0.out)
  have HP := hid (mpath_is p A m _ (by omega) HS.out)
  rw [h, errA0] at HP
  have HF := hid (F.below HB0.out)
  have H3 := hid h3
  have H4 := hid h4
  have h5 : ¬ (20 : Int) < (R.length : Int) := by omega
  have h6 : ¬ (20 : Int) < (X.length : Int) := by omega
  clear S F h h2 h3 h4
  go_enter Tryz.func8, Tryz.ntmps8
  go_wp2_with fail
  refine HP.out.mono ?_
  rintro e w1 ⟨rfl, hb⟩
  have HBa := hid (hb.mono (show w.heap.size + 1 ≤ _ by simp))
  obtain ⟨⟨r0, r1, r2⟩, rz⟩ := res3 HBa.out
  have HB := hid (HB0.out.trans (hb.mono HB0.out.size))
  have HS1 := hid (HS.out.below hb)
  have HF1 := hid (HF.out.below hb)
  clear hb
  go_wp2_with fail
  refine (reqs_any p R _ A m _ HF1.out.rn HF1.out.rs HS1.out HF1.out.r).mono ?_
  rintro e w2 ⟨x, rfl, he, hb⟩
  rw [codeE_none H3.out, H3.out] at he
  have he : x = .nilIface := he
  subst he
  have HBb := hid (HBa.out.trans (hb.mono (by omega)))
  obtain ⟨⟨s0, s1, s2⟩, sz⟩ := res3 HBb.out
  have HB2 := hid (HB.out.trans (hb.mono HB.out.size))
  have HS2 := hid (HS1.out.below hb)
  have HF2 := hid (HF1.out.below hb)
  clear hb r0 r1 r2
  go_wp2_with fail
  refine (ex_any X _ A m _ HF2.out.xn HF2.out.xs HS2.out HF2.out.x).mono ?_
  rintro e w3 ⟨x, rfl, he, hb⟩
  rw [codeE_none H4.out, H4.out] at he
  have he : x = .nilIface := he
  subst he
  have HBc := hid (HBb.out.trans (hb.mono (by omega)))
  obtain ⟨⟨q0, q1, q2⟩, qz⟩ := res3 HBc.out
  have HB3 := hid (HB2.out.trans (hb.mono HB2.out.size))
  have HS3 := hid (HS2.out.below hb)
  have HF3 := hid (HF2.out.below hb)
  clear hb s0 s1 s2
  go_wp2_with fail
  refine (clash_any p R X _ _ A m _ HF3.out.rn HF3.out.xn HS3.out HF3.out.r HF3.out.x).mono ?_
  rintro e w4 ⟨x, rfl, he, hb⟩
  have HX := hid he
  have HB4 := hid (HB3.out.trans (hb.mono HB3.out.size))
  clear hb he
  go_wp2_with fail
  go_ret
  exact ⟨_, rfl, HX.out, HB4.out⟩
/-- file.Check. -/
theorem fcheck_any (p : ByteArray) (R X : List Bm) (v u : Value) (A : Nat → Addr) (m : Int) (w : World) (hp : p.size < 999999) (S : Te w A m) (F : Fl w R X v u) :
    Calls Tryz.prog 8 #[.agg #[.string p, v, u]] w fun e w' => ∃ x, e = .returned x ∧ ErrAt w' A x (fileF p R X).1 (fileF p R X).2 ∧ Below w.heap.size w w' := by
  by_cases h : pathErr p.data.toList = 0
  · by_cases h2 : 20 < R.length ∨ 20 < X.length
    · exact check_full p R X v u A m w hp S F h h2
    · cases h3 : fstE (reqE p R) R.length with
      | some i => exact check_req p R X v u i A m w hp S F h h2 h3
      | none =>
        cases h4 : fstE (exE X) X.length with
        | some i => exact check_ex p R X v u i A m w hp S F h h2 h3 h4
        | none => exact check_cl p R X v u A m w hp S F h h2 h3 h4
  · exact check_path p R X v u A m w hp S F h
end Ve
end Go.Proofs.YtjphlclhkaoipaaGreatDoor

/-
  What the document's answer says of requirements (reqsError): the first one that is wrong, and its place; nothing old in memory turns.
-/
namespace Go.Proofs.YtjphlclhkaoipaaGreatDoor
open Go.RowKit
namespace Ve

def reqsR (own : ByteArray) (L : List Bm) : Nat × Nat := match fstE (reqE own L) L.length with
  | some i => (reqE own L i, i)
  | none => (0, 0)
theorem reqsR_some {own : ByteArray} {L : List Bm} {k : Nat} (h0 : ∀ j, j < k → reqE own L j = 0) (hk : k < L.length) (h : reqE own L k ≠ 0) : reqsR own L = (reqE own L k, k) := by
  unfold reqsR; rw [fstE_some h0 h hk]
theorem reqsR_none {own : ByteArray} {L : List Bm} (h : ∀ j, j < L.length → reqE own L j = 0) : reqsR own L = (0, 0) := by
  unfold reqsR; rw [fstE_none h]
theorem zero_next {E : Nat → Nat} {k : Nat} (h : ∀ j, j < k → E j = 0) (hk : E k = 0) : ∀ j, j < k + 1 → E j = 0 := fun j hj => by
  rcases Nat.lt_or_ge j k with h1 | h1
  · exact h j h1
  · have : j = k := by omega
    subst this; exact hk
theorem leq_no (a b : ByteArray) : (Op.bytesLess a.toList b.toList || a.toList == b.toList) = noLess b a := by
  have h := cb_more a.toList b.toList
  rw [ByteArray.toList_eq, ByteArray.toList_eq] at h ⊢
  unfold noLess
  rw [cb_swap a.data.toList b.data.toList]
  cases hx : (Op.bytesLess a.data.toList b.data.toList || a.data.toList == b.data.toList) <;> rw [hx] at h <;> simp at h ⊢ <;> omega
theorem leq_is (a b : ByteArray) (X : World) : (binOp BinOp.leq 9 (.string a) (.string b)).run Tryz.prog X = .ok (.bool (noLess b a)) X := by rw [← leq_no]; rfl

set_option maxHeartbeats 4000000 in
set_option maxRecDepth 100000 in
theorem reqsE_some (own : ByteArray) (L : List Bm) (b o c : Nat) (w : World) (hn : L.length ≤ 1000000) (hs : shortL L)
    (hc : ∀ j (h : j < L.length), w.cell? ⟨b, o + j * 2, none⟩ = some (.string L[j].1) ∧ w.cell? ⟨b, o + j * 2 + 1, none⟩ = some (.string L[j].2)) :
    Calls Tryz.prog 28 #[.slice (some ⟨b, o, none⟩) L.length c, .string own] w fun e w' => e = .returned (.tuple #[.int .i64 ((reqsR own L).1 : Nat), .int .i64 ((reqsR own L).2 : Nat)]) ∧ Below w.heap.size w w' := by
  have HC := hid hc
  have HS := hid hs
  generalize hr : reqsR own L = r
  have HR := hid hr
  clear hc hs hr
  go_enter Tryz.func28, Tryz.ntmps28
  go_wp2_with fail
  go_loopw [6] (fun i wr => ∃ k : Nat, k ≤ L.length ∧ i = .int .i64 k ∧ Hid (∀ j, j < k → reqE own L j = 0) ∧ Hid (Below w.heap.size w wr)) (fun i _ => L.length - (intOf i).toNat)
  case atStart => exact ⟨0, Nat.zero_le _, rfl, hid (fun j hj => absurd hj (by omega)), hid (Below.refl _ _)⟩
  case round =>
    obtain ⟨k, hk, rfl, HZ, HB⟩ := hrel
    by_cases hlt : k < L.length
    · have hx := cell_below HB.out (HC.out k hlt).1
      have hy := cell_below HB.out (HC.out k hlt).2
      have hkI : (k : Int) < (L.length : Int) := by omega
      have HM := hid (modError_any L[k].1 L[k].2 wr (by have := (HS.out L[k] (List.getElem_mem hlt)).1; omega) (by have := (HS.out L[k] (List.getElem_mem hlt)).2; omega))
      rw [show modErr L[k].1.data.toList L[k].2.data.toList = mErr L[k] from rfl] at HM
      have HN := hid (fun h => reqsR_some HZ.out hlt h)
      have HY := hid (fun h => zero_next HZ.out h)
      have HLT := hid hlt
      rcases Nat.eq_zero_or_pos k with h00 | h00
      · have HE := hid (show reqE own L k = reqW own none L[k] by subst h00; exact reqE_0 hlt)
        have g3 : decide (0 < k) = false := decide_eq_false (by omega)
        generalize L[k] = x at *
        obtain ⟨p, v⟩ := x
        clear hlt h00
        by_cases h0 : mErr (p, v) = 0
        · rw [h0] at HM
          by_cases h1 : p = own
          · have HV := hid (HN.out (by rw [HE.out, reqW_own h0 h1]; decide))
            rw [HE.out, reqW_own h0 h1] at HV
            rw [h1] at hx HM
            have hq := str_refl own
            clear h0 h1
            go_wp2_with fail
            refine HM.out.mono ?_
            rintro e w1 ⟨rfl, hb⟩
            have HB1 := hid (HB.out.trans (hb.mono HB.out.size))
            replace hx := cell_below hb hx
            replace hy := cell_below hb hy
            clear hb
            go_wp2_with fail
            go_ret2
            exact ⟨by rw [← HR.out, HV.out]; rfl, HB1.out⟩
          · have HV := hid (HY.out (by rw [HE.out, reqW_none h0 h1]))
            have hq := str_ne h1
            clear h0 h1
            go_wp2_with fail
            refine HM.out.mono ?_
            rintro e w1 ⟨rfl, hb⟩
            have HB1 := hid (HB.out.trans (hb.mono HB.out.size))
            replace hx := cell_below hb hx
            replace hy := cell_below hb hy
            clear hb
            go_wp2_with fail
            go_quiet (fail)
            go_wp2_with fail
            go_roundw
            case rel => exact ⟨k + 1, by have := HLT.out; omega, by go_num, HV, hid (below_drawn_of HB1.out _)⟩
            case measure => have := HLT.out; simp [intOf]; omega
        · have HV := hid (HN.out (by rw [HE.out, reqW_bad h0]; exact h0))
          rw [HE.out, reqW_bad h0] at HV
          have hpos : (0 : Int) < (mErr (p, v) : Int) := by omega
          generalize mErr (p, v) = z at *
          clear h0
          go_wp2_with fail
          refine HM.out.mono ?_
          rintro e w1 ⟨rfl, hb⟩
          have HB1 := hid (HB.out.trans (hb.mono HB.out.size))
          clear hb
          go_wp2_with fail
          go_ret2
          exact ⟨by rw [← HR.out, HV.out]; rfl, HB1.out⟩
      · obtain ⟨q, hq⟩ : ∃ q, k = q + 1 := ⟨k - 1, by omega⟩
        have hql : q < L.length := by omega
        have HE := hid (show reqE own L k = reqW own (some L[q]) L[k] by subst hq; exact reqE_1 hlt)
        have hxq := cell_below HB.out (HC.out q hql).1
        have gw : IntKind.i64.wrap ((k : Int) - 1) = (q : Int) := by rw [IntKind.wrap_i64]; omega
        have gw2 : (k : Int) - 1 = (q : Int) := by omega
        have g1 : (0 : Int) ≤ (q : Int) := by omega
        have g2 : (q : Int) < (L.length : Int) := by omega
        have g3 : (0 : Int) < (k : Int) := by omega
        have g4 : decide (0 < k) = true := decide_eq_true (by omega)
        generalize L[k] = x at *
        generalize L[q] = y at *
        obtain ⟨p, v⟩ := x
        obtain ⟨p', v'⟩ := y
        clear hlt hql hq h00
        by_cases h0 : mErr (p, v) = 0
        · rw [h0] at HM
          by_cases h1 : p = own
          · have HV := hid (HN.out (by rw [HE.out, reqW_own h0 h1]; decide))
            rw [HE.out, reqW_own h0 h1] at HV
            rw [h1] at hx HM
            have hq := str_refl own
            clear h0 h1
            go_wp2_with fail
            refine HM.out.mono ?_
            rintro e w1 ⟨rfl, hb⟩
            have HB1 := hid (HB.out.trans (hb.mono HB.out.size))
            replace hx := cell_below hb hx
            replace hy := cell_below hb hy
            clear hb
            go_wp2_with fail
            go_ret2
            exact ⟨by rw [← HR.out, HV.out]; rfl, HB1.out⟩
          · have hle := leq_is p p'
            have hq := str_ne h1
            cases hz : noLess p' p
            · have HV := hid (HY.out (by rw [HE.out, reqW_some h0 h1, if_neg (by rw [hz]; decide)]))
              rw [hz] at hle
              clear h0 h1 hz
              go_wp2_with fail
              refine HM.out.mono ?_
              rintro e w1 ⟨rfl, hb⟩
              have HB1 := hid (HB.out.trans (hb.mono HB.out.size))
              replace hx := cell_below hb hx
              replace hy := cell_below hb hy
              replace hxq := cell_below hb hxq
              clear hb
              go_wp2_with fail
              go_quiet (fail)
              go_wp2_with fail
              go_roundw
              case rel => exact ⟨k + 1, by have := HLT.out; omega, by go_num, HV, hid (below_drawn_of HB1.out _)⟩
              case measure => have := HLT.out; simp [intOf]; omega
            · have HV := hid (HN.out (by rw [HE.out, reqW_some h0 h1, if_pos hz]; decide))
              rw [HE.out, reqW_some h0 h1, if_pos hz] at HV
              rw [hz] at hle
              clear h0 h1 hz
              go_wp2_with fail
              refine HM.out.mono ?_
              rintro e w1 ⟨rfl, hb⟩
              have HB1 := hid (HB.out.trans (hb.mono HB.out.size))
              replace hx := cell_below hb hx
              replace hy := cell_below hb hy
              replace hxq := cell_below hb hxq
              clear hb
              go_wp2_with fail
              go_quiet (fail)
              go_wp2_with fail
              go_ret2
              exact ⟨by rw [← HR.out, HV.out]; rfl, below_drawn_of HB1.out _⟩
        · have HV := hid (HN.out (by rw [HE.out, reqW_bad h0]; exact h0))
          rw [HE.out, reqW_bad h0] at HV
          have hpos : (0 : Int) < (mErr (p, v) : Int) := by omega
          generalize mErr (p, v) = z at *
          clear h0
          go_wp2_with fail
          refine HM.out.mono ?_
          rintro e w1 ⟨rfl, hb⟩
          have HB1 := hid (HB.out.trans (hb.mono HB.out.size))
          clear hb
          go_wp2_with fail
          go_ret2
          exact ⟨by rw [← HR.out, HV.out]; rfl, HB1.out⟩
    · have HV := hid (reqsR_none (own := own) (L := L) (fun j hj => HZ.out j (by omega)))
      go_wp2_with fail
      go_ret2
      exact ⟨by rw [← HR.out, HV.out]; rfl, HB.out⟩
theorem reqsE_none (own : ByteArray) (a : Option Addr) (c : Nat) (w : World) : Calls Tryz.prog 28 #[.slice a 0 c, .string own] w fun e w' => e = .returned (.tuple #[.int .i64 0, .int .i64 0]) ∧ Below w.heap.size w w' := by
  go_enter Tryz.func28, Tryz.ntmps28
  go_wp2_with fail
  go_loopw [6] (fun i wr => i = .int .i64 0 ∧ wr = w) (fun i _ => 0)
  case atStart => exact ⟨rfl, rfl⟩
  case round =>
    obtain ⟨rfl, rfl⟩ := hrel
    go_wp2_with fail
    go_ret2
    exact ⟨rfl, Below.refl _ _⟩
theorem reqsE_any (own : ByteArray) (L : List Bm) (v : Value) (w : World) (hn : L.length ≤ 1000000) (hs : shortL L) (hv : MsAt w v L) :
    Calls Tryz.prog 28 #[v, .string own] w fun e w' => e = .returned (.tuple #[.int .i64 ((reqsR own L).1 : Nat), .int .i64 ((reqsR own L).2 : Nat)]) ∧ Below w.heap.size w w' := by
  obtain ⟨a, c, rfl, _, h⟩ := hv
  cases L with
  | nil => exact reqsE_none own a c w
  | cons x r =>
    obtain ⟨b, o, rfl, h2⟩ := h (by simp)
    exact reqsE_some own (x :: r) b o c w hn hs h2
end Ve
end Go.Proofs.YtjphlclhkaoipaaGreatDoor

/-
  Lines with their ends, plain; reading line by line is reading all.
-/
namespace Go.Proofs.YtjphlclhkaoipaaGreatDoor
open Go.RowKit
namespace Ve

/-- Cut behind each c. -/
def cutAfter (c : UInt8) : List UInt8 → List (List UInt8)
  | [] => [[]]
  | b :: l => if b = c then [c] :: cutAfter c l else ahead b (cutAfter c l)
theorem splitK_ahead1 (b c : UInt8) (h : b ≠ c) (k : Nat) (l : List UInt8) : Lib.splitK [c] 1 k (b :: l) = ahead b (Lib.splitK [c] 1 k l) := by
  cases k with
  | zero => rfl
  | succ k =>
    have hge := Lib.index_ge l [c]
    unfold Lib.splitK
    rw [index_cons_ne b c l h]
    by_cases e : Lib.index l [c] = -1
    · rw [e]; rfl
    · obtain ⟨i, hi⟩ : ∃ i : Nat, Lib.index l [c] = i := ⟨(Lib.index l [c]).toNat, by omega⟩
      rw [hi]
      have e1 : ((i : Int) == -1) = false := by simp
      have e2 : ((i : Int) + 1 == -1) = false := by simp; omega
      have e3 : ((i : Int) + 1).toNat = i + 1 := by omega
      simp [e1, e2, e3, ahead]
theorem splitK_cutAfter (c : UInt8) (l : List UInt8) : Lib.splitK [c] 1 (Lib.count l [c]) l = cutAfter c l := by
  induction l with
  | nil => simp [Lib.count_one, Lib.splitK, cutAfter]
  | cons b l ih =>
    by_cases h : b = c
    · subst h
      rw [Lib.count_cons_eq, Nat.add_comm]
      unfold Lib.splitK
      rw [index_cons_eq]
      simp only [cutAfter, if_true]
      simpa using ih
    · rw [Lib.count_cons_ne b c l h, splitK_ahead1 b c h, ih]
      simp [cutAfter, h]
theorem bl_after (c : UInt8) (s : ByteArray) : bl (Lib.splitB ⟨#[c]⟩ 1 (Lib.countB s ⟨#[c]⟩) s) = cutAfter c s.data.toList := by
  unfold bl
  rw [Lib.splitB_data]
  exact splitK_cutAfter c s.data.toList
/-- Ends put behind all pieces but the last one. -/
def addEnds (c : UInt8) : List (List UInt8) → List (List UInt8)
  | [] => []
  | [x] => [x]
  | x :: y :: r => (x ++ [c]) :: addEnds c (y :: r)
theorem ahead_ends (b c : UInt8) : ∀ l : List (List UInt8), l ≠ [] → ahead b (addEnds c l) = addEnds c (ahead b l)
  | [], h => absurd rfl h
  | [_], _ => rfl
  | _ :: _ :: _, _ => rfl
theorem after_ends (c : UInt8) : ∀ l : List UInt8, cutAfter c l = addEnds c (cutAt c l)
  | [] => rfl
  | b :: l => by
    have ih := after_ends c l
    unfold cutAfter cutAt
    by_cases h : b = c
    · rw [if_pos h, if_pos h, ih]
      cases e : cutAt c l with
      | nil => exact absurd e (cutAt_ne c l)
      | cons y r => rfl
    · rw [if_neg h, if_neg h, ih, ahead_ends b c _ (cutAt_ne c l)]
theorem ends_len (c : UInt8) : ∀ l : List (List UInt8), (addEnds c l).length = l.length
  | [] => rfl
  | [x] => rfl
  | x :: y :: r => by simp only [addEnds, List.length_cons]; rw [ends_len c (y :: r)]; rfl
theorem ends_get (c : UInt8) : ∀ (l : List (List UInt8)) (j : Nat) (h : j < l.length), (addEnds c l)[j]? = some (if j + 1 < l.length then l[j] ++ [c] else l[j])
  | [], _, h => absurd h (Nat.not_lt_zero _)
  | [x], 0, _ => rfl
  | [x], j + 1, h => by simp at h
  | x :: y :: r, 0, _ => by simp [addEnds]
  | x :: y :: r, j + 1, h => by
    have := ends_get c (y :: r) j (by simpa using h)
    simp only [addEnds, List.getElem?_cons_succ, List.getElem_cons_succ]
    rw [this]
    simp
theorem cut_no (c : UInt8) : ∀ (l : List UInt8) (p : List UInt8), p ∈ cutAt c l → c ∉ p
  | [], p, h => by simp [cutAt] at h; simp [h]
  | b :: l, p, h => by
    have ih := cut_no c l
    unfold cutAt at h
    by_cases e : b = c
    · rw [if_pos e] at h
      rcases List.mem_cons.1 h with h | h
      · simp [h]
      · exact ih p h
    · rw [if_neg e] at h
      cases e2 : cutAt c l with
      | nil => exact absurd e2 (cutAt_ne c l)
      | cons y r =>
        rw [e2] at h ih
        have h : p ∈ (b :: y) :: r := h
        rcases List.mem_cons.1 h with h | h
        · rw [h]
          intro hm
          rcases List.mem_cons.1 hm with hm | hm
          · exact e hm.symm
          · exact ih y List.mem_cons_self hm
        · exact ih p (List.mem_cons_of_mem _ h)

/-- What the first i lines add up to. -/
def stF (C : List (List UInt8)) : Nat → Fs
  | 0 => noFile
  | i + 1 => (stepF i (cutAt 32 (C.getD i [])) (stF C i)).getD (stF C i)
/-- What is wrong with the i-th line, where the lines ahead are right. -/
def lnE (C : List (List UInt8)) (i : Nat) : Nat :=
  if i + 1 < C.length then (if (stepF i (cutAt 32 (C.getD i [])) (stF C i)).isNone then 1 else 0)
  else (if i ≠ 0 ∧ C.getD i [] = [] then 0 else 1)
theorem go_from (C : List (List UInt8)) : ∀ (n i : Nat), i + n = C.length → i < C.length → (∀ j, j < i → lnE C j = 0) → readGo i (C.drop i) (stF C i) = match fstE (lnE C) C.length with
    | some k => .error k
    | none => .ok (stF C (C.length - 1)) := by
  intro n
  induction n with
  | zero => intro i h hi; omega
  | succ n ih =>
    intro i h hi h0
    rw [List.drop_eq_getElem_cons hi]
    have hd : C.getD i [] = C[i] := by simp [List.getD, List.getElem?_eq_getElem hi]
    by_cases hl : i + 1 < C.length
    · have hr : C.drop (i + 1) ≠ [] := by
        intro e
        have := congrArg List.length e
        simp at this; omega
      cases hs : stepF i (cutAt 32 C[i]) (stF C i) with
      | none =>
        have he : lnE C i = 1 := by unfold lnE; rw [if_pos hl, hd, hs]; rfl
        rw [go_bad hr hs, fstE_some h0 (by omega) hi]
      | some f =>
        have he : lnE C i = 0 := by unfold lnE; rw [if_pos hl, hd, hs]; rfl
        have hf : stF C (i + 1) = f := by rw [stF, hd, hs]; rfl
        rw [go_step hr hs, ← hf]
        exact ih (i + 1) (by omega) hl (fun j hj => by
          rcases Nat.lt_or_ge j i with h | h
          · exact h0 j h
          · have : j = i := by omega
            rw [this]; exact he)
    · have hr : C.drop (i + 1) = [] := List.drop_eq_nil_of_le (by omega)
      rw [hr]
      have hn : C.length - 1 = i := by omega
      by_cases hz : i ≠ 0 ∧ C[i] = []
      · have he : lnE C i = 0 := by unfold lnE; rw [if_neg hl, hd, if_pos hz]
        have hf : fstE (lnE C) C.length = none := fstE_none (fun j hj => by
          rcases Nat.lt_or_ge j i with h | h
          · exact h0 j h
          · have : j = i := by omega
            rw [this]; exact he)
        rw [hf, hn, readGo, if_pos ⟨hz.2, hz.1⟩]
      · have he : lnE C i = 1 := by unfold lnE; rw [if_neg hl, hd, if_neg hz]
        rw [fstE_some h0 (by omega) hi, readGo, if_neg (fun h => hz ⟨h.2, h.1⟩)]
theorem readL_is (s : List UInt8) : readL s = match fstE (lnE (cutAt 10 s)) (cutAt 10 s).length with
    | some k => .error k
    | none => .ok (stF (cutAt 10 s) ((cutAt 10 s).length - 1)) := by
  have hp : 0 < (cutAt 10 s).length := List.length_pos_iff.2 (cutAt_ne 10 s)
  have := go_from (cutAt 10 s) (cutAt 10 s).length 0 (by omega) hp (fun j hj => absurd hj (by omega))
  rw [List.drop_zero] at this
  exact this
/-- What was read has no more modules than there are lines. -/
theorem step_many {i : Nat} {ws : List (List UInt8)} {f f' : Fs} (h : stepF i ws f = some f') : f'.2.1.length + f'.2.2.length ≤ f.2.1.length + f.2.2.length + 1 := by
  unfold stepF at h
  split at h
  · split at h
    · split at h
      · simp only [Option.some.injEq] at h; subst h; simp
      · cases h
    · cases h
  · split at h
    · split at h
      · simp only [Option.some.injEq] at h; subst h; simp; omega
      · split at h
        · simp only [Option.some.injEq] at h; subst h; simp; omega
        · cases h
    · cases h
theorem st_many (C : List (List UInt8)) : ∀ i, (stF C i).2.1.length + (stF C i).2.2.length ≤ i
  | 0 => by simp [stF, noFile]
  | i + 1 => by
    have ih := st_many C i
    unfold stF
    cases h : stepF i (cutAt 32 (C.getD i [])) (stF C i) with
    | none => simp; omega
    | some f => have := step_many h; simp; omega
end Ve
end Go.Proofs.YtjphlclhkaoipaaGreatDoor
