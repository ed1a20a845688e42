/-
  FileK FileN
-/
import Derived.Test.YtiebgeamfblbdaaGreatDoorFb33
import Derived.Test.YtiebgeamfblbdaaGreatDoorFb34
import Derived.Test.YtiebgeamfblbdaaGreatDoorFb24
import Derived.OwnWalk
import Derived.Lib.SliceRun
namespace Go.Proofs.YtiebgeamfblbdaaGreatDoor
open Go.RowKit
namespace Ve
theorem two3 {w w3 : World} {a b c a' b' c' : Value} {T T' : TypeId} (hb : Below (w.heap.size + 1 + 1) ((w.alloc (.cells #[a, b, c] T)).alloc (.cells #[a', b', c'] T')) w3) :
    (w3.cell? ⟨w.heap.size, 0, none⟩ = some a ∧ w3.cell? ⟨w.heap.size, 1, none⟩ = some b ∧ w3.cell? ⟨w.heap.size, 2, none⟩ = some c) ∧
    (w3.cell? ⟨w.heap.size + 1, 0, none⟩ = some a' ∧ w3.cell? ⟨w.heap.size + 1, 1, none⟩ = some b' ∧ w3.cell? ⟨w.heap.size + 1, 2, none⟩ = some c') ∧ (∀ o, w3.frozen? ⟨w.heap.size + 1, o, none⟩ = false) ∧ w.heap.size + 1 < w3.heap.size := by
  have hz : (w.alloc (.cells #[a, b, c] T)).heap.size = w.heap.size + 1 := by simp
  have h2 : Below ((w.alloc (.cells #[a, b, c] T)).heap.size + 1) ((w.alloc (.cells #[a, b, c] T)).alloc (.cells #[a', b', c'] T')) w3 := by rw [hz]; exact hb
  obtain ⟨c2, z2⟩ := res3 h2
  have f2 := res3f h2
  rw [hz] at c2 z2 f2
  refine ⟨?_, c2, f2, z2⟩
  have go : ∀ o, w3.cell? ⟨w.heap.size, o, none⟩ = (w.alloc (.cells #[a, b, c] T)).cell? ⟨w.heap.size, o, none⟩ := fun o => by
    rw [hb.cell (by simp; omega), World.cell?_alloc_lt _ _ _ (by simp)]
  rw [go, go, go]
  simp
set_option maxHeartbeats 1000000 in
theorem right_bad (p : ByteArray) (R X : List Bm) (v u : Value) (A : Nat → Addr) (m : Int) (w : World) (hp : p.size < 999999) (S : Te w A m) (F : Fl w R X v u) (h : (fileF p R X).1 ≠ 0) :
    Calls Tryz.prog 23 #[.agg #[.string p, v, u]] w fun e w' => e = .returned (.tuple #[.agg #[.string ⟨#[]⟩, .slice none 0 0, .slice none 0 0], errA A (fileF p R X).1]) ∧ Below w.heap.size w w' := by
  obtain ⟨⟨vp, vc, rfl⟩, up, uc, rfl⟩ := F.slices
  have HB1 := hid (((Below.refl w.heap.size w).alloc (Nat.le_refl _) (.cells #[.string p, .slice vp R.length vc, .slice up X.length uc] 24)).alloc (by simp) (.cells #[.string ⟨#[]⟩, .slice none 0 0, .slice none 0 0] 24))
  have HS := hid (S.below HB1.out)
  have HC := hid (fcheck_any p R X _ _ A m _ hp HS.out (F.below HB1.out))
  have HN := hid h
  rw [errA_if A h]
  have HEI := hid (errA_if A h)
  clear S F h
  generalize (fileF p R X).1 = cc at *
  generalize (fileF p R X).2 = oo at *
  go_enter Tryz.func23, Tryz.ntmps23
  go_wp2_with fail
  refine HC.out.mono ?_
  rintro e w1 ⟨x, rfl, he, hb⟩
  have HE := hid he
  have HBa := hid (show Below (w.heap.size + 1 + 1) ((w.alloc (.cells #[.string p, .slice vp R.length vc, .slice up X.length uc] 24)).alloc (.cells #[.string ⟨#[]⟩, .slice none 0 0, .slice none 0 0] 24)) w1 from hb.mono (by simp))
  have HS1 := hid (HS.out.below hb)
  have HB2 := hid (HB1.out.trans (hb.mono HB1.out.size))
  have HBR := hid (bare_any x cc oo A m w1 HS1.out he HN.out)
  rw [HEI.out] at HBR
  obtain ⟨T, a, rfl⟩ := errAt_iface he HN.out
  clear he hb
  go_wp2_with fail
  refine HBR.out.mono ?_
  rintro e w2 ⟨rfl, hb⟩
  have HBb := hid (HBa.out.trans (hb.mono (by have := HBa.out.size; simp at this; omega)))
  obtain ⟨_, ⟨r0, r1, r2⟩, rf, rz⟩ := two3 HBb.out
  have HB3 := hid (HB2.out.trans (hb.mono HB2.out.size))
  clear hb
  go_wp2_with fail
  refine bodyPost_ret (v := .tuple #[.agg #[.string ⟨#[]⟩, .slice none 0 0, .slice none 0 0], .iface 169 (.pointer (some (A (cc - 1))))]) (by simp [results, Tryz.results23, go_sem, r0, r1, r2]) rfl ⟨rfl, ?_⟩
  exact put3_below HB3.out (by omega)
set_option maxHeartbeats 1000000 in
theorem right_ok (p : ByteArray) (R X : List Bm) (v u : Value) (A : Nat → Addr) (m : Int) (w : World) (hp : p.size < 999999) (S : Te w A m) (F : Fl w R X v u) (h : (fileF p R X).1 = 0) :
    Calls Tryz.prog 23 #[.agg #[.string p, v, u]] w fun e w' => e = .returned (.tuple #[.agg #[.string p, v, u], .nilIface]) ∧ Below w.heap.size w w' := by
  obtain ⟨⟨vp, vc, rfl⟩, up, uc, rfl⟩ := F.slices
  have HB1 := hid (((Below.refl w.heap.size w).alloc (Nat.le_refl _) (.cells #[.string p, .slice vp R.length vc, .slice up X.length uc] 24)).alloc (by simp) (.cells #[.string ⟨#[]⟩, .slice none 0 0, .slice none 0 0] 24))
  have HC := hid (fcheck_any p R X _ _ A m _ hp (S.below HB1.out) (F.below HB1.out))
  rw [h] at HC
  clear S F h
  go_enter Tryz.func23, Tryz.ntmps23
  go_wp2_with fail
  refine HC.out.mono ?_
  rintro e w1 ⟨x, rfl, he, hb⟩
  obtain rfl := errAt_nil he
  have HBa := hid (show Below (w.heap.size + 1 + 1) ((w.alloc (.cells #[.string p, .slice vp R.length vc, .slice up X.length uc] 24)).alloc (.cells #[.string ⟨#[]⟩, .slice none 0 0, .slice none 0 0] 24)) w1 from hb.mono (by simp))
  obtain ⟨⟨q0, q1, q2⟩, ⟨r0, r1, r2⟩, rf, rz⟩ := two3 HBa.out
  have HB2 := hid (HB1.out.trans (hb.mono HB1.out.size))
  clear he hb
  go_wp2_with fail
  refine bodyPost_ret (v := .tuple #[.agg #[.string p, .slice vp R.length vc, .slice up X.length uc], .nilIface]) (by simp [results, Tryz.results23, go_sem, r0, r1, r2]) rfl ⟨rfl, ?_⟩
  exact put3_below HB2.out (by omega)
theorem step_short {N i : Nat} {ws : List (List UInt8)} {f f' : Fs} (h : stepF i ws f = some f') (hw : ∀ x, x ∈ ws → x.length ≤ N) (hf : f.1.size ≤ N ∧ ∀ m, m ∈ f.2.1 ++ f.2.2 → m.1.size ≤ N ∧ m.2.size ≤ N) : f'.1.size ≤ N ∧ ∀ m, m ∈ f'.2.1 ++ f'.2.2 → m.1.size ≤ N ∧ m.2.size ≤ N := by
  have hb : ∀ l : List UInt8, (bt l).size = l.length := fun l => by rw [← len_eq, bt_list]
  unfold stepF at h
  split at h
  · split at h
    · split at h
      · rename_i a b _
        simp only [Option.some.injEq] at h; subst h
        exact ⟨by rw [hb]; exact hw _ (by simp), hf.2⟩
      · cases h
    · cases h
  · split at h
    · rename_i a b c
      have h1 := hw b (by simp)
      have h2 := hw c (by simp)
      split at h
      · simp only [Option.some.injEq] at h; subst h
        refine ⟨hf.1, fun m hm => ?_⟩
        simp only [List.mem_append, List.mem_singleton] at hm
        rcases hm with (hm | hm) | hm
        · exact hf.2 m (List.mem_append_left _ hm)
        · rw [hm]; exact ⟨by rw [hb]; exact h1, by rw [hb]; exact h2⟩
        · exact hf.2 m (List.mem_append_right _ hm)
      · split at h
        · simp only [Option.some.injEq] at h; subst h
          refine ⟨hf.1, fun m hm => ?_⟩
          simp only [List.mem_append, List.mem_singleton] at hm
          rcases hm with hm | hm | hm
          · exact hf.2 m (List.mem_append_left _ hm)
          · exact hf.2 m (List.mem_append_right _ hm)
          · rw [hm]; exact ⟨by rw [hb]; exact h1, by rw [hb]; exact h2⟩
        · cases h
    · cases h
theorem st_short {N : Nat} {C : List (List UInt8)} (hC : ∀ p, p ∈ C → p.length ≤ N) : ∀ i, (stF C i).1.size ≤ N ∧ ∀ m, m ∈ (stF C i).2.1 ++ (stF C i).2.2 → m.1.size ≤ N ∧ m.2.size ≤ N
  | 0 => ⟨Nat.zero_le _, fun m hm => by simp [stF, noFile] at hm⟩
  | i + 1 => by
    have ih := st_short hC i
    unfold stF
    cases h : stepF i (cutAt 32 (C.getD i [])) (stF C i) with
    | none => exact ih
    | some f =>
      refine step_short h (fun x hx => ?_) ih
      have h1 := cutAt_le 32 _ x hx
      have h2 : (C.getD i []).length ≤ N := by
        by_cases hc : i < C.length
        · rw [show C.getD i [] = C[i] by simp [List.getD, List.getElem?_eq_getElem hc]]
          exact hC _ (List.getElem_mem hc)
        · rw [show C.getD i [] = [] by simp [List.getD, List.getElem?_eq_none (Nat.le_of_not_lt hc)]]
          simp
      omega
theorem readL_short {s : List UInt8} {f : Fs} (h : readL s = .ok f) : f.1.size ≤ s.length ∧ (∀ m, m ∈ f.2.1 ++ f.2.2 → m.1.size ≤ s.length ∧ m.2.size ≤ s.length) ∧ f.2.1.length + f.2.2.length ≤ s.length + 1 := by
  rw [readL_is] at h
  cases h2 : fstE (lnE (cutAt 10 s)) (cutAt 10 s).length with
  | some k => rw [h2] at h; cases h
  | none =>
    rw [h2] at h
    simp only [Except.ok.injEq] at h
    have h3 := st_short (cutAt_le 10 s) ((cutAt 10 s).length - 1)
    have h4 := st_many (cutAt 10 s) ((cutAt 10 s).length - 1)
    have h5 := cutAt_many 10 s
    rw [h] at h3 h4
    exact ⟨h3.1, h3.2, by omega⟩
end Ve
end Go.Proofs.YtiebgeamfblbdaaGreatDoor
namespace Go.Proofs.YtiebgeamfblbdaaGreatDoor
open Go.RowKit
namespace Ve
set_option maxHeartbeats 1000000 in
theorem clone_some (b o c : Nat) (L : List Bm) (w : World) (hn : L.length ≤ 1000000) (hc : ∀ j u, (flatM L)[j]? = some u → w.cell? ⟨b, o + j, none⟩ = some u) :
    Calls Tryz.prog 43 #[.slice (some ⟨b, o, none⟩) L.length c] w fun e w' => ∃ v, e = .returned v ∧ w'.ownsRow w.heap.size 26 2 v L.length (flatM L) ∧ Below w.heap.size w w' := by
  obtain ⟨i0, hi, hz0, hz1, hz2⟩ := info_parts infoMod
  have q22 : ∀ (w : World) (a : Option Addr) (n c n' c' : Nat), (binOp .eql 22 (.slice a n c) (.slice none n' c')).run Tryz.prog w = .ok (.bool a.isNone) w := fun w a n c n' c' => Lib.run_eql_slice_nil w _ _ a n c n' c' Tryz.underlying22
  have HC := hid hc
  clear hc
  go_enter Tryz.func43, Tryz.ntmps43
  go_wp2_with (at_builtin; refine wpList_append_own _ rfl _ _ 22 rfl w.heap.size 26 i0 _ 2 32 Tryz.underlying22 hi hz0 hz1 hz2 rfl (by decide) _ _ _ rfl (World.ownsRow_made w #[] 0 (Nat.le_refl _) (Nat.zero_le _) (by simp)) ⟨b, o, none⟩ L.length c (flatM L) rfl ?qc1 ?qc2 ?qc3 ?qc4 ?qc5 ?qc6 ?_)
  case qc1 => exact flatM_len L
  case qc2 =>
    intro j u hj
    rw [Addr.add_lit]
    exact Lib.cell?_alloc_some _ (HC.out j u hj)
  case qc3 => exact flat_one L
  case qc4 => rw [Nat.zero_add]; unfold maxLen; omega
  case qc5 => rw [Nat.zero_add]; omega
  case qc6 => simp
  intro v' w1 hown hgrow hnil
  obtain ⟨va, vn, vc, rfl⟩ := own_sl hown
  have HO := hid hown
  have HG := hid hgrow
  clear hown hgrow hnil
  go_wp2_with fail
  go_ret
  refine ⟨_, rfl, by simpa using HO.out, ?_⟩
  exact ((Below.refl _ w).alloc (Nat.le_refl _) _).grown HG.out (by simp) (by intro k hk; simp [Value.ownBlock] at hk; omega)
theorem clone_nil (w : World) : Calls Tryz.prog 43 #[.slice none 0 0] w fun e w' => e = .returned (.slice none 0 0) ∧ w' = w := by
  have q22 : ∀ (w : World) (a : Option Addr) (n c n' c' : Nat), (binOp .eql 22 (.slice a n c) (.slice none n' c')).run Tryz.prog w = .ok (.bool a.isNone) w := fun w a n c n' c' => Lib.run_eql_slice_nil w _ _ a n c n' c' Tryz.underlying22
  go_enter Tryz.func43, Tryz.ntmps43
  go_wp2_with fail
  go_ret
  exact ⟨rfl, rfl⟩
theorem clone_any (v : Value) (L : List Bm) (w : World) (hn : L.length ≤ 1000000) (hv : MsAt w v L) (hz : L = [] → v = .slice none 0 0) :
    Calls Tryz.prog 43 #[v] w fun e w' => ∃ u, e = .returned u ∧ w'.ownsRow w.heap.size 26 2 u L.length (flatM L) ∧ (L = [] → u = .slice none 0 0) ∧ Below w.heap.size w w' := by
  cases L with
  | nil =>
    rw [hz rfl]
    exact (clone_nil w).mono fun e w' ⟨h1, h2⟩ => ⟨_, h1, World.ownsRow_nil _ _ _ _, fun _ => rfl, by rw [h2]; exact Below.refl _ _⟩
  | cons x r =>
    obtain ⟨a, c, rfl, _, h⟩ := hv
    obtain ⟨b, o, rfl, h2⟩ := h (by simp)
    exact (clone_some b o c (x :: r) w hn (ms_flat h2)).mono fun e w' ⟨u, h1, h2, h3⟩ => ⟨u, h1, h2, (fun h => by cases h), h3⟩
structure Cp2 (w0 W : World) (R X : List Bm) (v u : Value) : Prop where
  ov : W.ownsRow w0.heap.size 26 2 v R.length (flatM R)
  ou : W.ownsRow w0.heap.size 26 2 u X.length (flatM X)
  ap : ∀ g, v.ownBlock = some g → u.ownBlock ≠ some g
  bl : Below w0.heap.size w0 W
  zv : R = [] → v = .slice none 0 0
  zu : X = [] → u = .slice none 0 0
theorem two3b {w w3 : World} {o : Obj} {a' b' c' : Value} {T' : TypeId} (hb : Below (w.heap.size + 1 + 1) ((w.alloc o).alloc (.cells #[a', b', c'] T')) w3) : w3.heap[w.heap.size + 1]? = some (.cells #[a', b', c'] T' (0, 0)) := by
  have := heap_new (w.alloc o) (.cells #[a', b', c'] T')
  rw [show (w.alloc o).heap.size = w.heap.size + 1 by simp] at this
  rw [hb.block _ (by omega)]; exact this
theorem cp_size {w w1 : World} {a b : Obj} (h : Below (w.heap.size + 1 + 1) ((w.alloc a).alloc b) w1) : w.heap.size + 1 + 1 ≤ w1.heap.size := by
  have := h.size; simpa using this
set_option maxHeartbeats 2000000 in
theorem copy_of (p : ByteArray) (R X : List Bm) (v u : Value) (w : World) (F : Fl w R X v u) (hz : R = [] → v = .slice none 0 0) (hx : X = [] → u = .slice none 0 0) :
    Calls Tryz.prog 25 #[.agg #[.string p, v, u]] w fun e w' => ∃ v' u', e = .returned (.agg #[.string p, v', u']) ∧ Cp2 w w' R X v' u' := by
  obtain ⟨⟨vp, vc, rfl⟩, up, uc, rfl⟩ := F.slices
  have HB1 := hid (((Below.refl w.heap.size w).alloc (Nat.le_refl _) (.cells #[.string p, .slice vp R.length vc, .slice up X.length uc] 24)).alloc (by simp) (.cells #[.string ⟨#[]⟩, .slice none 0 0, .slice none 0 0] 24))
  have HC1 := hid (fun W (hW : MsAt W (.slice vp R.length vc) R) => clone_any (.slice vp R.length vc) R W F.rn hW hz)
  have HC2 := hid (fun W (hW : MsAt W (.slice up X.length uc) X) => clone_any (.slice up X.length uc) X W F.xn hW hx)
  have HF := hid F
  clear F hz hx
  go_enter Tryz.func25, Tryz.ntmps25
  have HBX := hid (show Below (w.heap.size + 1 + 1) ((w.alloc (.cells #[.string p, .slice vp R.length vc, .slice up X.length uc] 24)).alloc (.cells #[.string ⟨#[]⟩, .slice none 0 0, .slice none 0 0] 24)) ((w.alloc (.cells #[.string p, .slice vp R.length vc, .slice up X.length uc] 24)).alloc (.cells #[.string ⟨#[]⟩, .slice none 0 0, .slice none 0 0] 24)).drew from below_drawn_of (Below.refl _ _) 1)
  have HBD := hid (show Below w.heap.size w ((w.alloc (.cells #[.string p, .slice vp R.length vc, .slice up X.length uc] 24)).alloc (.cells #[.string ⟨#[]⟩, .slice none 0 0, .slice none 0 0] 24)).drew from below_drawn_of HB1.out 1)
  have HSZ := hid (show ((w.alloc (.cells #[.string p, .slice vp R.length vc, .slice up X.length uc] 24)).alloc (.cells #[.string ⟨#[]⟩, .slice none 0 0, .slice none 0 0] 24)).drew.heap.size = w.heap.size + 1 + 1 by simp)
  have HM1 := hid (HF.out.r.below HBD.out)
  go_wp2_with fail
  go_region_held3 (fun W => W.cell? ⟨w.heap.size, 0, none⟩ = some (.string p) ∧ W.cell? ⟨w.heap.size, 1, none⟩ = some (.slice vp R.length vc) ∧ W.cell? ⟨w.heap.size, 2, none⟩ = some (.slice up X.length uc))
    (first | exact HK2.out | exact HK1.out | go_keep)
    (first
      | (go_at_call_of 43 (Value.slice vp R.length vc); refine (HC1.out _ HM1.out).mono ?_; rintro e w1 ⟨v1, rfl, ho, hzv, hb⟩; have HO1 := hid ho; have HZV := hid hzv; clear hzv; have HBa := hid (HBX.out.trans (hb.mono (Nat.le_of_eq HSZ.out.symm))); have HBb := hid (HBD.out.trans (hb.mono HBD.out.size)); have HK1 := hid (two3 HBa.out).1; clear ho hb)
      | (go_at_call_of 43 (Value.slice up X.length uc); refine (HC2.out _ (HF.out.x.below HBb.out)).mono ?_; rintro e w2 ⟨u1, rfl, ho, hzu, hb⟩; have HO2 := hid ho; have HZU := hid hzu; clear hzu; have HBc := hid (HBa.out.trans (hb.mono (cp_size HBa.out))); have HBd := hid (HBb.out.trans (hb.mono HBb.out.size)); have HO3 := hid (owns_below HO1.out hb); have HK2 := hid (two3 HBc.out).1; clear ho hb; obtain ⟨_, ⟨r0, r1, r2⟩, rf, rz⟩ := two3 HBc.out; obtain ⟨va, vn, vc2, rfl⟩ := own_sl HO1.out; obtain ⟨ua, un, uc2, rfl⟩ := own_sl HO2.out))
  all_goals
    go_wp2_with fail
    refine bodyPost_ret (v := .agg #[.string p, .slice va vn vc2, .slice ua un uc2]) (by simp [results, Tryz.results25, go_sem, r0, r1, r2]) rfl ?_
    have hblk := two3b HBc.out
    refine ⟨_, _, rfl, put3_owns (own_base HO3.out HBD.out.size) (own_ne2 HO3.out hblk (by decide)), put3_owns (own_base HO2.out HBb.out.size) (own_ne2 HO2.out hblk (by decide)), fun g hg hu => ?_, put3_below HBd.out (by omega), HZV.out, HZU.out⟩
    have e1 := (own_lt HO1.out hg).1
    have e2 := (own_lt HO2.out hu).2
    omega
end Ve
end Go.Proofs.YtiebgeamfblbdaaGreatDoor
