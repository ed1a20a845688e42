/-
  FileN FileL
-/
import Derived.Test.YtjhlkjgijbobcaaGreatDoorFt36
import Derived.OwnWalk
import Derived.Lib.SliceRun
namespace Go.Proofs.YtjhlkjgijbobcaaGreatDoor
open Go.RowKit
namespace Ve
set_option maxHeartbeats 1000000 in
theorem clone_some (b o c : Nat) (L : List Bm) (w : World) (hn : L.length ≤ 1000000) (hc : ∀ j u, (flatM L)[j]? = some u → w.cell? ⟨b, o + j, none⟩ = some u) :
    Calls Tryz.prog 65 #[.slice (some ⟨b, o, none⟩) L.length c] w fun e w' => ∃ v, e = .returned v ∧ w'.ownsRow w.heap.size 26 2 v L.length (flatM L) ∧ Below w.heap.size w w' := by
  obtain ⟨i0, hi, hz0, hz1, hz2⟩ := info_parts infoMod
  have q22 : ∀ (w : World) (a : Option Addr) (n c n' c' : Nat), (binOp .eql 22 (.slice a n c) (.slice none n' c')).run Tryz.prog w = .ok (.bool a.isNone) w := fun w a n c n' c' => Lib.run_eql_slice_nil w _ _ a n c n' c' Tryz.underlying22
  have HC := hid hc
  clear hc
  go_enter Tryz.func65, Tryz.ntmps65
  go_wp2_with (at_builtin; refine wpList_append_own _ rfl _ _ 22 rfl w.heap.size 26 i0 _ 2 32 Tryz.underlying22 hi hz0 hz1 hz2 rfl (by decide) _ _ _ rfl (World.ownsRow_made w #[] 0 (Nat.le_refl _) (Nat.zero_le _) (by simp)) ⟨b, o, none⟩ L.length c (flatM L) rfl ?qc1 ?qc2 ?qc3 ?qc4 ?qc5 ?qc6 ?_)
  case qc1 => exact flatM_len L
  case qc2 =>
    intro j u hj
    rw [Addr.add_lit]
    exact Lib.cell?_alloc_some _ (HC.out j u hj)
  case qc3 => exact flat_one L
  case qc4 => rw [Nat.zero_add]; unfold maxLen; omega
  case qc5 => rw [Nat.zero_add]; omega
  case qc6 => simp
  intro v' w1 hown hgrow hnil
  obtain ⟨va, vn, vc, rfl⟩ := own_sl hown
  have HO := hid hown
  have HG := hid hgrow
  clear hown hgrow hnil
  go_wp2_with fail
  go_ret
  refine ⟨_, rfl, by simpa using HO.out, ?_⟩
  exact ((Below.refl _ w).alloc (Nat.le_refl _) _).grown HG.out (by simp) (by intro k hk; simp [Value.ownBlock] at hk; omega)
theorem clone_nil (w : World) : Calls Tryz.prog 65 #[.slice none 0 0] w fun e w' => e = .returned (.slice none 0 0) ∧ w' = w := by
  have q22 : ∀ (w : World) (a : Option Addr) (n c n' c' : Nat), (binOp .eql 22 (.slice a n c) (.slice none n' c')).run Tryz.prog w = .ok (.bool a.isNone) w := fun w a n c n' c' => Lib.run_eql_slice_nil w _ _ a n c n' c' Tryz.underlying22
  go_enter Tryz.func65, Tryz.ntmps65
  go_wp2_with fail
  go_ret
  exact ⟨rfl, rfl⟩
theorem clone_any (v : Value) (L : List Bm) (w : World) (hn : L.length ≤ 1000000) (hv : MsAt w v L) (hz : L = [] → v = .slice none 0 0) :
    Calls Tryz.prog 65 #[v] w fun e w' => ∃ u, e = .returned u ∧ w'.ownsRow w.heap.size 26 2 u L.length (flatM L) ∧ (L = [] → u = .slice none 0 0) ∧ Below w.heap.size w w' := by
  cases L with
  | nil =>
    rw [hz rfl]
    exact (clone_nil w).mono fun e w' ⟨h1, h2⟩ => ⟨_, h1, World.ownsRow_nil _ _ _ _, fun _ => rfl, by rw [h2]; exact Below.refl _ _⟩
  | cons x r =>
    obtain ⟨a, c, rfl, _, h⟩ := hv
    obtain ⟨b, o, rfl, h2⟩ := h (by simp)
    exact (clone_some b o c (x :: r) w hn (ms_flat h2)).mono fun e w' ⟨u, h1, h2, h3⟩ => ⟨u, h1, h2, (fun h => by cases h), h3⟩
structure Cp2 (w0 W : World) (R X : List Bm) (v u : Value) : Prop where
  ov : W.ownsRow w0.heap.size 26 2 v R.length (flatM R)
  ou : W.ownsRow w0.heap.size 26 2 u X.length (flatM X)
  ap : ∀ g, v.ownBlock = some g → u.ownBlock ≠ some g
  bl : Below w0.heap.size w0 W
  zv : R = [] → v = .slice none 0 0
  zu : X = [] → u = .slice none 0 0
theorem two3b {w w3 : World} {o : Obj} {a' b' c' : Value} {T' : TypeId} (hb : Below (w.heap.size + 1 + 1) ((w.alloc o).alloc (.cells #[a', b', c'] T')) w3) : w3.heap[w.heap.size + 1]? = some (.cells #[a', b', c'] T' (0, 0)) := by
  have := heap_new (w.alloc o) (.cells #[a', b', c'] T')
  rw [show (w.alloc o).heap.size = w.heap.size + 1 by simp] at this
  rw [hb.block _ (by omega)]; exact this
theorem cp_size {w w1 : World} {a b : Obj} (h : Below (w.heap.size + 1 + 1) ((w.alloc a).alloc b) w1) : w.heap.size + 1 + 1 ≤ w1.heap.size := by
  have := h.size; simpa using this
set_option maxHeartbeats 2000000 in
theorem copy_of (p : ByteArray) (R X : List Bm) (v u : Value) (w : World) (F : Fl w R X v u) (hz : R = [] → v = .slice none 0 0) (hx : X = [] → u = .slice none 0 0) :
    Calls Tryz.prog 41 #[.agg #[.string p, v, u]] w fun e w' => ∃ v' u', e = .returned (.agg #[.string p, v', u']) ∧ Cp2 w w' R X v' u' := by
  obtain ⟨⟨vp, vc, rfl⟩, up, uc, rfl⟩ := F.slices
  have HB1 := hid (((Below.refl w.heap.size w).alloc (Nat.le_refl _) (.cells #[.string p, .slice vp R.length vc, .slice up X.length uc] 24)).alloc (by simp) (.cells #[.string ⟨#[]⟩, .slice none 0 0, .slice none 0 0] 24))
  have HC1 := hid (fun W (hW : MsAt W (.slice vp R.length vc) R) => clone_any (.slice vp R.length vc) R W F.rn hW hz)
  have HC2 := hid (fun W (hW : MsAt W (.slice up X.length uc) X) => clone_any (.slice up X.length uc) X W F.xn hW hx)
  have HF := hid F
  clear F hz hx
  go_enter Tryz.func41, Tryz.ntmps41
  have HBX := hid (show Below (w.heap.size + 1 + 1) ((w.alloc (.cells #[.string p, .slice vp R.length vc, .slice up X.length uc] 24)).alloc (.cells #[.string ⟨#[]⟩, .slice none 0 0, .slice none 0 0] 24)) ((w.alloc (.cells #[.string p, .slice vp R.length vc, .slice up X.length uc] 24)).alloc (.cells #[.string ⟨#[]⟩, .slice none 0 0, .slice none 0 0] 24)).drew from below_drawn_of (Below.refl _ _) 1)
  have HBD := hid (show Below w.heap.size w ((w.alloc (.cells #[.string p, .slice vp R.length vc, .slice up X.length uc] 24)).alloc (.cells #[.string ⟨#[]⟩, .slice none 0 0, .slice none 0 0] 24)).drew from below_drawn_of HB1.out 1)
  have HSZ := hid (show ((w.alloc (.cells #[.string p, .slice vp R.length vc, .slice up X.length uc] 24)).alloc (.cells #[.string ⟨#[]⟩, .slice none 0 0, .slice none 0 0] 24)).drew.heap.size = w.heap.size + 1 + 1 by simp)
  have HM1 := hid (HF.out.r.below HBD.out)
  go_wp2_with fail
  go_region_held3 (fun W => W.cell? ⟨w.heap.size, 0, none⟩ = some (.string p) ∧ W.cell? ⟨w.heap.size, 1, none⟩ = some (.slice vp R.length vc) ∧ W.cell? ⟨w.heap.size, 2, none⟩ = some (.slice up X.length uc))
    (first | exact HK2.out | exact HK1.out | go_keep)
    (first
      | (go_at_call_of 65 (Value.slice vp R.length vc); refine (HC1.out _ HM1.out).mono ?_; rintro e w1 ⟨v1, rfl, ho, hzv, hb⟩; have HO1 := hid ho; have HZV := hid hzv; clear hzv; have HBa := hid (HBX.out.trans (hb.mono (Nat.le_of_eq HSZ.out.symm))); have HBb := hid (HBD.out.trans (hb.mono HBD.out.size)); have HK1 := hid (two3 HBa.out).1; clear ho hb)
      | (go_at_call_of 65 (Value.slice up X.length uc); refine (HC2.out _ (HF.out.x.below HBb.out)).mono ?_; rintro e w2 ⟨u1, rfl, ho, hzu, hb⟩; have HO2 := hid ho; have HZU := hid hzu; clear hzu; have HBc := hid (HBa.out.trans (hb.mono (cp_size HBa.out))); have HBd := hid (HBb.out.trans (hb.mono HBb.out.size)); have HO3 := hid (owns_below HO1.out hb); have HK2 := hid (two3 HBc.out).1; clear ho hb; obtain ⟨_, ⟨r0, r1, r2⟩, rf, rz⟩ := two3 HBc.out; obtain ⟨va, vn, vc2, rfl⟩ := own_sl HO1.out; obtain ⟨ua, un, uc2, rfl⟩ := own_sl HO2.out))
  all_goals
    go_wp2_with fail
    refine bodyPost_ret (v := .agg #[.string p, .slice va vn vc2, .slice ua un uc2]) (by simp [results, Tryz.results41, go_sem, r0, r1, r2]) rfl ?_
    have hblk := two3b HBc.out
    refine ⟨_, _, rfl, put3_owns (own_base HO3.out HBD.out.size) (own_ne2 HO3.out hblk (by decide)), put3_owns (own_base HO2.out HBb.out.size) (own_ne2 HO2.out hblk (by decide)), fun g hg hu => ?_, put3_below HBd.out (by omega), HZV.out, HZU.out⟩
    have e1 := (own_lt HO1.out hg).1
    have e2 := (own_lt HO2.out hu).2
    omega
end Ve
end Go.Proofs.YtjhlkjgijbobcaaGreatDoor
namespace Go.Proofs.YtjhlkjgijbobcaaGreatDoor
open Go.RowKit
namespace Ve
set_option maxHeartbeats 1000000 in
theorem fread_long (s : ByteArray) (A : Nat → Addr) (m : Int) (w : World) (S : Te w A m) (h : 8000 < s.size) :
    Calls Tryz.prog 13 #[.string s] w fun e w' => e = .returned (.tuple #[.agg #[.string ⟨#[]⟩, .slice none 0 0, .slice none 0 0], errA A 2]) ∧ Below w.heap.size w w' := by
  have HB0 := hid ((Below.refl w.heap.size w).alloc (Nat.le_refl _) (.cells #[.string ⟨#[]⟩, .slice none 0 0, .slice none 0 0] 24))
  have g := (S.below HB0.out).sen.g1
  obtain ⟨⟨r0, r1, r2⟩, rz⟩ := res3 (Below.refl _ (w.alloc (.cells #[.string ⟨#[]⟩, .slice none 0 0, .slice none 0 0] 24)))
  have rf := res3f (Below.refl _ (w.alloc (.cells #[.string ⟨#[]⟩, .slice none 0 0, .slice none 0 0] 24)))
  have hne1 : ¬ w.heap.size = 1 := by have := lt_of_cell S.sen.g1; simp at this; omega
  have hne2 : ¬ 1 = w.heap.size := fun h => hne1 h.symm
  have h8 : (8000 : Int) < (s.size : Int) := by omega
  clear S h
  go_enter Tryz.func13, Tryz.ntmps13
  go_wp2_with fail
  generalize hw : w.alloc (.cells #[.string ⟨#[]⟩, .slice none 0 0, .slice none 0 0] 24) = wq
  rw [hw] at g r0 r1 r2 rz rf HB0
  clear hw
  go_region
  all_goals (try go_wp2)
  all_goals
    refine bodyPost_ret (v := .tuple #[.agg #[.string ⟨#[]⟩, .slice none 0 0, .slice none 0 0], .iface 201 (.pointer (some (A 1)))]) (by simp [results, Tryz.results13, go_sem, r0, r1, r2]) rfl ⟨rfl, ?_⟩
    exact (put3_below HB0.out (Nat.le_refl _)).drew
theorem short_of {s : List UInt8} {f : Fs} (h : readL s = .ok f) (hs : s.length < 99999) : f.1.size < 999999 ∧ shortL f.2.1 ∧ shortL f.2.2 ∧ f.2.1.length ≤ 1000000 ∧ f.2.2.length ≤ 1000000 := by
  obtain ⟨h1, h2, h3⟩ := readL_short h
  refine ⟨by omega, fun m hm => ?_, fun m hm => ?_, by omega, by omega⟩
  · have := h2 m (List.mem_append_left _ hm); omega
  · have := h2 m (List.mem_append_right _ hm); omega
set_option maxHeartbeats 1000000 in
theorem fread_line (s : ByteArray) (i : Nat) (A : Nat → Addr) (m : Int) (w : World) (S : Te w A m) (h : ¬ 8000 < s.size) (hr : readL s.data.toList = .error i) :
    Calls Tryz.prog 13 #[.string s] w fun e w' => ∃ x, e = .returned (.tuple #[.agg #[.string ⟨#[]⟩, .slice none 0 0, .slice none 0 0], x]) ∧ ErrAt w' A x 1 (some i) ∧ Below w.heap.size w w' := by
  have HB0 := hid ((Below.refl w.heap.size w).alloc (Nat.le_refl _) (.cells #[.string ⟨#[]⟩, .slice none 0 0, .slice none 0 0] 24))
  have HL := hid (lines_any s A m _ (by omega) (S.below HB0.out))
  have h8 : ¬ (8000 : Int) < (s.size : Int) := by omega
  have HR := hid hr
  clear S h hr
  go_enter Tryz.func13, Tryz.ntmps13
  go_wp2_with fail
  refine HL.out.mono ?_
  rintro e w1 ⟨P, v, u, x, rfl, hb, ⟨va, vn, vc, rfl⟩, ⟨ua, un, uc, rfl⟩, hm⟩
  rw [HR.out] at hm
  have hm : ErrAt w1 A x 1 (some i) := hm
  have HE := hid hm
  obtain ⟨_, b, rfl, _, _⟩ := hm
  have HBx := hid (show Below (w.heap.size + 1) (w.alloc (.cells #[.string ⟨#[]⟩, .slice none 0 0, .slice none 0 0] 24)) w1 from hb.mono (by simp))
  have HBy := hid (HBx.out.alloc (by have := HBx.out.size; simpa using this) (.cells #[.string P, .slice va vn vc, .slice ua un uc] 24))
  have HE2 := hid (HE.out.below ((Below.refl w1.heap.size w1).alloc (Nat.le_refl _) (.cells #[.string P, .slice va vn vc, .slice ua un uc] 24)))
  obtain ⟨⟨r0, r1, r2⟩, rz⟩ := res3 HBy.out
  have rf := res3f HBy.out
  have HB2 := hid (HB0.out.trans (HBy.out.mono (by omega)))
  clear hb
  go_wp2_with fail
  refine bodyPost_ret (v := .tuple #[.agg #[.string ⟨#[]⟩, .slice none 0 0, .slice none 0 0], .iface 80 (.pointer (some ⟨b, 0, none⟩))]) (by simp [results, Tryz.results13, go_sem, r0, r1, r2]) rfl ?_
  exact ⟨_, rfl, put3_err HE2.out r0, put3_below HB2.out (Nat.le_refl _)⟩
theorem ms_put3 {W : World} {b : Nat} {v x y z : Value} {L : List Bm} {cs : Array Value} (hb : W.heap[b]? = some (.cells cs 24 (0, 0))) {B : Nat} (hown : W.ownsRow B 26 2 v L.length (flatM L)) : MsAt (put3 W b x y z) v L := own_ms (put3_owns hown (own_ne2 hown hb (by decide)))
set_option maxHeartbeats 1000000 in
theorem fread_file (s : ByteArray) (f : Fs) (A : Nat → Addr) (m : Int) (w : World) (S : Te w A m) (h : ¬ 8000 < s.size) (hr : readL s.data.toList = .ok f) (hf : (fileF f.1 f.2.1 f.2.2).1 ≠ 0) :
    Calls Tryz.prog 13 #[.string s] w fun e w' => e = .returned (.tuple #[.agg #[.string ⟨#[]⟩, .slice none 0 0, .slice none 0 0], errA A (fileF f.1 f.2.1 f.2.2).1]) ∧ Below w.heap.size w w' := by
  have HB0 := hid ((Below.refl w.heap.size w).alloc (Nat.le_refl _) (.cells #[.string ⟨#[]⟩, .slice none 0 0, .slice none 0 0] 24))
  have HS0 := hid (S.below HB0.out)
  have HL := hid (lines_any s A m _ (by omega) HS0.out)
  have h8 : ¬ (8000 : Int) < (s.size : Int) := by omega
  have HSH := hid (short_of hr (by simp; omega))
  have HR := hid hr
  have HF := hid hf
  rw [errA_if A hf]
  have HEI := hid (errA_if A hf)
  clear S h hr hf
  go_enter Tryz.func13, Tryz.ntmps13
  go_wp2_with fail
  refine HL.out.mono ?_
  rintro e w1 ⟨P, v, u, x, rfl, hb, _, _, hm⟩
  rw [HR.out] at hm
  obtain ⟨rfl, rfl, hv, hu, _⟩ := hm
  have HBx := hid (show Below (w.heap.size + 1) (w.alloc (.cells #[.string ⟨#[]⟩, .slice none 0 0, .slice none 0 0] 24)) w1 from hb.mono (by simp))
  have HS1 := hid (HS0.out.below hb)
  have HFL := hid (show Fl w1 f.2.1 f.2.2 v u from ⟨own_ms hv, own_ms hu, HSH.out.2.1, HSH.out.2.2.1, HSH.out.2.2.2.1, HSH.out.2.2.2.2⟩)
  obtain ⟨⟨va, vc, rfl⟩, ua, uc, rfl⟩ := HFL.out.slices
  have HBn := hid ((Below.refl w1.heap.size w1).alloc (Nat.le_refl _) (.cells #[.string f.1, .slice va f.2.1.length vc, .slice ua f.2.2.length uc] 24))
  have HBy := hid (HBx.out.trans (HBn.out.mono (by have := HBx.out.size; simpa using this)))
  have HRT := hid (right_bad f.1 f.2.1 f.2.2 _ _ A m _ HSH.out.1 (HS1.out.below HBn.out) (HFL.out.below HBn.out) HF.out)
  rw [HEI.out] at HRT
  clear hb hv hu
  go_wp2_with fail
  refine HRT.out.mono ?_
  rintro e w2 ⟨rfl, hb⟩
  have HBz := hid (HBy.out.trans (hb.mono (by have := HBy.out.size; simpa using this)))
  obtain ⟨⟨r0, r1, r2⟩, rz⟩ := res3 HBz.out
  have rf := res3f HBz.out
  have HB2 := hid (HB0.out.trans (HBz.out.mono (by omega)))
  clear hb
  go_wp2_with fail
  refine bodyPost_ret (v := .tuple #[.agg #[.string ⟨#[]⟩, .slice none 0 0, .slice none 0 0], .iface 201 (.pointer (some (A ((fileF f.1 f.2.1 f.2.2).1 - 1))))]) (by simp [results, Tryz.results13, go_sem, r0, r1, r2]) rfl ?_
  exact ⟨rfl, put3_below HB2.out (Nat.le_refl _)⟩
set_option maxHeartbeats 1000000 in
theorem fread_ok (s : ByteArray) (f : Fs) (A : Nat → Addr) (m : Int) (w : World) (S : Te w A m) (h : ¬ 8000 < s.size) (hr : readL s.data.toList = .ok f) (hf : (fileF f.1 f.2.1 f.2.2).1 = 0) :
    Calls Tryz.prog 13 #[.string s] w fun e w' => ∃ v u, e = .returned (.tuple #[.agg #[.string f.1, v, u], .nilIface]) ∧ MsAt w' v f.2.1 ∧ MsAt w' u f.2.2 ∧ Below w.heap.size w w' := by
  have HB0 := hid ((Below.refl w.heap.size w).alloc (Nat.le_refl _) (.cells #[.string ⟨#[]⟩, .slice none 0 0, .slice none 0 0] 24))
  have HS0 := hid (S.below HB0.out)
  have HL := hid (lines_any s A m _ (by omega) HS0.out)
  have h8 : ¬ (8000 : Int) < (s.size : Int) := by omega
  have HSH := hid (short_of hr (by simp; omega))
  have HR := hid hr
  have HF := hid hf
  clear S h hr hf
  go_enter Tryz.func13, Tryz.ntmps13
  go_wp2_with fail
  refine HL.out.mono ?_
  rintro e w1 ⟨P, v, u, x, rfl, hb, _, _, hm⟩
  rw [HR.out] at hm
  obtain ⟨rfl, rfl, hv, hu, _⟩ := hm
  have HBx := hid (show Below (w.heap.size + 1) (w.alloc (.cells #[.string ⟨#[]⟩, .slice none 0 0, .slice none 0 0] 24)) w1 from hb.mono (by simp))
  have HS1 := hid (HS0.out.below hb)
  have HFL := hid (show Fl w1 f.2.1 f.2.2 v u from ⟨own_ms hv, own_ms hu, HSH.out.2.1, HSH.out.2.2.1, HSH.out.2.2.2.1, HSH.out.2.2.2.2⟩)
  have HV := hid hv
  have HU := hid hu
  obtain ⟨⟨va, vc, rfl⟩, ua, uc, rfl⟩ := HFL.out.slices
  have HBn := hid ((Below.refl w1.heap.size w1).alloc (Nat.le_refl _) (.cells #[.string f.1, .slice va f.2.1.length vc, .slice ua f.2.2.length uc] 24))
  have HBy := hid (HBx.out.trans (HBn.out.mono (by have := HBx.out.size; simpa using this)))
  have HRT := hid (right_ok f.1 f.2.1 f.2.2 _ _ A m _ HSH.out.1 (HS1.out.below HBn.out) (HFL.out.below HBn.out) HF.out)
  clear hb hv hu
  go_wp2_with fail
  refine HRT.out.mono ?_
  rintro e w2 ⟨rfl, hb⟩
  have HBz := hid (HBy.out.trans (hb.mono (by have := HBy.out.size; simpa using this)))
  obtain ⟨⟨r0, r1, r2⟩, rz⟩ := res3 HBz.out
  have rf := res3f HBz.out
  have HRB := hid (res3b HBz.out)
  have HB2 := hid (HB0.out.trans (HBz.out.mono (by omega)))
  have HV2 := hid (owns_below (owns_below HV.out HBn.out) hb)
  have HU2 := hid (owns_below (owns_below HU.out HBn.out) hb)
  clear hb
  go_wp2_with fail
  refine bodyPost_ret (v := .tuple #[.agg #[.string f.1, .slice va f.2.1.length vc, .slice ua f.2.2.length uc], .nilIface]) (by simp [results, Tryz.results13, go_sem, r0, r1, r2]) rfl ?_
  exact ⟨_, _, rfl, ms_put3 HRB.out HV2.out, ms_put3 HRB.out HU2.out, put3_below HB2.out (Nat.le_refl _)⟩
theorem fread_any (s : ByteArray) (A : Nat → Addr) (m : Int) (w : World) (S : Te w A m) : Calls Tryz.prog 13 #[.string s] w fun e w' => ReadFP s.data.toList A w w' e := by
  have hl : s.data.toList.length = s.size := len_eq s
  by_cases h : 8000 < s.size
  · have hr : readF s.data.toList = .error (2, none) := by unfold readF; rw [hl, if_pos h]
    exact (fread_long s A m w S h).mono fun e w' ⟨h1, h2⟩ => ⟨_, _, _, _, h1, h2, by rw [hr]; exact ⟨rfl, by decide, rfl, rfl, rfl⟩⟩
  · cases h1 : readL s.data.toList with
    | error i =>
      have hr : readF s.data.toList = .error (1, some i) := by unfold readF; rw [hl, if_neg h, h1]
      exact (fread_line s i A m w S h h1).mono fun e w' ⟨x, h1, h2, h3⟩ => ⟨_, _, _, _, h1, h3, by rw [hr]; exact ⟨h2, Nat.one_ne_zero, rfl, rfl, rfl⟩⟩
    | ok f =>
      by_cases hf : (fileF f.1 f.2.1 f.2.2).1 = 0
      · have hr : readF s.data.toList = .ok f := by unfold readF; rw [hl, if_neg h, h1]; simp only; rw [if_pos hf]
        exact (fread_ok s f A m w S h h1 hf).mono fun e w' ⟨v, u, h1, h2, h3, h4⟩ => ⟨_, _, _, _, h1, h4, by rw [hr]; exact ⟨rfl, rfl, h2, h3⟩⟩
      · have hr : readF s.data.toList = .error ((fileF f.1 f.2.1 f.2.2).1, none) := by unfold readF; rw [hl, if_neg h, h1]; simp only; rw [if_neg hf]
        exact (fread_file s f A m w S h h1 hf).mono fun e w' ⟨h1, h2⟩ => ⟨_, _, _, _, h1, h2, by rw [hr]; exact ⟨rfl, hf, rfl, rfl, rfl⟩⟩
end Ve
end Go.Proofs.YtjhlkjgijbobcaaGreatDoor
