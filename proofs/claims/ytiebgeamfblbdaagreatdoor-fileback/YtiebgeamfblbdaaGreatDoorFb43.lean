/-
  FilZA FilZB FilZC
-/
import Derived.Test.YtiebgeamfblbdaaGreatDoorFb42
import Derived.Test.YtiebgeamfblbdaaGreatDoorFb24
import Derived.Laws.AppendOwnNone
import Derived.Test.YtiebgeamfblbdaaGreatDoorFb44
import Derived.Test.YtiebgeamfblbdaaGreatDoorFb37
import Derived.Test.YtiebgeamfblbdaaGreatDoorFb34
namespace Go.Proofs.YtiebgeamfblbdaaGreatDoor
open Go.RowKit
namespace Ve
theorem set_any (p : ByteArray) (R X : List Bm) (v u : Value) (m : Bm) (A : Nat → Addr) (k0 : Int) (w : World) (hp : p.size < 999999) (S : Te w A k0) (F : Fl w R X v u) (hz : R = [] → v = .slice none 0 0) (hx : X = [] → u = .slice none 0 0) (hm : m.1.size < 999999 ∧ m.2.size < 999999) :
    Calls Tryz.prog 11 #[.agg #[.string p, v, u], .agg #[.string m.1, .string m.2]] w fun e w' => SetP p X (setF p R X m) A w w' e := by
  by_cases h : (fileF p R X).1 = 0
  · refine (set_good p R X v u m A k0 w hp S F hz hx h hm).mono fun e w' ⟨P, a, n, c, a', n', c', x, v2, u2, h1, h2, h3, h4, h5, h6⟩ => ?_
    unfold RightP at h2
    by_cases h7 : (fileF p (setR R m) X).1 = 0
    · rw [if_pos h7] at h2
      obtain ⟨rfl, e1, e2, rfl⟩ := h2
      have : setF P R X m = .ok (setR R m) := by unfold setF; rw [if_pos h, if_pos h7]
      rw [this]
      exact ⟨_, _, _, _, h1, h6, rfl, rfl, by rw [e1]; exact h3, by rw [e2]; exact h4, fun h => by rw [e2]; exact h5 h⟩
    · rw [if_neg h7] at h2
      obtain ⟨e0, e1, e2, rfl⟩ := h2
      have : setF p R X m = .error (fileF p (setR R m) X).1 := by unfold setF; rw [if_pos h, if_neg h7]
      rw [this]
      exact ⟨_, _, _, _, h1, h6, rfl, h7, e0, e1, e2⟩
  · have : setF p R X m = .error (fileF p R X).1 := by unfold setF; rw [if_neg h]
    rw [this]
    exact (set_bad p R X v u m A k0 w hp S F hz hx h).mono fun e w' ⟨h1, h2⟩ => ⟨_, _, _, _, h1, h2, rfl, h, rfl, rfl, rfl⟩
def dropF (p : ByteArray) (R X : List Bm) (t : ByteArray) : Except Nat (List Bm) :=
  if (fileF p R X).1 = 0 then (if (eqR R t).isEmpty then .error 5 else .ok (dropR R t)) else .error (fileF p R X).1
set_option maxHeartbeats 2000000 in
theorem drop_bad (p : ByteArray) (R X : List Bm) (v u : Value) (t : ByteArray) (A : Nat → Addr) (k : Int) (w : World) (hp : p.size < 999999) (S : Te w A k) (F : Fl w R X v u) (hz : R = [] → v = .slice none 0 0) (hx : X = [] → u = .slice none 0 0) (h : (fileF p R X).1 ≠ 0) :
    Calls Tryz.prog 13 #[.agg #[.string p, v, u], .string t] w fun e w' => e = .returned (.tuple #[.agg #[.string ⟨#[]⟩, .slice none 0 0, .slice none 0 0], errA A (fileF p R X).1]) ∧ Below w.heap.size w w' := by
  obtain ⟨⟨vp, vc, rfl⟩, up, uc, rfl⟩ := F.slices
  have HB1 := hid (((Below.refl w.heap.size w).alloc (Nat.le_refl _) (.cells #[.string p, .slice vp R.length vc, .slice up X.length uc] 24)).alloc (by simp) (.cells #[.string ⟨#[]⟩, .slice none 0 0, .slice none 0 0] 24))
  have HS := hid (S.below HB1.out)
  have HF := hid (F.below HB1.out)
  have HC := hid (copy_of p R X _ _ _ HF.out hz hx)
  have HEI := hid (errA_if A h)
  have HN := hid h
  rw [HEI.out]
  clear S F hz hx h
  go_enter Tryz.func13, Tryz.ntmps13
  go_wp2_with fail
  refine HC.out.mono ?_
  rintro e w1 ⟨v1, u1, rfl, hcp⟩
  have HCP := hid hcp
  have HS1 := hid (HS.out.below hcp.bl)
  have HF1 := hid (show Fl w1 R X v1 u1 from ⟨own_ms hcp.ov, own_ms hcp.ou, HF.out.rs, HF.out.xs, HF.out.rn, HF.out.xn⟩)
  obtain ⟨⟨a1, c1, rfl⟩, a2, c2, rfl⟩ := HF1.out.slices
  have HRT := hid (right_bad p R X _ _ A k w1 hp HS1.out HF1.out HN.out)
  rw [HEI.out] at HRT
  have HBa := hid (show Below (w.heap.size + 1 + 1) _ w1 from hcp.bl.mono (by simp))
  clear hcp
  go_wp2_with fail
  refine HRT.out.mono ?_
  rintro e w2 ⟨rfl, hb⟩
  have HBb := hid (HBa.out.trans (hb.mono (by have := HBa.out.size; simpa using this)))
  have HBc := hid (HBb.out.alloc (by have := HBb.out.size; simpa using this) (.cells #[.string ⟨#[]⟩, .slice none 0 0, .slice none 0 0] 24))
  obtain ⟨_, ⟨r0, r1, r2⟩, rf, rz⟩ := two3 HBc.out
  have HBd := hid (HB1.out.trans (HBc.out.mono (by omega)))
  clear hb
  go_wp2_with fail
  refine bodyPost_ret (v := .tuple #[.agg #[.string ⟨#[]⟩, .slice none 0 0, .slice none 0 0], .iface 169 (.pointer (some (A ((fileF p R X).1 - 1))))]) (by simp [results, Tryz.results13, go_sem, r0, r1, r2]) rfl ?_
  exact ⟨rfl, put3_below HBd.out (by omega)⟩
theorem del_is {R : List Bm} {p : ByteArray} {k : Nat} (hr : rising R) (hk : k ≤ R.length) (h : bound R p k k) : (thereB R p k = true → k < R.length ∧ R.take k ++ R.drop (k + 1) = dropR R p ∧ (eqR R p).isEmpty = false) ∧ (thereB R p k = false → (eqR R p).isEmpty = true) := by
  have h1 := (bound_split hr hk h).1
  unfold dropR
  rw [← h1]
  rcases there_split hr hk h with ⟨e1, e2, e3, q, e4, _⟩ | ⟨e1, e2, e3⟩
  · exact ⟨fun _ => ⟨e2, by rw [e3], by rw [e4]; rfl⟩, fun e => by rw [e1] at e; cases e⟩
  · exact ⟨(fun e => by rw [e1] at e; cases e), fun _ => by rw [e3]; rfl⟩
set_option maxHeartbeats 4000000 in
set_option maxRecDepth 100000 in
theorem drop_good (p : ByteArray) (R X : List Bm) (v u : Value) (t : ByteArray) (A : Nat → Addr) (k0 : Int) (w : World) (hp : p.size < 999999) (S : Te w A k0) (F : Fl w R X v u) (hz : R = [] → v = .slice none 0 0) (hx : X = [] → u = .slice none 0 0) (h : (fileF p R X).1 = 0) (r : Except Nat (List Bm)) (hr0 : r = if (eqR R t).isEmpty then .error 5 else .ok (dropR R t)) :
    Calls Tryz.prog 13 #[.agg #[.string p, v, u], .string t] w fun e w' => SetP p X r A w w' e := by
  have HR0 := hid hr0
  clear hr0
  obtain ⟨hr, hl, _⟩ := rising_ok h
  obtain ⟨⟨vp, vc, rfl⟩, up, uc, rfl⟩ := F.slices
  have HB1 := hid (((Below.refl w.heap.size w).alloc (Nat.le_refl _) (.cells #[.string p, .slice vp R.length vc, .slice up X.length uc] 24)).alloc (by simp) (.cells #[.string ⟨#[]⟩, .slice none 0 0, .slice none 0 0] 24))
  have HLT := hid (lt_of_cell S.sen.g4)
  have HS := hid (S.below HB1.out)
  have HF := hid (F.below HB1.out)
  have HC := hid (copy_of p R X _ _ _ HF.out hz hx)
  have HN := hid h
  have HRI := hid hr
  have HLN := hid hl
  clear S F hz hx h hr hl
  go_enter Tryz.func13, Tryz.ntmps13
  go_wp2_with fail
  refine HC.out.mono ?_
  rintro e w1 ⟨v1, u1, rfl, hcp⟩
  have HCP := hid hcp
  have HS1 := hid (HS.out.below hcp.bl)
  have HF1 := hid (show Fl w1 R X v1 u1 from ⟨own_ms hcp.ov, own_ms hcp.ou, HF.out.rs, HF.out.xs, HF.out.rn, HF.out.xn⟩)
  obtain ⟨⟨a1, c1, rfl⟩, a2, c2, rfl⟩ := HF1.out.slices
  have HRT := hid (right_ok p R X _ _ A k0 w1 hp HS1.out HF1.out HN.out)
  clear hcp
  go_wp2_with fail
  refine HRT.out.mono ?_
  rintro e w2 ⟨rfl, hb⟩
  have HNX := hid (Nx.start (p := p) (HCP.out.bl.trans (hb.mono HCP.out.bl.size)) (owns_below HCP.out.ov hb) (owns_below HCP.out.ou hb) HCP.out.ap)
  have n1 := HNX.out.c1
  clear hb
  go_wp2_with fail
  refine (find_any R t _ _ HRI.out (by have := HLN.out; omega) (own_ms HNX.out.ov)).mono ?_
  rintro e w4 ⟨k, hk, rfl, hbd, hb⟩
  have HSI := hid (del_is HRI.out hk hbd)
  have HN4 := hid (HNX.out.below hb)
  have HBb := hid (show Below (w.heap.size + 1 + 1) _ _ from HN4.out.bl.mono (by simp))
  have HS4 := hid (HS.out.below HN4.out.bl)
  clear hb n1 hbd
  have n1 := HN4.out.c1
  cases hth : thereB R t k with
  | false =>
    have HEM := hid (HSI.out.2 hth)
    obtain ⟨_, ⟨r0, r1, r2⟩, rf, rz⟩ := two3 HBb.out
    have g := HS4.out.sen.g4
    have hne1 : ¬ w.heap.size + 1 = 2 := by have : 2 < w.heap.size := HLT.out; omega
    have hne2 : ¬ 2 = w.heap.size + 1 := fun h => hne1 h.symm
    clear hth
    go_wp2_with fail
    go_region
    all_goals (try go_wp2)
    all_goals
      refine bodyPost_ret (v := .tuple #[.agg #[.string ⟨#[]⟩, .slice none 0 0, .slice none 0 0], .iface 169 (.pointer (some (A 4)))]) (by simp [results, Tryz.results13, go_sem, r0, r1, r2]) rfl ?_
      rw [HR0.out, HEM.out, if_pos rfl]
      exact ⟨_, _, _, _, rfl, (put3_below (HB1.out.trans (HN4.out.bl.mono HB1.out.size)) (by omega)).drew, rfl, by decide, rfl, rfl, rfl⟩
  | true =>
    obtain ⟨hkl, hsr, hem⟩ := HSI.out.1 hth
    have HEM := hid hem
    have HSR := hid hsr
    have hw1 : IntKind.i64.wrap ((k : Int) + 1) = (k : Int) + 1 := by rw [IntKind.wrap_i64]; have := HLN.out; omega
    clear hth hsr hem
    go_wp2_with fail
    refine (del_any R _ _ k _ HF1.out.rn HN4.out.ov hkl).mono ?_
    rintro e w6 ⟨v', rfl, hi⟩
    rw [HSR.out] at hi
    obtain ⟨va, vn, vcc, rfl⟩ := own_sl hi.own
    have hbk := HN4.out.blkI hi
    have d0 : w6.cell? ⟨w2.heap.size, 0, none⟩ = some (.string p) := by rw [Lib.cell_of_heap hbk]; rfl
    have d1 : w6.cell? ⟨w2.heap.size, 1, none⟩ = some (.slice a1 R.length c1) := by rw [Lib.cell_of_heap hbk]; rfl
    have d2 : w6.cell? ⟨w2.heap.size, 2, none⟩ = some (.slice a2 X.length c2) := by rw [Lib.cell_of_heap hbk]; rfl
    have df := fun o => Lib.frozen_of_heap hbk o
    have HN7 := hid (HN4.out.insd hi)
    have e0 := HN7.out.c0
    have e1 := HN7.out.c1
    have e2 := HN7.out.c2
    have HBc := hid (show Below (w.heap.size + 1 + 1) _ _ from HN7.out.bl.mono (by simp))
    obtain ⟨_, ⟨r0, r1, r2⟩, rf, rz⟩ := two3 HBc.out
    have HRB := hid (two3b HBc.out)
    clear hi hbk n1
    go_wp2_with fail
    refine bodyPost_ret (v := .tuple #[.agg #[.string p, .slice va vn vcc, .slice a2 X.length c2], .nilIface]) (by simp [results, Tryz.results13, go_sem, r0, r1, r2]) rfl ?_
    rw [HR0.out, HEM.out, if_neg (by simp)]
    exact ⟨_, _, _, _, rfl, put3_below (HB1.out.trans (HN7.out.bl.mono HB1.out.size)) (by omega), rfl, rfl, own_ms (put3_owns HN7.out.ov (own_ne2 HN7.out.ov HRB.out (by decide))), own_ms (put3_owns HN7.out.ou (own_ne2 HN7.out.ou HRB.out (by decide))), HCP.out.zu⟩
theorem drop_any (p : ByteArray) (R X : List Bm) (v u : Value) (t : ByteArray) (A : Nat → Addr) (k0 : Int) (w : World) (hp : p.size < 999999) (S : Te w A k0) (F : Fl w R X v u) (hz : R = [] → v = .slice none 0 0) (hx : X = [] → u = .slice none 0 0) :
    Calls Tryz.prog 13 #[.agg #[.string p, v, u], .string t] w fun e w' => SetP p X (dropF p R X t) A w w' e := by
  unfold dropF
  by_cases h : (fileF p R X).1 = 0
  · rw [if_pos h]; exact drop_good p R X v u t A k0 w hp S F hz hx h _ rfl
  · rw [if_neg h]
    exact (drop_bad p R X v u t A k0 w hp S F hz hx h).mono fun e w' ⟨h1, h2⟩ => ⟨_, _, _, _, h1, h2, rfl, h, rfl, rfl, rfl⟩
end Ve
end Go.Proofs.YtiebgeamfblbdaaGreatDoor
namespace Go.Proofs.YtiebgeamfblbdaaGreatDoor
open Go.RowKit
namespace Ve
theorem two3a {w w3 : World} {o : Obj} {a b c : Value} {T : TypeId} (hb : Below (w.heap.size + 1 + 1) ((w.alloc (.cells #[a, b, c] T)).alloc o) w3) : w3.heap[w.heap.size]? = some (.cells #[a, b, c] T (0, 0)) := by
  rw [hb.block _ (by omega)]; exact heap_old _ _ (heap_new w _)
set_option maxHeartbeats 2000000 in
theorem ownF_any (p : ByteArray) (R X : List Bm) (v u : Value) (w : World) (F : Fl w R X v u) (he : Em v R) (hx : Em u X) :
    Calls Tryz.prog 6 #[.agg #[.string p, v, u]] w fun e w' => ∃ v' u', e = .returned (.agg #[.string p, v', u']) ∧ Cp2 w w' R X v' u' := by
  obtain ⟨⟨vp, vc, rfl⟩, up, uc, rfl⟩ := F.slices
  have HB1 := hid (((Below.refl w.heap.size w).alloc (Nat.le_refl _) (.cells #[.string p, .slice vp R.length vc, .slice up X.length uc] 24)).alloc (by simp) (.cells #[.string ⟨#[]⟩, .slice none 0 0, .slice none 0 0] 24))
  have HF := hid F
  have HE1 := hid he
  have HE2 := hid hx
  clear F he hx
  go_enter Tryz.func6, Tryz.ntmps6
  go_wp2_with fail
  refine (ownM_any (.slice vp R.length vc) R _ HF.out.rn (HF.out.r.below HB1.out) HE1.out).mono ?_
  rintro e w1 ⟨v1, rfl, ho1, hz1, hb⟩
  obtain ⟨va, vn, vcc, rfl⟩ := own_sl ho1
  have HO1 := hid ho1
  have HZ1 := hid hz1
  have HBa := hid (show Below (w.heap.size + 1 + 1) _ w1 from hb.mono (by simp))
  have HBw := hid (HB1.out.trans (hb.mono HB1.out.size))
  obtain ⟨⟨q0, q1, q2⟩, ⟨r0, r1, r2⟩, rf, rz⟩ := two3 HBa.out
  have HRB := hid (two3b HBa.out)
  have HQB := hid (two3a HBa.out)
  have qf := fun o => Lib.frozen_of_heap HQB.out o
  have HW2 := hid (HBw.out.setCell (p := ⟨w.heap.size, 1, none⟩) (Nat.le_refl _) (.slice va vn vcc))
  have HQ2 := hid (set_block (o := 1) (x := .slice va vn vcc) HQB.out)
  clear hb ho1 hz1
  go_wp2_with fail
  refine (ownM_any (.slice up X.length uc) X _ HF.out.xn (HF.out.x.below HW2.out) HE2.out).mono ?_
  rintro e w2 ⟨u1, rfl, ho2, hz2, hb⟩
  obtain ⟨ua, un, ucc, rfl⟩ := own_sl ho2
  have HO2 := hid ho2
  have HZ2 := hid hz2
  have hsz : (w1.setCell ⟨w.heap.size, 1, none⟩ (.slice va vn vcc)).heap.size = w1.heap.size := by simp [World.setCell]
  have HQ3 := hid (show w2.heap[w.heap.size]? = some (.cells #[.string p, .slice va vn vcc, .slice up X.length uc] 24 (0, 0)) by
    rw [hb.block _ (by rw [hsz]; omega)]; exact HQ2.out)
  have HR3 := hid (show w2.heap[w.heap.size + 1]? = some (.cells #[.string ⟨#[]⟩, .slice none 0 0, .slice none 0 0] 24 (0, 0)) by
    rw [hb.block _ (by rw [hsz]; omega)]; exact keep_set HRB.out (by omega))
  have HB3 := hid (HW2.out.trans (hb.mono HW2.out.size))
  have HO4 := hid (owns_below (owns_set (o := 1) (x := .slice va vn vcc) HO1.out (own_ne2 HO1.out HQB.out (by decide))) hb)
  have s0 : w2.cell? ⟨w.heap.size, 0, none⟩ = some (.string p) := by rw [Lib.cell_of_heap HQ3.out]; rfl
  have s1 : w2.cell? ⟨w.heap.size, 1, none⟩ = some (.slice va vn vcc) := by rw [Lib.cell_of_heap HQ3.out]; rfl
  have s2 : w2.cell? ⟨w.heap.size, 2, none⟩ = some (.slice up X.length uc) := by rw [Lib.cell_of_heap HQ3.out]; rfl
  have sf := fun o => Lib.frozen_of_heap HQ3.out o
  have t0 : w2.cell? ⟨w.heap.size + 1, 0, none⟩ = some (.string ⟨#[]⟩) := by rw [Lib.cell_of_heap HR3.out]; rfl
  have t1 : w2.cell? ⟨w.heap.size + 1, 1, none⟩ = some (.slice none 0 0) := by rw [Lib.cell_of_heap HR3.out]; rfl
  have t2 : w2.cell? ⟨w.heap.size + 1, 2, none⟩ = some (.slice none 0 0) := by rw [Lib.cell_of_heap HR3.out]; rfl
  have tf := fun o => Lib.frozen_of_heap HR3.out o
  have HSZ := hid hsz
  clear hb ho2 hz2 q0 q1 q2 r0 r1 r2 rf qf hsz
  go_wp2_with fail
  refine bodyPost_ret (v := .agg #[.string p, .slice va vn vcc, .slice ua un ucc]) (by simp [results, Tryz.results6, go_sem, t0, t1, t2]) rfl ?_
  have a1 : ∀ {n : Nat} {x : Value} {xs : List Value}, w2.ownsRow w.heap.size 26 2 x n xs → ((put3 (w2.setCell ⟨w.heap.size, 2, none⟩ (.slice ua un ucc)) (w.heap.size + 1) (.string p) (.slice va vn vcc) (.slice ua un ucc))).ownsRow w.heap.size 26 2 x n xs := fun h =>
    put3_owns (owns_set h (own_ne2 h HQ3.out (by decide))) (own_ne2 h HR3.out (by decide))
  refine ⟨_, _, rfl, a1 (own_base HO4.out HB1.out.size), a1 (own_base HO2.out HW2.out.size), fun g hg hu => ?_, put3_below (HB3.out.setCell (p := ⟨w.heap.size, 2, none⟩) (Nat.le_refl _) _) (by omega), HZ1.out, HZ2.out⟩
  have e1 := (own_lt HO1.out hg).1
  have e2 := (own_lt HO2.out hu).2
  have e3 := HSZ.out
  omega
end Ve
end Go.Proofs.YtiebgeamfblbdaaGreatDoor
namespace Go.Proofs.YtiebgeamfblbdaaGreatDoor
open Go.RowKit
namespace Ve
end Ve
end Go.Proofs.YtiebgeamfblbdaaGreatDoor
