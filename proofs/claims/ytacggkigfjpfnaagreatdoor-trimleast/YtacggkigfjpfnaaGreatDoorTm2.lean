/-
  What Bare of package place answers: an error without its place; nothing old in memory turns.
-/
import Derived.Test.YtacggkigfjpfnaaGreatDoorFileA
import Derived.Test.YtacggkigfjpfnaaGreatDoorCode
import Derived.Test.YtacggkigfjpfnaaGreatDoorTm1
import Derived.Test.YtacggkigfjpfnaaGreatDoorFileP
import Derived.Test.YtacggkigfjpfnaaGreatDoorVerR
import Derived.Test.YtacggkigfjpfnaaGreatDoorVerQ
import Derived.Deep.RegionHeld
import Derived.Lib.SliceRun
import Derived.Shelf.SlSortCmp.WholeK
import Derived.Calls
import Derived.Shelf.SlGeneric
import Derived.Test.YtacggkigfjpfnaaGreatDoorProg
namespace Go.Proofs.YtacggkigfjpfnaaGreatDoor
open Go.RowKit
namespace Ve

set_option maxHeartbeats 1000000 in
theorem bare_sen (a : Addr) (A : Nat → Addr) (m : Int) (w : World) (S : Te w A m) :
    Calls Tryz.prog 106 #[.iface 247 (.pointer (some a))] w fun e w' => e = .returned (.iface 247 (.pointer (some a))) ∧ Below w.heap.size w w' := by
  have HB0 := hid ((Below.refl w.heap.size w).alloc (Nat.le_refl _) (.cells #[.pointer none] 69))
  have HA := hid (Er.as_miss_b a ⟨w.heap.size, 0, none⟩ _ (S.below HB0.out).sen.et)
  clear S
  go_enter Tryz.func106, Tryz.ntmps106
  go_wp2_with fail
  refine HA.out.mono ?_
  rintro e w1 ⟨rfl, hb⟩
  have HB := hid (HB0.out.trans (hb.mono HB0.out.size))
  clear hb
  go_wp2_with fail
  go_ret
  exact ⟨rfl, HB.out⟩
set_option maxHeartbeats 1000000 in
theorem bare_fault (b : Nat) (x : Addr) (A : Nat → Addr) (m : Int) (w : World) (S : Te w A m) (h1 : w.cell? ⟨b, 1, none⟩ = some (.iface 247 (.pointer (some x)))) :
    Calls Tryz.prog 106 #[.iface 69 (.pointer (some ⟨b, 0, none⟩))] w fun e w' => e = .returned (.iface 247 (.pointer (some x))) ∧ Below w.heap.size w w' := by
  have HB0 := hid ((Below.refl w.heap.size w).alloc (Nat.le_refl _) (.cells #[.pointer none] 69))
  have HA := hid (Er.as_hit_b ⟨b, 0, none⟩ ⟨w.heap.size, 0, none⟩ (.pointer none) _ w.heap.size (Nat.le_refl _) (S.below HB0.out).sen.et (by simp) (by simp) (by simp))
  have H1 := hid h1
  clear S h1
  go_enter Tryz.func106, Tryz.ntmps106
  go_wp2_with fail
  refine HA.out.mono ?_
  rintro e w1 ⟨rfl, hb, ht⟩
  have HB := hid (HB0.out.trans hb)
  have c1 := cell_below HB.out H1.out
  clear hb
  go_wp2_with fail
  go_ret
  exact ⟨rfl, HB.out⟩
/-- place.Bare. -/
theorem bare_any (x : Value) (c : Nat) (o : Option Nat) (A : Nat → Addr) (m : Int) (w : World) (S : Te w A m) (h : ErrAt w A x c o) (hc : c ≠ 0) :
    Calls Tryz.prog 106 #[x] w fun e w' => e = .returned (errA A c) ∧ Below w.heap.size w w' := by
  cases o with
  | none =>
    have h : x = errA A c := h
    rw [h, errA_if A hc]
    exact bare_sen _ A m w S
  | some i =>
    obtain ⟨_, b, rfl, _, h3⟩ := h
    rw [errA_if A hc] at h3 ⊢
    exact bare_fault b _ A m w S h3
theorem as_nil (p : Addr) (w : World) : Calls Tryz.prog 42 #[.nilIface, .iface 71 (.pointer (some p))] w fun e w' => e = .returned (.bool false) ∧ Below w.heap.size w w' := by
  go_enter Tryz.func42, Tryz.ntmps42
  go_wp2_with fail
  go_ret
  exact ⟨rfl, Below.refl _ _⟩
set_option maxHeartbeats 1000000 in
theorem bare_nil (w : World) : Calls Tryz.prog 106 #[.nilIface] w fun e w' => e = .returned .nilIface ∧ Below w.heap.size w w' := by
  have HA := hid (as_nil ⟨w.heap.size, 0, none⟩ (w.alloc (.cells #[.pointer none] 69)))
  have HB0 := hid ((Below.refl w.heap.size w).alloc (Nat.le_refl _) (.cells #[.pointer none] 69))
  go_enter Tryz.func106, Tryz.ntmps106
  go_wp2_with fail
  refine HA.out.mono ?_
  rintro e w1 ⟨rfl, hb⟩
  have HB := hid (HB0.out.trans (hb.mono HB0.out.size))
  clear hb
  go_wp2_with fail
  go_ret
  exact ⟨rfl, HB.out⟩
/-- place.Bare of any error, or of none. -/
theorem bare_all (x : Value) (c : Nat) (o : Option Nat) (A : Nat → Addr) (m : Int) (w : World) (S : Te w A m) (h : ErrAt w A x c o) :
    Calls Tryz.prog 106 #[x] w fun e w' => e = .returned (errA A c) ∧ Below w.heap.size w w' := by
  by_cases hc : c = 0
  · subst hc
    cases o with
    | none =>
      have h : x = errA A 0 := h
      rw [h]
      exact bare_nil w
    | some i => exact absurd rfl h.1
  · exact bare_any x c o A m w S h hc
end Ve
end Go.Proofs.YtacggkigfjpfnaaGreatDoor

/-
  What index.CheckMods answers: the first module that is no entry; the same of an entry's requirements, without its place.
-/
namespace Go.Proofs.YtacggkigfjpfnaaGreatDoor
open Go.RowKit
namespace Ve

/-- Is a module no entry? -/
def nonW (L : List Raw) (m : Bm) : Nat := if idxOf (isM m) L < 0 then 5 else 0
def nonE (L : List Raw) (R : List Bm) (i : Nat) : Nat := match R[i]? with
  | none => 0
  | some m => nonW L m
theorem nonE_at {L : List Raw} {R : List Bm} {i : Nat} (h : i < R.length) : nonE L R i = nonW L R[i] := by unfold nonE; rw [List.getElem?_eq_getElem h]
set_option maxHeartbeats 2000000 in
theorem modsK_any (L : List Raw) (p q : ByteArray) (i : Int) (b : Nat) (v : Value) (A : Nat → Addr) (m : Int) (W : World) (hL : L.length ≤ 1000000) (S : Te W A m) (h1 : W.cell? ⟨b, 0, none⟩ = some v) (hv : EsAt W v L) :
    Calls Tryz.prog 108 (#[.int .i64 i, .agg #[.string p, .string q]] ++ #[.pointer (some ⟨b, 0, none⟩)]) W fun e w' => e = .returned (errA A (nonW L (p, q))) ∧ Below W.heap.size W w' := by
  have HB0 := hid ((Below.refl W.heap.size W).alloc (Nat.le_refl _) (.cells #[.string p, .string q] 45))
  have HF := hid (find_any L (p, q) v _ hL (hv.below HB0.out))
  obtain ⟨a, c, rfl, _⟩ := hv
  have h1' := cell_below HB0.out h1
  have HG := hid (fun X (h : Below W.heap.size W X) => (S.below h).sen.g4)
  clear S
  unfold nonW
  generalize hx : idxOf (isM (p, q)) L = x at HF ⊢
  clear hx
  by_cases h : x < 0
  · rw [if_pos h]
    go_enter Tryz.func108, Tryz.ntmps108
    go_wp2_with fail
    refine HF.out.mono ?_
    rintro e w1 ⟨rfl, hb⟩
    have HB := hid (HB0.out.trans (hb.mono HB0.out.size))
    have g4 := HG.out _ HB.out
    clear hb
    go_wp2_with fail
    go_ret
    exact ⟨rfl, HB.out⟩
  · rw [if_neg h]
    go_enter Tryz.func108, Tryz.ntmps108
    go_wp2_with fail
    refine HF.out.mono ?_
    rintro e w1 ⟨rfl, hb⟩
    have HB := hid (HB0.out.trans (hb.mono HB0.out.size))
    clear hb
    go_wp2_with fail
    go_ret
    exact ⟨rfl, HB.out⟩
set_option maxHeartbeats 2000000 in
/-- index.CheckMods. -/
theorem cmods_any (L : List Raw) (R : List Bm) (v u : Value) (A : Nat → Addr) (m : Int) (w : World) (hL : L.length ≤ 1000000) (hR : R.length ≤ 1000000) (S : Te w A m) (hv : EsAt w v L) (hu : MsAt w u R) :
    Calls Tryz.prog 79 #[v, u] w fun e w' => ∃ x, e = .returned x ∧ ErrAt w' A x (codeE (nonE L R) R.length) (fstE (nonE L R) R.length) ∧ Below w.heap.size w w' := by
  obtain ⟨a, c, hv1, _⟩ := id hv
  obtain ⟨ua, un, uc, hu1⟩ := hu.slice
  subst hv1
  subst hu1
  have HB0 := hid ((Below.refl w.heap.size w).alloc (Nat.le_refl _) (.cells #[.slice a L.length c] 22))
  have eg : ∀ args w, (callFunc 108 args).run Tryz.prog w = .ok (.enter 108 args) w := enters_of Tryz.func108 (by kernel_rfl) rfl
  have HF := hid (first_any 108 #[.pointer (some ⟨w.heap.size, 0, none⟩)] (nonE L R) R _ A (w.alloc (.cells #[.slice a L.length c] 22)) eg hR (hu.below HB0.out) (fun i hi W hW => by
    rw [nonE_at hi]
    exact modsK_any L R[i].1 R[i].2 i w.heap.size _ A m W hL ((S.below HB0.out).below hW) (cell_below hW (by simp)) ((hv.below HB0.out).below hW)))
  clear S hv hu eg
  go_enter Tryz.func79, Tryz.ntmps79
  go_wp2_with fail
  refine HF.out.mono ?_
  rintro e w1 ⟨u, rfl, he, hb⟩
  have HB := hid (HB0.out.trans (hb.mono HB0.out.size))
  have HE := hid he
  clear hb he
  go_wp2_with fail
  go_ret
  exact ⟨_, rfl, HE.out, HB.out⟩
set_option maxHeartbeats 4000000 in
theorem checkK_any (L : List Raw) (r : Raw) (R : List Bm) (i : Int) (b : Nat) (v : Value) (A : Nat → Addr) (m : Int) (W : World) (hL : L.length ≤ 1000000) (hR : R.length ≤ 1000000) (S : Te W A m) (h1 : W.cell? ⟨b, 0, none⟩ = some v) (hv : EsAt W v L) (hs : slR r) (hr : MsAt W r.2.1 R) :
    Calls Tryz.prog 105 (#[.int .i64 i, rawV r] ++ #[.pointer (some ⟨b, 0, none⟩)]) W fun e w' => e = .returned (errA A (codeE (nonE L R) R.length)) ∧ Below W.heap.size W w' := by
  obtain ⟨a, c, hv1, _⟩ := id hv
  obtain ⟨⟨p, q⟩, rv, pv, bk⟩ := r
  obtain ⟨⟨ra, rn, rc, hrv⟩, pa, pn, pc, hpv⟩ := hs
  simp only at hrv hpv hr
  subst hrv
  subst hpv
  subst hv1
  have HB0 := hid ((Below.refl W.heap.size W).alloc (Nat.le_refl _) (.cells #[.string p, .string q, .slice ra rn rc, .slice pa pn pc, .bool bk] 48))
  have HC := hid (cmods_any L R _ _ A m _ hL hR (S.below HB0.out) (hv.below HB0.out) (hr.below HB0.out))
  have HS := hid S
  have h1' := cell_below HB0.out h1
  unfold rawV
  clear S hv hr
  go_enter Tryz.func105, Tryz.ntmps105
  go_wp2_with fail
  refine HC.out.mono ?_
  rintro e w1 ⟨x, rfl, he, hb⟩
  have HB := hid (HB0.out.trans (hb.mono HB0.out.size))
  have HE := hid (bare_all x _ _ A m w1 (HS.out.below HB.out) he)
  clear hb he
  go_wp2_with fail
  refine HE.out.mono ?_
  rintro e w2 ⟨rfl, hb⟩
  have HB2 := hid (HB.out.trans (hb.mono HB.out.size))
  clear hb
  go_wp2_with fail
  go_ret
  exact ⟨rfl, HB2.out⟩
end Ve
end Go.Proofs.YtacggkigfjpfnaaGreatDoor

/-
  What index.Check answers.
-/
namespace Go.Proofs.YtacggkigfjpfnaaGreatDoor
open Go.RowKit
namespace Ve

/-- What is wrong with an entry by itself, its place in the order passed by. -/
def entR (e : Ent) : Nat := if 20 < e.2.1.length then 7 else if codeE (reqE e.1.1 e.2.1) e.2.1.length ≠ 0 then codeE (reqE e.1.1 e.2.1) e.2.1.length else packErr (bl e.2.2.1)
/-- What is wrong with an entry, behind another one or first. -/
def entW (prev : Option Bm) (e : Ent) : Nat := if mErr e.1 ≠ 0 then mErr e.1 else match prev with
  | none => entR e
  | some p => if mAhead p e.1 then entR e else 8
theorem entW_bad {o : Option Bm} {e : Ent} (h : mErr e.1 ≠ 0) : entW o e = mErr e.1 := by unfold entW; rw [if_pos h]
theorem entW_none {e : Ent} (h : mErr e.1 = 0) : entW none e = entR e := by unfold entW; rw [if_neg (by simp [h])]
theorem entW_some {p : Bm} {e : Ent} (h : mErr e.1 = 0) (ha : mAhead p e.1 = true) : entW (some p) e = entR e := by unfold entW; rw [if_neg (by simp [h])]; simp only [ha, if_true]
theorem entW_order {p : Bm} {e : Ent} (h : mErr e.1 = 0) (ha : mAhead p e.1 = false) : entW (some p) e = 8 := by unfold entW; rw [if_neg (by simp [h])]; simp [ha]
theorem entR_full {e : Ent} (h : 20 < e.2.1.length) : entR e = 7 := by unfold entR; rw [if_pos h]
theorem entR_req {e : Ent} (h : ¬ 20 < e.2.1.length) (hc : codeE (reqE e.1.1 e.2.1) e.2.1.length ≠ 0) : entR e = codeE (reqE e.1.1 e.2.1) e.2.1.length := by unfold entR; rw [if_neg h, if_pos hc]
theorem entR_pack {e : Ent} (h : ¬ 20 < e.2.1.length) (hc : codeE (reqE e.1.1 e.2.1) e.2.1.length = 0) : entR e = packErr (bl e.2.2.1) := by unfold entR; rw [if_neg h, if_neg (by simp [hc])]
/-- An entry whose texts are short. -/
structure ShE (e : Ent) : Prop where
  p : e.1.1.size < 999999
  v : e.1.2.size < 999999
  rn : e.2.1.length ≤ 1000000
  rs : shortL e.2.1
  pn : e.2.2.1.length ≤ 1000
  ps : ∀ x, x ∈ e.2.2.1 → x.size < 999999
set_option maxHeartbeats 4000000 in
theorem eachK_bad (p q : ByteArray) (rv pv : Value) (bk : Bool) (i b : Nat) (A : Nat → Addr) (m : Int) (W : World) (hs : slR ((p, q), rv, pv, bk)) (hp : p.size < 999999) (hq : q.size < 999999) (S : Te W A m) (h : mErr (p, q) ≠ 0) :
    Calls Tryz.prog 144 #[.int .i64 (i : Int), .agg #[.string p, .string q, rv, pv, .bool bk], .pointer (some ⟨b, 0, none⟩)] W fun e w' => e = .returned (errA A (mErr (p, q))) ∧ Below W.heap.size W w' := by
  obtain ⟨⟨ra, rn, rc, hrv⟩, pa, pn, pc, hpv⟩ := hs
  simp only at hrv hpv
  subst hrv
  subst hpv
  have HB0 := hid ((Below.refl W.heap.size W).alloc (Nat.le_refl _) (.cells #[.string p, .string q, .slice ra rn rc, .slice pa pn pc, .bool bk] 48))
  have HM := hid (mcheck_any p q A m _ (by omega) (by omega) (S.below HB0.out))
  have hme : mErr (p, q) = modErr p.data.toList q.data.toList := rfl
  rw [← hme, errA_if A h] at HM
  rw [errA_if A h]
  clear S h hme
  go_enter Tryz.func144, Tryz.ntmps144
  go_wp2_with fail
  refine HM.out.mono ?_
  rintro e w1 ⟨rfl, hb⟩
  have HB := hid (HB0.out.trans (hb.mono HB0.out.size))
  clear hb
  go_wp2_with fail
  go_ret
  exact ⟨rfl, HB.out⟩
set_option maxHeartbeats 8000000 in
set_option maxRecDepth 100000 in
theorem eachK_0 (pr : Option Bm) (hpr : pr = none) (p q : ByteArray) (rv pv : Value) (eR : List Bm) (eP : List ByteArray) (bk : Bool) (b : Nat) (A : Nat → Addr) (m : Int) (W : World) (hs : slR ((p, q), rv, pv, bk)) (sh : ShE ((p, q), eR, eP, bk)) (S : Te W A m) (h : mErr (p, q) = 0) (hr : MsAt W rv eR) (hpk : TxAt W pv eP) :
    Calls Tryz.prog 144 #[.int .i64 0, .agg #[.string p, .string q, rv, pv, .bool bk], .pointer (some ⟨b, 0, none⟩)] W fun e w' => e = .returned (errA A (entW pr ((p, q), eR, eP, bk))) ∧ Below W.heap.size W w' := by
  obtain ⟨⟨ra, rn, rc, hrv⟩, pa, pn, pc, hpv⟩ := hs
  simp only at hrv hpv
  subst hrv
  subst hpv
  have hrl : rn = eR.length := by obtain ⟨_, _, h, _⟩ := hr; injection h
  subst hrl
  have HB0 := hid ((Below.refl W.heap.size W).alloc (Nat.le_refl _) (.cells #[.string p, .string q, .slice ra eR.length rc, .slice pa pn pc, .bool bk] 48))
  have HM := hid (mcheck_any p q A m _ (by have := sh.p; simp only at this; omega) (by have := sh.v; simp only at this; omega) (S.below HB0.out))
  have hme : mErr (p, q) = modErr p.data.toList q.data.toList := rfl
  rw [← hme, h, errA0] at HM
  have HS := hid S
  have HSH := hid sh
  have HR := hid hr
  have HPK := hid hpk
  have H := hid h
  have HGX := hid (fun w1 (hb : Below (W.alloc (.cells #[.string p, .string q, .slice ra eR.length rc, .slice pa pn pc, .bool bk] 48)).heap.size (W.alloc (.cells #[.string p, .string q, .slice ra eR.length rc, .slice pa pn pc, .bool bk] 48)) w1) => show w1.heap[W.heap.size]? = some (.cells #[.string p, .string q, .slice ra eR.length rc, .slice pa pn pc, .bool bk] 48 (0, 0)) by rw [hb.block _ (by simp)]; exact heap_alloc_new W _)
  clear S sh hr hpk h hme
  go_enter Tryz.func144, Tryz.ntmps144
  go_wp2_with fail
  refine HM.out.mono ?_
  rintro e wz ⟨rfl, hb⟩
  have HBz := hid (HB0.out.trans (hb.mono HB0.out.size))
  have HEz := hid (HGX.out wz hb)
  clear hb HM HGX
  go_wp2_with fail
  go_quiet (fail)
  have HB1 := hid (below_drawn_of HBz.out nq)
  have HE1 := hid (show (wz.drewN nq).heap[W.heap.size]? = some (.cells #[.string p, .string q, .slice ra eR.length rc, .slice pa pn pc, .bool bk] 48 (0, 0)) from HEz.out)
  obtain ⟨wa, hwa⟩ : ∃ wa, wz.drewN nq = wa := ⟨_, rfl⟩
  rw [hwa] at HB1 HE1 ⊢
  clear hwa
  have y0 : wa.cell? ⟨W.heap.size, 0, none⟩ = some (.string p) := by rw [Lib.cell_of_heap HE1.out]; rfl
  have y1 : wa.cell? ⟨W.heap.size, 1, none⟩ = some (.string q) := by rw [Lib.cell_of_heap HE1.out]; rfl
  have y2 : wa.cell? ⟨W.heap.size, 2, none⟩ = some (.slice ra eR.length rc) := by rw [Lib.cell_of_heap HE1.out]; rfl
  have y3 : wa.cell? ⟨W.heap.size, 3, none⟩ = some (.slice pa pn pc) := by rw [Lib.cell_of_heap HE1.out]; rfl
  have y4 : wa.cell? ⟨W.heap.size, 4, none⟩ = some (.bool bk) := by rw [Lib.cell_of_heap HE1.out]; rfl
  by_cases hf : 20 < eR.length
  · have q2 : (20 : Int) < (eR.length : Int) := by omega
    have HX := hid (show entW pr ((p, q), eR, eP, bk) = 7 by rw [hpr, entW_none H.out]; exact entR_full hf)
    have g6 := (HS.out.below HB1.out).sen.g6
    clear hf
    go_wp2_with fail
    go_ret
    exact ⟨by rw [HX.out]; rfl, HB1.out⟩
  · have q2 : ¬ (20 : Int) < (eR.length : Int) := by omega
    have HF := hid hf
    have HRQ := hid (reqs_any p eR _ A m wa HSH.out.rn HSH.out.rs (HS.out.below HB1.out) (HR.out.below HB1.out))
    clear hf
    go_wp2_with fail
    refine HRQ.out.mono ?_
    rintro e wb ⟨u, rfl, he, hb⟩
    have HB2 := hid (HB1.out.trans (hb.mono HB1.out.size))
    have HE2 := hid (show wb.heap[W.heap.size]? = some (.cells #[.string p, .string q, .slice ra eR.length rc, .slice pa pn pc, .bool bk] 48 (0, 0)) by rw [hb.block _ (lt_of_blk HE1.out)]; exact HE1.out)
    clear y0 y1 y2 y3 y4 HRQ
    have z0 : wb.cell? ⟨W.heap.size, 0, none⟩ = some (.string p) := by rw [Lib.cell_of_heap HE2.out]; rfl
    have z1 : wb.cell? ⟨W.heap.size, 1, none⟩ = some (.string q) := by rw [Lib.cell_of_heap HE2.out]; rfl
    have z2 : wb.cell? ⟨W.heap.size, 2, none⟩ = some (.slice ra eR.length rc) := by rw [Lib.cell_of_heap HE2.out]; rfl
    have z3 : wb.cell? ⟨W.heap.size, 3, none⟩ = some (.slice pa pn pc) := by rw [Lib.cell_of_heap HE2.out]; rfl
    have z4 : wb.cell? ⟨W.heap.size, 4, none⟩ = some (.bool bk) := by rw [Lib.cell_of_heap HE2.out]; rfl
    cases hfe : fstE (reqE p eR) eR.length with
    | none =>
      rw [hfe] at he
      have hc := codeE_none hfe
      have he : u = errA A (codeE (reqE p eR) eR.length) := he
      rw [hc, errA0] at he
      subst he
      have HX := hid (show entW pr ((p, q), eR, eP, bk) = packErr (bl eP) by rw [hpr, entW_none H.out]; exact entR_pack HF.out hc)
      have HPP := hid (packs_any eP _ A m wb HSH.out.pn HSH.out.ps (HS.out.below HB2.out) (HPK.out.below HB2.out))
      clear hb hc hfe
      go_wp2_with fail
      refine HPP.out.mono ?_
      rintro e wc ⟨rfl, hb⟩
      have HB3 := hid (HB2.out.trans (hb.mono HB2.out.size))
      clear hb
      go_wp2_with fail
      go_ret
      exact ⟨by rw [HX.out]; rfl, HB3.out⟩
    | some j =>
      rw [hfe] at he
      have hc : codeE (reqE p eR) eR.length ≠ 0 := he.1
      have HX := hid (show entW pr ((p, q), eR, eP, bk) = codeE (reqE p eR) eR.length by rw [hpr, entW_none H.out]; exact entR_req HF.out hc)
      have HBA := hid (bare_any u _ _ A m wb (HS.out.below HB2.out) he hc)
      obtain ⟨_, fb, hu, _⟩ := he
      subst hu
      clear hb hc hfe
      go_wp2_with fail
      refine HBA.out.mono ?_
      rintro e wc ⟨rfl, hb⟩
      have HB3 := hid (HB2.out.trans (hb.mono HB2.out.size))
      clear hb
      go_wp2_with fail
      go_ret
      exact ⟨by rw [HX.out]; rfl, HB3.out⟩
set_option maxHeartbeats 8000000 in
set_option maxRecDepth 100000 in
theorem eachK_1 (pr : Option Bm) (k : Nat) (p0 q0 : ByteArray) (hpr : pr = some (p0, q0)) (p q : ByteArray) (rv pv : Value) (eR : List Bm) (eP : List ByteArray) (bk : Bool) (b : Nat) (A : Nat → Addr) (m : Int) (W : World) (hs : slR ((p, q), rv, pv, bk)) (sh : ShE ((p, q), eR, eP, bk)) (S : Te W A m) (h : mErr (p, q) = 0) (hr : MsAt W rv eR) (hpk : TxAt W pv eP) (bb oo n c : Nat) (hn : k < n) (hn2 : n ≤ 1000000) (hq0 : q0.size < 999999) (hl : W.cell? ⟨b, 0, none⟩ = some (.slice (some ⟨bb, oo, none⟩) n c)) (hx : W.cell? ⟨bb, oo + k * 5, none⟩ = some (.string p0)) (hy : W.cell? ⟨bb, oo + k * 5 + 1, none⟩ = some (.string q0)) :
    Calls Tryz.prog 144 #[.int .i64 ((k : Int) + 1), .agg #[.string p, .string q, rv, pv, .bool bk], .pointer (some ⟨b, 0, none⟩)] W fun e w' => e = .returned (errA A (entW pr ((p, q), eR, eP, bk))) ∧ Below W.heap.size W w' := by
  obtain ⟨⟨ra, rn, rc, hrv⟩, pa, pn, pc, hpv⟩ := hs
  simp only at hrv hpv
  subst hrv
  subst hpv
  have hrl : rn = eR.length := by obtain ⟨_, _, h, _⟩ := hr; injection h
  subst hrl
  have HB0 := hid ((Below.refl W.heap.size W).alloc (Nat.le_refl _) (.cells #[.string p, .string q, .slice ra eR.length rc, .slice pa pn pc, .bool bk] 48))
  have HM := hid (mcheck_any p q A m _ (by have := sh.p; simp only at this; omega) (by have := sh.v; simp only at this; omega) (S.below HB0.out))
  have hme : mErr (p, q) = modErr p.data.toList q.data.toList := rfl
  rw [← hme, h, errA0] at HM
  have HS := hid S
  have HSH := hid sh
  have HR := hid hr
  have HPK := hid hpk
  have H := hid h
  have HGX := hid (fun w1 (hb : Below (W.alloc (.cells #[.string p, .string q, .slice ra eR.length rc, .slice pa pn pc, .bool bk] 48)).heap.size (W.alloc (.cells #[.string p, .string q, .slice ra eR.length rc, .slice pa pn pc, .bool bk] 48)) w1) => show w1.heap[W.heap.size]? = some (.cells #[.string p, .string q, .slice ra eR.length rc, .slice pa pn pc, .bool bk] 48 (0, 0)) by rw [hb.block _ (by simp)]; exact heap_alloc_new W _)
  have HL := hid hl
  have HXX := hid hx
  have HYY := hid hy
  clear S sh hr hpk h hme hl hx hy
  have hk0 : (0 : Int) < (k : Int) + 1 := by omega
  have hk1 : (k : Int) + 1 - 1 = (k : Int) := by omega
  have hkn : (k : Int) < (n : Int) := by omega
  go_enter Tryz.func144, Tryz.ntmps144
  go_wp2_with fail
  refine HM.out.mono ?_
  rintro e wz ⟨rfl, hb⟩
  have HBz := hid (HB0.out.trans (hb.mono HB0.out.size))
  have HEz := hid (HGX.out wz hb)
  have hl := cell_below HBz.out HL.out
  have hx := cell_below HBz.out HXX.out
  have hy := cell_below HBz.out HYY.out
  have HAH := hid (fun X (hX : Below wz.heap.size wz X) => ahead_any p0 q0 p q A m X hq0 HSH.out.v ((HS.out.below HBz.out).below hX))
  have hma : mAhead (p0, q0) (p, q) = aheadB p0.data.toList q0.data.toList p.data.toList q.data.toList := rfl
  rw [← hma] at HAH
  clear hb HM HGX hma
  have x0 : wz.cell? ⟨W.heap.size, 0, none⟩ = some (.string p) := by rw [Lib.cell_of_heap HEz.out]; rfl
  have x1 : wz.cell? ⟨W.heap.size, 1, none⟩ = some (.string q) := by rw [Lib.cell_of_heap HEz.out]; rfl
  have x2 : wz.cell? ⟨W.heap.size, 2, none⟩ = some (.slice ra eR.length rc) := by rw [Lib.cell_of_heap HEz.out]; rfl
  have x3 : wz.cell? ⟨W.heap.size, 3, none⟩ = some (.slice pa pn pc) := by rw [Lib.cell_of_heap HEz.out]; rfl
  have x4 : wz.cell? ⟨W.heap.size, 4, none⟩ = some (.bool bk) := by rw [Lib.cell_of_heap HEz.out]; rfl
  have gw : IntKind.i64.wrap (k : Int) = (k : Int) := by rw [IntKind.wrap_i64]; omega
  have gk : (0 : Int) ≤ (k : Int) := by omega
  cases hah : mAhead (p0, q0) (p, q)
  · rw [hah] at HAH
    have HX := hid (show entW pr ((p, q), eR, eP, bk) = 8 by rw [hpr]; exact entW_order H.out hah)
    clear hah
    go_wp2_with fail
    go_region_with (go_at_call 85; refine (HAH.out _ (below_drawn _ 1)).mono ?_; rintro e wa ⟨rfl, hb⟩; have HB1 := hid ((HBz.out.trans ((below_drawn _ 1).mono HBz.out.size)).trans (hb.mono HBz.out.size)); have g7 := (HS.out.below HB1.out).sen.g7; clear hb)
    all_goals
      go_wp2_with fail
      go_ret
      exact ⟨by rw [HX.out]; rfl, HB1.out⟩
  · rw [hah] at HAH
    have HLL := hid (show entW pr ((p, q), eR, eP, bk) = entR ((p, q), eR, eP, bk) by rw [hpr]; exact entW_some H.out hah)
    clear hah
    go_wp2_with fail
    go_region_with (go_at_call 85; refine (HAH.out _ (below_drawn _ 1)).mono ?_; rintro e wa ⟨rfl, hb⟩; have HB1 := hid ((HBz.out.trans ((below_drawn _ 1).mono HBz.out.size)).trans (hb.mono HBz.out.size)); have HE1 := hid (show wa.heap[W.heap.size]? = some (.cells #[.string p, .string q, .slice ra eR.length rc, .slice pa pn pc, .bool bk] 48 (0, 0)) by rw [hb.block _ (lt_of_blk HEz.out)]; exact HEz.out); clear hb x0 x1 x2 x3 x4 hl hx hy)
    all_goals
      have y0 : wa.cell? ⟨W.heap.size, 0, none⟩ = some (.string p) := by rw [Lib.cell_of_heap HE1.out]; rfl
      have y1 : wa.cell? ⟨W.heap.size, 1, none⟩ = some (.string q) := by rw [Lib.cell_of_heap HE1.out]; rfl
      have y2 : wa.cell? ⟨W.heap.size, 2, none⟩ = some (.slice ra eR.length rc) := by rw [Lib.cell_of_heap HE1.out]; rfl
      have y3 : wa.cell? ⟨W.heap.size, 3, none⟩ = some (.slice pa pn pc) := by rw [Lib.cell_of_heap HE1.out]; rfl
      have y4 : wa.cell? ⟨W.heap.size, 4, none⟩ = some (.bool bk) := by rw [Lib.cell_of_heap HE1.out]; rfl
      by_cases hf : 20 < eR.length
      · have q2 : (20 : Int) < (eR.length : Int) := by omega
        have HX := hid (show entW pr ((p, q), eR, eP, bk) = 7 by rw [HLL.out]; exact entR_full hf)
        have g6 := (HS.out.below HB1.out).sen.g6
        clear hf
        go_wp2_with fail
        go_ret
        exact ⟨by rw [HX.out]; rfl, HB1.out⟩
      · have q2 : ¬ (20 : Int) < (eR.length : Int) := by omega
        have HF := hid hf
        have HRQ := hid (reqs_any p eR _ A m wa HSH.out.rn HSH.out.rs (HS.out.below HB1.out) (HR.out.below HB1.out))
        clear hf
        go_wp2_with fail
        refine HRQ.out.mono ?_
        rintro e wb ⟨u, rfl, he, hb⟩
        have HB2 := hid (HB1.out.trans (hb.mono HB1.out.size))
        have HE2 := hid (show wb.heap[W.heap.size]? = some (.cells #[.string p, .string q, .slice ra eR.length rc, .slice pa pn pc, .bool bk] 48 (0, 0)) by rw [hb.block _ (lt_of_blk HE1.out)]; exact HE1.out)
        clear y0 y1 y2 y3 y4 HRQ
        have z0 : wb.cell? ⟨W.heap.size, 0, none⟩ = some (.string p) := by rw [Lib.cell_of_heap HE2.out]; rfl
        have z1 : wb.cell? ⟨W.heap.size, 1, none⟩ = some (.string q) := by rw [Lib.cell_of_heap HE2.out]; rfl
        have z2 : wb.cell? ⟨W.heap.size, 2, none⟩ = some (.slice ra eR.length rc) := by rw [Lib.cell_of_heap HE2.out]; rfl
        have z3 : wb.cell? ⟨W.heap.size, 3, none⟩ = some (.slice pa pn pc) := by rw [Lib.cell_of_heap HE2.out]; rfl
        have z4 : wb.cell? ⟨W.heap.size, 4, none⟩ = some (.bool bk) := by rw [Lib.cell_of_heap HE2.out]; rfl
        cases hfe : fstE (reqE p eR) eR.length with
        | none =>
          rw [hfe] at he
          have hc := codeE_none hfe
          have he : u = errA A (codeE (reqE p eR) eR.length) := he
          rw [hc, errA0] at he
          subst he
          have HX := hid (show entW pr ((p, q), eR, eP, bk) = packErr (bl eP) by rw [HLL.out]; exact entR_pack HF.out hc)
          have HPP := hid (packs_any eP _ A m wb HSH.out.pn HSH.out.ps (HS.out.below HB2.out) (HPK.out.below HB2.out))
          clear hb hc hfe
          go_wp2_with fail
          refine HPP.out.mono ?_
          rintro e wc ⟨rfl, hb⟩
          have HB3 := hid (HB2.out.trans (hb.mono HB2.out.size))
          clear hb
          go_wp2_with fail
          go_ret
          exact ⟨by rw [HX.out]; rfl, HB3.out⟩
        | some j =>
          rw [hfe] at he
          have hc : codeE (reqE p eR) eR.length ≠ 0 := he.1
          have HX := hid (show entW pr ((p, q), eR, eP, bk) = codeE (reqE p eR) eR.length by rw [HLL.out]; exact entR_req HF.out hc)
          have HBA := hid (bare_any u _ _ A m wb (HS.out.below HB2.out) he hc)
          obtain ⟨_, fb, hu, _⟩ := he
          subst hu
          clear hb hc hfe
          go_wp2_with fail
          refine HBA.out.mono ?_
          rintro e wc ⟨rfl, hb⟩
          have HB3 := hid (HB2.out.trans (hb.mono HB2.out.size))
          clear hb
          go_wp2_with fail
          go_ret
          exact ⟨by rw [HX.out]; rfl, HB3.out⟩
end Ve
end Go.Proofs.YtacggkigfjpfnaaGreatDoor

/-
  What index.Check answers.
-/
namespace Go.Proofs.YtacggkigfjpfnaaGreatDoor
open Go.RowKit
namespace Ve

/-- What is wrong with each entry, by itself and the one ahead. -/
def entE (L : List Ent) (i : Nat) : Nat := match L[i]? with
  | none => 0
  | some e => entW (if i = 0 then none else (L[i - 1]?).map (·.1)) e
theorem entE_0 {L : List Ent} (h : 0 < L.length) : entE L 0 = entW none L[0] := by unfold entE; rw [List.getElem?_eq_getElem h]; rfl
theorem entE_1 {L : List Ent} {k : Nat} (h : k + 1 < L.length) : entE L (k + 1) = entW (some (L[k]'(by omega)).1) L[k + 1] := by
  unfold entE
  rw [List.getElem?_eq_getElem h]
  simp only [Nat.add_sub_cancel, List.getElem?_eq_getElem (show k < L.length by omega)]
  rw [if_neg (by omega)]; rfl
/-- Does an entry require what there is not? -/
def reqE2 (Q : List Raw) (L : List Ent) (i : Nat) : Nat := match L[i]? with
  | none => 0
  | some e => codeE (nonE Q e.2.1) e.2.1.length
theorem reqE2_at {Q : List Raw} {L : List Ent} {i : Nat} (h : i < L.length) : reqE2 Q L i = codeE (nonE Q L[i].2.1) L[i].2.1.length := by unfold reqE2; rw [List.getElem?_eq_getElem h]
def chk (Q : List Raw) (L : List Ent) : Nat × Option Nat := if 100 < L.length then (7, none) else match fstE (entE L) L.length with
  | some i => (entE L i, some i)
  | none => (codeE (reqE2 Q L) L.length, fstE (reqE2 Q L) L.length)
theorem chk_full {Q : List Raw} {L : List Ent} (h : 100 < L.length) : chk Q L = (7, none) := by unfold chk; rw [if_pos h]
theorem chk_each {Q : List Raw} {L : List Ent} {i : Nat} (h : ¬ 100 < L.length) (hi : fstE (entE L) L.length = some i) : chk Q L = (entE L i, some i) := by unfold chk; rw [if_neg h, hi]
theorem chk_reqs {Q : List Raw} {L : List Ent} (h : ¬ 100 < L.length) (hi : fstE (entE L) L.length = none) : chk Q L = (codeE (reqE2 Q L) L.length, fstE (reqE2 Q L) L.length) := by unfold chk; rw [if_neg h, hi]
theorem eachK_any (Q : List Raw) (L : List Ent) (v : Value) (b : Nat) (A : Nat → Addr) (m : Int) (W : World) (hL : L.length ≤ 1000000) (sh : ∀ e, e ∈ L → ShE e) (S : Te W A m) (h1 : W.cell? ⟨b, 0, none⟩ = some v) (I : Ixs W v Q L) (i : Nat) (hi : i < Q.length) :
    Calls Tryz.prog 144 (#[.int .i64 (i : Int), rawV Q[i]] ++ #[.pointer (some ⟨b, 0, none⟩)]) W fun e w' => e = .returned (errA A (entE L i)) ∧ Below W.heap.size W w' := by
  have hiL : i < L.length := by rw [← I.ln]; exact hi
  have ok := I.ok i hi hiL
  have she := sh L[i] (List.getElem_mem hiL)
  obtain ⟨a, c, hv, _, hs, hc⟩ := id I.es
  have hsl := hs Q[i] (List.getElem_mem hi)
  cases i with
  | zero =>
    rw [entE_0 hiL]
    generalize hq : Q[0] = r at *
    generalize he : L[0] = e at *
    obtain ⟨⟨p, q⟩, rv, pv, bk⟩ := r
    obtain ⟨⟨p', q'⟩, eR, eP, bk'⟩ := e
    obtain ⟨hm, hrq, hpk, hbk⟩ := ok
    simp only at hm hrq hpk hbk
    subst hbk
    obtain ⟨rfl, rfl⟩ : p = p' ∧ q = q' := by injection hm with h1 h2; exact ⟨h1, h2⟩
    by_cases hb : mErr (p, q) = 0
    · exact eachK_0 none rfl p q rv pv eR eP bk b A m W hsl she S hb hrq hpk
    · rw [entW_bad hb]
      exact eachK_bad p q rv pv bk 0 b A m W hsl she.p she.v S hb
  | succ k =>
    rw [entE_1 hiL]
    have hkq : k < Q.length := by omega
    have hkL : k < L.length := by omega
    have okk := (I.ok k hkq hkL).m
    have shk := sh L[k] (List.getElem_mem hkL)
    obtain ⟨bb, oo, ha, hcc⟩ := hc (by intro h; rw [h] at hkq; simp at hkq)
    obtain ⟨y0, y1, _⟩ := hcc k hkq
    generalize hq : Q[k + 1] = r at *
    generalize he : L[k + 1] = e at *
    generalize hpr : L[k].1 = pr at *
    obtain ⟨⟨p, q⟩, rv, pv, bk⟩ := r
    obtain ⟨⟨p', q'⟩, eR, eP, bk'⟩ := e
    obtain ⟨p0, q0⟩ := pr
    obtain ⟨hm, hrq, hpk, hbk⟩ := ok
    simp only at hm hrq hpk hbk
    subst hbk
    obtain ⟨rfl, rfl⟩ : p = p' ∧ q = q' := by injection hm with h1 h2; exact ⟨h1, h2⟩
    by_cases hb : mErr (p, q) = 0
    · refine eachK_1 (some (p0, q0)) k p0 q0 rfl p q rv pv eR eP bk b A m W hsl she S hb hrq hpk bb oo Q.length c hkq (by rw [I.ln]; exact hL) ?_ ?_ ?_ ?_
      · have := shk.v; rw [hpr] at this; exact this
      · rw [h1, hv, ha]
      · rw [okk] at y0; exact y0
      · rw [okk] at y1; exact y1
    · rw [entW_bad hb]
      exact eachK_bad p q rv pv bk (k + 1) b A m W hsl she.p she.v S hb
set_option maxHeartbeats 2000000 in
/-- index.checkEach. -/
theorem each_any (Q : List Raw) (L : List Ent) (v : Value) (A : Nat → Addr) (m : Int) (w : World) (hL : L.length ≤ 1000000) (sh : ∀ e, e ∈ L → ShE e) (S : Te w A m) (I : Ixs w v Q L) :
    Calls Tryz.prog 103 #[v] w fun e w' => ∃ x, e = .returned x ∧ ErrAt w' A x (codeE (entE L) L.length) (fstE (entE L) L.length) ∧ Below w.heap.size w w' := by
  obtain ⟨a, c, hv1, _⟩ := id I.es
  subst hv1
  have HB0 := hid ((Below.refl w.heap.size w).alloc (Nat.le_refl _) (.cells #[.slice a Q.length c] 22))
  have eg : ∀ args w, (callFunc 144 args).run Tryz.prog w = .ok (.enter 144 args) w := enters_of Tryz.func144 (by kernel_rfl) rfl
  have HF := hid (firstE_any 144 #[.pointer (some ⟨w.heap.size, 0, none⟩)] (entE L) Q _ A (w.alloc (.cells #[.slice a Q.length c] 22)) eg (by rw [I.ln]; exact hL) (I.es.below HB0.out) (fun i hi W hW =>
    eachK_any Q L _ w.heap.size A m W hL sh ((S.below HB0.out).below hW) (cell_below hW (by simp)) ((I.below HB0.out).below hW) i hi))
  have HLN := hid I.ln
  clear S I eg
  go_enter Tryz.func103, Tryz.ntmps103
  go_wp2_with fail
  refine HF.out.mono ?_
  rintro e w1 ⟨u, rfl, he, hb⟩
  have HB := hid (HB0.out.trans (hb.mono HB0.out.size))
  rw [HLN.out] at he
  have HE := hid he
  clear hb he
  go_wp2_with fail
  go_ret
  exact ⟨_, rfl, HE.out, HB.out⟩
set_option maxHeartbeats 4000000 in
/-- index.Check. -/
theorem icheck_any (Q : List Raw) (L : List Ent) (v : Value) (A : Nat → Addr) (m : Int) (w : World) (hL : L.length ≤ 1000000) (sh : ∀ e, e ∈ L → ShE e) (S : Te w A m) (I : Ixs w v Q L) :
    Calls Tryz.prog 78 #[v] w fun e w' => ∃ x, e = .returned x ∧ ErrAt w' A x (chk Q L).1 (chk Q L).2 ∧ Below w.heap.size w w' := by
  obtain ⟨a, c, hv1, _, hs, _⟩ := id I.es
  subst hv1
  have HB0 := hid ((Below.refl w.heap.size w).alloc (Nat.le_refl _) (.cells #[.slice a Q.length c] 22))
  have HEA := hid (each_any Q L _ A m _ hL sh (S.below HB0.out) (I.below HB0.out))
  have hln := I.ln
  have HS := hid S
  have HI := hid I
  have HSL := hid hs
  have HSH := hid sh
  have c0 : (w.alloc (.cells #[.slice a Q.length c] 22)).cell? ⟨w.heap.size, 0, none⟩ = some (.slice a Q.length c) := by simp
  have HC0 := hid c0
  rw [hln] at c0
  have eg : ∀ args w, (callFunc 105 args).run Tryz.prog w = .ok (.enter 105 args) w := enters_of Tryz.func105 (by kernel_rfl) rfl
  have HEG := hid eg
  clear S I hs sh eg
  by_cases h1 : 100 < L.length
  · have q1 : (100 : Int) < (L.length : Int) := by omega
    have g6 := (HS.out.below HB0.out).sen.g6
    rw [chk_full h1, hln]
    rw [hln] at HB0
    clear h1 HEA
    go_enter Tryz.func78, Tryz.ntmps78
    rw [hln] at g6
    go_wp2_with fail
    go_ret
    exact ⟨_, rfl, rfl, HB0.out⟩
  · have q1 : ¬ (100 : Int) < (L.length : Int) := by omega
    have H1 := hid h1
    rw [hln] at HB0 HEA ⊢
    clear h1
    go_enter Tryz.func78, Tryz.ntmps78
    go_wp2_with fail
    refine HEA.out.mono ?_
    rintro e w1 ⟨x, rfl, he, hb⟩
    have HB1 := hid (HB0.out.trans (hb.mono HB0.out.size))
    have c1 := cell_below hb c0
    have HC1 := hid c1
    clear hb HEA
    cases hf : fstE (entE L) L.length with
    | some i =>
      rw [hf, codeE_some hf] at he
      have HX := hid (chk_each (Q := Q) H1.out hf)
      have HE := hid he
      obtain ⟨_, fb, hu, _⟩ := he
      subst hu
      clear hf
      go_wp2_with fail
      go_ret
      exact ⟨_, rfl, by rw [HX.out]; exact HE.out, HB1.out⟩
    | none =>
      rw [hf, codeE_none hf] at he
      have he : x = errA A 0 := he
      rw [errA0] at he
      subst he
      have HX := hid (chk_reqs (Q := Q) H1.out hf)
      have HF := hid (firstE_any 105 #[.pointer (some ⟨w.heap.size, 0, none⟩)] (reqE2 Q L) Q (.slice a Q.length c) A w1 HEG.out (by rw [hln]; exact hL) ((HI.out.es).below HB1.out) (fun i hi W hW => by
        have hiL : i < L.length := by rw [← hln]; exact hi
        rw [reqE2_at hiL]
        exact checkK_any Q Q[i] L[i].2.1 i w.heap.size (.slice a Q.length c) A m W (by rw [hln]; exact hL) (HSH.out L[i] (List.getElem_mem hiL)).rn ((HS.out.below HB1.out).below hW) (cell_below hW (by rw [hln]; exact HC1.out)) ((HI.out.es.below HB1.out).below hW) (HSL.out Q[i] (List.getElem_mem hi)) ((HI.out.ok i hi hiL).rq.below (HB1.out.trans (hW.mono HB1.out.size)))))
      rw [hln] at HF
      clear hf
      go_wp2_with fail
      refine HF.out.mono ?_
      rintro e w2 ⟨x, rfl, he, hb⟩
      have HB2 := hid (HB1.out.trans (hb.mono HB1.out.size))
      have HE := hid he
      clear hb he
      go_wp2_with fail
      go_ret
      exact ⟨_, rfl, by rw [HX.out]; exact HE.out, HB2.out⟩
end Ve
end Go.Proofs.YtacggkigfjpfnaaGreatDoor

/-
  Modules whose paths rise, plain: what is ahead of a path, what is behind it, and what is at it.
-/
namespace Go.Proofs.YtacggkigfjpfnaaGreatDoor
open Go.RowKit
namespace Ve

theorem cbt : ∀ (a b c : List UInt8), Lib.compareBytes a b < 0 → Lib.compareBytes b c < 0 → Lib.compareBytes a c < 0 := by
  intro a
  induction a with
  | nil =>
    intro b c h1 h2
    cases c with
    | nil => cases b <;> simp [Lib.compareBytes] at h2
    | cons z c => simp [Lib.compareBytes]
  | cons x a ih =>
    intro b c h1 h2
    cases b with
    | nil => simp [Lib.compareBytes] at h1
    | cons y b =>
      cases c with
      | nil => simp [Lib.compareBytes] at h2
      | cons z c =>
        simp only [Lib.compareBytes] at h1 h2 ⊢
        by_cases e1 : x < y
        · by_cases e2 : y < z
          · rw [if_pos (UInt8.lt_trans e1 e2)]; omega
          · rw [if_neg e2] at h2
            by_cases e3 : z < y
            · rw [if_pos e3] at h2; omega
            · have : y = z := UInt8.le_antisymm (UInt8.not_lt.1 e3) (UInt8.not_lt.1 e2)
              subst this
              rw [if_pos e1]; omega
        · rw [if_neg e1] at h1
          by_cases e2 : y < x
          · rw [if_pos e2] at h1; omega
          · have : x = y := UInt8.le_antisymm (UInt8.not_lt.1 e2) (UInt8.not_lt.1 e1)
            subst this
            rw [if_neg e2] at h1
            by_cases e3 : x < z
            · rw [if_pos e3]; omega
            · rw [if_neg e3] at h2 ⊢
              by_cases e4 : z < x
              · rw [if_pos e4] at h2; omega
              · rw [if_neg e4] at h2 ⊢
                exact ih b c h1 h2
/-- Less, by bytes. -/
def lt (a b : ByteArray) : Bool := decide (Lib.compareBytes a.data.toList b.data.toList < 0)
theorem lt_trans {a b c : ByteArray} (h1 : lt a b = true) (h2 : lt b c = true) : lt a c = true := decide_eq_true (cbt _ _ _ (of_decide_eq_true h1) (of_decide_eq_true h2))
theorem lt_irrefl (a : ByteArray) : lt a a = false := by
  unfold lt; rw [(cb_zero _ _).2 rfl]; rfl
theorem lt_asymm {a b : ByteArray} (h : lt a b = true) : lt b a = false := by
  cases h2 : lt b a
  · rfl
  · have := lt_trans h h2
    rw [lt_irrefl] at this; cases this
theorem lt_three (a b : ByteArray) : lt a b = true ∨ a = b ∨ lt b a = true := by
  rcases cb_range a.data.toList b.data.toList with h | h | h
  · exact Or.inl (decide_eq_true (by omega))
  · exact Or.inr (Or.inl (str_ext ((cb_zero _ _).1 h)))
  · refine Or.inr (Or.inr (decide_eq_true ?_))
    rw [cb_swap]; omega
theorem noLess_lt (a b : ByteArray) : noLess a b = !lt a b := rfl
/-- Paths rise. -/
def rising (R : List Bm) : Prop := R.Pairwise (fun a b => lt a.1 b.1 = true)
theorem rising_of {own : ByteArray} {R : List Bm} (h : ∀ j, j < R.length → reqE own R j = 0) : rising R := by
  have hc : ∀ j, (hj : j + 1 < R.length) → lt R[j].1 R[j + 1].1 = true := by
    intro j hj
    have h1 := h (j + 1) hj
    unfold reqE prevOf at h1
    rw [List.getElem?_eq_getElem hj, if_neg (by omega)] at h1
    simp only [Nat.add_sub_cancel] at h1
    rw [List.getElem?_eq_getElem (show j < R.length by omega)] at h1
    unfold reqW at h1
    simp only at h1
    by_cases e1 : mErr R[j + 1] = 0
    · rw [if_pos e1] at h1
      by_cases e2 : R[j + 1].1 = own
      · rw [if_pos e2] at h1; omega
      · rw [if_neg e2] at h1
        rw [noLess_lt] at h1
        cases e3 : lt R[j].1 R[j + 1].1
        · rw [e3] at h1; simp at h1
        · rfl
    · rw [if_neg e1] at h1; exact absurd h1 e1
  unfold rising
  rw [List.pairwise_iff_getElem]
  intro i j hi hj hij
  induction j with
  | zero => omega
  | succ j ih =>
    rcases Nat.lt_or_ge i j with hh | hh
    · exact lt_trans (ih (by omega) hh) (hc j hj)
    · have : i = j := by omega
      subst this
      exact hc i hj
def loR (R : List Bm) (p : ByteArray) : List Bm := R.filter (fun m => lt m.1 p)
def hiR (R : List Bm) (p : ByteArray) : List Bm := R.filter (fun m => lt p m.1)
def eqR (R : List Bm) (p : ByteArray) : List Bm := R.filter (fun m => decide (m.1 = p))
theorem three_R {R : List Bm} (h : rising R) (p : ByteArray) : R = loR R p ++ (eqR R p ++ hiR R p) ∧ ((eqR R p = [] ∧ ∀ m, m ∈ R → m.1 ≠ p) ∨ ∃ q, eqR R p = [q] ∧ q.1 = p) := by
  induction R with
  | nil => exact ⟨rfl, Or.inl ⟨rfl, fun m hm => by cases hm⟩⟩
  | cons a r ih =>
    have hr : rising r := (List.pairwise_cons.1 h).2
    have ha : ∀ m, m ∈ r → lt a.1 m.1 = true := (List.pairwise_cons.1 h).1
    obtain ⟨e, hq⟩ := ih hr
    rcases lt_three a.1 p with h1 | h1 | h1
    · have h2 := lt_asymm h1
      have h3 : a.1 ≠ p := fun e => by rw [e, lt_irrefl] at h1; cases h1
      have e1 : loR (a :: r) p = a :: loR r p := by unfold loR; rw [List.filter_cons_of_pos (by simpa using h1)]
      have e2 : hiR (a :: r) p = hiR r p := by unfold hiR; rw [List.filter_cons_of_neg (by simp [h2])]
      have e3 : eqR (a :: r) p = eqR r p := by unfold eqR; rw [List.filter_cons_of_neg (by simp [h3])]
      rw [e1, e2, e3]
      refine ⟨by rw [List.cons_append, ← e], ?_⟩
      rcases hq with ⟨q1, q2⟩ | hq
      · refine Or.inl ⟨q1, fun m hm => ?_⟩
        rcases List.mem_cons.1 hm with rfl | hm
        · exact h3
        · exact q2 m hm
      · exact Or.inr hq
    · have hl : loR r p = [] := by
        unfold loR; rw [List.filter_eq_nil_iff]; intro m hm
        have := lt_asymm (ha m hm); rw [h1] at this; simp [this]
      have he : eqR r p = [] := by
        unfold eqR; rw [List.filter_eq_nil_iff]; intro m hm
        have := ha m hm
        simp only [decide_eq_true_eq]
        intro e; rw [h1, e, lt_irrefl] at this; cases this
      have e1 : loR (a :: r) p = [] := by unfold loR; rw [List.filter_cons_of_neg (by rw [h1, lt_irrefl]; simp)]; exact hl
      have e2 : hiR (a :: r) p = hiR r p := by unfold hiR; rw [List.filter_cons_of_neg (by rw [h1, lt_irrefl]; simp)]
      have e3 : eqR (a :: r) p = [a] := by unfold eqR; rw [List.filter_cons_of_pos (by simp [h1])]; exact congrArg (a :: ·) he
      rw [e1, e2, e3]
      rw [hl, he] at e
      exact ⟨by rw [List.nil_append, List.singleton_append]; exact congrArg (a :: ·) e, Or.inr ⟨a, rfl, h1⟩⟩
    · have hg : ∀ m, m ∈ a :: r → lt p m.1 = true := fun m hm => by
        rcases List.mem_cons.1 hm with rfl | hm
        · exact h1
        · exact lt_trans h1 (ha m hm)
      have e1 : loR (a :: r) p = [] := by
        unfold loR; rw [List.filter_eq_nil_iff]; intro m hm; rw [lt_asymm (hg m hm)]; simp
      have e3 : eqR (a :: r) p = [] := by
        unfold eqR; rw [List.filter_eq_nil_iff]; intro m hm
        have := hg m hm
        simp only [decide_eq_true_eq]
        intro e; rw [e, lt_irrefl] at this; cases this
      have e2 : hiR (a :: r) p = a :: r := by unfold hiR; rw [List.filter_eq_self]; exact hg
      rw [e1, e2, e3]
      refine ⟨rfl, Or.inl ⟨rfl, fun m hm e => ?_⟩⟩
      have := hg m hm
      rw [e, lt_irrefl] at this; cases this
/-- What is required once m is set; once a path is dropped. -/
def setR (R : List Bm) (m : Bm) : List Bm := loR R m.1 ++ m :: hiR R m.1
def dropR (R : List Bm) (p : ByteArray) : List Bm := loR R p ++ hiR R p
theorem loR_mem {R : List Bm} {p : ByteArray} {m : Bm} : m ∈ loR R p ↔ m ∈ R ∧ lt m.1 p = true := List.mem_filter
theorem hiR_mem {R : List Bm} {p : ByteArray} {m : Bm} : m ∈ hiR R p ↔ m ∈ R ∧ lt p m.1 = true := List.mem_filter
theorem loR_set (R : List Bm) (m : Bm) : loR (setR R m) m.1 = loR R m.1 := by
  unfold setR loR
  rw [List.filter_append, List.filter_filter, List.filter_cons_of_neg (by rw [lt_irrefl]; simp)]
  have e1 : (hiR R m.1).filter (fun x => lt x.1 m.1) = [] := by
    rw [List.filter_eq_nil_iff]; intro x hx; rw [lt_asymm (hiR_mem.1 hx).2]; simp
  rw [e1, List.append_nil]
  simp
theorem hiR_set (R : List Bm) (m : Bm) : hiR (setR R m) m.1 = hiR R m.1 := by
  unfold setR
  have e0 : ∀ (a b : List Bm), hiR (a ++ b) m.1 = hiR a m.1 ++ hiR b m.1 := fun a b => List.filter_append _ _
  rw [e0]
  have e1 : hiR (loR R m.1) m.1 = [] := by
    unfold hiR; rw [List.filter_eq_nil_iff]; intro x hx; rw [lt_asymm (loR_mem.1 hx).2]; simp
  have e2 : hiR (m :: hiR R m.1) m.1 = hiR R m.1 := by
    unfold hiR; rw [List.filter_cons_of_neg (by rw [lt_irrefl]; simp), List.filter_filter]; simp
  rw [e1, e2, List.nil_append]
theorem drop_set (R : List Bm) (m : Bm) : dropR (setR R m) m.1 = dropR R m.1 := by unfold dropR; rw [loR_set, hiR_set]
theorem drop_mem {R : List Bm} {p : ByteArray} {m : Bm} : m ∈ dropR R p ↔ m ∈ R ∧ m.1 ≠ p := by
  unfold dropR
  rw [List.mem_append, loR_mem, hiR_mem]
  constructor
  · rintro (⟨h1, h2⟩ | ⟨h1, h2⟩)
    · exact ⟨h1, fun e => by rw [e, lt_irrefl] at h2; cases h2⟩
    · exact ⟨h1, fun e => by rw [e, lt_irrefl] at h2; cases h2⟩
  · rintro ⟨h1, h2⟩
    rcases lt_three m.1 p with h | h | h
    · exact Or.inl ⟨h1, h⟩
    · exact absurd h h2
    · exact Or.inr ⟨h1, h⟩
theorem rising_drop {R : List Bm} (h : rising R) (p : ByteArray) : dropR R p = R.filter (fun m => decide (m.1 ≠ p)) := by
  obtain ⟨e, hq⟩ := three_R h p
  have e0 : ∀ (a b : List Bm), (a ++ b).filter (fun m => decide (m.1 ≠ p)) = a.filter (fun m => decide (m.1 ≠ p)) ++ b.filter (fun m => decide (m.1 ≠ p)) := fun a b => List.filter_append _ _
  have e1 : (loR R p).filter (fun m => decide (m.1 ≠ p)) = loR R p := by
    rw [List.filter_eq_self]; intro x hx
    have := (loR_mem.1 hx).2
    exact decide_eq_true (fun e => by rw [e, lt_irrefl] at this; cases this)
  have e2 : (hiR R p).filter (fun m => decide (m.1 ≠ p)) = hiR R p := by
    rw [List.filter_eq_self]; intro x hx
    have := (hiR_mem.1 hx).2
    exact decide_eq_true (fun e => by rw [e, lt_irrefl] at this; cases this)
  have e3 : (eqR R p).filter (fun m => decide (m.1 ≠ p)) = [] := by
    rw [List.filter_eq_nil_iff]; intro x hx
    have : x.1 = p := of_decide_eq_true (List.mem_filter.1 hx).2
    simp [this]
  conv => rhs; rw [e, e0, e0, e1, e2, e3]
  rfl
end Ve
end Go.Proofs.YtacggkigfjpfnaaGreatDoor

/-
  The order on versions turns round, and is nought for one version alone (plain). No Go here.
-/
namespace Go.Proofs.YtacggkigfjpfnaaGreatDoor
namespace Ve

theorem ordPart_swap (a b : List UInt8) : ordPart b a = -ordPart a b := by
  unfold ordPart
  cases h1 : digs a <;> cases h2 : digs b
  · simp only [Bool.false_eq_true, if_false]; exact cb_swap a b
  · simp
  · simp
  · simp only [if_true]; exact fst_swap (ci_swap _ _) (cb_swap _ _)
theorem ordPart_zero (a b : List UInt8) : ordPart a b = 0 ↔ a = b := by
  unfold ordPart
  cases h1 : digs a <;> cases h2 : digs b
  · simp only [Bool.false_eq_true, if_false]; exact cb_zero a b
  · simp only [Bool.false_eq_true, if_false, if_true]
    constructor
    · intro h; cases h
    · intro h; subst h; rw [h1] at h2; cases h2
  · simp only [Bool.false_eq_true, if_false, if_true]
    constructor
    · intro h; cases h
    · intro h; subst h; rw [h1] at h2; cases h2
  · simp only [if_true]
    rw [fst_zero, cb_zero]
    constructor
    · intro h; exact h.2
    · intro h; subst h; exact ⟨ci_self _, rfl⟩
theorem ordPs_swap : ∀ (a b : List (List UInt8)), ordPs b a = -ordPs a b
  | [], [] => rfl
  | [], _ :: _ => rfl
  | _ :: _, [] => rfl
  | x :: xs, y :: ys => fst_swap (ordPart_swap x y) (ordPs_swap xs ys)
theorem ordPs_zero : ∀ (a b : List (List UInt8)), ordPs a b = 0 ↔ a = b
  | [], [] => by simp [ordPs]
  | [], _ :: _ => by simp [ordPs]
  | _ :: _, [] => by simp [ordPs]
  | x :: xs, y :: ys => by
    unfold ordPs
    rw [fst_zero, ordPart_zero, ordPs_zero xs ys]
    simp
theorem ordPre_swap (a b : List (List UInt8)) : ordPre b a = -ordPre a b := by
  unfold ordPre
  by_cases h : a = [] ∨ b = []
  · rw [if_pos h, if_pos h.symm]; exact ci_swap _ _
  · rw [if_neg h, if_neg (fun k => h k.symm)]; exact ordPs_swap a b
theorem ordPre_zero (a b : List (List UInt8)) : ordPre a b = 0 ↔ a = b := by
  unfold ordPre
  by_cases h : a = [] ∨ b = []
  · rw [if_pos h, ci_zero]
    constructor
    · intro e
      rcases h with h | h
      · subst h; simp at e; exact e.symm
      · subst h; simp at e; exact List.length_eq_zero_iff.1 (by omega)
    · intro e; subst e; rfl
  · rw [if_neg h]; exact ordPs_zero a b
theorem ordV_swap (s t : List UInt8) : ordV t s = -ordV s t :=
  fst_swap (ci_swap _ _) (fst_swap (ci_swap _ _) (fst_swap (ci_swap _ _) (ordPre_swap _ _)))
theorem ordV_zero {s t : List UInt8} (hs : verErr s = 0) (ht : verErr t = 0) : ordV s t = 0 ↔ s = t := by
  unfold ordV ordN
  rw [fst_zero, fst_zero, fst_zero, ci_zero, ci_zero, ci_zero, ordPre_zero]
  constructor
  · rintro ⟨h0, h1, h2, h3⟩
    rw [← text_back s hs, ← text_back t ht, h0, h1, h2, h3]
  · intro h; subst h; exact ⟨rfl, rfl, rfl, rfl⟩
theorem ordV_range (s t : List UInt8) : ordV s t = -1 ∨ ordV s t = 0 ∨ ordV s t = 1 := ordN_range _ _ _ _ _ _ _ _
end Ve
end Go.Proofs.YtacggkigfjpfnaaGreatDoor

/-
  The order on versions: what is less than what is less is less; lists that rise are told by what they hold (plain). No Go here.
-/
namespace Go.Proofs.YtacggkigfjpfnaaGreatDoor
namespace Ve

theorem fst_lt {a b : Int} : fst a b < 0 ↔ a < 0 ∨ a = 0 ∧ b < 0 := by
  unfold fst
  by_cases h : a = 0
  · rw [if_pos h]; subst h; simp
  · rw [if_neg h]; simp [h]
theorem lex_trans {a1 a2 a3 b1 b2 b3 : Int} (h12 : a1 < 0 → a2 < 0 → a3 < 0) (h0l : a1 = 0 → a3 = a2) (h0r : a2 = 0 → a3 = a1) (hb : a1 = 0 → a2 = 0 → b1 < 0 → b2 < 0 → b3 < 0) :
    fst a1 b1 < 0 → fst a2 b2 < 0 → fst a3 b3 < 0 := by
  rw [fst_lt, fst_lt, fst_lt]
  rintro (h1 | ⟨h1, k1⟩) (h2 | ⟨h2, k2⟩)
  · exact Or.inl (h12 h1 h2)
  · exact Or.inl (by rw [h0r h2]; exact h1)
  · exact Or.inl (by rw [h0l h1]; exact h2)
  · exact Or.inr ⟨by rw [h0l h1]; exact h2, hb h1 h2 k1 k2⟩
theorem ci_trans {x y z : Int} (h1 : Lib.compareInt x y < 0) (h2 : Lib.compareInt y z < 0) : Lib.compareInt x z < 0 := by
  have e1 : x < y := by
    unfold Lib.compareInt at h1
    split at h1
    · assumption
    · split at h1 <;> omega
  have e2 : y < z := by
    unfold Lib.compareInt at h2
    split at h2
    · assumption
    · split at h2 <;> omega
  rw [ci_lt (by omega)]; decide
theorem cb_trans : ∀ (a b c : List UInt8), Lib.compareBytes a b < 0 → Lib.compareBytes b c < 0 → Lib.compareBytes a c < 0
  | [], [], _, h, _ => by simp [Lib.compareBytes] at h
  | [], _ :: _, [], _, h => by simp [Lib.compareBytes] at h
  | [], _ :: _, _ :: _, _, _ => by simp [Lib.compareBytes]
  | _ :: _, [], _, h, _ => by simp [Lib.compareBytes] at h
  | _ :: _, _ :: _, [], _, h => by simp [Lib.compareBytes] at h
  | x :: a, y :: b, z :: c, h1, h2 => by
    unfold Lib.compareBytes at h1 h2 ⊢
    by_cases h3 : x < y
    · by_cases h4 : y < z
      · rw [if_pos (UInt8.lt_trans h3 h4)]; decide
      · rw [if_neg h4] at h2
        by_cases h5 : z < y
        · rw [if_pos h5] at h2; omega
        · have := u8_eq h4 h5
          subst this
          rw [if_pos h3]; decide
    · rw [if_neg h3] at h1
      by_cases h4 : y < x
      · rw [if_pos h4] at h1; omega
      · rw [if_neg h4] at h1
        have := u8_eq h3 h4
        subst this
        by_cases h5 : x < z
        · rw [if_pos h5]; decide
        · rw [if_neg h5] at h2 ⊢
          by_cases h6 : z < x
          · rw [if_pos h6] at h2; omega
          · rw [if_neg h6] at h2 ⊢
            exact cb_trans a b c h1 h2
theorem ordPart_trans {a b c : List UInt8} (h1 : ordPart a b < 0) (h2 : ordPart b c < 0) : ordPart a c < 0 := by
  unfold ordPart at *
  cases ha : digs a <;> cases hb : digs b <;> cases hc : digs c <;> rw [ha, hb] at h1 <;> rw [hb, hc] at h2
  · exact cb_trans _ _ _ h1 h2
  · exact absurd (show (1 : Int) < 0 from h2) (by decide)
  · exact absurd (show (1 : Int) < 0 from h1) (by decide)
  · exact absurd (show (1 : Int) < 0 from h1) (by decide)
  · show (-1 : Int) < 0; decide
  · exact absurd (show (1 : Int) < 0 from h2) (by decide)
  · show (-1 : Int) < 0; decide
  · refine lex_trans (fun h k => ci_trans h k) ?_ ?_ (fun _ _ h k => cb_trans _ _ _ h k) h1 h2
    · intro h; rw [(ci_zero _ _).1 h]
    · intro h; rw [(ci_zero _ _).1 h]
theorem ordPs_trans : ∀ (a b c : List (List UInt8)), ordPs a b < 0 → ordPs b c < 0 → ordPs a c < 0
  | [], [], _, h, _ => by simp [ordPs] at h
  | [], _ :: _, [], _, h => by simp [ordPs] at h
  | [], _ :: _, _ :: _, _, _ => by simp [ordPs]
  | _ :: _, [], _, h, _ => by simp [ordPs] at h
  | _ :: _, _ :: _, [], _, h => by simp [ordPs] at h
  | x :: a, y :: b, z :: c, h1, h2 => by
    unfold ordPs at h1 h2 ⊢
    refine lex_trans (fun h k => ordPart_trans h k) ?_ ?_ (fun _ _ h k => ordPs_trans a b c h k) h1 h2
    · intro h; rw [(ordPart_zero _ _).1 h]
    · intro h; rw [(ordPart_zero _ _).1 h]
theorem ordPre_trans {a b c : List (List UInt8)} (h1 : ordPre a b < 0) (h2 : ordPre b c < 0) : ordPre a c < 0 := by
  unfold ordPre at *
  by_cases ha : a = []
  · subst ha
    rw [if_pos (Or.inl rfl)] at h1
    exfalso
    have : ¬ Lib.compareInt (b.length : Int) (([] : List (List UInt8)).length : Int) < 0 := by
      unfold Lib.compareInt
      split
      · rename_i h; simp at h; omega
      · split <;> omega
    exact this h1
  · by_cases hb : b = []
    · subst hb
      rw [if_pos (Or.inl rfl)] at h2
      exfalso
      have : ¬ Lib.compareInt (c.length : Int) (([] : List (List UInt8)).length : Int) < 0 := by
        unfold Lib.compareInt
        split
        · rename_i h; simp at h; omega
        · split <;> omega
      exact this h2
    · by_cases hc : c = []
      · subst hc
        rw [if_pos (Or.inr rfl)]
        rw [ci_lt (by have := List.length_pos_iff.2 ha; simp; omega)]; decide
      · rw [if_neg (by rintro (h | h); exact ha h; exact hb h)] at h1
        rw [if_neg (by rintro (h | h); exact hb h; exact hc h)] at h2
        rw [if_neg (by rintro (h | h); exact ha h; exact hc h)]
        exact ordPs_trans a b c h1 h2
theorem ordV_trans {s t u : List UInt8} (h1 : ordV s t < 0) (h2 : ordV t u < 0) : ordV s u < 0 := by
  unfold ordV ordN at *
  refine lex_trans (fun h k => ci_trans h k) ?_ ?_ (fun _ _ => lex_trans (fun h k => ci_trans h k) ?_ ?_ (fun _ _ => lex_trans (fun h k => ci_trans h k) ?_ ?_ (fun _ _ h k => ordPre_trans h k))) h1 h2
  all_goals (intro h; rw [(ci_zero _ _).1 h])
theorem ordV_irr {s t : List UInt8} (h : ordV s t < 0) : ¬ ordV t s < 0 := by rw [ordV_swap s t]; omega

/-- Each is less than those behind it. -/
def rises (l : List (List UInt8)) : Prop := l.Pairwise fun s t => ordV s t < 0
theorem rises_same : ∀ (a b : List (List UInt8)), rises a → rises b → (∀ x, x ∈ a ↔ x ∈ b) → a = b
  | [], [], _, _, _ => rfl
  | [], y :: _, _, _, h => absurd ((h y).2 (by simp)) (by simp)
  | x :: _, [], _, _, h => absurd ((h x).1 (by simp)) (by simp)
  | x :: a, y :: b, ha, hb, h => by
    obtain ⟨ha1, ha2⟩ := List.pairwise_cons.1 ha
    obtain ⟨hb1, hb2⟩ := List.pairwise_cons.1 hb
    have exy : x = y := by
      rcases List.mem_cons.1 ((h x).1 (by simp)) with e | e
      · exact e
      · rcases List.mem_cons.1 ((h y).2 (by simp)) with k | k
        · exact k.symm
        · exact absurd (hb1 x e) (ordV_irr (ha1 y k))
    subst exy
    have hxa : x ∉ a := fun k => ordV_irr (ha1 x k) (ha1 x k)
    have hxb : x ∉ b := fun k => ordV_irr (hb1 x k) (hb1 x k)
    rw [rises_same a b ha2 hb2 (fun z => ⟨fun k => by
      rcases List.mem_cons.1 ((h z).1 (List.mem_cons_of_mem _ k)) with e | e
      · subst e; exact absurd k hxa
      · exact e, fun k => by
      rcases List.mem_cons.1 ((h z).2 (List.mem_cons_of_mem _ k)) with e | e
      · subst e; exact absurd k hxb
      · exact e⟩)]
end Ve
end Go.Proofs.YtacggkigfjpfnaaGreatDoor

/-
  An index that is right, plain: its modules are unlike, and rise.
-/
namespace Go.Proofs.YtacggkigfjpfnaaGreatDoor
open Go.RowKit
namespace Ve

/-! The index. -/
theorem mAhead_trans {a b c : Bm} (h1 : mAhead a b = true) (h2 : mAhead b c = true) : mAhead a c = true := by
  unfold mAhead aheadB at *
  by_cases e1 : a.1.data.toList = b.1.data.toList
  · rw [if_pos e1] at h1
    rw [e1]
    by_cases e2 : b.1.data.toList = c.1.data.toList
    · rw [if_pos e2] at h2 ⊢
      unfold lessB at *
      simp only [Bool.and_eq_true, decide_eq_true_eq] at *
      exact ⟨h1.1, h2.2.1, ordV_trans h1.2.2 h2.2.2⟩
    · rw [if_neg e2] at h2 ⊢; exact h2
  · rw [if_neg e1] at h1
    by_cases e2 : b.1.data.toList = c.1.data.toList
    · rw [← e2, if_neg e1]; exact h1
    · rw [if_neg e2] at h2
      have h3 := cbt _ _ _ (of_decide_eq_true h1) (of_decide_eq_true h2)
      by_cases e3 : a.1.data.toList = c.1.data.toList
      · rw [e3] at h3
        have := lt_irrefl c.1
        unfold lt at this
        exact absurd h3 (of_decide_eq_false this)
      · rw [if_neg e3]; exact decide_eq_true h3
theorem mAhead_irr (a : Bm) : mAhead a a = false := by
  unfold mAhead aheadB
  rw [if_pos rfl]
  unfold lessB
  have : ¬ ordV a.2.data.toList a.2.data.toList < 0 := fun h => ordV_irr h h
  rw [decide_eq_false this, Bool.and_false, Bool.and_false]
/-- What a right index gives. -/
theorem chk_each0 {Q : List Raw} {L : List Ent} (h : (chk Q L).1 = 0) : L.length ≤ 100 ∧ ∀ i, i < L.length → entE L i = 0 := by
  by_cases h1 : 100 < L.length
  · rw [chk_full h1] at h; exact absurd h (by decide)
  · refine ⟨by omega, ?_⟩
    cases hf : fstE (entE L) L.length with
    | some i =>
      rw [chk_each h1 hf] at h
      exact absurd h (fstE_of_some hf).2.1
    | none => exact fstE_of_none hf
theorem entE_mod {L : List Ent} {i : Nat} (hi : i < L.length) (h : entE L i = 0) : mErr L[i].1 = 0 := by
  by_cases hm : mErr L[i].1 = 0
  · exact hm
  · unfold entE at h
    rw [List.getElem?_eq_getElem hi] at h
    simp only at h
    rw [entW_bad hm] at h
    exact absurd h hm
theorem entE_ahead {L : List Ent} {k : Nat} (hk : k + 1 < L.length) (h : entE L (k + 1) = 0) : mAhead (L[k]'(by omega)).1 L[k + 1].1 = true := by
  have hm := entE_mod hk h
  rw [entE_1 hk] at h
  cases ha : mAhead (L[k]'(by omega)).1 L[k + 1].1
  · rw [entW_order hm ha] at h; exact absurd h (by decide)
  · rfl
theorem ahead_all {L : List Ent} (h : ∀ i, i < L.length → entE L i = 0) : ∀ (d i : Nat) (hi : i + d + 1 < L.length), mAhead (L[i]'(by omega)).1 (L[i + d + 1]'hi).1 = true
  | 0, i, hi => entE_ahead hi (h _ hi)
  | d + 1, i, hi => mAhead_trans (ahead_all h d i (by omega)) (entE_ahead (k := i + d + 1) hi (h _ hi))
/-- An index that is right. -/
structure Good (Q : List Raw) : Prop where
  ver : ∀ r, r ∈ Q → verErr r.1.2.data.toList = 0
  path : ∀ r, r ∈ Q → pathErr r.1.1.data.toList = 0
  one : ∀ i j (hi : i < Q.length) (hj : j < Q.length), Q[i].1 = Q[j].1 → i = j
theorem mErr_zero {m : Bm} (h : mErr m = 0) : pathErr m.1.data.toList = 0 ∧ verErr m.2.data.toList = 0 := by
  unfold mErr modErr at h
  by_cases h0 : pathErr m.1.data.toList = 0
  · rw [if_pos h0] at h
    by_cases h1 : verErr m.2.data.toList = 0
    · exact ⟨h0, h1⟩
    · rw [if_neg h1] at h; exact absurd h h1
  · rw [if_neg h0] at h; exact absurd h h0
theorem good_of {w : World} {v : Value} {Q : List Raw} {L : List Ent} (I : Ixs w v Q L) (h : (chk Q L).1 = 0) : Good Q := by
  obtain ⟨_, he⟩ := chk_each0 h
  have hm : ∀ i (hi : i < Q.length), Q[i].1 = (L[i]'(by rw [← I.ln]; exact hi)).1 := fun i hi => (I.ok i hi (by rw [← I.ln]; exact hi)).m
  have hz : ∀ i (hi : i < Q.length), pathErr Q[i].1.1.data.toList = 0 ∧ verErr Q[i].1.2.data.toList = 0 := fun i hi => by
    rw [hm i hi]; exact mErr_zero (entE_mod _ (he i (by rw [← I.ln]; exact hi)))
  refine ⟨fun r hr => ?_, fun r hr => ?_, ?_⟩
  · obtain ⟨i, hi, rfl⟩ := List.getElem_of_mem hr
    exact (hz i hi).2
  · obtain ⟨i, hi, rfl⟩ := List.getElem_of_mem hr
    exact (hz i hi).1
  · have key : ∀ i j (hi : i < Q.length) (hj : j < Q.length), i < j → Q[i].1 ≠ Q[j].1 := fun i j hi hj hij e => by
      have ha := ahead_all he (j - i - 1) i (by rw [← I.ln]; omega)
      have hjj : i + (j - i - 1) + 1 = j := by omega
      simp only [hjj] at ha
      rw [← hm i hi, ← hm j hj, e, mAhead_irr] at ha
      cases ha
    intro i j hi hj e
    rcases Nat.lt_trichotomy i j with h1 | h1 | h1
    · exact absurd e (key i j hi hj h1)
    · exact h1
    · exact absurd e.symm (key j i hj hi h1)
theorem Good.same {Q : List Raw} (g : Good Q) {r s : Raw} (hr : r ∈ Q) (hs : s ∈ Q) (h : r.1 = s.1) : r = s := by
  obtain ⟨i, hi, rfl⟩ := List.getElem_of_mem hr
  obtain ⟨j, hj, rfl⟩ := List.getElem_of_mem hs
  have := g.one i j hi hj h
  subst this; rfl
/-- The entry of a module is found. -/
theorem Good.find {Q : List Raw} (g : Good Q) {r : Raw} (hr : r ∈ Q) : ∃ n, ∃ hn : n < Q.length, idxOf (isM r.1) Q = (n : Int) ∧ Q[n] = r := by
  obtain ⟨i, hi, e⟩ := List.getElem_of_mem hr
  refine ⟨i, hi, idx_hit hi (fun j hj hji => ?_) (by rw [e]; unfold isM; simp), e⟩
  unfold isM
  rw [decide_eq_false]
  rintro ⟨h1, h2⟩
  have := g.one j i hj hi (by rw [e]; exact Prod.ext h1 h2)
  omega
end Ve
end Go.Proofs.YtacggkigfjpfnaaGreatDoor

/-
  Modules joined, plain: of each path the greatest version, paths rising; what is under what.
-/
namespace Go.Proofs.YtacggkigfjpfnaaGreatDoor
open Go.RowKit
namespace Ve

/-- A version's bytes. -/
abbrev vb (m : Bm) : List UInt8 := m.2.data.toList
theorem ahead_same {a b : Bm} (h : a.1 = b.1) : mAhead a b = lessB (vb a) (vb b) := by
  unfold mAhead aheadB
  rw [if_pos (by rw [h])]
theorem ahead_other {a b : Bm} (h : a.1 ≠ b.1) : mAhead a b = lt a.1 b.1 := by
  unfold mAhead aheadB
  rw [if_neg (fun e => h (str_ext e))]
  rfl
theorem less_right {s t : List UInt8} (hs : verErr s = 0) (ht : verErr t = 0) : lessB s t = decide (ordV s t < 0) := by
  unfold lessB
  simp [hs, ht]
/-- How newestFirst orders two: paths rising, versions falling. -/
def nfC (a b : Bm) : Int := if a.1 = b.1 then (if mAhead b a then -1 else if mAhead a b then 1 else 0) else Lib.compareBytes a.1.data.toList b.1.data.toList
/-- A right module of fitting length. -/
structure Rt (m : Bm) : Prop where
  ok : mErr m = 0
  p : m.1.size < 999999
  v : m.2.size < 999999
theorem Rt.ver {m : Bm} (h : Rt m) : verErr (vb m) = 0 := (mErr_zero h.ok).2
theorem nf_lt {a b : Bm} (ha : Rt a) (hb : Rt b) : nfC a b < 0 ↔ (lt a.1 b.1 = true ∨ (a.1 = b.1 ∧ ordV (vb b) (vb a) < 0)) := by
  unfold nfC
  by_cases h : a.1 = b.1
  · rw [if_pos h, ahead_same h.symm, ahead_same h, less_right hb.ver ha.ver, less_right ha.ver hb.ver]
    have hl : ¬ lt a.1 b.1 = true := by rw [h, lt_irrefl]; simp
    by_cases h1 : ordV (vb b) (vb a) < 0
    · simp [h1, h]
    · by_cases h2 : ordV (vb a) (vb b) < 0
      · simp [h1, h2, hl]
      · simp [h1, h2, hl]
  · rw [if_neg h]
    unfold lt
    simp [h]
theorem ordV_le_trans {s t u : List UInt8} (hs : verErr s = 0) (ht : verErr t = 0) (hu : verErr u = 0) (h1 : ordV s t ≤ 0) (h2 : ordV t u ≤ 0) : ordV s u ≤ 0 := by
  rcases Int.lt_or_eq_of_le h1 with a | a
  · rcases Int.lt_or_eq_of_le h2 with b | b
    · exact Int.le_of_lt (ordV_trans a b)
    · rw [← (ordV_zero ht hu).1 b]; exact h1
  · rw [(ordV_zero hs ht).1 a]; exact h2
theorem ordV_total {s t : List UInt8} (h : ¬ ordV s t < 0) : ordV t s ≤ 0 := by rw [ordV_swap s t]; omega
/-- What is not behind: the sort's own order, weakly. -/
def nfW (a b : Bm) : Prop := lt a.1 b.1 = true ∨ (a.1 = b.1 ∧ ordV (vb b) (vb a) ≤ 0)
theorem nf_not {a b : Bm} (ha : Rt a) (hb : Rt b) (h : ¬ nfC b a < 0) : nfW a b := by
  rw [nf_lt hb ha] at h
  rcases lt_three a.1 b.1 with h1 | h1 | h1
  · exact Or.inl h1
  · refine Or.inr ⟨h1, ordV_total fun h2 => h (Or.inr ⟨h1.symm, h2⟩)⟩
  · exact absurd (Or.inl h1) h
theorem nf_irr {a : Bm} (ha : Rt a) : ¬ nfC a a < 0 := by
  rw [nf_lt ha ha]
  rintro (h | ⟨_, h⟩)
  · rw [lt_irrefl] at h; cases h
  · rw [(ordV_zero ha.ver ha.ver).2 rfl] at h; omega
theorem nf_trans {a b c : Bm} (ha : Rt a) (hb : Rt b) (hc : Rt c) (h1 : nfC a b < 0) (h2 : nfC b c < 0) : nfC a c < 0 := by
  rw [nf_lt ha hb] at h1
  rw [nf_lt hb hc] at h2
  rw [nf_lt ha hc]
  rcases h1 with h1 | ⟨e1, h1⟩
  · rcases h2 with h2 | ⟨e2, h2⟩
    · exact Or.inl (lt_trans h1 h2)
    · rw [← e2]; exact Or.inl h1
  · rcases h2 with h2 | ⟨e2, h2⟩
    · rw [e1]; exact Or.inl h2
    · exact Or.inr ⟨e1.trans e2, ordV_trans h2 h1⟩
theorem nfW_trans {a b c : Bm} (ha : Rt a) (hb : Rt b) (hc : Rt c) (h1 : nfW a b) (h2 : nfW b c) : nfW a c := by
  rcases h1 with h1 | ⟨e1, h1⟩
  · rcases h2 with h2 | ⟨e2, h2⟩
    · exact Or.inl (lt_trans h1 h2)
    · rw [nfW, ← e2]; exact Or.inl h1
  · rcases h2 with h2 | ⟨e2, h2⟩
    · rw [nfW, e1]; exact Or.inl h2
    · exact Or.inr ⟨e1.trans e2, ordV_le_trans hc.ver hb.ver ha.ver h2 h1⟩
theorem nfW_not {a b : Bm} (ha : Rt a) (hb : Rt b) (h : nfW a b) : ¬ nfC b a < 0 := by
  rw [nf_lt hb ha]
  rintro (h2 | ⟨e, h2⟩)
  · rcases h with h | ⟨e, _⟩
    · rw [lt_asymm h] at h2; cases h2
    · rw [e, lt_irrefl] at h2; cases h2
  · rcases h with h | ⟨_, h⟩
    · rw [e, lt_irrefl] at h; cases h
    · rw [ordV_swap (vb b) (vb a)] at h2; omega

/-- E is what is joined of D: of each path the greatest of the right ones, paths rising. -/
structure Jn (D E : List Bm) : Prop where
  ri : rising E
  sub : ∀ e, e ∈ E → e ∈ D ∧ mErr e = 0
  top : ∀ x, x ∈ D → mErr x = 0 → ∃ e, e ∈ E ∧ e.1 = x.1 ∧ ordV (vb x) (vb e) ≤ 0
theorem rising_same {E : List Bm} (h : rising E) {a b : Bm} (ha : a ∈ E) (hb : b ∈ E) (e : a.1 = b.1) : a = b := by
  obtain ⟨i, hi, rfl⟩ := List.getElem_of_mem ha
  obtain ⟨j, hj, rfl⟩ := List.getElem_of_mem hb
  have hp := List.pairwise_iff_getElem.1 h
  rcases Nat.lt_trichotomy i j with h1 | h1 | h1
  · have := hp i j hi hj h1
    rw [e, lt_irrefl] at this; cases this
  · subst h1; rfl
  · have := hp j i hj hi h1
    rw [e, lt_irrefl] at this; cases this
/-- Paths that rise: one row of the same modules alone. -/
theorem rising_ext : ∀ {E F : List Bm}, rising E → rising F → (∀ m, m ∈ E ↔ m ∈ F) → E = F
  | [], [], _, _, _ => rfl
  | [], f :: F, _, _, h => by have := (h f).2 (by simp); cases this
  | e :: E, [], _, _, h => by have := (h e).1 (by simp); cases this
  | e :: E, f :: F, hE, hF, h => by
    obtain ⟨hE1, hE2⟩ := List.pairwise_cons.1 hE
    obtain ⟨hF1, hF2⟩ := List.pairwise_cons.1 hF
    have hef : e = f := by
      rcases List.mem_cons.1 ((h e).1 (by simp)) with a | a
      · exact a
      · rcases List.mem_cons.1 ((h f).2 (by simp)) with b | b
        · exact b.symm
        · have h1 := hF1 e a
          have h2 := hE1 f b
          rw [lt_asymm h1] at h2; cases h2
    subst hef
    have : E = F := rising_ext hE2 hF2 fun m => by
      constructor
      · intro hm
        rcases List.mem_cons.1 ((h m).1 (List.mem_cons_of_mem _ hm)) with a | a
        · subst a; have := hE1 m hm; rw [lt_irrefl] at this; cases this
        · exact a
      · intro hm
        rcases List.mem_cons.1 ((h m).2 (List.mem_cons_of_mem _ hm)) with a | a
        · subst a; have := hF1 m hm; rw [lt_irrefl] at this; cases this
        · exact a
    rw [this]
theorem ver_same {a b : Bm} (ha : mErr a = 0) (hb : mErr b = 0) (e : a.1 = b.1) (h1 : ordV (vb a) (vb b) ≤ 0) (h2 : ordV (vb b) (vb a) ≤ 0) : a = b := by
  have h0 : ordV (vb a) (vb b) = 0 := by rw [ordV_swap (vb a) (vb b)] at h2; omega
  have := (ordV_zero (mErr_zero ha).2 (mErr_zero hb).2).1 h0
  exact Prod.ext e (str_ext this)
/-- What is joined is one row: of the same modules, the same. -/
theorem Jn.one {D D' E F : List Bm} (hE : Jn D E) (hF : Jn D' F) (h : ∀ m, mErr m = 0 → (m ∈ D ↔ m ∈ D')) : E = F := by
  refine rising_ext hE.ri hF.ri fun m => ?_
  have go : ∀ {D D' E F : List Bm}, Jn D E → Jn D' F → (∀ m, mErr m = 0 → (m ∈ D ↔ m ∈ D')) → ∀ m, m ∈ E → m ∈ F := by
    intro D D' E F hE hF h m hm
    obtain ⟨h1, h2⟩ := hE.sub m hm
    obtain ⟨f, hf, e1, h3⟩ := hF.top m ((h m h2).1 h1) h2
    obtain ⟨h4, h5⟩ := hF.sub f hf
    obtain ⟨g, hg, e2, h6⟩ := hE.top f ((h f h5).2 h4) h5
    have hgm : g = m := rising_same hE.ri hg hm (e2.trans e1)
    subst hgm
    rw [ver_same h2 h5 e1.symm h3 h6]; exact hf
  exact ⟨go hE hF h m, go hF hE (fun m hm => (h m hm).symm) m⟩
/-- The first of a path. -/
def atP (B : List Bm) (p : ByteArray) : Option Bm := B.find? fun x => decide (x.1 = p)
/-- Has B the path, in no less a version? -/
def hasV (B : List Bm) (m : Bm) : Bool := match atP B m.1 with
  | none => false
  | some x => !lessB (vb x) (vb m)
/-- Under. -/
def undB (A B : List Bm) : Bool := A.all (hasV B)
theorem atP_rising {E : List Bm} (h : rising E) {e : Bm} (he : e ∈ E) : atP E e.1 = some e := by
  unfold atP
  cases hf : E.find? fun x => decide (x.1 = e.1) with
  | none =>
    have := List.find?_eq_none.1 hf e he
    simp at this
  | some x =>
    have h1 := List.find?_some hf
    have h2 := List.mem_of_find?_eq_some hf
    have h3 : x.1 = e.1 := by simpa using h1
    rw [rising_same h h2 he h3]
theorem hasV_rising {E : List Bm} (h : rising E) {e m : Bm} (he : e ∈ E) (hp : e.1 = m.1) : hasV E m = !lessB (vb e) (vb m) := by
  unfold hasV
  rw [← hp, atP_rising h he]
theorem hasV_of {E : List Bm} (h : rising E) {e m : Bm} (he : e ∈ E) (hp : e.1 = m.1) (ho : ordV (vb m) (vb e) ≤ 0) : hasV E m = true := by
  rw [hasV_rising h he hp]
  unfold lessB
  have : ¬ ordV (vb e) (vb m) < 0 := by rw [ordV_swap (vb m) (vb e)]; omega
  simp [this]
/-- What is joined is over what it is joined of. -/
theorem Jn.over {D E A : List Bm} (h : Jn D E) (hA : ∀ m, m ∈ A → m ∈ D ∧ mErr m = 0) : undB A E = true := by
  unfold undB
  rw [List.all_eq_true]
  intro m hm
  obtain ⟨h1, h2⟩ := hA m hm
  obtain ⟨e, he, e1, e2⟩ := h.top m h1 h2
  exact hasV_of h.ri he e1 e2
/-- Under what is over both. -/
theorem Jn.least {D E C : List Bm} (h : Jn D E) (hD : ∀ m, m ∈ D → hasV C m = true) : undB E C = true := by
  unfold undB
  rw [List.all_eq_true]
  exact fun m hm => hD m (h.sub m hm).1
end Ve
end Go.Proofs.YtacggkigfjpfnaaGreatDoor

/-
  What slices.IndexFunc and slices.ContainsFunc answer over modules; what mvs.Under answers; nothing old in memory turns.
-/
namespace Go.Proofs.YtacggkigfjpfnaaGreatDoor
open Go.RowKit
namespace Ve

/-- The first place where a test holds, or -1. -/
def idxB (P : Bm → Bool) (L : List Bm) : Int := if L.any P then (L.findIdx P : Int) else -1
theorem idxB_hit {P : Bm → Bool} {L : List Bm} {k : Nat} (hk : k < L.length) (h0 : ∀ j (hj : j < L.length), j < k → P L[j] = false) (h : P L[k] = true) : idxB P L = (k : Int) := by
  unfold idxB
  rw [if_pos (List.any_eq_true.2 ⟨L[k], List.getElem_mem hk, h⟩), (List.findIdx_eq hk).2 ⟨h, fun j hj => h0 j (by omega) hj⟩]
theorem idxB_not {P : Bm → Bool} {L : List Bm} (h0 : ∀ j (hj : j < L.length), P L[j] = false) : idxB P L = -1 := by
  unfold idxB
  rw [if_neg]
  intro h
  obtain ⟨x, hx, h1⟩ := List.any_eq_true.1 h
  obtain ⟨j, hj, rfl⟩ := List.getElem_of_mem hx
  rw [h0 j hj] at h1; cases h1
theorem idxB_next {P : Bm → Bool} {L : List Bm} {k : Nat} (hk : k < L.length) (h0 : ∀ j (hj : j < L.length), j < k → P L[j] = false) (h : P L[k] = false) : ∀ j (hj : j < L.length), j < k + 1 → P L[j] = false := fun j hj hjk => by
  rcases Nat.lt_or_ge j k with h1 | h1
  · exact h0 j hj h1
  · have : j = k := by omega
    subst this; exact h
theorem idxB_kind (P : Bm → Bool) (L : List Bm) : (idxB P L = -1 ∧ ∀ x, x ∈ L → P x = false) ∨ ∃ k, ∃ hk : k < L.length, idxB P L = (k : Int) ∧ P L[k] = true ∧ ∀ j (hj : j < L.length), j < k → P L[j] = false := by
  by_cases h : L.any P
  · refine Or.inr ⟨L.findIdx P, List.findIdx_lt_length.2 (List.any_eq_true.1 h), by unfold idxB; rw [if_pos h], List.findIdx_getElem, fun j hj hjk => ?_⟩
    have := List.not_of_lt_findIdx hjk
    simpa using this
  · refine Or.inl ⟨by unfold idxB; rw [if_neg h], fun x hx => ?_⟩
    cases hp : P x
    · rfl
    · exact absurd (List.any_eq_true.2 ⟨x, hx, hp⟩) h
set_option maxHeartbeats 2000000 in
set_option maxRecDepth 100000 in
theorem idxM_some (K : Nat) (cb : Array Value) (P : Bm → Bool) (L : List Bm) (b o c : Nat) (w : World) (eg : ∀ args w, (callFunc K args).run Tryz.prog w = .ok (.enter K args) w) (hL : L.length ≤ 1000000)
    (hc : ∀ j (h : j < L.length), w.cell? ⟨b, o + j * 2, none⟩ = some (.string L[j].1) ∧ w.cell? ⟨b, o + j * 2 + 1, none⟩ = some (.string L[j].2))
    (hK : ∀ i (h : i < L.length) W, Below w.heap.size w W → Calls Tryz.prog K (#[.agg #[.string L[i].1, .string L[i].2]] ++ cb) W fun e w' => e = .returned (.bool (P L[i])) ∧ Below W.heap.size W w') :
    Calls Tryz.prog 26 #[.slice (some ⟨b, o, none⟩) L.length c, .func (.func K) #[] cb] w fun e w' => e = .returned (.int .i64 (idxB P L)) ∧ Below w.heap.size w w' := by
  have HK := hid hK
  have HC := hid hc
  generalize hr : idxB P L = r
  have HR := hid hr
  clear hK hc hr
  go_enter Tryz.func26, Tryz.ntmps26
  go_wp2_with fail
  go_loopw [8] (fun i wr => ∃ k : Nat, k ≤ L.length ∧ i = .int .i64 k ∧ Hid (∀ j (h : j < L.length), j < k → P L[j] = false) ∧ Hid (Below w.heap.size w wr)) (fun i _ => L.length - (intOf i).toNat)
  case atStart => exact ⟨0, Nat.zero_le _, rfl, hid (fun j _ hj => absurd hj (by omega)), hid (Below.refl _ _)⟩
  case round =>
    obtain ⟨k, hk, rfl, HA, HB⟩ := hrel
    by_cases hlt : k < L.length
    · have HP := hid (HK.out k hlt wr HB.out)
      have x0 := cell_below HB.out (HC.out k hlt).1
      have x1 := cell_below HB.out (HC.out k hlt).2
      have hkI : (k : Int) < (L.length : Int) := by omega
      have HLT := hid hlt
      have HF := hid (fun h => idxB_hit hlt HA.out h)
      have HN := hid (fun h => idxB_next hlt HA.out h)
      generalize hx : L[k] = x at *
      cases hp : P x
      · rw [hp] at HP
        have HN2 := hid (HN.out hp)
        clear hp hx hlt
        go_wp2_with fail
        refine HP.out.mono ?_
        rintro e w1 ⟨rfl, hb⟩
        have HB1 := hid (HB.out.trans (hb.mono HB.out.size))
        clear hb
        go_wp2_with fail
        go_roundw
        case rel => exact ⟨k + 1, by have := HLT.out; omega, by go_num, HN2, HB1⟩
        case measure => have := HLT.out; simp [intOf]; omega
      · rw [hp] at HP
        have HF2 := hid (HF.out hp)
        clear hp hx hlt
        go_wp2_with fail
        refine HP.out.mono ?_
        rintro e w1 ⟨rfl, hb⟩
        have HB1 := hid (HB.out.trans (hb.mono HB.out.size))
        clear hb
        go_wp2_with fail
        go_ret
        exact ⟨by rw [← HR.out, HF2.out]; rfl, HB1.out⟩
    · have HF := hid (idxB_not (P := P) (L := L) (fun j hj => HA.out j hj (by omega)))
      go_wp2_with fail
      go_ret
      exact ⟨by rw [← HR.out, HF.out]; rfl, HB.out⟩
theorem idxM_none (K : Nat) (cb : Array Value) (a : Option Addr) (c : Nat) (w : World) :
    Calls Tryz.prog 26 #[.slice a 0 c, .func (.func K) #[] cb] w fun e w' => e = .returned (.int .i64 (-1)) ∧ Below w.heap.size w w' := by
  go_enter Tryz.func26, Tryz.ntmps26
  go_wp2_with fail
  go_loopw [8] (fun i wr => i = .int .i64 0 ∧ wr = w) (fun i _ => 0)
  case atStart => exact ⟨rfl, rfl⟩
  case round =>
    obtain ⟨rfl, rfl⟩ := hrel
    go_wp2_with fail
    go_ret
    exact ⟨rfl, Below.refl _ _⟩
theorem idxM_any (K : Nat) (cb : Array Value) (P : Bm → Bool) (L : List Bm) (v : Value) (w : World) (eg : ∀ args w, (callFunc K args).run Tryz.prog w = .ok (.enter K args) w) (hL : L.length ≤ 1000000) (hv : MsAt w v L)
    (hK : ∀ i (h : i < L.length) W, Below w.heap.size w W → Calls Tryz.prog K (#[.agg #[.string L[i].1, .string L[i].2]] ++ cb) W fun e w' => e = .returned (.bool (P L[i])) ∧ Below W.heap.size W w') :
    Calls Tryz.prog 26 #[v, .func (.func K) #[] cb] w fun e w' => e = .returned (.int .i64 (idxB P L)) ∧ Below w.heap.size w w' := by
  obtain ⟨a, c, rfl, _, h⟩ := hv
  cases L with
  | nil => exact idxM_none K cb a c w
  | cons x r =>
    obtain ⟨b, o, rfl, h2⟩ := h (by simp)
    exact idxM_some K cb P (x :: r) b o c w eg hL h2 hK
set_option maxHeartbeats 1000000 in
theorem hasM_any (K : Nat) (cb : Array Value) (P : Bm → Bool) (L : List Bm) (v : Value) (w : World) (eg : ∀ args w, (callFunc K args).run Tryz.prog w = .ok (.enter K args) w) (hL : L.length ≤ 1000000) (hv : MsAt w v L)
    (hK : ∀ i (h : i < L.length) W, Below w.heap.size w W → Calls Tryz.prog K (#[.agg #[.string L[i].1, .string L[i].2]] ++ cb) W fun e w' => e = .returned (.bool (P L[i])) ∧ Below W.heap.size W w') :
    Calls Tryz.prog 24 #[v, .func (.func K) #[] cb] w fun e w' => e = .returned (.bool (L.any P)) ∧ Below w.heap.size w w' := by
  obtain ⟨va, vn, vc, hv1⟩ := hv.slice
  have HI := hid (idxM_any K cb P L v w eg hL hv hK)
  have HX := hid (show decide (0 ≤ idxB P L) = L.any P by
    unfold idxB
    cases h : L.any P
    · simp
    · simp)
  generalize L.any P = z at *
  generalize idxB P L = x at *
  subst hv1
  clear hK hv eg
  by_cases h0 : 0 ≤ x
  · go_enter Tryz.func24, Tryz.ntmps24
    go_wp2_with fail
    refine HI.out.mono ?_
    rintro e w1 ⟨rfl, hb⟩
    have HB := hid hb
    clear hb
    go_wp2_with fail
    go_ret
    exact ⟨ret_bool (by rw [← HX.out]; simp [h0]), HB.out⟩
  · go_enter Tryz.func24, Tryz.ntmps24
    go_wp2_with fail
    refine HI.out.mono ?_
    rintro e w1 ⟨rfl, hb⟩
    have HB := hid hb
    clear hb
    go_wp2_with fail
    go_ret
    exact ⟨ret_bool (by rw [← HX.out]), HB.out⟩
set_option maxHeartbeats 1000000 in
theorem undP_any (x m : Bm) (b : Nat) (W : World) (h0 : W.cell? ⟨b, 0, none⟩ = some (.string m.1)) (h1 : W.cell? ⟨b, 1, none⟩ = some (.string m.2)) :
    Calls Tryz.prog 27 (#[.agg #[.string x.1, .string x.2]] ++ #[.pointer (some ⟨b, 0, none⟩)]) W fun e w' => e = .returned (.bool (decide (x.1 = m.1))) ∧ Below W.heap.size W w' := by
  obtain ⟨p, v⟩ := x
  obtain ⟨q, u⟩ := m
  simp only at h0 h1
  show Calls Tryz.prog 27 #[.agg #[.string p, .string v], .pointer (some ⟨b, 0, none⟩)] W _
  have HB0 := hid ((Below.refl W.heap.size W).alloc (Nat.le_refl _) (.cells #[.string p, .string v] 45))
  have c0 := cell_below HB0.out h0
  have c1 := cell_below HB0.out h1
  have hbb : ¬ b = W.heap.size := by have := lt_of_cell h0; simp at this; omega
  have hbb2 : ¬ W.heap.size = b := fun h => hbb h.symm
  by_cases h : p = q
  · subst h
    have he := str_refl p
    have HD := hid (show decide (p = p) = true by simp)
    generalize decide (p = p) = z at *
    go_enter Tryz.func27, Tryz.ntmps27
    go_wp2_with fail
    go_ret
    exact ⟨ret_bool HD.out.symm, HB0.out⟩
  · have he := str_ne h
    have HD := hid (show decide (p = q) = false by simp [h])
    generalize decide (p = q) = z at *
    go_enter Tryz.func27, Tryz.ntmps27
    go_wp2_with fail
    go_ret
    exact ⟨ret_bool HD.out.symm, HB0.out⟩
theorem hasV_none {B : List Bm} {m : Bm} (h : ∀ x, x ∈ B → decide (x.1 = m.1) = false) : hasV B m = false := by
  unfold hasV atP
  rw [List.find?_eq_none.2 (fun x hx => by rw [h x hx]; simp)]
theorem hasV_some {B : List Bm} {m : Bm} {k : Nat} (hk : k < B.length) (h1 : decide (B[k].1 = m.1) = true) (h2 : ∀ j (hj : j < B.length), j < k → decide (B[j].1 = m.1) = false) : hasV B m = !lessB (vb B[k]) (vb m) := by
  unfold hasV atP
  have : B.find? (fun x => decide (x.1 = m.1)) = some B[k] := by
    rw [List.find?_eq_some_iff_getElem]
    exact ⟨h1, k, hk, rfl, fun j hj => by rw [h2 j (by omega) hj]; rfl⟩
  rw [this]
set_option maxHeartbeats 2000000 in
theorem undK_any (B : List Bm) (m : Bm) (b : Nat) (v : Value) (A : Nat → Addr) (ml : Int) (W : World) (hB : B.length ≤ 1000000) (hs : ∀ x, x ∈ B → x.2.size < 999999) (hm : m.2.size < 999999) (S : Te W A ml) (h1 : W.cell? ⟨b, 0, none⟩ = some v) (hv : MsAt W v B) :
    Calls Tryz.prog 25 (#[.agg #[.string m.1, .string m.2]] ++ #[.pointer (some ⟨b, 0, none⟩)]) W fun e w' => e = .returned (.bool (!hasV B m)) ∧ Below W.heap.size W w' := by
  have eg : ∀ args w, (callFunc 27 args).run Tryz.prog w = .ok (.enter 27 args) w := enters_of Tryz.func27 (by kernel_rfl) rfl
  have HB0 := hid ((Below.refl W.heap.size W).alloc (Nat.le_refl _) (.cells #[.string m.1, .string m.2] 45))
  have HF := hid (idxM_any 27 #[.pointer (some ⟨W.heap.size, 0, none⟩)] (fun x => decide (x.1 = m.1)) B v (W.alloc (.cells #[.string m.1, .string m.2] 45)) eg hB (hv.below HB0.out) (fun i hi W' hW =>
    undP_any B[i] m W.heap.size W' (cell_below hW (by simp)) (cell_below hW (by simp))))
  have HS := hid S
  have HV := hid hv
  have c1 := cell_below HB0.out h1
  have hbb : ¬ b = W.heap.size := by have := lt_of_cell h1; simp at this; omega
  have hbb2 : ¬ W.heap.size = b := fun h => hbb h.symm
  show Calls Tryz.prog 25 #[.agg #[.string m.1, .string m.2], .pointer (some ⟨b, 0, none⟩)] W _
  obtain ⟨va, vc, hv1, _, hvc⟩ := hv
  subst hv1
  obtain ⟨p, q⟩ := m
  simp only at hm
  rcases idxB_kind (fun x => decide (x.1 = p)) B with ⟨e1, h2⟩ | ⟨k, hk, e1, h2, h3⟩
  · have HX := hid (hasV_none (m := (p, q)) h2)
    simp only [e1] at HF
    clear S h2 e1 eg hvc
    go_enter Tryz.func25, Tryz.ntmps25
    go_wp2_with fail
    refine HF.out.mono ?_
    rintro e w1 ⟨rfl, hb⟩
    have HB := hid (HB0.out.trans (hb.mono HB0.out.size))
    clear hb
    go_wp2_with fail
    go_quiet (fail)
    have HBd := hid (below_drawn_of HB.out nq)
    go_wp2_with fail
    go_ret
    exact ⟨ret_bool (by rw [HX.out]; rfl), HBd.out⟩
  · have HX := hid (hasV_some (m := (p, q)) hk h2 h3)
    simp only [e1] at HF
    obtain ⟨bb, o, hva, hcell⟩ := hvc (fun e => by rw [e] at hk; exact absurd hk (Nat.not_lt_zero _))
    subst hva
    have HC := hid (hcell k hk)
    have hz := hs B[k] (List.getElem_mem hk)
    have hk0 : ¬ (k : Int) < 0 := by omega
    have hkI : (k : Int) < (B.length : Int) := by omega
    generalize B[k] = x at *
    obtain ⟨x1, x2⟩ := x
    simp only at hz
    clear S h2 h3 e1 eg hcell hs
    go_enter Tryz.func25, Tryz.ntmps25
    go_wp2_with fail
    refine HF.out.mono ?_
    rintro e w1 ⟨rfl, hb⟩
    have HB := hid (HB0.out.trans (hb.mono HB0.out.size))
    have d1 := cell_below hb c1
    have d2 : w1.cell? ⟨W.heap.size, 0, none⟩ = some (.string p) := cell_below hb (by simp)
    have d3 : w1.cell? ⟨W.heap.size, 1, none⟩ = some (.string q) := cell_below hb (by simp)
    have y0 := cell_below HB.out HC.out.1
    have y1 := cell_below HB.out HC.out.2
    have HL := hid (fun W' (hW : Below w1.heap.size w1 W') => less_any x2 q (A 0) (A 1) ml W' hz hm ((HS.out.below HB.out).below hW).vs)
    clear hb c1
    have HT := hid (fun W' (hW : Below w1.heap.size w1 W') => (show W'.cell? ⟨b, 0, none⟩ = some (.slice (some ⟨bb, o, none⟩) B.length vc) ∧ W'.cell? ⟨W.heap.size, 0, none⟩ = some (.string p) ∧ W'.cell? ⟨W.heap.size, 1, none⟩ = some (.string q) ∧ W'.cell? ⟨bb, o + k * 2, none⟩ = some (.string x1) ∧ W'.cell? ⟨bb, o + k * 2 + 1, none⟩ = some (.string x2) ∧ Hid (Below w1.heap.size w1 W') from ⟨cell_below hW d1, cell_below hW d2, cell_below hW d3, cell_below hW y0, cell_below hW y1, hid hW⟩))
    go_wp2_with fail
    go_region_held (fun W' => W'.cell? ⟨b, 0, none⟩ = some (.slice (some ⟨bb, o, none⟩) B.length vc) ∧ W'.cell? ⟨W.heap.size, 0, none⟩ = some (.string p) ∧ W'.cell? ⟨W.heap.size, 1, none⟩ = some (.string q) ∧ W'.cell? ⟨bb, o + k * 2, none⟩ = some (.string x1) ∧ W'.cell? ⟨bb, o + k * 2 + 1, none⟩ = some (.string x2) ∧ Hid (Below w1.heap.size w1 W')) (first | exact HT.out _ HRa.out | exact HT.out _ (below_drawn _ 1)) (first
      | (go_at_call 28; refine (HL.out _ (below_drawn _ 1)).mono ?_; rintro e w' ⟨rfl, hb⟩; have HRa := hid ((below_drawn w1 1).trans (hb.mono (Nat.le_refl _))); clear hb))
    all_goals
      have HBe := hid (HB.out.trans (HRa.out.mono HB.out.size))
      go_wp2_with fail
      go_ret
      exact ⟨ret_bool (by rw [HX.out]; exact (Bool.not_not _).symm), HBe.out⟩
set_option maxHeartbeats 2000000 in
/-- mvs.Under. -/
theorem und_any (X B : List Bm) (v u : Value) (A : Nat → Addr) (ml : Int) (w : World) (hX : X.length ≤ 1000000) (hB : B.length ≤ 1000000) (hsX : ∀ x, x ∈ X → x.2.size < 999999) (hs : ∀ x, x ∈ B → x.2.size < 999999) (S : Te w A ml) (hv : MsAt w v X) (hu : MsAt w u B) :
    Calls Tryz.prog 12 #[v, u] w fun e w' => e = .returned (.bool (undB X B)) ∧ Below w.heap.size w w' := by
  have eg : ∀ args w, (callFunc 25 args).run Tryz.prog w = .ok (.enter 25 args) w := enters_of Tryz.func25 (by kernel_rfl) rfl
  obtain ⟨va, vn, vc, hv1⟩ := hv.slice
  obtain ⟨ua, un, uc, hu1⟩ := hu.slice
  have HB0 := hid ((Below.refl w.heap.size w).alloc (Nat.le_refl _) (.cells #[u] 23))
  have HF := hid (hasM_any 25 #[.pointer (some ⟨w.heap.size, 0, none⟩)] (fun m => !hasV B m) X v (w.alloc (.cells #[u] 23)) eg hX (hv.below HB0.out) (fun i hi W' hW =>
    undK_any B X[i] w.heap.size u A ml W' hB hs (hsX _ (List.getElem_mem hi)) ((S.below HB0.out).below hW) (cell_below hW (by simp)) ((hu.below HB0.out).below hW)))
  have HX := hid (show (!X.any fun m => !hasV B m) = undB X B by
    unfold undB
    rw [List.any_eq_not_all_not]
    simp)
  generalize (X.any fun m => !hasV B m) = z at *
  subst hv1
  subst hu1
  clear S hv hu eg
  go_enter Tryz.func12, Tryz.ntmps12
  go_wp2_with fail
  refine HF.out.mono ?_
  rintro e w1 ⟨rfl, hb⟩
  have HB := hid (HB0.out.trans (hb.mono HB0.out.size))
  clear hb
  go_wp2_with fail
  go_ret
  exact ⟨ret_bool HX.out, HB.out⟩
end Ve
end Go.Proofs.YtacggkigfjpfnaaGreatDoor

/-
  A row of modules that a call owns, changed where it lies: one of them set, the last ones cleared; a sorted row without what comes twice (plain).
-/
namespace Go.Proofs.YtacggkigfjpfnaaGreatDoor
open Go.RowKit
namespace Ve

/-- The row of modules in block g. -/
structure Mw (w0 W : World) (g : Nat) (D : List Bm) : Prop where
  bl : Below w0.heap.size w0 W
  lo : w0.heap.size ≤ g
  hi : g < W.heap.size
  fz : ∀ o, W.frozen? ⟨g, o, none⟩ = false
  c0 : ∀ j (h : j < D.length), W.cell? ⟨g, j * 2, none⟩ = some (.string D[j].1)
  c1 : ∀ j (h : j < D.length), W.cell? ⟨g, j * 2 + 1, none⟩ = some (.string D[j].2)
def mcells (m : Bm) : List Value := [.string m.1, .string m.2]
theorem Mw.below {w0 W W' : World} {g : Nat} {D : List Bm} (h : Mw w0 W g D) (hb : Below W.heap.size W W') : Mw w0 W' g D :=
  ⟨h.bl.trans (hb.mono h.bl.size), h.lo, Nat.lt_of_lt_of_le h.hi hb.size, fun o => by rw [hb.frozen h.hi]; exact h.fz o, fun j hj => cell_below hb (h.c0 j hj), fun j hj => cell_below hb (h.c1 j hj)⟩
theorem Mw.at {w0 W : World} {g : Nat} {D : List Bm} (h : Mw w0 W g D) {j : Nat} {r : Bm} (hj : D[j]? = some r) :
    W.cell? ⟨g, j * 2, none⟩ = some (.string r.1) ∧ W.cell? ⟨g, j * 2 + 1, none⟩ = some (.string r.2) := by
  obtain ⟨hl, rfl⟩ := List.getElem?_eq_some_iff.1 hj
  exact ⟨h.c0 j hl, h.c1 j hl⟩
theorem Mw.cell {w0 W : World} {g : Nat} {D : List Bm} (h : Mw w0 W g D) (j : Nat) (hj : j < D.length) (c : Nat) (hc : c < 2) : W.cell? ⟨g, j * 2 + c, none⟩ = (mcells D[j])[c]? := by
  match c, hc with
  | 0, _ => exact h.c0 j hj
  | 1, _ => exact h.c1 j hj
theorem Mw.of_cells {w0 W : World} {g : Nat} {D : List Bm} (h1 : Below w0.heap.size w0 W) (h2 : w0.heap.size ≤ g) (h3 : g < W.heap.size) (h4 : ∀ o, W.frozen? ⟨g, o, none⟩ = false)
    (h : ∀ j (hj : j < D.length) c (_ : c < 2), W.cell? ⟨g, j * 2 + c, none⟩ = (mcells D[j])[c]?) : Mw w0 W g D :=
  ⟨h1, h2, h3, h4, fun j hj => h j hj 0 (by omega), fun j hj => h j hj 1 (by omega)⟩
theorem Mw.ms {w0 W : World} {g : Nat} {D : List Bm} (h : Mw w0 W g D) {cap : Nat} (hc : D.length ≤ cap) : MsAt W (.slice (some ⟨g, 0, none⟩) D.length cap) D :=
  ⟨_, cap, rfl, hc, fun _ => ⟨g, 0, rfl, fun j hj => ⟨by rw [Nat.zero_add]; exact h.c0 j hj, by rw [Nat.zero_add]; exact h.c1 j hj⟩⟩⟩
theorem setCells_belowM {w0 W : World} {g : Nat} (h : Below w0.heap.size w0 W) (hg : w0.heap.size ≤ g) : ∀ (vs : List Value) (o : Nat), Below w0.heap.size w0 (W.setCells g o vs) := by
  intro vs
  induction vs generalizing W with
  | nil => intro o; exact h
  | cons v r ih => intro o; exact ih (h.setCell hg v) (o + 1)
theorem Mw.setAt {w0 W : World} {g : Nat} {D : List Bm} (h : Mw w0 W g D) (i : Nat) (hi : i < D.length) (r : Bm) : Mw w0 (W.setCells g (i * 2) (mcells r)) g (D.set i r) := by
  refine Mw.of_cells (setCells_belowM h.bl h.lo _ _) h.lo (by rw [Go.Sort.size_setCells]; exact h.hi) (fun o => by rw [World.frozen?_setCells]; exact h.fz o) (fun j hj c hc => ?_)
  have hj' : j < D.length := by simpa using hj
  by_cases e : j = i
  · subst e
    have := World.cell?_setCells_in g (mcells r) (j * 2) W (fun t ht => by
      have h9 : t < 2 := ht
      rw [h.cell j hj' t h9]
      match t, h9 with
      | 0, _ => rfl
      | 1, _ => rfl) c hc
    rw [this]
    simp
    exact (List.getElem?_eq_getElem (show c < (mcells r).length from hc)).symm
  · rw [World.cell?_setCells_out g (mcells r) (i * 2) W _ (fun _ _ => by
      show j * 2 + c < i * 2 ∨ i * 2 + 2 ≤ j * 2 + c
      omega), h.cell j hj' c hc]
    rw [List.getElem_set_ne (by omega)]
theorem Mw.cleared {w0 W : World} {g : Nat} {D : List Bm} (h : Mw w0 W g D) (n : Nat) (hn : n ≤ D.length) (zs : List Value) : Mw w0 (W.setCells g (n * 2) zs) g (D.take n) := by
  refine Mw.of_cells (setCells_belowM h.bl h.lo _ _) h.lo (by rw [Go.Sort.size_setCells]; exact h.hi) (fun o => by rw [World.frozen?_setCells]; exact h.fz o) (fun j hj c hc => ?_)
  have hj' : j < n := by simp at hj; omega
  rw [World.cell?_setCells_out g zs (n * 2) W _ (fun _ _ => Or.inl (by show j * 2 + c < n * 2; omega)), h.cell j (by omega) c hc, List.getElem_take]
theorem run_clear_mw {w0 W : World} {g : Nat} {D : List Bm} (h : Mw w0 W g D) (n : Nat) (hn : n < D.length) :
    ∃ zs, ∀ ty c, (Builtin.clear_ #[23] ty #[.slice (some ⟨g, n * 2, none⟩) (D.length - n) c]).run Tryz.prog W = .ok (.tuple #[]) (W.setCells g (n * 2) zs) := by
  have hzl : (Builtin.zeroCells (Value.agg #[.string ⟨#[]⟩, .string ⟨#[]⟩]).cells (D.length - n)).toList.length = (D.length - n) * 2 := by
    simp [Builtin.zeroCells, Value.cells]
  refine ⟨(Builtin.zeroCells (Value.agg #[.string ⟨#[]⟩, .string ⟨#[]⟩]).cells (D.length - n)).toList, fun ty c => ?_⟩
  have hst := run_storeCells_cells (P := Tryz.prog) g (n * 2) (Builtin.zeroCells (Value.agg #[.string ⟨#[]⟩, .string ⟨#[]⟩]).cells (D.length - n)).toList 0 W (fun j hj => by
    rw [hzl] at hj
    have e : n * 2 + 0 + j = (n + j / 2) * 2 + j % 2 := by omega
    rw [e, h.cell (n + j / 2) (by omega) (j % 2) (by omega)]
    have h9 : j % 2 < 2 := by omega
    match j % 2, h9 with
    | 0, _ => rfl
    | 1, _ => rfl) (fun j _ => h.fz _) (fun v hv => by
    simp only [Builtin.zeroCells, Value.cells] at hv
    simp at hv
    obtain ⟨t, _, rfl⟩ := hv
    have h9 : t % 2 < 2 := by omega
    match t % 2, h9 with
    | 0, _ => rfl
    | 1, _ => rfl)
  simp only [Nat.add_zero] at hst
  obtain ⟨m, hm⟩ : ∃ m, D.length - n = m + 1 := ⟨D.length - n - 1, by omega⟩
  rw [hm] at hst ⊢
  have hu := Tryz.underlying23
  have hv : ∀ w, (zeroValue 45).run Tryz.prog w = .ok (.agg #[.string ⟨#[]⟩, .string ⟨#[]⟩]) w := fun w => Tryz.zeroValue45 w
  simp [Builtin.clear_, run_underlying hu, hv, hst]
/-- Of a row that is owned. -/
theorem own_mw {w0 W : World} {v : Value} {L : List Bm} (h : W.ownsRow w0.heap.size 45 2 v L.length (flatM L)) (hb : Below w0.heap.size w0 W) (hL : L ≠ []) : ∃ g cap, v = .slice (some ⟨g, 0, none⟩) L.length cap ∧ L.length ≤ cap ∧ cap ≤ maxLen ∧ Mw w0 W g L := by
  obtain ⟨_, ⟨_, hn0⟩ | ⟨g, cap, cur, hv, hg, hblk, hcap, hcm, hcs, hct⟩⟩ := h
  · exact absurd (List.length_eq_zero_iff.1 hn0) hL
  · refine ⟨g, cap, hv, hcap, hcm, Mw.of_cells hb hg (lt_of_blk hblk) (fun o => by simp [World.frozen?, hblk]) (fun j hj c hc => ?_)⟩
    have h1 := flatM_get L j c hj hc
    rw [← hct, List.getElem?_take, if_pos (by omega)] at h1
    simp only [World.cell?, hblk]
    unfold mcells
    rw [← h1]; simp

/-- Sorted as newestFirst has it. -/
def srtM (D : List Bm) : Prop := D.Pairwise nfW
/-- What is kept of the first m: of each path the first one. -/
structure CpM (D : List Bm) (m : Nat) (E : List Bm) : Prop where
  ri : rising E
  sub : ∀ e, e ∈ E → e ∈ D.take m
  top : ∀ x, x ∈ D.take m → ∃ e, e ∈ E ∧ e.1 = x.1 ∧ ordV (vb x) (vb e) ≤ 0
  len : E.length ≤ m
theorem mem_take_at {D : List Bm} {m : Nat} {x : Bm} (h : x ∈ D.take m) : ∃ i, ∃ hi : i < D.length, i < m ∧ D[i] = x := by
  obtain ⟨i, hi, e⟩ := List.mem_iff_getElem.1 h
  rw [List.getElem_take] at e
  simp at hi
  exact ⟨i, by omega, by omega, e⟩
theorem take_snocM {D : List Bm} {m : Nat} (hm : m < D.length) {x : Bm} : x ∈ D.take (m + 1) ↔ x ∈ D.take m ∨ x = D[m] := by
  rw [List.take_succ_eq_append_getElem hm, List.mem_append, List.mem_singleton]
theorem CpM.start {D : List Bm} (hD : 0 < D.length) (hr : ∀ r, r ∈ D → Rt r) : CpM D 1 (D.take 1) := by
  match D, hD with
  | r :: R, _ => exact ⟨List.pairwise_singleton _ _, fun t h => h, fun x hx => ⟨x, hx, rfl, by
      have : x = r := by simpa using hx
      subst this
      rw [(ordV_zero (hr x (by simp)).ver (hr x (by simp)).ver).2 rfl]; omega⟩, by simp⟩
theorem CpM.same {D E : List Bm} {m : Nat} (h : CpM D (m + 1) E) (hs : srtM D) (_hr : ∀ r, r ∈ D → Rt r) (hm : m + 1 < D.length) (he : D[m + 1].1 = (D[m]'(by omega)).1) : CpM D (m + 1 + 1) E := by
  have hp := List.pairwise_iff_getElem.1 hs
  refine ⟨h.ri, fun e he => (take_snocM hm).2 (Or.inl (h.sub e he)), fun x hx => ?_, by have := h.len; omega⟩
  rcases (take_snocM hm).1 hx with hx | rfl
  · exact h.top x hx
  · obtain ⟨e, h1, h2, _⟩ := h.top (D[m]'(by omega)) ((take_snocM (by omega)).2 (Or.inr rfl))
    obtain ⟨i, hi, him, rfl⟩ := mem_take_at (h.sub e h1)
    refine ⟨D[i], h1, h2.trans he.symm, ?_⟩
    rcases hp i (m + 1) hi hm him with h3 | ⟨_, h3⟩
    · rw [h2, ← he, lt_irrefl] at h3; cases h3
    · exact h3
theorem srt_strictM {D : List Bm} (hs : srtM D) {i k : Nat} (hik : i ≤ k) (hk : k + 1 < D.length) (hne : D[k + 1].1 ≠ (D[k]'(by omega)).1) : lt (D[i]'(by omega)).1 D[k + 1].1 = true := by
  have hp := List.pairwise_iff_getElem.1 hs
  have h2 : lt (D[k]'(by omega)).1 D[k + 1].1 = true := by
    rcases hp k (k + 1) (by omega) hk (by omega) with h | ⟨e, _⟩
    · exact h
    · exact absurd e.symm hne
  rcases Nat.lt_or_ge i k with h | h
  · rcases hp i k (by omega) (by omega) h with h1 | ⟨e, _⟩
    · exact lt_trans h1 h2
    · rw [e]; exact h2
  · have : i = k := by omega
    subst this; exact h2
theorem CpM.more {D E : List Bm} {m : Nat} (h : CpM D (m + 1) E) (hs : srtM D) (hr : ∀ r, r ∈ D → Rt r) (hm : m + 1 < D.length) (he : D[m + 1].1 ≠ (D[m]'(by omega)).1) : CpM D (m + 1 + 1) (E ++ [D[m + 1]]) := by
  refine ⟨?_, fun e h1 => ?_, fun x hx => ?_, by have := h.len; simp; omega⟩
  · unfold rising
    rw [List.pairwise_append]
    refine ⟨h.ri, List.pairwise_singleton _ _, fun a ha b hb => ?_⟩
    rw [List.mem_singleton.1 hb]
    obtain ⟨i, hi, him, rfl⟩ := mem_take_at (h.sub a ha)
    exact srt_strictM hs (by omega) hm he
  · rcases List.mem_append.1 h1 with h1 | h1
    · exact (take_snocM hm).2 (Or.inl (h.sub e h1))
    · exact (take_snocM hm).2 (Or.inr (List.mem_singleton.1 h1))
  · rcases (take_snocM hm).1 hx with hx | rfl
    · obtain ⟨e, h1, h2⟩ := h.top x hx
      exact ⟨e, List.mem_append_left _ h1, h2⟩
    · have hv := (hr D[m + 1] (List.getElem_mem hm)).ver
      exact ⟨D[m + 1], by simp, rfl, by rw [(ordV_zero hv hv).2 rfl]; omega⟩
theorem CpM.plain {D : List Bm} {m : Nat} (h : CpM D (m + 1) (D.take (m + 1))) (hs : srtM D) (hr : ∀ r, r ∈ D → Rt r) (hm : m + 1 < D.length) (he : D[m + 1].1 ≠ (D[m]'(by omega)).1) : CpM D (m + 1 + 1) (D.take (m + 1 + 1)) := by
  have := h.more hs hr hm he
  rw [List.take_succ_eq_append_getElem hm]
  exact this
/-- All kept: joined. -/
theorem CpM.jn {D E : List Bm} (h : CpM D D.length E) (hr : ∀ r, r ∈ D → Rt r) : Jn D E := by
  have hs : ∀ e, e ∈ E → e ∈ D := fun e he => by have := h.sub e he; rw [List.take_length] at this; exact this
  exact ⟨h.ri, fun e he => ⟨hs e he, (hr e (hs e he)).ok⟩, fun x hx _ => h.top x (by rw [List.take_length]; exact hx)⟩
end Ve
end Go.Proofs.YtacggkigfjpfnaaGreatDoor

/-
  How often the tape was asked never grows less: no step of the machine takes a draw back.
-/
namespace Go.Proofs.YtacggkigfjpfnaaGreatDoor
namespace Mo

def Ge {α : Type} (d : Nat) : Result α → Prop
  | .ok _ w => d ≤ w.drawn
  | .halt _ w => d ≤ w.drawn
theorem Ge.le {α : Type} {d d' : Nat} {r : Result α} (h : Ge d r) (hd : d' ≤ d) : Ge d' r := by
  cases r <;> exact Nat.le_trans hd h
theorem ask_ge {α : Type} : ∀ (a : Ask α) (w : World), w.drawn ≤ (w.ask a).2.drawn := fun a => by
  induction a with
  | done a => intro w; exact Nat.le_refl _
  | ask what range k ih =>
    intro w
    unfold World.ask
    dsimp only
    split
    · exact ih 0 w
    · exact Nat.le_trans (Nat.le_succ _) (ih _ { w with drawn := w.drawn + 1 })
theorem sys_ge (w : World) (c : Sys) : w.drawn ≤ (w.sys c).2.drawn := by
  have h := ask_ge (Kernel.perform c w.os) w
  unfold World.sys
  split
  · exact Nat.le_refl _
  · rename_i h2
    rw [h2] at h
    exact h
theorem view_ge {P : Program} {w : World} {at_ : Addr} {u : TypeId} {k : Addr} {v : Value} {b : Bool} {r : World × List Addr} (h : w.viewStore P at_ u k v b = .ok r) : r.1.drawn = w.drawn := by
  unfold World.viewStore at h
  simp only [bind, Except.bind, pure, Except.pure] at h
  repeat' split at h
  all_goals first
    | (cases h; rfl)
    | cases h
theorem far_ge {P : Program} {w : World} {a : Addr} {v : Value} {b : Bool} {r : World × List Addr} (h : w.farStore P a v b = .ok r) : r.1.drawn = w.drawn := by
  unfold World.farStore at h
  split at h
  · split at h
    · rename_i h2
      cases h
      exact view_ge h2
    · cases h
  · cases h
theorem freeze_ge (w : World) (a : Addr) (n : Nat) : (w.freeze a n).drawn = w.drawn := by
  unfold World.freeze
  split <;> rfl
theorem run_ge {α : Type} (P : Program) (s : Sem α) : ∀ w : World, Ge w.drawn (s.run P w) := by
  induction s with
  | pure a => intro w; exact Nat.le_refl _
  | load m a k ih =>
    intro w
    unfold Sem.run
    split
    · exact ih _ w
    · split
      · exact ih _ w
      · exact Nat.le_refl _
  | store m a v k ih =>
    intro w
    cases v
    case agg => exact Nat.le_refl _
    case tuple => exact Nat.le_refl _
    all_goals
      simp only [Sem.run]
      split
      · split
        · exact Nat.le_refl _
        · exact ih _
      · split
        · rename_i h2
          have := far_ge h2
          rw [← this]
          exact ih _
        · exact Nat.le_refl _
  | new o k ih => intro w; exact ih _ { w with heap := w.heap.push o }
  | shape r k ih => intro w; exact ih _ w
  | freeze a n k ih => intro w; have := ih (w.freeze a n); rw [freeze_ge] at this; exact this
  | frozen a k ih => intro w; exact ih _ w
  | getObj r k ih =>
    intro w
    unfold Sem.run
    split
    · exact Nat.le_refl _
    · exact ih _ w
    · exact Nat.le_refl _
  | setObj r o k ih =>
    intro w
    unfold Sem.run
    split
    · exact Nat.le_refl _
    · exact ih { w with heap := w.heap.setIfInBounds r o }
    · exact Nat.le_refl _
  | choose q k ih =>
    intro w
    unfold Sem.run
    split
    · exact ih _ w
    · exact (ih _ { w with drawn := w.drawn + 1 }).le (Nat.le_succ _)
  | sys c k ih => intro w; exact (ih _ _).le (sys_ge w c)
  | program k ih => intro w; exact ih _ w
  | mark m k ih => intro w; exact ih w
  | halt h => intro w; exact Nat.le_refl _
theorem run_ok {α : Type} {P : Program} {s : Sem α} {w w' : World} {a : α} (h : s.run P w = .ok a w') : w.drawn ≤ w'.drawn := by
  have := run_ge P s w
  rw [h] at this
  exact this
theorem run_ha {α : Type} {P : Program} {s : Sem α} {w w' : World} {a : Halt} (h : s.run P w = .halt a w') : w.drawn ≤ w'.drawn := by
  have := run_ge P s w
  rw [h] at this
  exact this
/-- A goroutine's step. -/
def Gs (d : Nat) : GStep → Prop
  | .go _ w _ => d ≤ w.drawn
  | .comm _ _ _ _ w _ => d ≤ w.drawn
  | .spawn _ _ w _ => d ≤ w.drawn
  | .count _ w _ => d ≤ w.drawn
  | .timer _ _ w _ => d ≤ w.drawn
  | .alone _ _ w _ => d ≤ w.drawn
  | .newcoro _ _ _ w _ => d ≤ w.drawn
  | .coroswitch _ _ _ w _ => d ≤ w.drawn
  | .collect _ w _ => d ≤ w.drawn
  | .watch _ w _ => d ≤ w.drawn
  | .ended _ _ _ => True
theorem Gs.le {d d' : Nat} {s : GStep} (h : Gs d s) (hd : d' ≤ d) : Gs d' s := by
  cases s <;> first | trivial | exact Nat.le_trans hd h
theorem Gs.after {d : Nat} {es : Array Event} {s : GStep} (h : Gs d s) : Gs d (s.after es) := by
  cases s <;> exact h
def Ss (d : Nat) : Stepped → Prop
  | .next m => d ≤ m.world.drawn
  | .ended _ _ => True
theorem Ss.le {d d' : Nat} {s : Stepped} (h : Ss d s) (hd : d' ≤ d) : Ss d' s := by
  cases s <;> first | trivial | exact Nat.le_trans hd h
def Mv (d : Nat) : Move → Prop
  | .goroutine m _ => d ≤ m.world.drawn
  | .machine s _ => Ss d s
theorem Mv.le {d d' : Nat} {s : Move} (h : Mv d s) (hd : d' ≤ d) : Mv d' s := by
  cases s
  · exact Nat.le_trans hd h
  · exact Ss.le h hd
theorem dieOf_ge (fr : Frame) (l : List ByteArray) (m : String) (b : Bool) (w : World) : Gs w.drawn (dieOf fr l m b w) := Nat.le_refl _
theorem endThrow_ge (fr : Frame) (m : String) (w : World) : Gs w.drawn (endThrow fr m w) := Nat.le_refl _
theorem endWith_ge (w : World) (fd : Nat) (t : ByteArray) (o : Outcome) (d : Nat) : Gs d (endWith w fd t o) := by
  unfold endWith
  simp only []
  repeat' first
    | trivial
    | split
theorem endPrinting_ge (P : Program) (fr : Frame) (v : Value) (w : World) : Gs w.drawn (endPrinting P fr v w) := by
  unfold endPrinting
  simp only []
  repeat' first
    | trivial
    | exact Nat.le_refl _
    | split
theorem endFatal_ge (P : Program) (fr : Frame) (cs : List Frame) (dy : Option Dying) (m : String) (w : World) : Gs w.drawn (endFatal P fr cs dy m w) := by
  unfold endFatal
  extract_lets
  split
  · exact run_ok (by assumption)
  · trivial
  · trivial
theorem writeOn_ge (P : Program) (fr : Frame) (d : Dying) (f : Fatal) (w : World) : Gs w.drawn (writeOn P fr d f w) := by
  unfold writeOn
  extract_lets
  split
  · trivial
  · extract_lets
    rw [Sem.runT_eq]
    generalize hr : Sem.run P _ w = r
    cases r with
    | ok a w' => exact run_ok hr
    | halt a w' =>
      cases a <;> first | trivial | exact run_ha hr
theorem doReturn_ge (P : Program) (b : Bool) (fr : Frame) (cs : List Frame) (dy : Option Dying) (v : Value) (w : World) : Gs w.drawn (doReturn P b fr cs dy v w) := by
  unfold doReturn
  simp only []
  repeat' first
    | trivial
    | exact Nat.le_refl _
    | split
theorem die_ge (P : Program) (fr : Frame) (d : Dying) (w : World) : Gs w.drawn (die P fr d w) := by
  unfold die
  simp only [Sem.runT_eq]
  repeat' first
    | trivial
    | exact Nat.le_refl _
    | exact writeOn_ge _ _ _ _ _
    | exact endWith_ge _ _ _ _ _
    | exact run_ok (by assumption)
    | refine Gs.after ?_
    | exact (endPrinting_ge _ _ _ _).le (run_ha (by assumption))
    | split
theorem callDeferred_ge (P : Program) (fr : Frame) (cs : List Frame) (dy : Option Dying) (d : Deferred) (w : World) : Gs w.drawn (callDeferred P fr cs dy d w) := by
  unfold callDeferred
  simp only [Sem.runT_eq]
  generalize hr : Sem.run P (invoke d.target d.args) w = r
  cases r with
  | ok a w' =>
    have h2 := run_ok hr
    cases a
    all_goals try dsimp only
    all_goals repeat' first
      | trivial
      | exact h2
      | refine Gs.after ?_
      | (cases ‹Result.ok _ _ = Result.ok _ _› <;> first | exact h2 | trivial)
      | split
  | halt a w' =>
    have h2 := run_ha hr
    cases a
    all_goals try dsimp only
    all_goals repeat' first
      | trivial
      | exact h2
      | refine Gs.after ?_
      | exact (endFatal_ge _ _ _ _ _ _).le h2
      | exact (endThrow_ge _ _ _).le h2
      | split
theorem unwind_ge (P : Program) (b : Bool) (fr : Frame) (cs : List Frame) (dy : Option Dying) (w : World) : Gs w.drawn (unwind P b fr cs dy w) := by
  unfold unwind
  simp only [Sem.runT_eq]
  repeat' first
    | trivial
    | exact Nat.le_refl _
    | exact callDeferred_ge _ _ _ _ _ _
    | exact run_ok (by assumption)
    | refine Gs.after ?_
    | exact endPrinting_ge _ _ _ _
    | exact doReturn_ge _ _ _ _ _ _ _
    | exact (doReturn_ge _ _ _ _ _ _ _).le (run_ok (by assumption))
    | split
theorem early_ge (P : Program) (fr : Frame) (cs : List Frame) (dy : Option Dying) (g : Nat) (w : World) : Gs w.drawn (early P fr cs dy g w) := by
  unfold early
  simp only []
  repeat' first
    | trivial
    | exact Nat.le_refl _
    | (have h9 := run_ok ‹Sem.run P (choose (Question.early g)) w = Result.ok _ _›; exact h9)
    | split
theorem apply_ge (P : Program) (l : Bool) (fr : Frame) (cs : List Frame) (dy : Option Dying) (s : Sem Next) (w : World) : Gs w.drawn (stepG.apply P l fr cs dy s w) := by
  unfold stepG.apply
  have e : (if l = true then s.runT P w #[] else (s.run P w, #[])) = (s.run P w, (if l = true then s.runT P w #[] else (s.run P w, #[])).2) := by
    cases l
    · rfl
    · simp
  simp only []
  rw [e]
  generalize (if l = true then s.runT P w #[] else (s.run P w, #[])).2 = es
  generalize hr : Sem.run P s w = r
  refine Gs.after ?_
  cases r with
  | ok a w' =>
    have h2 := run_ok hr
    cases a
    all_goals try dsimp only
    all_goals repeat' first
      | trivial
      | exact h2
      | exact (endThrow_ge _ _ _).le h2
      | split
  | halt a w' =>
    have h2 := run_ha hr
    cases a
    all_goals try dsimp only
    all_goals repeat' first
      | trivial
      | exact h2
      | exact (endFatal_ge _ _ _ _ _ _).le h2
      | exact (endThrow_ge _ _ _).le h2
      | exact (early_ge _ _ _ _ _ _).le h2
      | (cases ‹Result.halt _ _ = Result.halt _ _› <;> first | exact h2 | exact (early_ge _ _ _ _ _ _).le h2 | trivial)
      | split
theorem oper_ge (P : Program) (l : Bool) (fr : Frame) (cs : List Frame) (dy : Option Dying) (w : World) : Gs w.drawn (stepG.oper P l fr cs dy w) := by
  unfold stepG.oper
  repeat' first
    | trivial
    | exact apply_ge _ _ _ _ _ _ _
    | split
theorem exec_ge (P : Program) (m l : Bool) (fr : Frame) (cs : List Frame) (dy : Option Dying) (w : World) : Gs w.drawn (stepG.exec P m l fr cs dy w) := by
  unfold stepG.exec
  simp only [Sem.runT_eq, Option.elim]
  split
  all_goals try exact Nat.le_refl _
  all_goals repeat' first
    | trivial
    | exact Nat.le_refl _
    | exact apply_ge _ _ _ _ _ _ _
    | exact oper_ge _ _ _ _ _ _
    | exact (doReturn_ge _ _ _ _ _ _ _).le (run_ok (by assumption))
    | exact (apply_ge _ _ _ _ _ _ _).le (run_ok (by assumption))
    | refine Gs.after ?_
    | (have h9 := run_ok (by assumption); exact h9)
    | (have h9 := run_ha (by assumption); exact h9)
    | exact run_ok (by assumption)
    | exact run_ha (by assumption)
    | split
theorem stepG_ge (P : Program) (m l : Bool) (g : Goroutine) (w : World) : Gs w.drawn (stepG P m g w l) := by
  unfold stepG
  repeat' first
    | exact die_ge _ _ _ _
    | exact exec_ge _ _ _ _ _ _ _
    | exact unwind_ge _ _ _ _ _ _
    | split
theorem waiting_ge {rest : Rest} {cases : Array CommCase} {w w' : World} (h : waitingAt rest cases w = some w') : w.drawn ≤ w'.drawn := by
  unfold waitingAt at h
  split at h
  · split at h
    · cases h; exact Nat.le_refl _
    · cases h
  · cases h; exact Nat.le_refl _
theorem comm_ge (P : Program) (rest : Rest) (gs : Array Goroutine) (i : Nat) (g : Goroutine) (cases : Array CommCase) (blocking : Bool) (shape : CommShape) (w : World) : Ss w.drawn (communicate P rest gs i g cases blocking shape w).1 := by
  unfold communicate
  extract_lets
  split
  · trivial
  split
  · split
    · split
      · exact waiting_ge (by assumption)
      · trivial
    · exact Nat.le_refl _
  · split
    · trivial
    · have h9 := run_ok (by assumption)
      try extract_lets
      repeat' first
        | trivial
        | exact h9
        | exact Nat.le_trans h9 (run_ok (by assumption))
        | exact Nat.le_trans h9 (run_ha (by assumption))
        | (have h8 := Nat.le_trans h9 (run_ok (by assumption)); exact h8)
        | split
theorem look_ge (P : Program) (gs : Array Goroutine) (rest : Rest) (w : World) : Ss w.drawn (look P gs rest w) := by
  unfold look
  simp only []
  repeat' first
    | trivial
    | exact run_ok (by assumption)
    | (have h9 := run_ok (by assumption); exact h9)
    | split
theorem serve_ge (P : Program) (m : Machine) (k : Nat) : Ss m.world.drawn (serve P m k) := by
  unfold serve
  simp only []
  repeat' first
    | trivial
    | exact Nat.le_refl _
    | split
theorem drain_ge (w : World) (c : Nat) : w.drawn ≤ (drain w c).2.drawn := by
  unfold drain
  split <;> exact Nat.le_refl _
theorem retime_ge (m : Machine) (k : Nat) (t : Timer) (a b : Nat) : m.world.drawn ≤ (retime m k t a b).2.world.drawn := by
  unfold retime
  cases t.chan with
  | none => exact Nat.le_refl _
  | some c => exact drain_ge m.world c
theorem named_ge {m m0 : Machine} {var : Addr} {f : Nat → Timer → Value × Machine} {r : Value × Machine} (hf : ∀ k t, m0.world.drawn ≤ (f k t).2.world.drawn) (h : timerOp.named m var f = .ok r) : m0.world.drawn ≤ r.2.world.drawn := by
  unfold timerOp.named at h
  split at h
  · cases h; exact hf _ _
  · cases h
theorem timer_ge {m : Machine} {op : TimerOp} {r : Value × Machine} (h : timerOp m op = .ok r) : m.world.drawn ≤ r.2.world.drawn := by
  cases op with
  | new t =>
    unfold timerOp at h
    simp only [] at h
    split at h
    · cases h; exact Nat.le_refl _
    · split at h
      · split at h
        · cases h
        · cases h; exact Nat.le_refl _
      · cases h
  | stop var => exact named_ge (fun k t => retime_ge m k t _ _) h
  | reset var a b =>
    unfold timerOp at h
    simp only [] at h
    split at h
    · rename_i m2 h2
      have e : m.world.drawn ≤ m2.world.drawn := by
        unfold timerOp.opened at h2
        split at h2
        · split at h2
          · cases h2; exact Nat.le_refl _
          · cases h2
        · cases h2; exact Nat.le_refl _
      exact named_ge (fun k t => Nat.le_trans e (retime_ge m2 k t _ _)) h
    · cases h
  | deadline ctx a b c =>
    unfold timerOp at h
    simp only [] at h
    cases h
    exact Nat.le_refl _
theorem runT_ge (P : Program) (m : Machine) (i : Nat) (b : Bool) : Ss m.world.drawn (runT P m i b).1 := by
  simp only [runT]
  generalize m.gs.swapAt! _ _ = gg
  have h := stepG_ge P (i == 0) b gg.1 m.world
  generalize stepG P _ gg.1 m.world b = s at h ⊢
  cases s with
  | go g w es => exact h
  | comm g cs bl sh w es => exact (comm_ge _ _ _ _ _ _ _ _ _).le h
  | spawn g c w es => exact h
  | count g w es =>
    simp only []
    split
    · trivial
    · exact h
  | timer g op w es =>
    simp only []
    split
    · have h2 := timer_ge (by assumption)
      exact Nat.le_trans h h2
    · exact h
    · trivial
    · trivial
  | alone g on w es => exact h
  | newcoro g c d w es => exact h
  | coroswitch g c ex w es =>
    simp only []
    split
    · exact h
    · exact h
    · trivial
  | collect g w es => exact (look_ge _ _ _ _).le h
  | watch g w es => exact h
  | ended o w es => trivial
theorem askOn_ge (P : Program) (m : Machine) : Mv m.world.drawn (askOn P m) := by
  unfold askOn
  simp only []
  split
  · trivial
  have h0 := run_ok (by assumption)
  split
  · exact (serve_ge _ _ _).le h0
  split
  · split
    · exact h0
    · split
      · exact h0
      · split
        · trivial
        · trivial
  · split
    · split
      · trivial
      · have h1 := Nat.le_trans h0 (run_ok (by assumption))
        split
        · exact h1
        · split
          · trivial
          · exact Nat.le_trans h1 (run_ok (by assumption))
    · split
      · trivial
      · have h1 := Nat.le_trans h0 (run_ok (by assumption))
        split
        · trivial
        · have h2 := Nat.le_trans h1 (run_ok (by assumption))
          split
          · exact h2
          · split
            · trivial
            · exact Nat.le_trans h2 (run_ok (by assumption))
      · have h1 := Nat.le_trans h0 (run_ok (by assumption))
        exact h1
      · have h1 := Nat.le_trans h0 (run_ok (by assumption))
        split
        · trivial
        · rename_i h5
          have h6 := run_ok h5
          have h2 := Nat.le_trans h1 h6
          split
          · exact h2
          · split
            · trivial
            · exact Nat.le_trans h2 (run_ok (by assumption))
theorem ask_ge' (P : Program) (m : Machine) : Mv m.world.drawn (ask P m) := by
  unfold ask
  split
  · split
    · trivial
    · have h9 := run_ok (by assumption)
      have h8 := (look_ge P m.gs m.rest _).le h9
      split
      · rename_i h7
        rw [h7] at h8
        exact (askOn_ge _ _).le h8
      · exact h8
    · have h9 := run_ok (by assumption)
      exact (askOn_ge _ _).le h9
  · exact askOn_ge _ _
theorem move_ge (P : Program) (m : Machine) : Mv m.world.drawn (move P m) := by
  unfold move
  repeat' first
    | trivial
    | exact Nat.le_refl _
    | exact ask_ge' P m
    | exact ask_ge' P { m with rest := { m.rest with slice := none } }
    | split
theorem step_ge (P : Program) (m : Machine) : Ss m.world.drawn (step P m) := by
  unfold step stepT
  have h := move_ge P m
  generalize move P m = v at h ⊢
  cases v with
  | goroutine m2 i => exact (runT_ge P m2 i true).le h
  | machine s ops => exact h
theorem runN_ge (P : Program) : ∀ (n : Nat) (m m' : Machine), runN P n m = .next m' → m.world.drawn ≤ m'.world.drawn
  | 0, m, m', h => by
    cases h; exact Nat.le_refl _
  | n + 1, m, m', h => by
    unfold runN at h
    have h2 := step_ge P m
    split at h
    · rename_i m2 h3
      rw [h3] at h2
      exact Nat.le_trans h2 (runN_ge P n _ m' h)
    · rename_i h3
      rw [h] at h2
      exact h2
/-- Of what a call returns with: it has drawn no less. -/
theorem calls_ge {P : Program} {f : FuncId} {args : Array Value} {w : World} {R : Ending → World → Prop} (h : Calls P f args w R) (hr : ∀ e w', R e w' → ∃ v, e = .returned v) : Calls P f args w fun e w' => R e w' ∧ w.drawn ≤ w'.drawn := by
  intro cs
  obtain ⟨e, w', fr, h1, h2, h3, h4⟩ := h cs
  refine ⟨e, w', fr, ⟨h1, ?_⟩, h2, h3, h4⟩
  obtain ⟨v, rfl⟩ := hr e w' h1
  obtain ⟨n, hn⟩ := h2
  exact runN_ge P n _ _ hn
end Mo
end Go.Proofs.YtacggkigfjpfnaaGreatDoor

/-
  slices.SortFunc at this program: the contract of the compiled library laid here, by one application.
-/
namespace Go.Proofs
open Go.Shelf
def Tryz.sortMods_ren : Go.Shelf.Ren := ⟨fun | 6 => 50 | 15 => 83 | 14 => 82 | 28 => 119 | 29 => 120 | 20 => 111 | 21 => 112 | 22 => 113 | 23 => 114 | 24 => 115 | 25 => 116 | 26 => 117 | 27 => 118 | 46 => 147 | 47 => 148 | 48 => 149 | 49 => 150 | 50 => 151 | 57 => 178 | n => n, fun | 22 => 23 | 24 => 45 | 25 => 85 | 3 => 3 | 39 => 125 | 0 => 0 | 53 => 171 | 55 => 173 | 4 => 4 | 46 => 164 | 45 => 163 | 50 => 168 | 5 => 5 | 9 => 9 | 66 => 189 | 70 => 193 | 76 => 210 | 77 => 58 | n => n, fun | n => n⟩
theorem Tryz.sortMods : Go.Proofs.SlLaysF0.n6 Tryz.prog Tryz.sortMods_ren := {
  mixed := by kernel_rfl
  f6 := ⟨Tryz.f50.name, by decide, Tryz.func50.trans (congrArg some (by kernel_rfl))⟩
  f14 := ⟨Tryz.f82.name, by decide, Tryz.func82.trans (congrArg some (by kernel_rfl))⟩
  f15 := Tryz.func83.trans (congrArg some (by kernel_rfl))
  f20 := ⟨Tryz.f111.name, by decide, Tryz.func111.trans (congrArg some (by kernel_rfl))⟩
  f21 := ⟨Tryz.f112.name, by decide, Tryz.func112.trans (congrArg some (by kernel_rfl))⟩
  f22 := ⟨Tryz.f113.name, by decide, Tryz.func113.trans (congrArg some (by kernel_rfl))⟩
  f23 := ⟨Tryz.f114.name, by decide, Tryz.func114.trans (congrArg some (by kernel_rfl))⟩
  f24 := ⟨Tryz.f115.name, by decide, Tryz.func115.trans (congrArg some (by kernel_rfl))⟩
  f25 := ⟨Tryz.f116.name, by decide, Tryz.func116.trans (congrArg some (by kernel_rfl))⟩
  f26 := ⟨Tryz.f117.name, by decide, Tryz.func117.trans (congrArg some (by kernel_rfl))⟩
  f27 := ⟨Tryz.f118.name, by decide, Tryz.func118.trans (congrArg some (by kernel_rfl))⟩
  f28 := Tryz.func119.trans (congrArg some (by kernel_rfl))
  f29 := Tryz.func120.trans (congrArg some (by kernel_rfl))
  f46 := ⟨Tryz.f147.name, by decide, Tryz.func147.trans (congrArg some (by kernel_rfl))⟩
  f47 := Tryz.func148.trans (congrArg some (by kernel_rfl))
  f48 := Tryz.func149.trans (congrArg some (by kernel_rfl))
  f49 := ⟨Tryz.f150.name, by decide, Tryz.func150.trans (congrArg some (by kernel_rfl))⟩
  f50 := ⟨Tryz.f151.name, by decide, Tryz.func151.trans (congrArg some (by kernel_rfl))⟩
  f57 := ⟨Tryz.f178.name, by decide, Tryz.func178.trans (congrArg some (by kernel_rfl))⟩
  t0 := Tryz.underlying0
  a0 := Tryz.isAgg0
  z0 := Tryz.sizeOf0
  v0 := Tryz.zeroValue0
  t3 := Tryz.underlying3
  a3 := Tryz.isAgg3
  z3 := Tryz.sizeOf3
  v3 := Tryz.zeroValue3
  t4 := Tryz.underlying4
  a4 := Tryz.isAgg4
  z4 := Tryz.sizeOf4
  v4 := Tryz.zeroValue4
  t5 := Tryz.underlying5
  a5 := Tryz.isAgg5
  z5 := Tryz.sizeOf5
  v5 := Tryz.zeroValue5
  t9 := Tryz.underlying9
  a9 := Tryz.isAgg9
  z9 := Tryz.sizeOf9
  v9 := Tryz.zeroValue9
  t22 := Tryz.underlying23
  a22 := Tryz.isAgg23
  z22 := Tryz.sizeOf23
  v22 := Tryz.zeroValue23
  t25 := Tryz.underlying85
  a25 := Tryz.isAgg85
  z25 := Tryz.sizeOf85
  v25 := Tryz.zeroValue85
  t39 := Tryz.underlying125
  a39 := Tryz.isAgg125
  z39 := Tryz.sizeOf125
  v39 := Tryz.zeroValue125
  t45 := Tryz.underlying163
  a45 := Tryz.isAgg163
  z45 := Tryz.sizeOf163
  v45 := Tryz.zeroValue163
  t46 := Tryz.underlying164
  a46 := Tryz.isAgg164
  z46 := Tryz.sizeOf164
  v46 := Tryz.zeroValue164
  t50 := Tryz.underlying168
  a50 := Tryz.isAgg168
  z50 := Tryz.sizeOf168
  v50 := Tryz.zeroValue168
  t53 := Tryz.underlying171
  a53 := Tryz.isAgg171
  z53 := Tryz.sizeOf171
  v53 := Tryz.zeroValue171
  t55 := Tryz.underlying173
  a55 := Tryz.isAgg173
  z55 := Tryz.sizeOf173
  v55 := Tryz.zeroValue173
  t66 := Tryz.underlying189
  a66 := Tryz.isAgg189
  z66 := Tryz.sizeOf189
  v66 := Tryz.zeroValue189
  t70 := Tryz.underlying193
  a70 := Tryz.isAgg193
  z70 := Tryz.sizeOf193
  v70 := Tryz.zeroValue193
  t76 := Tryz.underlying210
  a76 := Tryz.isAgg210
  z76 := Tryz.sizeOf210
  v76 := Tryz.zeroValue210
  t77 := Tryz.underlying58
  a77 := Tryz.isAgg58
  z77 := Tryz.sizeOf58
  v77 := Tryz.zeroValue58 }
end Go.Proofs
