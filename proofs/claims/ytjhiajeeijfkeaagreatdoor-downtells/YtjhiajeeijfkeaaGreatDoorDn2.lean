/-
  What Bare of package place answers: an error without its place; nothing old in memory turns.
-/
import Derived.Test.YtjhiajeeijfkeaaGreatDoorFileA
import Derived.Test.YtjhiajeeijfkeaaGreatDoorCode
import Derived.Test.YtjhiajeeijfkeaaGreatDoorDn1
import Derived.Test.YtjhiajeeijfkeaaGreatDoorFileP
import Derived.Test.YtjhiajeeijfkeaaGreatDoorVerR
import Derived.Test.YtjhiajeeijfkeaaGreatDoorVerQ
import Derived.Test.YtjhiajeeijfkeaaGreatDoorAhead
import Derived.Test.YtjhiajeeijfkeaaGreatDoorRefF
namespace Go.Proofs.YtjhiajeeijfkeaaGreatDoor
open Go.RowKit
namespace Ve

set_option maxHeartbeats 1000000 in
theorem bare_sen (a : Addr) (A : Nat → Addr) (m : Int) (w : World) (S : Te w A m) :
    Calls Tryz.prog 69 #[.iface 266 (.pointer (some a))] w fun e w' => e = .returned (.iface 266 (.pointer (some a))) ∧ Below w.heap.size w w' := by
  have HB0 := hid ((Below.refl w.heap.size w).alloc (Nat.le_refl _) (.cells #[.pointer none] 94))
  have HA := hid (Er.as_miss_b a ⟨w.heap.size, 0, none⟩ _ (S.below HB0.out).sen.et)
  clear S
  go_enter Tryz.func69, Tryz.ntmps69
  go_wp2_with fail
  refine HA.out.mono ?_
  rintro e w1 ⟨rfl, hb⟩
  have HB := hid (HB0.out.trans (hb.mono HB0.out.size))
  clear hb
  go_wp2_with fail
  go_ret
  exact ⟨rfl, HB.out⟩
set_option maxHeartbeats 1000000 in
theorem bare_fault (b : Nat) (x : Addr) (A : Nat → Addr) (m : Int) (w : World) (S : Te w A m) (h1 : w.cell? ⟨b, 1, none⟩ = some (.iface 266 (.pointer (some x)))) :
    Calls Tryz.prog 69 #[.iface 94 (.pointer (some ⟨b, 0, none⟩))] w fun e w' => e = .returned (.iface 266 (.pointer (some x))) ∧ Below w.heap.size w w' := by
  have HB0 := hid ((Below.refl w.heap.size w).alloc (Nat.le_refl _) (.cells #[.pointer none] 94))
  have HA := hid (Er.as_hit_b ⟨b, 0, none⟩ ⟨w.heap.size, 0, none⟩ (.pointer none) _ w.heap.size (Nat.le_refl _) (S.below HB0.out).sen.et (by simp) (by simp) (by simp))
  have H1 := hid h1
  clear S h1
  go_enter Tryz.func69, Tryz.ntmps69
  go_wp2_with fail
  refine HA.out.mono ?_
  rintro e w1 ⟨rfl, hb, ht⟩
  have HB := hid (HB0.out.trans hb)
  have c1 := cell_below HB.out H1.out
  clear hb
  go_wp2_with fail
  go_ret
  exact ⟨rfl, HB.out⟩
/-- place.Bare. -/
theorem bare_any (x : Value) (c : Nat) (o : Option Nat) (A : Nat → Addr) (m : Int) (w : World) (S : Te w A m) (h : ErrAt w A x c o) (hc : c ≠ 0) :
    Calls Tryz.prog 69 #[x] w fun e w' => e = .returned (errA A c) ∧ Below w.heap.size w w' := by
  cases o with
  | none =>
    have h : x = errA A c := h
    rw [h, errA_if A hc]
    exact bare_sen _ A m w S
  | some i =>
    obtain ⟨_, b, rfl, _, h3⟩ := h
    rw [errA_if A hc] at h3 ⊢
    exact bare_fault b _ A m w S h3
theorem as_nil (p : Addr) (w : World) : Calls Tryz.prog 58 #[.nilIface, .iface 96 (.pointer (some p))] w fun e w' => e = .returned (.bool false) ∧ Below w.heap.size w w' := by
  go_enter Tryz.func58, Tryz.ntmps58
  go_wp2_with fail
  go_ret
  exact ⟨rfl, Below.refl _ _⟩
set_option maxHeartbeats 1000000 in
theorem bare_nil (w : World) : Calls Tryz.prog 69 #[.nilIface] w fun e w' => e = .returned .nilIface ∧ Below w.heap.size w w' := by
  have HA := hid (as_nil ⟨w.heap.size, 0, none⟩ (w.alloc (.cells #[.pointer none] 94)))
  have HB0 := hid ((Below.refl w.heap.size w).alloc (Nat.le_refl _) (.cells #[.pointer none] 94))
  go_enter Tryz.func69, Tryz.ntmps69
  go_wp2_with fail
  refine HA.out.mono ?_
  rintro e w1 ⟨rfl, hb⟩
  have HB := hid (HB0.out.trans (hb.mono HB0.out.size))
  clear hb
  go_wp2_with fail
  go_ret
  exact ⟨rfl, HB.out⟩
/-- place.Bare of any error, or of none. -/
theorem bare_all (x : Value) (c : Nat) (o : Option Nat) (A : Nat → Addr) (m : Int) (w : World) (S : Te w A m) (h : ErrAt w A x c o) :
    Calls Tryz.prog 69 #[x] w fun e w' => e = .returned (errA A c) ∧ Below w.heap.size w w' := by
  by_cases hc : c = 0
  · subst hc
    cases o with
    | none =>
      have h : x = errA A 0 := h
      rw [h]
      exact bare_nil w
    | some i => exact absurd rfl h.1
  · exact bare_any x c o A m w S h hc
end Ve
end Go.Proofs.YtjhiajeeijfkeaaGreatDoor

/-
  What index.CheckMods answers: the first module that is no entry; the same of an entry's requirements, without its place.
-/
namespace Go.Proofs.YtjhiajeeijfkeaaGreatDoor
open Go.RowKit
namespace Ve

/-- Is a module no entry? -/
def nonW (L : List Raw) (m : Bm) : Nat := if idxOf (isM m) L < 0 then 5 else 0
def nonE (L : List Raw) (R : List Bm) (i : Nat) : Nat := match R[i]? with
  | none => 0
  | some m => nonW L m
theorem nonE_at {L : List Raw} {R : List Bm} {i : Nat} (h : i < R.length) : nonE L R i = nonW L R[i] := by unfold nonE; rw [List.getElem?_eq_getElem h]
set_option maxHeartbeats 2000000 in
theorem modsK_any (L : List Raw) (p q : ByteArray) (i : Int) (b : Nat) (v : Value) (A : Nat → Addr) (m : Int) (W : World) (hL : L.length ≤ 1000000) (S : Te W A m) (h1 : W.cell? ⟨b, 0, none⟩ = some v) (hv : EsAt W v L) :
    Calls Tryz.prog 48 (#[.int .i64 i, .agg #[.string p, .string q]] ++ #[.pointer (some ⟨b, 0, none⟩)]) W fun e w' => e = .returned (errA A (nonW L (p, q))) ∧ Below W.heap.size W w' := by
  have HB0 := hid ((Below.refl W.heap.size W).alloc (Nat.le_refl _) (.cells #[.string p, .string q] 36))
  have HF := hid (find_any L (p, q) v _ hL (hv.below HB0.out))
  obtain ⟨a, c, rfl, _⟩ := hv
  have h1' := cell_below HB0.out h1
  have HG := hid (fun X (h : Below W.heap.size W X) => (S.below h).sen.g4)
  clear S
  unfold nonW
  generalize hx : idxOf (isM (p, q)) L = x at HF ⊢
  clear hx
  by_cases h : x < 0
  · rw [if_pos h]
    go_enter Tryz.func48, Tryz.ntmps48
    go_wp2_with fail
    refine HF.out.mono ?_
    rintro e w1 ⟨rfl, hb⟩
    have HB := hid (HB0.out.trans (hb.mono HB0.out.size))
    have g4 := HG.out _ HB.out
    clear hb
    go_wp2_with fail
    go_ret
    exact ⟨rfl, HB.out⟩
  · rw [if_neg h]
    go_enter Tryz.func48, Tryz.ntmps48
    go_wp2_with fail
    refine HF.out.mono ?_
    rintro e w1 ⟨rfl, hb⟩
    have HB := hid (HB0.out.trans (hb.mono HB0.out.size))
    clear hb
    go_wp2_with fail
    go_ret
    exact ⟨rfl, HB.out⟩
set_option maxHeartbeats 2000000 in
/-- index.CheckMods. -/
theorem cmods_any (L : List Raw) (R : List Bm) (v u : Value) (A : Nat → Addr) (m : Int) (w : World) (hL : L.length ≤ 1000000) (hR : R.length ≤ 1000000) (S : Te w A m) (hv : EsAt w v L) (hu : MsAt w u R) :
    Calls Tryz.prog 25 #[v, u] w fun e w' => ∃ x, e = .returned x ∧ ErrAt w' A x (codeE (nonE L R) R.length) (fstE (nonE L R) R.length) ∧ Below w.heap.size w w' := by
  obtain ⟨a, c, hv1, _⟩ := id hv
  obtain ⟨ua, un, uc, hu1⟩ := hu.slice
  subst hv1
  subst hu1
  have HB0 := hid ((Below.refl w.heap.size w).alloc (Nat.le_refl _) (.cells #[.slice a L.length c] 22))
  have eg : ∀ args w, (callFunc 48 args).run Tryz.prog w = .ok (.enter 48 args) w := enters_of Tryz.func48 (by kernel_rfl) rfl
  have HF := hid (first_any 48 #[.pointer (some ⟨w.heap.size, 0, none⟩)] (nonE L R) R _ A (w.alloc (.cells #[.slice a L.length c] 22)) eg hR (hu.below HB0.out) (fun i hi W hW => by
    rw [nonE_at hi]
    exact modsK_any L R[i].1 R[i].2 i w.heap.size _ A m W hL ((S.below HB0.out).below hW) (cell_below hW (by simp)) ((hv.below HB0.out).below hW)))
  clear S hv hu eg
  go_enter Tryz.func25, Tryz.ntmps25
  go_wp2_with fail
  refine HF.out.mono ?_
  rintro e w1 ⟨u, rfl, he, hb⟩
  have HB := hid (HB0.out.trans (hb.mono HB0.out.size))
  have HE := hid he
  clear hb he
  go_wp2_with fail
  go_ret
  exact ⟨_, rfl, HE.out, HB.out⟩
set_option maxHeartbeats 4000000 in
theorem checkK_any (L : List Raw) (r : Raw) (R : List Bm) (i : Int) (b : Nat) (v : Value) (A : Nat → Addr) (m : Int) (W : World) (hL : L.length ≤ 1000000) (hR : R.length ≤ 1000000) (S : Te W A m) (h1 : W.cell? ⟨b, 0, none⟩ = some v) (hv : EsAt W v L) (hs : slR r) (hr : MsAt W r.2.1 R) :
    Calls Tryz.prog 68 (#[.int .i64 i, rawV r] ++ #[.pointer (some ⟨b, 0, none⟩)]) W fun e w' => e = .returned (errA A (codeE (nonE L R) R.length)) ∧ Below W.heap.size W w' := by
  obtain ⟨a, c, hv1, _⟩ := id hv
  obtain ⟨⟨p, q⟩, rv, pv, bk⟩ := r
  obtain ⟨⟨ra, rn, rc, hrv⟩, pa, pn, pc, hpv⟩ := hs
  simp only at hrv hpv hr
  subst hrv
  subst hpv
  subst hv1
  have HB0 := hid ((Below.refl W.heap.size W).alloc (Nat.le_refl _) (.cells #[.string p, .string q, .slice ra rn rc, .slice pa pn pc, .bool bk] 55))
  have HC := hid (cmods_any L R _ _ A m _ hL hR (S.below HB0.out) (hv.below HB0.out) (hr.below HB0.out))
  have HS := hid S
  have h1' := cell_below HB0.out h1
  unfold rawV
  clear S hv hr
  go_enter Tryz.func68, Tryz.ntmps68
  go_wp2_with fail
  refine HC.out.mono ?_
  rintro e w1 ⟨x, rfl, he, hb⟩
  have HB := hid (HB0.out.trans (hb.mono HB0.out.size))
  have HE := hid (bare_all x _ _ A m w1 (HS.out.below HB.out) he)
  clear hb he
  go_wp2_with fail
  refine HE.out.mono ?_
  rintro e w2 ⟨rfl, hb⟩
  have HB2 := hid (HB.out.trans (hb.mono HB.out.size))
  clear hb
  go_wp2_with fail
  go_ret
  exact ⟨rfl, HB2.out⟩
end Ve
end Go.Proofs.YtjhiajeeijfkeaaGreatDoor

/-
  What index.Check answers.
-/
namespace Go.Proofs.YtjhiajeeijfkeaaGreatDoor
open Go.RowKit
namespace Ve

/-- What is wrong with an entry by itself, its place in the order passed by. -/
def entR (e : Ent) : Nat := if 20 < e.2.1.length then 7 else if codeE (reqE e.1.1 e.2.1) e.2.1.length ≠ 0 then codeE (reqE e.1.1 e.2.1) e.2.1.length else packErr (bl e.2.2.1)
/-- What is wrong with an entry, behind another one or first. -/
def entW (prev : Option Bm) (e : Ent) : Nat := if mErr e.1 ≠ 0 then mErr e.1 else match prev with
  | none => entR e
  | some p => if mAhead p e.1 then entR e else 8
theorem entW_bad {o : Option Bm} {e : Ent} (h : mErr e.1 ≠ 0) : entW o e = mErr e.1 := by unfold entW; rw [if_pos h]
theorem entW_none {e : Ent} (h : mErr e.1 = 0) : entW none e = entR e := by unfold entW; rw [if_neg (by simp [h])]
theorem entW_some {p : Bm} {e : Ent} (h : mErr e.1 = 0) (ha : mAhead p e.1 = true) : entW (some p) e = entR e := by unfold entW; rw [if_neg (by simp [h])]; simp only [ha, if_true]
theorem entW_order {p : Bm} {e : Ent} (h : mErr e.1 = 0) (ha : mAhead p e.1 = false) : entW (some p) e = 8 := by unfold entW; rw [if_neg (by simp [h])]; simp [ha]
theorem entR_full {e : Ent} (h : 20 < e.2.1.length) : entR e = 7 := by unfold entR; rw [if_pos h]
theorem entR_req {e : Ent} (h : ¬ 20 < e.2.1.length) (hc : codeE (reqE e.1.1 e.2.1) e.2.1.length ≠ 0) : entR e = codeE (reqE e.1.1 e.2.1) e.2.1.length := by unfold entR; rw [if_neg h, if_pos hc]
theorem entR_pack {e : Ent} (h : ¬ 20 < e.2.1.length) (hc : codeE (reqE e.1.1 e.2.1) e.2.1.length = 0) : entR e = packErr (bl e.2.2.1) := by unfold entR; rw [if_neg h, if_neg (by simp [hc])]
/-- An entry whose texts are short. -/
structure ShE (e : Ent) : Prop where
  p : e.1.1.size < 999999
  v : e.1.2.size < 999999
  rn : e.2.1.length ≤ 1000000
  rs : shortL e.2.1
  pn : e.2.2.1.length ≤ 1000
  ps : ∀ x, x ∈ e.2.2.1 → x.size < 999999
set_option maxHeartbeats 4000000 in
theorem eachK_bad (p q : ByteArray) (rv pv : Value) (bk : Bool) (i b : Nat) (A : Nat → Addr) (m : Int) (W : World) (hs : slR ((p, q), rv, pv, bk)) (hp : p.size < 999999) (hq : q.size < 999999) (S : Te W A m) (h : mErr (p, q) ≠ 0) :
    Calls Tryz.prog 104 #[.int .i64 (i : Int), .agg #[.string p, .string q, rv, pv, .bool bk], .pointer (some ⟨b, 0, none⟩)] W fun e w' => e = .returned (errA A (mErr (p, q))) ∧ Below W.heap.size W w' := by
  obtain ⟨⟨ra, rn, rc, hrv⟩, pa, pn, pc, hpv⟩ := hs
  simp only at hrv hpv
  subst hrv
  subst hpv
  have HB0 := hid ((Below.refl W.heap.size W).alloc (Nat.le_refl _) (.cells #[.string p, .string q, .slice ra rn rc, .slice pa pn pc, .bool bk] 55))
  have HM := hid (mcheck_any p q A m _ (by omega) (by omega) (S.below HB0.out))
  have hme : mErr (p, q) = modErr p.data.toList q.data.toList := rfl
  rw [← hme, errA_if A h] at HM
  rw [errA_if A h]
  clear S h hme
  go_enter Tryz.func104, Tryz.ntmps104
  go_wp2_with fail
  refine HM.out.mono ?_
  rintro e w1 ⟨rfl, hb⟩
  have HB := hid (HB0.out.trans (hb.mono HB0.out.size))
  clear hb
  go_wp2_with fail
  go_ret
  exact ⟨rfl, HB.out⟩
set_option maxHeartbeats 8000000 in
set_option maxRecDepth 100000 in
theorem eachK_0 (pr : Option Bm) (hpr : pr = none) (p q : ByteArray) (rv pv : Value) (eR : List Bm) (eP : List ByteArray) (bk : Bool) (b : Nat) (A : Nat → Addr) (m : Int) (W : World) (hs : slR ((p, q), rv, pv, bk)) (sh : ShE ((p, q), eR, eP, bk)) (S : Te W A m) (h : mErr (p, q) = 0) (hr : MsAt W rv eR) (hpk : TxAt W pv eP) :
    Calls Tryz.prog 104 #[.int .i64 0, .agg #[.string p, .string q, rv, pv, .bool bk], .pointer (some ⟨b, 0, none⟩)] W fun e w' => e = .returned (errA A (entW pr ((p, q), eR, eP, bk))) ∧ Below W.heap.size W w' := by
  obtain ⟨⟨ra, rn, rc, hrv⟩, pa, pn, pc, hpv⟩ := hs
  simp only at hrv hpv
  subst hrv
  subst hpv
  have hrl : rn = eR.length := by obtain ⟨_, _, h, _⟩ := hr; injection h
  subst hrl
  have HB0 := hid ((Below.refl W.heap.size W).alloc (Nat.le_refl _) (.cells #[.string p, .string q, .slice ra eR.length rc, .slice pa pn pc, .bool bk] 55))
  have HM := hid (mcheck_any p q A m _ (by have := sh.p; simp only at this; omega) (by have := sh.v; simp only at this; omega) (S.below HB0.out))
  have hme : mErr (p, q) = modErr p.data.toList q.data.toList := rfl
  rw [← hme, h, errA0] at HM
  have HS := hid S
  have HSH := hid sh
  have HR := hid hr
  have HPK := hid hpk
  have H := hid h
  have HGX := hid (fun w1 (hb : Below (W.alloc (.cells #[.string p, .string q, .slice ra eR.length rc, .slice pa pn pc, .bool bk] 55)).heap.size (W.alloc (.cells #[.string p, .string q, .slice ra eR.length rc, .slice pa pn pc, .bool bk] 55)) w1) => show w1.heap[W.heap.size]? = some (.cells #[.string p, .string q, .slice ra eR.length rc, .slice pa pn pc, .bool bk] 55 (0, 0)) by rw [hb.block _ (by simp)]; exact heap_alloc_new W _)
  clear S sh hr hpk h hme
  go_enter Tryz.func104, Tryz.ntmps104
  go_wp2_with fail
  refine HM.out.mono ?_
  rintro e wz ⟨rfl, hb⟩
  have HBz := hid (HB0.out.trans (hb.mono HB0.out.size))
  have HEz := hid (HGX.out wz hb)
  clear hb HM HGX
  go_wp2_with fail
  go_quiet (fail)
  have HB1 := hid (below_drawn_of HBz.out nq)
  have HE1 := hid (show (wz.drewN nq).heap[W.heap.size]? = some (.cells #[.string p, .string q, .slice ra eR.length rc, .slice pa pn pc, .bool bk] 55 (0, 0)) from HEz.out)
  obtain ⟨wa, hwa⟩ : ∃ wa, wz.drewN nq = wa := ⟨_, rfl⟩
  rw [hwa] at HB1 HE1 ⊢
  clear hwa
  have y0 : wa.cell? ⟨W.heap.size, 0, none⟩ = some (.string p) := by rw [Lib.cell_of_heap HE1.out]; rfl
  have y1 : wa.cell? ⟨W.heap.size, 1, none⟩ = some (.string q) := by rw [Lib.cell_of_heap HE1.out]; rfl
  have y2 : wa.cell? ⟨W.heap.size, 2, none⟩ = some (.slice ra eR.length rc) := by rw [Lib.cell_of_heap HE1.out]; rfl
  have y3 : wa.cell? ⟨W.heap.size, 3, none⟩ = some (.slice pa pn pc) := by rw [Lib.cell_of_heap HE1.out]; rfl
  have y4 : wa.cell? ⟨W.heap.size, 4, none⟩ = some (.bool bk) := by rw [Lib.cell_of_heap HE1.out]; rfl
  by_cases hf : 20 < eR.length
  · have q2 : (20 : Int) < (eR.length : Int) := by omega
    have HX := hid (show entW pr ((p, q), eR, eP, bk) = 7 by rw [hpr, entW_none H.out]; exact entR_full hf)
    have g6 := (HS.out.below HB1.out).sen.g6
    clear hf
    go_wp2_with fail
    go_ret
    exact ⟨by rw [HX.out]; rfl, HB1.out⟩
  · have q2 : ¬ (20 : Int) < (eR.length : Int) := by omega
    have HF := hid hf
    have HRQ := hid (reqs_any p eR _ A m wa HSH.out.rn HSH.out.rs (HS.out.below HB1.out) (HR.out.below HB1.out))
    clear hf
    go_wp2_with fail
    refine HRQ.out.mono ?_
    rintro e wb ⟨u, rfl, he, hb⟩
    have HB2 := hid (HB1.out.trans (hb.mono HB1.out.size))
    have HE2 := hid (show wb.heap[W.heap.size]? = some (.cells #[.string p, .string q, .slice ra eR.length rc, .slice pa pn pc, .bool bk] 55 (0, 0)) by rw [hb.block _ (lt_of_blk HE1.out)]; exact HE1.out)
    clear y0 y1 y2 y3 y4 HRQ
    have z0 : wb.cell? ⟨W.heap.size, 0, none⟩ = some (.string p) := by rw [Lib.cell_of_heap HE2.out]; rfl
    have z1 : wb.cell? ⟨W.heap.size, 1, none⟩ = some (.string q) := by rw [Lib.cell_of_heap HE2.out]; rfl
    have z2 : wb.cell? ⟨W.heap.size, 2, none⟩ = some (.slice ra eR.length rc) := by rw [Lib.cell_of_heap HE2.out]; rfl
    have z3 : wb.cell? ⟨W.heap.size, 3, none⟩ = some (.slice pa pn pc) := by rw [Lib.cell_of_heap HE2.out]; rfl
    have z4 : wb.cell? ⟨W.heap.size, 4, none⟩ = some (.bool bk) := by rw [Lib.cell_of_heap HE2.out]; rfl
    cases hfe : fstE (reqE p eR) eR.length with
    | none =>
      rw [hfe] at he
      have hc := codeE_none hfe
      have he : u = errA A (codeE (reqE p eR) eR.length) := he
      rw [hc, errA0] at he
      subst he
      have HX := hid (show entW pr ((p, q), eR, eP, bk) = packErr (bl eP) by rw [hpr, entW_none H.out]; exact entR_pack HF.out hc)
      have HPP := hid (packs_any eP _ A m wb HSH.out.pn HSH.out.ps (HS.out.below HB2.out) (HPK.out.below HB2.out))
      clear hb hc hfe
      go_wp2_with fail
      refine HPP.out.mono ?_
      rintro e wc ⟨rfl, hb⟩
      have HB3 := hid (HB2.out.trans (hb.mono HB2.out.size))
      clear hb
      go_wp2_with fail
      go_ret
      exact ⟨by rw [HX.out]; rfl, HB3.out⟩
    | some j =>
      rw [hfe] at he
      have hc : codeE (reqE p eR) eR.length ≠ 0 := he.1
      have HX := hid (show entW pr ((p, q), eR, eP, bk) = codeE (reqE p eR) eR.length by rw [hpr, entW_none H.out]; exact entR_req HF.out hc)
      have HBA := hid (bare_any u _ _ A m wb (HS.out.below HB2.out) he hc)
      obtain ⟨_, fb, hu, _⟩ := he
      subst hu
      clear hb hc hfe
      go_wp2_with fail
      refine HBA.out.mono ?_
      rintro e wc ⟨rfl, hb⟩
      have HB3 := hid (HB2.out.trans (hb.mono HB2.out.size))
      clear hb
      go_wp2_with fail
      go_ret
      exact ⟨by rw [HX.out]; rfl, HB3.out⟩
set_option maxHeartbeats 8000000 in
set_option maxRecDepth 100000 in
theorem eachK_1 (pr : Option Bm) (k : Nat) (p0 q0 : ByteArray) (hpr : pr = some (p0, q0)) (p q : ByteArray) (rv pv : Value) (eR : List Bm) (eP : List ByteArray) (bk : Bool) (b : Nat) (A : Nat → Addr) (m : Int) (W : World) (hs : slR ((p, q), rv, pv, bk)) (sh : ShE ((p, q), eR, eP, bk)) (S : Te W A m) (h : mErr (p, q) = 0) (hr : MsAt W rv eR) (hpk : TxAt W pv eP) (bb oo n c : Nat) (hn : k < n) (hn2 : n ≤ 1000000) (hq0 : q0.size < 999999) (hl : W.cell? ⟨b, 0, none⟩ = some (.slice (some ⟨bb, oo, none⟩) n c)) (hx : W.cell? ⟨bb, oo + k * 5, none⟩ = some (.string p0)) (hy : W.cell? ⟨bb, oo + k * 5 + 1, none⟩ = some (.string q0)) :
    Calls Tryz.prog 104 #[.int .i64 ((k : Int) + 1), .agg #[.string p, .string q, rv, pv, .bool bk], .pointer (some ⟨b, 0, none⟩)] W fun e w' => e = .returned (errA A (entW pr ((p, q), eR, eP, bk))) ∧ Below W.heap.size W w' := by
  obtain ⟨⟨ra, rn, rc, hrv⟩, pa, pn, pc, hpv⟩ := hs
  simp only at hrv hpv
  subst hrv
  subst hpv
  have hrl : rn = eR.length := by obtain ⟨_, _, h, _⟩ := hr; injection h
  subst hrl
  have HB0 := hid ((Below.refl W.heap.size W).alloc (Nat.le_refl _) (.cells #[.string p, .string q, .slice ra eR.length rc, .slice pa pn pc, .bool bk] 55))
  have HM := hid (mcheck_any p q A m _ (by have := sh.p; simp only at this; omega) (by have := sh.v; simp only at this; omega) (S.below HB0.out))
  have hme : mErr (p, q) = modErr p.data.toList q.data.toList := rfl
  rw [← hme, h, errA0] at HM
  have HS := hid S
  have HSH := hid sh
  have HR := hid hr
  have HPK := hid hpk
  have H := hid h
  have HGX := hid (fun w1 (hb : Below (W.alloc (.cells #[.string p, .string q, .slice ra eR.length rc, .slice pa pn pc, .bool bk] 55)).heap.size (W.alloc (.cells #[.string p, .string q, .slice ra eR.length rc, .slice pa pn pc, .bool bk] 55)) w1) => show w1.heap[W.heap.size]? = some (.cells #[.string p, .string q, .slice ra eR.length rc, .slice pa pn pc, .bool bk] 55 (0, 0)) by rw [hb.block _ (by simp)]; exact heap_alloc_new W _)
  have HL := hid hl
  have HXX := hid hx
  have HYY := hid hy
  clear S sh hr hpk h hme hl hx hy
  have hk0 : (0 : Int) < (k : Int) + 1 := by omega
  have hk1 : (k : Int) + 1 - 1 = (k : Int) := by omega
  have hkn : (k : Int) < (n : Int) := by omega
  go_enter Tryz.func104, Tryz.ntmps104
  go_wp2_with fail
  refine HM.out.mono ?_
  rintro e wz ⟨rfl, hb⟩
  have HBz := hid (HB0.out.trans (hb.mono HB0.out.size))
  have HEz := hid (HGX.out wz hb)
  have hl := cell_below HBz.out HL.out
  have hx := cell_below HBz.out HXX.out
  have hy := cell_below HBz.out HYY.out
  have HAH := hid (fun X (hX : Below wz.heap.size wz X) => ahead_any p0 q0 p q A m X hq0 HSH.out.v ((HS.out.below HBz.out).below hX))
  have hma : mAhead (p0, q0) (p, q) = aheadB p0.data.toList q0.data.toList p.data.toList q.data.toList := rfl
  rw [← hma] at HAH
  clear hb HM HGX hma
  have x0 : wz.cell? ⟨W.heap.size, 0, none⟩ = some (.string p) := by rw [Lib.cell_of_heap HEz.out]; rfl
  have x1 : wz.cell? ⟨W.heap.size, 1, none⟩ = some (.string q) := by rw [Lib.cell_of_heap HEz.out]; rfl
  have x2 : wz.cell? ⟨W.heap.size, 2, none⟩ = some (.slice ra eR.length rc) := by rw [Lib.cell_of_heap HEz.out]; rfl
  have x3 : wz.cell? ⟨W.heap.size, 3, none⟩ = some (.slice pa pn pc) := by rw [Lib.cell_of_heap HEz.out]; rfl
  have x4 : wz.cell? ⟨W.heap.size, 4, none⟩ = some (.bool bk) := by rw [Lib.cell_of_heap HEz.out]; rfl
  have gw : IntKind.i64.wrap (k : Int) = (k : Int) := by rw [IntKind.wrap_i64]; omega
  have gk : (0 : Int) ≤ (k : Int) := by omega
  cases hah : mAhead (p0, q0) (p, q)
  · rw [hah] at HAH
    have HX := hid (show entW pr ((p, q), eR, eP, bk) = 8 by rw [hpr]; exact entW_order H.out hah)
    clear hah
    go_wp2_with fail
    go_region_with (go_at_call 105; refine (HAH.out _ (below_drawn _ 1)).mono ?_; rintro e wa ⟨rfl, hb⟩; have HB1 := hid ((HBz.out.trans ((below_drawn _ 1).mono HBz.out.size)).trans (hb.mono HBz.out.size)); have g7 := (HS.out.below HB1.out).sen.g7; clear hb)
    all_goals
      go_wp2_with fail
      go_ret
      exact ⟨by rw [HX.out]; rfl, HB1.out⟩
  · rw [hah] at HAH
    have HLL := hid (show entW pr ((p, q), eR, eP, bk) = entR ((p, q), eR, eP, bk) by rw [hpr]; exact entW_some H.out hah)
    clear hah
    go_wp2_with fail
    go_region_with (go_at_call 105; refine (HAH.out _ (below_drawn _ 1)).mono ?_; rintro e wa ⟨rfl, hb⟩; have HB1 := hid ((HBz.out.trans ((below_drawn _ 1).mono HBz.out.size)).trans (hb.mono HBz.out.size)); have HE1 := hid (show wa.heap[W.heap.size]? = some (.cells #[.string p, .string q, .slice ra eR.length rc, .slice pa pn pc, .bool bk] 55 (0, 0)) by rw [hb.block _ (lt_of_blk HEz.out)]; exact HEz.out); clear hb x0 x1 x2 x3 x4 hl hx hy)
    all_goals
      have y0 : wa.cell? ⟨W.heap.size, 0, none⟩ = some (.string p) := by rw [Lib.cell_of_heap HE1.out]; rfl
      have y1 : wa.cell? ⟨W.heap.size, 1, none⟩ = some (.string q) := by rw [Lib.cell_of_heap HE1.out]; rfl
      have y2 : wa.cell? ⟨W.heap.size, 2, none⟩ = some (.slice ra eR.length rc) := by rw [Lib.cell_of_heap HE1.out]; rfl
      have y3 : wa.cell? ⟨W.heap.size, 3, none⟩ = some (.slice pa pn pc) := by rw [Lib.cell_of_heap HE1.out]; rfl
      have y4 : wa.cell? ⟨W.heap.size, 4, none⟩ = some (.bool bk) := by rw [Lib.cell_of_heap HE1.out]; rfl
      by_cases hf : 20 < eR.length
      · have q2 : (20 : Int) < (eR.length : Int) := by omega
        have HX := hid (show entW pr ((p, q), eR, eP, bk) = 7 by rw [HLL.out]; exact entR_full hf)
        have g6 := (HS.out.below HB1.out).sen.g6
        clear hf
        go_wp2_with fail
        go_ret
        exact ⟨by rw [HX.out]; rfl, HB1.out⟩
      · have q2 : ¬ (20 : Int) < (eR.length : Int) := by omega
        have HF := hid hf
        have HRQ := hid (reqs_any p eR _ A m wa HSH.out.rn HSH.out.rs (HS.out.below HB1.out) (HR.out.below HB1.out))
        clear hf
        go_wp2_with fail
        refine HRQ.out.mono ?_
        rintro e wb ⟨u, rfl, he, hb⟩
        have HB2 := hid (HB1.out.trans (hb.mono HB1.out.size))
        have HE2 := hid (show wb.heap[W.heap.size]? = some (.cells #[.string p, .string q, .slice ra eR.length rc, .slice pa pn pc, .bool bk] 55 (0, 0)) by rw [hb.block _ (lt_of_blk HE1.out)]; exact HE1.out)
        clear y0 y1 y2 y3 y4 HRQ
        have z0 : wb.cell? ⟨W.heap.size, 0, none⟩ = some (.string p) := by rw [Lib.cell_of_heap HE2.out]; rfl
        have z1 : wb.cell? ⟨W.heap.size, 1, none⟩ = some (.string q) := by rw [Lib.cell_of_heap HE2.out]; rfl
        have z2 : wb.cell? ⟨W.heap.size, 2, none⟩ = some (.slice ra eR.length rc) := by rw [Lib.cell_of_heap HE2.out]; rfl
        have z3 : wb.cell? ⟨W.heap.size, 3, none⟩ = some (.slice pa pn pc) := by rw [Lib.cell_of_heap HE2.out]; rfl
        have z4 : wb.cell? ⟨W.heap.size, 4, none⟩ = some (.bool bk) := by rw [Lib.cell_of_heap HE2.out]; rfl
        cases hfe : fstE (reqE p eR) eR.length with
        | none =>
          rw [hfe] at he
          have hc := codeE_none hfe
          have he : u = errA A (codeE (reqE p eR) eR.length) := he
          rw [hc, errA0] at he
          subst he
          have HX := hid (show entW pr ((p, q), eR, eP, bk) = packErr (bl eP) by rw [HLL.out]; exact entR_pack HF.out hc)
          have HPP := hid (packs_any eP _ A m wb HSH.out.pn HSH.out.ps (HS.out.below HB2.out) (HPK.out.below HB2.out))
          clear hb hc hfe
          go_wp2_with fail
          refine HPP.out.mono ?_
          rintro e wc ⟨rfl, hb⟩
          have HB3 := hid (HB2.out.trans (hb.mono HB2.out.size))
          clear hb
          go_wp2_with fail
          go_ret
          exact ⟨by rw [HX.out]; rfl, HB3.out⟩
        | some j =>
          rw [hfe] at he
          have hc : codeE (reqE p eR) eR.length ≠ 0 := he.1
          have HX := hid (show entW pr ((p, q), eR, eP, bk) = codeE (reqE p eR) eR.length by rw [HLL.out]; exact entR_req HF.out hc)
          have HBA := hid (bare_any u _ _ A m wb (HS.out.below HB2.out) he hc)
          obtain ⟨_, fb, hu, _⟩ := he
          subst hu
          clear hb hc hfe
          go_wp2_with fail
          refine HBA.out.mono ?_
          rintro e wc ⟨rfl, hb⟩
          have HB3 := hid (HB2.out.trans (hb.mono HB2.out.size))
          clear hb
          go_wp2_with fail
          go_ret
          exact ⟨by rw [HX.out]; rfl, HB3.out⟩
end Ve
end Go.Proofs.YtjhiajeeijfkeaaGreatDoor

/-
  What index.Check answers.
-/
namespace Go.Proofs.YtjhiajeeijfkeaaGreatDoor
open Go.RowKit
namespace Ve

/-- What is wrong with each entry, by itself and the one ahead. -/
def entE (L : List Ent) (i : Nat) : Nat := match L[i]? with
  | none => 0
  | some e => entW (if i = 0 then none else (L[i - 1]?).map (·.1)) e
theorem entE_0 {L : List Ent} (h : 0 < L.length) : entE L 0 = entW none L[0] := by unfold entE; rw [List.getElem?_eq_getElem h]; rfl
theorem entE_1 {L : List Ent} {k : Nat} (h : k + 1 < L.length) : entE L (k + 1) = entW (some (L[k]'(by omega)).1) L[k + 1] := by
  unfold entE
  rw [List.getElem?_eq_getElem h]
  simp only [Nat.add_sub_cancel, List.getElem?_eq_getElem (show k < L.length by omega)]
  rw [if_neg (by omega)]; rfl
/-- Does an entry require what there is not? -/
def reqE2 (Q : List Raw) (L : List Ent) (i : Nat) : Nat := match L[i]? with
  | none => 0
  | some e => codeE (nonE Q e.2.1) e.2.1.length
theorem reqE2_at {Q : List Raw} {L : List Ent} {i : Nat} (h : i < L.length) : reqE2 Q L i = codeE (nonE Q L[i].2.1) L[i].2.1.length := by unfold reqE2; rw [List.getElem?_eq_getElem h]
def chk (Q : List Raw) (L : List Ent) : Nat × Option Nat := if 100 < L.length then (7, none) else match fstE (entE L) L.length with
  | some i => (entE L i, some i)
  | none => (codeE (reqE2 Q L) L.length, fstE (reqE2 Q L) L.length)
theorem chk_full {Q : List Raw} {L : List Ent} (h : 100 < L.length) : chk Q L = (7, none) := by unfold chk; rw [if_pos h]
theorem chk_each {Q : List Raw} {L : List Ent} {i : Nat} (h : ¬ 100 < L.length) (hi : fstE (entE L) L.length = some i) : chk Q L = (entE L i, some i) := by unfold chk; rw [if_neg h, hi]
theorem chk_reqs {Q : List Raw} {L : List Ent} (h : ¬ 100 < L.length) (hi : fstE (entE L) L.length = none) : chk Q L = (codeE (reqE2 Q L) L.length, fstE (reqE2 Q L) L.length) := by unfold chk; rw [if_neg h, hi]
theorem eachK_any (Q : List Raw) (L : List Ent) (v : Value) (b : Nat) (A : Nat → Addr) (m : Int) (W : World) (hL : L.length ≤ 1000000) (sh : ∀ e, e ∈ L → ShE e) (S : Te W A m) (h1 : W.cell? ⟨b, 0, none⟩ = some v) (I : Ixs W v Q L) (i : Nat) (hi : i < Q.length) :
    Calls Tryz.prog 104 (#[.int .i64 (i : Int), rawV Q[i]] ++ #[.pointer (some ⟨b, 0, none⟩)]) W fun e w' => e = .returned (errA A (entE L i)) ∧ Below W.heap.size W w' := by
  have hiL : i < L.length := by rw [← I.ln]; exact hi
  have ok := I.ok i hi hiL
  have she := sh L[i] (List.getElem_mem hiL)
  obtain ⟨a, c, hv, _, hs, hc⟩ := id I.es
  have hsl := hs Q[i] (List.getElem_mem hi)
  cases i with
  | zero =>
    rw [entE_0 hiL]
    generalize hq : Q[0] = r at *
    generalize he : L[0] = e at *
    obtain ⟨⟨p, q⟩, rv, pv, bk⟩ := r
    obtain ⟨⟨p', q'⟩, eR, eP, bk'⟩ := e
    obtain ⟨hm, hrq, hpk, hbk⟩ := ok
    simp only at hm hrq hpk hbk
    subst hbk
    obtain ⟨rfl, rfl⟩ : p = p' ∧ q = q' := by injection hm with h1 h2; exact ⟨h1, h2⟩
    by_cases hb : mErr (p, q) = 0
    · exact eachK_0 none rfl p q rv pv eR eP bk b A m W hsl she S hb hrq hpk
    · rw [entW_bad hb]
      exact eachK_bad p q rv pv bk 0 b A m W hsl she.p she.v S hb
  | succ k =>
    rw [entE_1 hiL]
    have hkq : k < Q.length := by omega
    have hkL : k < L.length := by omega
    have okk := (I.ok k hkq hkL).m
    have shk := sh L[k] (List.getElem_mem hkL)
    obtain ⟨bb, oo, ha, hcc⟩ := hc (by intro h; rw [h] at hkq; simp at hkq)
    obtain ⟨y0, y1, _⟩ := hcc k hkq
    generalize hq : Q[k + 1] = r at *
    generalize he : L[k + 1] = e at *
    generalize hpr : L[k].1 = pr at *
    obtain ⟨⟨p, q⟩, rv, pv, bk⟩ := r
    obtain ⟨⟨p', q'⟩, eR, eP, bk'⟩ := e
    obtain ⟨p0, q0⟩ := pr
    obtain ⟨hm, hrq, hpk, hbk⟩ := ok
    simp only at hm hrq hpk hbk
    subst hbk
    obtain ⟨rfl, rfl⟩ : p = p' ∧ q = q' := by injection hm with h1 h2; exact ⟨h1, h2⟩
    by_cases hb : mErr (p, q) = 0
    · refine eachK_1 (some (p0, q0)) k p0 q0 rfl p q rv pv eR eP bk b A m W hsl she S hb hrq hpk bb oo Q.length c hkq (by rw [I.ln]; exact hL) ?_ ?_ ?_ ?_
      · have := shk.v; rw [hpr] at this; exact this
      · rw [h1, hv, ha]
      · rw [okk] at y0; exact y0
      · rw [okk] at y1; exact y1
    · rw [entW_bad hb]
      exact eachK_bad p q rv pv bk (k + 1) b A m W hsl she.p she.v S hb
set_option maxHeartbeats 2000000 in
/-- index.checkEach. -/
theorem each_any (Q : List Raw) (L : List Ent) (v : Value) (A : Nat → Addr) (m : Int) (w : World) (hL : L.length ≤ 1000000) (sh : ∀ e, e ∈ L → ShE e) (S : Te w A m) (I : Ixs w v Q L) :
    Calls Tryz.prog 66 #[v] w fun e w' => ∃ x, e = .returned x ∧ ErrAt w' A x (codeE (entE L) L.length) (fstE (entE L) L.length) ∧ Below w.heap.size w w' := by
  obtain ⟨a, c, hv1, _⟩ := id I.es
  subst hv1
  have HB0 := hid ((Below.refl w.heap.size w).alloc (Nat.le_refl _) (.cells #[.slice a Q.length c] 22))
  have eg : ∀ args w, (callFunc 104 args).run Tryz.prog w = .ok (.enter 104 args) w := enters_of Tryz.func104 (by kernel_rfl) rfl
  have HF := hid (firstE_any 104 #[.pointer (some ⟨w.heap.size, 0, none⟩)] (entE L) Q _ A (w.alloc (.cells #[.slice a Q.length c] 22)) eg (by rw [I.ln]; exact hL) (I.es.below HB0.out) (fun i hi W hW =>
    eachK_any Q L _ w.heap.size A m W hL sh ((S.below HB0.out).below hW) (cell_below hW (by simp)) ((I.below HB0.out).below hW) i hi))
  have HLN := hid I.ln
  clear S I eg
  go_enter Tryz.func66, Tryz.ntmps66
  go_wp2_with fail
  refine HF.out.mono ?_
  rintro e w1 ⟨u, rfl, he, hb⟩
  have HB := hid (HB0.out.trans (hb.mono HB0.out.size))
  rw [HLN.out] at he
  have HE := hid he
  clear hb he
  go_wp2_with fail
  go_ret
  exact ⟨_, rfl, HE.out, HB.out⟩
set_option maxHeartbeats 4000000 in
/-- index.Check. -/
theorem icheck_any (Q : List Raw) (L : List Ent) (v : Value) (A : Nat → Addr) (m : Int) (w : World) (hL : L.length ≤ 1000000) (sh : ∀ e, e ∈ L → ShE e) (S : Te w A m) (I : Ixs w v Q L) :
    Calls Tryz.prog 41 #[v] w fun e w' => ∃ x, e = .returned x ∧ ErrAt w' A x (chk Q L).1 (chk Q L).2 ∧ Below w.heap.size w w' := by
  obtain ⟨a, c, hv1, _, hs, _⟩ := id I.es
  subst hv1
  have HB0 := hid ((Below.refl w.heap.size w).alloc (Nat.le_refl _) (.cells #[.slice a Q.length c] 22))
  have HEA := hid (each_any Q L _ A m _ hL sh (S.below HB0.out) (I.below HB0.out))
  have hln := I.ln
  have HS := hid S
  have HI := hid I
  have HSL := hid hs
  have HSH := hid sh
  have c0 : (w.alloc (.cells #[.slice a Q.length c] 22)).cell? ⟨w.heap.size, 0, none⟩ = some (.slice a Q.length c) := by simp
  have HC0 := hid c0
  rw [hln] at c0
  have eg : ∀ args w, (callFunc 68 args).run Tryz.prog w = .ok (.enter 68 args) w := enters_of Tryz.func68 (by kernel_rfl) rfl
  have HEG := hid eg
  clear S I hs sh eg
  by_cases h1 : 100 < L.length
  · have q1 : (100 : Int) < (L.length : Int) := by omega
    have g6 := (HS.out.below HB0.out).sen.g6
    rw [chk_full h1, hln]
    rw [hln] at HB0
    clear h1 HEA
    go_enter Tryz.func41, Tryz.ntmps41
    rw [hln] at g6
    go_wp2_with fail
    go_ret
    exact ⟨_, rfl, rfl, HB0.out⟩
  · have q1 : ¬ (100 : Int) < (L.length : Int) := by omega
    have H1 := hid h1
    rw [hln] at HB0 HEA ⊢
    clear h1
    go_enter Tryz.func41, Tryz.ntmps41
    go_wp2_with fail
    refine HEA.out.mono ?_
    rintro e w1 ⟨x, rfl, he, hb⟩
    have HB1 := hid (HB0.out.trans (hb.mono HB0.out.size))
    have c1 := cell_below hb c0
    have HC1 := hid c1
    clear hb HEA
    cases hf : fstE (entE L) L.length with
    | some i =>
      rw [hf, codeE_some hf] at he
      have HX := hid (chk_each (Q := Q) H1.out hf)
      have HE := hid he
      obtain ⟨_, fb, hu, _⟩ := he
      subst hu
      clear hf
      go_wp2_with fail
      go_ret
      exact ⟨_, rfl, by rw [HX.out]; exact HE.out, HB1.out⟩
    | none =>
      rw [hf, codeE_none hf] at he
      have he : x = errA A 0 := he
      rw [errA0] at he
      subst he
      have HX := hid (chk_reqs (Q := Q) H1.out hf)
      have HF := hid (firstE_any 68 #[.pointer (some ⟨w.heap.size, 0, none⟩)] (reqE2 Q L) Q (.slice a Q.length c) A w1 HEG.out (by rw [hln]; exact hL) ((HI.out.es).below HB1.out) (fun i hi W hW => by
        have hiL : i < L.length := by rw [← hln]; exact hi
        rw [reqE2_at hiL]
        exact checkK_any Q Q[i] L[i].2.1 i w.heap.size (.slice a Q.length c) A m W (by rw [hln]; exact hL) (HSH.out L[i] (List.getElem_mem hiL)).rn ((HS.out.below HB1.out).below hW) (cell_below hW (by rw [hln]; exact HC1.out)) ((HI.out.es.below HB1.out).below hW) (HSL.out Q[i] (List.getElem_mem hi)) ((HI.out.ok i hi hiL).rq.below (HB1.out.trans (hW.mono HB1.out.size)))))
      rw [hln] at HF
      clear hf
      go_wp2_with fail
      refine HF.out.mono ?_
      rintro e w2 ⟨x, rfl, he, hb⟩
      have HB2 := hid (HB1.out.trans (hb.mono HB1.out.size))
      have HE := hid he
      clear hb he
      go_wp2_with fail
      go_ret
      exact ⟨_, rfl, by rw [HX.out]; exact HE.out, HB2.out⟩
end Ve
end Go.Proofs.YtjhiajeeijfkeaaGreatDoor

/-
  Modules whose paths rise, plain: what is ahead of a path, what is behind it, and what is at it.
-/
namespace Go.Proofs.YtjhiajeeijfkeaaGreatDoor
open Go.RowKit
namespace Ve

theorem cbt : ∀ (a b c : List UInt8), Lib.compareBytes a b < 0 → Lib.compareBytes b c < 0 → Lib.compareBytes a c < 0 := by
  intro a
  induction a with
  | nil =>
    intro b c h1 h2
    cases c with
    | nil => cases b <;> simp [Lib.compareBytes] at h2
    | cons z c => simp [Lib.compareBytes]
  | cons x a ih =>
    intro b c h1 h2
    cases b with
    | nil => simp [Lib.compareBytes] at h1
    | cons y b =>
      cases c with
      | nil => simp [Lib.compareBytes] at h2
      | cons z c =>
        simp only [Lib.compareBytes] at h1 h2 ⊢
        by_cases e1 : x < y
        · by_cases e2 : y < z
          · rw [if_pos (UInt8.lt_trans e1 e2)]; omega
          · rw [if_neg e2] at h2
            by_cases e3 : z < y
            · rw [if_pos e3] at h2; omega
            · have : y = z := UInt8.le_antisymm (UInt8.not_lt.1 e3) (UInt8.not_lt.1 e2)
              subst this
              rw [if_pos e1]; omega
        · rw [if_neg e1] at h1
          by_cases e2 : y < x
          · rw [if_pos e2] at h1; omega
          · have : x = y := UInt8.le_antisymm (UInt8.not_lt.1 e2) (UInt8.not_lt.1 e1)
            subst this
            rw [if_neg e2] at h1
            by_cases e3 : x < z
            · rw [if_pos e3]; omega
            · rw [if_neg e3] at h2 ⊢
              by_cases e4 : z < x
              · rw [if_pos e4] at h2; omega
              · rw [if_neg e4] at h2 ⊢
                exact ih b c h1 h2
/-- Less, by bytes. -/
def lt (a b : ByteArray) : Bool := decide (Lib.compareBytes a.data.toList b.data.toList < 0)
theorem lt_trans {a b c : ByteArray} (h1 : lt a b = true) (h2 : lt b c = true) : lt a c = true := decide_eq_true (cbt _ _ _ (of_decide_eq_true h1) (of_decide_eq_true h2))
theorem lt_irrefl (a : ByteArray) : lt a a = false := by
  unfold lt; rw [(cb_zero _ _).2 rfl]; rfl
theorem lt_asymm {a b : ByteArray} (h : lt a b = true) : lt b a = false := by
  cases h2 : lt b a
  · rfl
  · have := lt_trans h h2
    rw [lt_irrefl] at this; cases this
theorem lt_three (a b : ByteArray) : lt a b = true ∨ a = b ∨ lt b a = true := by
  rcases cb_range a.data.toList b.data.toList with h | h | h
  · exact Or.inl (decide_eq_true (by omega))
  · exact Or.inr (Or.inl (str_ext ((cb_zero _ _).1 h)))
  · refine Or.inr (Or.inr (decide_eq_true ?_))
    rw [cb_swap]; omega
theorem noLess_lt (a b : ByteArray) : noLess a b = !lt a b := rfl
/-- Paths rise. -/
def rising (R : List Bm) : Prop := R.Pairwise (fun a b => lt a.1 b.1 = true)
theorem rising_of {own : ByteArray} {R : List Bm} (h : ∀ j, j < R.length → reqE own R j = 0) : rising R := by
  have hc : ∀ j, (hj : j + 1 < R.length) → lt R[j].1 R[j + 1].1 = true := by
    intro j hj
    have h1 := h (j + 1) hj
    unfold reqE prevOf at h1
    rw [List.getElem?_eq_getElem hj, if_neg (by omega)] at h1
    simp only [Nat.add_sub_cancel] at h1
    rw [List.getElem?_eq_getElem (show j < R.length by omega)] at h1
    unfold reqW at h1
    simp only at h1
    by_cases e1 : mErr R[j + 1] = 0
    · rw [if_pos e1] at h1
      by_cases e2 : R[j + 1].1 = own
      · rw [if_pos e2] at h1; omega
      · rw [if_neg e2] at h1
        rw [noLess_lt] at h1
        cases e3 : lt R[j].1 R[j + 1].1
        · rw [e3] at h1; simp at h1
        · rfl
    · rw [if_neg e1] at h1; exact absurd h1 e1
  unfold rising
  rw [List.pairwise_iff_getElem]
  intro i j hi hj hij
  induction j with
  | zero => omega
  | succ j ih =>
    rcases Nat.lt_or_ge i j with hh | hh
    · exact lt_trans (ih (by omega) hh) (hc j hj)
    · have : i = j := by omega
      subst this
      exact hc i hj
def loR (R : List Bm) (p : ByteArray) : List Bm := R.filter (fun m => lt m.1 p)
def hiR (R : List Bm) (p : ByteArray) : List Bm := R.filter (fun m => lt p m.1)
def eqR (R : List Bm) (p : ByteArray) : List Bm := R.filter (fun m => decide (m.1 = p))
theorem three_R {R : List Bm} (h : rising R) (p : ByteArray) : R = loR R p ++ (eqR R p ++ hiR R p) ∧ ((eqR R p = [] ∧ ∀ m, m ∈ R → m.1 ≠ p) ∨ ∃ q, eqR R p = [q] ∧ q.1 = p) := by
  induction R with
  | nil => exact ⟨rfl, Or.inl ⟨rfl, fun m hm => by cases hm⟩⟩
  | cons a r ih =>
    have hr : rising r := (List.pairwise_cons.1 h).2
    have ha : ∀ m, m ∈ r → lt a.1 m.1 = true := (List.pairwise_cons.1 h).1
    obtain ⟨e, hq⟩ := ih hr
    rcases lt_three a.1 p with h1 | h1 | h1
    · have h2 := lt_asymm h1
      have h3 : a.1 ≠ p := fun e => by rw [e, lt_irrefl] at h1; cases h1
      have e1 : loR (a :: r) p = a :: loR r p := by unfold loR; rw [List.filter_cons_of_pos (by simpa using h1)]
      have e2 : hiR (a :: r) p = hiR r p := by unfold hiR; rw [List.filter_cons_of_neg (by simp [h2])]
      have e3 : eqR (a :: r) p = eqR r p := by unfold eqR; rw [List.filter_cons_of_neg (by simp [h3])]
      rw [e1, e2, e3]
      refine ⟨by rw [List.cons_append, ← e], ?_⟩
      rcases hq with ⟨q1, q2⟩ | hq
      · refine Or.inl ⟨q1, fun m hm => ?_⟩
        rcases List.mem_cons.1 hm with rfl | hm
        · exact h3
        · exact q2 m hm
      · exact Or.inr hq
    · have hl : loR r p = [] := by
        unfold loR; rw [List.filter_eq_nil_iff]; intro m hm
        have := lt_asymm (ha m hm); rw [h1] at this; simp [this]
      have he : eqR r p = [] := by
        unfold eqR; rw [List.filter_eq_nil_iff]; intro m hm
        have := ha m hm
        simp only [decide_eq_true_eq]
        intro e; rw [h1, e, lt_irrefl] at this; cases this
      have e1 : loR (a :: r) p = [] := by unfold loR; rw [List.filter_cons_of_neg (by rw [h1, lt_irrefl]; simp)]; exact hl
      have e2 : hiR (a :: r) p = hiR r p := by unfold hiR; rw [List.filter_cons_of_neg (by rw [h1, lt_irrefl]; simp)]
      have e3 : eqR (a :: r) p = [a] := by unfold eqR; rw [List.filter_cons_of_pos (by simp [h1])]; exact congrArg (a :: ·) he
      rw [e1, e2, e3]
      rw [hl, he] at e
      exact ⟨by rw [List.nil_append, List.singleton_append]; exact congrArg (a :: ·) e, Or.inr ⟨a, rfl, h1⟩⟩
    · have hg : ∀ m, m ∈ a :: r → lt p m.1 = true := fun m hm => by
        rcases List.mem_cons.1 hm with rfl | hm
        · exact h1
        · exact lt_trans h1 (ha m hm)
      have e1 : loR (a :: r) p = [] := by
        unfold loR; rw [List.filter_eq_nil_iff]; intro m hm; rw [lt_asymm (hg m hm)]; simp
      have e3 : eqR (a :: r) p = [] := by
        unfold eqR; rw [List.filter_eq_nil_iff]; intro m hm
        have := hg m hm
        simp only [decide_eq_true_eq]
        intro e; rw [e, lt_irrefl] at this; cases this
      have e2 : hiR (a :: r) p = a :: r := by unfold hiR; rw [List.filter_eq_self]; exact hg
      rw [e1, e2, e3]
      refine ⟨rfl, Or.inl ⟨rfl, fun m hm e => ?_⟩⟩
      have := hg m hm
      rw [e, lt_irrefl] at this; cases this
/-- What is required once m is set; once a path is dropped. -/
def setR (R : List Bm) (m : Bm) : List Bm := loR R m.1 ++ m :: hiR R m.1
def dropR (R : List Bm) (p : ByteArray) : List Bm := loR R p ++ hiR R p
theorem loR_mem {R : List Bm} {p : ByteArray} {m : Bm} : m ∈ loR R p ↔ m ∈ R ∧ lt m.1 p = true := List.mem_filter
theorem hiR_mem {R : List Bm} {p : ByteArray} {m : Bm} : m ∈ hiR R p ↔ m ∈ R ∧ lt p m.1 = true := List.mem_filter
theorem loR_set (R : List Bm) (m : Bm) : loR (setR R m) m.1 = loR R m.1 := by
  unfold setR loR
  rw [List.filter_append, List.filter_filter, List.filter_cons_of_neg (by rw [lt_irrefl]; simp)]
  have e1 : (hiR R m.1).filter (fun x => lt x.1 m.1) = [] := by
    rw [List.filter_eq_nil_iff]; intro x hx; rw [lt_asymm (hiR_mem.1 hx).2]; simp
  rw [e1, List.append_nil]
  simp
theorem hiR_set (R : List Bm) (m : Bm) : hiR (setR R m) m.1 = hiR R m.1 := by
  unfold setR
  have e0 : ∀ (a b : List Bm), hiR (a ++ b) m.1 = hiR a m.1 ++ hiR b m.1 := fun a b => List.filter_append _ _
  rw [e0]
  have e1 : hiR (loR R m.1) m.1 = [] := by
    unfold hiR; rw [List.filter_eq_nil_iff]; intro x hx; rw [lt_asymm (loR_mem.1 hx).2]; simp
  have e2 : hiR (m :: hiR R m.1) m.1 = hiR R m.1 := by
    unfold hiR; rw [List.filter_cons_of_neg (by rw [lt_irrefl]; simp), List.filter_filter]; simp
  rw [e1, e2, List.nil_append]
theorem drop_set (R : List Bm) (m : Bm) : dropR (setR R m) m.1 = dropR R m.1 := by unfold dropR; rw [loR_set, hiR_set]
theorem drop_mem {R : List Bm} {p : ByteArray} {m : Bm} : m ∈ dropR R p ↔ m ∈ R ∧ m.1 ≠ p := by
  unfold dropR
  rw [List.mem_append, loR_mem, hiR_mem]
  constructor
  · rintro (⟨h1, h2⟩ | ⟨h1, h2⟩)
    · exact ⟨h1, fun e => by rw [e, lt_irrefl] at h2; cases h2⟩
    · exact ⟨h1, fun e => by rw [e, lt_irrefl] at h2; cases h2⟩
  · rintro ⟨h1, h2⟩
    rcases lt_three m.1 p with h | h | h
    · exact Or.inl ⟨h1, h⟩
    · exact absurd h h2
    · exact Or.inr ⟨h1, h⟩
theorem rising_drop {R : List Bm} (h : rising R) (p : ByteArray) : dropR R p = R.filter (fun m => decide (m.1 ≠ p)) := by
  obtain ⟨e, hq⟩ := three_R h p
  have e0 : ∀ (a b : List Bm), (a ++ b).filter (fun m => decide (m.1 ≠ p)) = a.filter (fun m => decide (m.1 ≠ p)) ++ b.filter (fun m => decide (m.1 ≠ p)) := fun a b => List.filter_append _ _
  have e1 : (loR R p).filter (fun m => decide (m.1 ≠ p)) = loR R p := by
    rw [List.filter_eq_self]; intro x hx
    have := (loR_mem.1 hx).2
    exact decide_eq_true (fun e => by rw [e, lt_irrefl] at this; cases this)
  have e2 : (hiR R p).filter (fun m => decide (m.1 ≠ p)) = hiR R p := by
    rw [List.filter_eq_self]; intro x hx
    have := (hiR_mem.1 hx).2
    exact decide_eq_true (fun e => by rw [e, lt_irrefl] at this; cases this)
  have e3 : (eqR R p).filter (fun m => decide (m.1 ≠ p)) = [] := by
    rw [List.filter_eq_nil_iff]; intro x hx
    have : x.1 = p := of_decide_eq_true (List.mem_filter.1 hx).2
    simp [this]
  conv => rhs; rw [e, e0, e0, e1, e2, e3]
  rfl
end Ve
end Go.Proofs.YtjhiajeeijfkeaaGreatDoor

/-
  The order on versions turns round, and is nought for one version alone (plain). No Go here.
-/
namespace Go.Proofs.YtjhiajeeijfkeaaGreatDoor
namespace Ve

theorem ordPart_swap (a b : List UInt8) : ordPart b a = -ordPart a b := by
  unfold ordPart
  cases h1 : digs a <;> cases h2 : digs b
  · simp only [Bool.false_eq_true, if_false]; exact cb_swap a b
  · simp
  · simp
  · simp only [if_true]; exact fst_swap (ci_swap _ _) (cb_swap _ _)
theorem ordPart_zero (a b : List UInt8) : ordPart a b = 0 ↔ a = b := by
  unfold ordPart
  cases h1 : digs a <;> cases h2 : digs b
  · simp only [Bool.false_eq_true, if_false]; exact cb_zero a b
  · simp only [Bool.false_eq_true, if_false, if_true]
    constructor
    · intro h; cases h
    · intro h; subst h; rw [h1] at h2; cases h2
  · simp only [Bool.false_eq_true, if_false, if_true]
    constructor
    · intro h; cases h
    · intro h; subst h; rw [h1] at h2; cases h2
  · simp only [if_true]
    rw [fst_zero, cb_zero]
    constructor
    · intro h; exact h.2
    · intro h; subst h; exact ⟨ci_self _, rfl⟩
theorem ordPs_swap : ∀ (a b : List (List UInt8)), ordPs b a = -ordPs a b
  | [], [] => rfl
  | [], _ :: _ => rfl
  | _ :: _, [] => rfl
  | x :: xs, y :: ys => fst_swap (ordPart_swap x y) (ordPs_swap xs ys)
theorem ordPs_zero : ∀ (a b : List (List UInt8)), ordPs a b = 0 ↔ a = b
  | [], [] => by simp [ordPs]
  | [], _ :: _ => by simp [ordPs]
  | _ :: _, [] => by simp [ordPs]
  | x :: xs, y :: ys => by
    unfold ordPs
    rw [fst_zero, ordPart_zero, ordPs_zero xs ys]
    simp
theorem ordPre_swap (a b : List (List UInt8)) : ordPre b a = -ordPre a b := by
  unfold ordPre
  by_cases h : a = [] ∨ b = []
  · rw [if_pos h, if_pos h.symm]; exact ci_swap _ _
  · rw [if_neg h, if_neg (fun k => h k.symm)]; exact ordPs_swap a b
theorem ordPre_zero (a b : List (List UInt8)) : ordPre a b = 0 ↔ a = b := by
  unfold ordPre
  by_cases h : a = [] ∨ b = []
  · rw [if_pos h, ci_zero]
    constructor
    · intro e
      rcases h with h | h
      · subst h; simp at e; exact e.symm
      · subst h; simp at e; exact List.length_eq_zero_iff.1 (by omega)
    · intro e; subst e; rfl
  · rw [if_neg h]; exact ordPs_zero a b
theorem ordV_swap (s t : List UInt8) : ordV t s = -ordV s t :=
  fst_swap (ci_swap _ _) (fst_swap (ci_swap _ _) (fst_swap (ci_swap _ _) (ordPre_swap _ _)))
theorem ordV_zero {s t : List UInt8} (hs : verErr s = 0) (ht : verErr t = 0) : ordV s t = 0 ↔ s = t := by
  unfold ordV ordN
  rw [fst_zero, fst_zero, fst_zero, ci_zero, ci_zero, ci_zero, ordPre_zero]
  constructor
  · rintro ⟨h0, h1, h2, h3⟩
    rw [← text_back s hs, ← text_back t ht, h0, h1, h2, h3]
  · intro h; subst h; exact ⟨rfl, rfl, rfl, rfl⟩
theorem ordV_range (s t : List UInt8) : ordV s t = -1 ∨ ordV s t = 0 ∨ ordV s t = 1 := ordN_range _ _ _ _ _ _ _ _
end Ve
end Go.Proofs.YtjhiajeeijfkeaaGreatDoor

/-
  The order on versions: what is less than what is less is less; lists that rise are told by what they hold (plain). No Go here.
-/
namespace Go.Proofs.YtjhiajeeijfkeaaGreatDoor
namespace Ve

theorem fst_lt {a b : Int} : fst a b < 0 ↔ a < 0 ∨ a = 0 ∧ b < 0 := by
  unfold fst
  by_cases h : a = 0
  · rw [if_pos h]; subst h; simp
  · rw [if_neg h]; simp [h]
theorem lex_trans {a1 a2 a3 b1 b2 b3 : Int} (h12 : a1 < 0 → a2 < 0 → a3 < 0) (h0l : a1 = 0 → a3 = a2) (h0r : a2 = 0 → a3 = a1) (hb : a1 = 0 → a2 = 0 → b1 < 0 → b2 < 0 → b3 < 0) :
    fst a1 b1 < 0 → fst a2 b2 < 0 → fst a3 b3 < 0 := by
  rw [fst_lt, fst_lt, fst_lt]
  rintro (h1 | ⟨h1, k1⟩) (h2 | ⟨h2, k2⟩)
  · exact Or.inl (h12 h1 h2)
  · exact Or.inl (by rw [h0r h2]; exact h1)
  · exact Or.inl (by rw [h0l h1]; exact h2)
  · exact Or.inr ⟨by rw [h0l h1]; exact h2, hb h1 h2 k1 k2⟩
theorem ci_trans {x y z : Int} (h1 : Lib.compareInt x y < 0) (h2 : Lib.compareInt y z < 0) : Lib.compareInt x z < 0 := by
  have e1 : x < y := by
    unfold Lib.compareInt at h1
    split at h1
    · assumption
    · split at h1 <;> omega
  have e2 : y < z := by
    unfold Lib.compareInt at h2
    split at h2
    · assumption
    · split at h2 <;> omega
  rw [ci_lt (by omega)]; decide
theorem cb_trans : ∀ (a b c : List UInt8), Lib.compareBytes a b < 0 → Lib.compareBytes b c < 0 → Lib.compareBytes a c < 0
  | [], [], _, h, _ => by simp [Lib.compareBytes] at h
  | [], _ :: _, [], _, h => by simp [Lib.compareBytes] at h
  | [], _ :: _, _ :: _, _, _ => by simp [Lib.compareBytes]
  | _ :: _, [], _, h, _ => by simp [Lib.compareBytes] at h
  | _ :: _, _ :: _, [], _, h => by simp [Lib.compareBytes] at h
  | x :: a, y :: b, z :: c, h1, h2 => by
    unfold Lib.compareBytes at h1 h2 ⊢
    by_cases h3 : x < y
    · by_cases h4 : y < z
      · rw [if_pos (UInt8.lt_trans h3 h4)]; decide
      · rw [if_neg h4] at h2
        by_cases h5 : z < y
        · rw [if_pos h5] at h2; omega
        · have := u8_eq h4 h5
          subst this
          rw [if_pos h3]; decide
    · rw [if_neg h3] at h1
      by_cases h4 : y < x
      · rw [if_pos h4] at h1; omega
      · rw [if_neg h4] at h1
        have := u8_eq h3 h4
        subst this
        by_cases h5 : x < z
        · rw [if_pos h5]; decide
        · rw [if_neg h5] at h2 ⊢
          by_cases h6 : z < x
          · rw [if_pos h6] at h2; omega
          · rw [if_neg h6] at h2 ⊢
            exact cb_trans a b c h1 h2
theorem ordPart_trans {a b c : List UInt8} (h1 : ordPart a b < 0) (h2 : ordPart b c < 0) : ordPart a c < 0 := by
  unfold ordPart at *
  cases ha : digs a <;> cases hb : digs b <;> cases hc : digs c <;> rw [ha, hb] at h1 <;> rw [hb, hc] at h2
  · exact cb_trans _ _ _ h1 h2
  · exact absurd (show (1 : Int) < 0 from h2) (by decide)
  · exact absurd (show (1 : Int) < 0 from h1) (by decide)
  · exact absurd (show (1 : Int) < 0 from h1) (by decide)
  · show (-1 : Int) < 0; decide
  · exact absurd (show (1 : Int) < 0 from h2) (by decide)
  · show (-1 : Int) < 0; decide
  · refine lex_trans (fun h k => ci_trans h k) ?_ ?_ (fun _ _ h k => cb_trans _ _ _ h k) h1 h2
    · intro h; rw [(ci_zero _ _).1 h]
    · intro h; rw [(ci_zero _ _).1 h]
theorem ordPs_trans : ∀ (a b c : List (List UInt8)), ordPs a b < 0 → ordPs b c < 0 → ordPs a c < 0
  | [], [], _, h, _ => by simp [ordPs] at h
  | [], _ :: _, [], _, h => by simp [ordPs] at h
  | [], _ :: _, _ :: _, _, _ => by simp [ordPs]
  | _ :: _, [], _, h, _ => by simp [ordPs] at h
  | _ :: _, _ :: _, [], _, h => by simp [ordPs] at h
  | x :: a, y :: b, z :: c, h1, h2 => by
    unfold ordPs at h1 h2 ⊢
    refine lex_trans (fun h k => ordPart_trans h k) ?_ ?_ (fun _ _ h k => ordPs_trans a b c h k) h1 h2
    · intro h; rw [(ordPart_zero _ _).1 h]
    · intro h; rw [(ordPart_zero _ _).1 h]
theorem ordPre_trans {a b c : List (List UInt8)} (h1 : ordPre a b < 0) (h2 : ordPre b c < 0) : ordPre a c < 0 := by
  unfold ordPre at *
  by_cases ha : a = []
  · subst ha
    rw [if_pos (Or.inl rfl)] at h1
    exfalso
    have : ¬ Lib.compareInt (b.length : Int) (([] : List (List UInt8)).length : Int) < 0 := by
      unfold Lib.compareInt
      split
      · rename_i h; simp at h; omega
      · split <;> omega
    exact this h1
  · by_cases hb : b = []
    · subst hb
      rw [if_pos (Or.inl rfl)] at h2
      exfalso
      have : ¬ Lib.compareInt (c.length : Int) (([] : List (List UInt8)).length : Int) < 0 := by
        unfold Lib.compareInt
        split
        · rename_i h; simp at h; omega
        · split <;> omega
      exact this h2
    · by_cases hc : c = []
      · subst hc
        rw [if_pos (Or.inr rfl)]
        rw [ci_lt (by have := List.length_pos_iff.2 ha; simp; omega)]; decide
      · rw [if_neg (by rintro (h | h); exact ha h; exact hb h)] at h1
        rw [if_neg (by rintro (h | h); exact hb h; exact hc h)] at h2
        rw [if_neg (by rintro (h | h); exact ha h; exact hc h)]
        exact ordPs_trans a b c h1 h2
theorem ordV_trans {s t u : List UInt8} (h1 : ordV s t < 0) (h2 : ordV t u < 0) : ordV s u < 0 := by
  unfold ordV ordN at *
  refine lex_trans (fun h k => ci_trans h k) ?_ ?_ (fun _ _ => lex_trans (fun h k => ci_trans h k) ?_ ?_ (fun _ _ => lex_trans (fun h k => ci_trans h k) ?_ ?_ (fun _ _ h k => ordPre_trans h k))) h1 h2
  all_goals (intro h; rw [(ci_zero _ _).1 h])
theorem ordV_irr {s t : List UInt8} (h : ordV s t < 0) : ¬ ordV t s < 0 := by rw [ordV_swap s t]; omega

/-- Each is less than those behind it. -/
def rises (l : List (List UInt8)) : Prop := l.Pairwise fun s t => ordV s t < 0
theorem rises_same : ∀ (a b : List (List UInt8)), rises a → rises b → (∀ x, x ∈ a ↔ x ∈ b) → a = b
  | [], [], _, _, _ => rfl
  | [], y :: _, _, _, h => absurd ((h y).2 (by simp)) (by simp)
  | x :: _, [], _, _, h => absurd ((h x).1 (by simp)) (by simp)
  | x :: a, y :: b, ha, hb, h => by
    obtain ⟨ha1, ha2⟩ := List.pairwise_cons.1 ha
    obtain ⟨hb1, hb2⟩ := List.pairwise_cons.1 hb
    have exy : x = y := by
      rcases List.mem_cons.1 ((h x).1 (by simp)) with e | e
      · exact e
      · rcases List.mem_cons.1 ((h y).2 (by simp)) with k | k
        · exact k.symm
        · exact absurd (hb1 x e) (ordV_irr (ha1 y k))
    subst exy
    have hxa : x ∉ a := fun k => ordV_irr (ha1 x k) (ha1 x k)
    have hxb : x ∉ b := fun k => ordV_irr (hb1 x k) (hb1 x k)
    rw [rises_same a b ha2 hb2 (fun z => ⟨fun k => by
      rcases List.mem_cons.1 ((h z).1 (List.mem_cons_of_mem _ k)) with e | e
      · subst e; exact absurd k hxa
      · exact e, fun k => by
      rcases List.mem_cons.1 ((h z).2 (List.mem_cons_of_mem _ k)) with e | e
      · subst e; exact absurd k hxb
      · exact e⟩)]
end Ve
end Go.Proofs.YtjhiajeeijfkeaaGreatDoor

/-
  An index that is right, plain: its modules are unlike, and rise.
-/
namespace Go.Proofs.YtjhiajeeijfkeaaGreatDoor
open Go.RowKit
namespace Ve

/-! The index. -/
theorem mAhead_trans {a b c : Bm} (h1 : mAhead a b = true) (h2 : mAhead b c = true) : mAhead a c = true := by
  unfold mAhead aheadB at *
  by_cases e1 : a.1.data.toList = b.1.data.toList
  · rw [if_pos e1] at h1
    rw [e1]
    by_cases e2 : b.1.data.toList = c.1.data.toList
    · rw [if_pos e2] at h2 ⊢
      unfold lessB at *
      simp only [Bool.and_eq_true, decide_eq_true_eq] at *
      exact ⟨h1.1, h2.2.1, ordV_trans h1.2.2 h2.2.2⟩
    · rw [if_neg e2] at h2 ⊢; exact h2
  · rw [if_neg e1] at h1
    by_cases e2 : b.1.data.toList = c.1.data.toList
    · rw [← e2, if_neg e1]; exact h1
    · rw [if_neg e2] at h2
      have h3 := cbt _ _ _ (of_decide_eq_true h1) (of_decide_eq_true h2)
      by_cases e3 : a.1.data.toList = c.1.data.toList
      · rw [e3] at h3
        have := lt_irrefl c.1
        unfold lt at this
        exact absurd h3 (of_decide_eq_false this)
      · rw [if_neg e3]; exact decide_eq_true h3
theorem mAhead_irr (a : Bm) : mAhead a a = false := by
  unfold mAhead aheadB
  rw [if_pos rfl]
  unfold lessB
  have : ¬ ordV a.2.data.toList a.2.data.toList < 0 := fun h => ordV_irr h h
  rw [decide_eq_false this, Bool.and_false, Bool.and_false]
/-- What a right index gives. -/
theorem chk_each0 {Q : List Raw} {L : List Ent} (h : (chk Q L).1 = 0) : L.length ≤ 100 ∧ ∀ i, i < L.length → entE L i = 0 := by
  by_cases h1 : 100 < L.length
  · rw [chk_full h1] at h; exact absurd h (by decide)
  · refine ⟨by omega, ?_⟩
    cases hf : fstE (entE L) L.length with
    | some i =>
      rw [chk_each h1 hf] at h
      exact absurd h (fstE_of_some hf).2.1
    | none => exact fstE_of_none hf
theorem entE_mod {L : List Ent} {i : Nat} (hi : i < L.length) (h : entE L i = 0) : mErr L[i].1 = 0 := by
  by_cases hm : mErr L[i].1 = 0
  · exact hm
  · unfold entE at h
    rw [List.getElem?_eq_getElem hi] at h
    simp only at h
    rw [entW_bad hm] at h
    exact absurd h hm
theorem entE_ahead {L : List Ent} {k : Nat} (hk : k + 1 < L.length) (h : entE L (k + 1) = 0) : mAhead (L[k]'(by omega)).1 L[k + 1].1 = true := by
  have hm := entE_mod hk h
  rw [entE_1 hk] at h
  cases ha : mAhead (L[k]'(by omega)).1 L[k + 1].1
  · rw [entW_order hm ha] at h; exact absurd h (by decide)
  · rfl
theorem ahead_all {L : List Ent} (h : ∀ i, i < L.length → entE L i = 0) : ∀ (d i : Nat) (hi : i + d + 1 < L.length), mAhead (L[i]'(by omega)).1 (L[i + d + 1]'hi).1 = true
  | 0, i, hi => entE_ahead hi (h _ hi)
  | d + 1, i, hi => mAhead_trans (ahead_all h d i (by omega)) (entE_ahead (k := i + d + 1) hi (h _ hi))
/-- An index that is right. -/
structure Good (Q : List Raw) : Prop where
  ver : ∀ r, r ∈ Q → verErr r.1.2.data.toList = 0
  path : ∀ r, r ∈ Q → pathErr r.1.1.data.toList = 0
  one : ∀ i j (hi : i < Q.length) (hj : j < Q.length), Q[i].1 = Q[j].1 → i = j
theorem mErr_zero {m : Bm} (h : mErr m = 0) : pathErr m.1.data.toList = 0 ∧ verErr m.2.data.toList = 0 := by
  unfold mErr modErr at h
  by_cases h0 : pathErr m.1.data.toList = 0
  · rw [if_pos h0] at h
    by_cases h1 : verErr m.2.data.toList = 0
    · exact ⟨h0, h1⟩
    · rw [if_neg h1] at h; exact absurd h h1
  · rw [if_neg h0] at h; exact absurd h h0
theorem good_of {w : World} {v : Value} {Q : List Raw} {L : List Ent} (I : Ixs w v Q L) (h : (chk Q L).1 = 0) : Good Q := by
  obtain ⟨_, he⟩ := chk_each0 h
  have hm : ∀ i (hi : i < Q.length), Q[i].1 = (L[i]'(by rw [← I.ln]; exact hi)).1 := fun i hi => (I.ok i hi (by rw [← I.ln]; exact hi)).m
  have hz : ∀ i (hi : i < Q.length), pathErr Q[i].1.1.data.toList = 0 ∧ verErr Q[i].1.2.data.toList = 0 := fun i hi => by
    rw [hm i hi]; exact mErr_zero (entE_mod _ (he i (by rw [← I.ln]; exact hi)))
  refine ⟨fun r hr => ?_, fun r hr => ?_, ?_⟩
  · obtain ⟨i, hi, rfl⟩ := List.getElem_of_mem hr
    exact (hz i hi).2
  · obtain ⟨i, hi, rfl⟩ := List.getElem_of_mem hr
    exact (hz i hi).1
  · have key : ∀ i j (hi : i < Q.length) (hj : j < Q.length), i < j → Q[i].1 ≠ Q[j].1 := fun i j hi hj hij e => by
      have ha := ahead_all he (j - i - 1) i (by rw [← I.ln]; omega)
      have hjj : i + (j - i - 1) + 1 = j := by omega
      simp only [hjj] at ha
      rw [← hm i hi, ← hm j hj, e, mAhead_irr] at ha
      cases ha
    intro i j hi hj e
    rcases Nat.lt_trichotomy i j with h1 | h1 | h1
    · exact absurd e (key i j hi hj h1)
    · exact h1
    · exact absurd e.symm (key j i hj hi h1)
theorem Good.same {Q : List Raw} (g : Good Q) {r s : Raw} (hr : r ∈ Q) (hs : s ∈ Q) (h : r.1 = s.1) : r = s := by
  obtain ⟨i, hi, rfl⟩ := List.getElem_of_mem hr
  obtain ⟨j, hj, rfl⟩ := List.getElem_of_mem hs
  have := g.one i j hi hj h
  subst this; rfl
/-- The entry of a module is found. -/
theorem Good.find {Q : List Raw} (g : Good Q) {r : Raw} (hr : r ∈ Q) : ∃ n, ∃ hn : n < Q.length, idxOf (isM r.1) Q = (n : Int) ∧ Q[n] = r := by
  obtain ⟨i, hi, e⟩ := List.getElem_of_mem hr
  refine ⟨i, hi, idx_hit hi (fun j hj hji => ?_) (by rw [e]; unfold isM; simp), e⟩
  unfold isM
  rw [decide_eq_false]
  rintro ⟨h1, h2⟩
  have := g.one j i hj hi (by rw [e]; exact Prod.ext h1 h2)
  omega
end Ve
end Go.Proofs.YtjhiajeeijfkeaaGreatDoor

/-
  Modules joined, plain: of each path the greatest version, paths rising; what is under what.
-/
namespace Go.Proofs.YtjhiajeeijfkeaaGreatDoor
open Go.RowKit
namespace Ve

/-- A version's bytes. -/
abbrev vb (m : Bm) : List UInt8 := m.2.data.toList
theorem ahead_same {a b : Bm} (h : a.1 = b.1) : mAhead a b = lessB (vb a) (vb b) := by
  unfold mAhead aheadB
  rw [if_pos (by rw [h])]
theorem ahead_other {a b : Bm} (h : a.1 ≠ b.1) : mAhead a b = lt a.1 b.1 := by
  unfold mAhead aheadB
  rw [if_neg (fun e => h (str_ext e))]
  rfl
theorem less_right {s t : List UInt8} (hs : verErr s = 0) (ht : verErr t = 0) : lessB s t = decide (ordV s t < 0) := by
  unfold lessB
  simp [hs, ht]
/-- How newestFirst orders two: paths rising, versions falling. -/
def nfC (a b : Bm) : Int := if a.1 = b.1 then (if mAhead b a then -1 else if mAhead a b then 1 else 0) else Lib.compareBytes a.1.data.toList b.1.data.toList
/-- A right module of fitting length. -/
structure Rt (m : Bm) : Prop where
  ok : mErr m = 0
  p : m.1.size < 999999
  v : m.2.size < 999999
theorem Rt.ver {m : Bm} (h : Rt m) : verErr (vb m) = 0 := (mErr_zero h.ok).2
theorem nf_lt {a b : Bm} (ha : Rt a) (hb : Rt b) : nfC a b < 0 ↔ (lt a.1 b.1 = true ∨ (a.1 = b.1 ∧ ordV (vb b) (vb a) < 0)) := by
  unfold nfC
  by_cases h : a.1 = b.1
  · rw [if_pos h, ahead_same h.symm, ahead_same h, less_right hb.ver ha.ver, less_right ha.ver hb.ver]
    have hl : ¬ lt a.1 b.1 = true := by rw [h, lt_irrefl]; simp
    by_cases h1 : ordV (vb b) (vb a) < 0
    · simp [h1, h]
    · by_cases h2 : ordV (vb a) (vb b) < 0
      · simp [h1, h2, hl]
      · simp [h1, h2, hl]
  · rw [if_neg h]
    unfold lt
    simp [h]
theorem ordV_le_trans {s t u : List UInt8} (hs : verErr s = 0) (ht : verErr t = 0) (hu : verErr u = 0) (h1 : ordV s t ≤ 0) (h2 : ordV t u ≤ 0) : ordV s u ≤ 0 := by
  rcases Int.lt_or_eq_of_le h1 with a | a
  · rcases Int.lt_or_eq_of_le h2 with b | b
    · exact Int.le_of_lt (ordV_trans a b)
    · rw [← (ordV_zero ht hu).1 b]; exact h1
  · rw [(ordV_zero hs ht).1 a]; exact h2
theorem ordV_total {s t : List UInt8} (h : ¬ ordV s t < 0) : ordV t s ≤ 0 := by rw [ordV_swap s t]; omega
/-- What is not behind: the sort's own order, weakly. -/
def nfW (a b : Bm) : Prop := lt a.1 b.1 = true ∨ (a.1 = b.1 ∧ ordV (vb b) (vb a) ≤ 0)
theorem nf_not {a b : Bm} (ha : Rt a) (hb : Rt b) (h : ¬ nfC b a < 0) : nfW a b := by
  rw [nf_lt hb ha] at h
  rcases lt_three a.1 b.1 with h1 | h1 | h1
  · exact Or.inl h1
  · refine Or.inr ⟨h1, ordV_total fun h2 => h (Or.inr ⟨h1.symm, h2⟩)⟩
  · exact absurd (Or.inl h1) h
theorem nf_irr {a : Bm} (ha : Rt a) : ¬ nfC a a < 0 := by
  rw [nf_lt ha ha]
  rintro (h | ⟨_, h⟩)
  · rw [lt_irrefl] at h; cases h
  · rw [(ordV_zero ha.ver ha.ver).2 rfl] at h; omega
theorem nf_trans {a b c : Bm} (ha : Rt a) (hb : Rt b) (hc : Rt c) (h1 : nfC a b < 0) (h2 : nfC b c < 0) : nfC a c < 0 := by
  rw [nf_lt ha hb] at h1
  rw [nf_lt hb hc] at h2
  rw [nf_lt ha hc]
  rcases h1 with h1 | ⟨e1, h1⟩
  · rcases h2 with h2 | ⟨e2, h2⟩
    · exact Or.inl (lt_trans h1 h2)
    · rw [← e2]; exact Or.inl h1
  · rcases h2 with h2 | ⟨e2, h2⟩
    · rw [e1]; exact Or.inl h2
    · exact Or.inr ⟨e1.trans e2, ordV_trans h2 h1⟩
theorem nfW_trans {a b c : Bm} (ha : Rt a) (hb : Rt b) (hc : Rt c) (h1 : nfW a b) (h2 : nfW b c) : nfW a c := by
  rcases h1 with h1 | ⟨e1, h1⟩
  · rcases h2 with h2 | ⟨e2, h2⟩
    · exact Or.inl (lt_trans h1 h2)
    · rw [nfW, ← e2]; exact Or.inl h1
  · rcases h2 with h2 | ⟨e2, h2⟩
    · rw [nfW, e1]; exact Or.inl h2
    · exact Or.inr ⟨e1.trans e2, ordV_le_trans hc.ver hb.ver ha.ver h2 h1⟩
theorem nfW_not {a b : Bm} (ha : Rt a) (hb : Rt b) (h : nfW a b) : ¬ nfC b a < 0 := by
  rw [nf_lt hb ha]
  rintro (h2 | ⟨e, h2⟩)
  · rcases h with h | ⟨e, _⟩
    · rw [lt_asymm h] at h2; cases h2
    · rw [e, lt_irrefl] at h2; cases h2
  · rcases h with h | ⟨_, h⟩
    · rw [e, lt_irrefl] at h; cases h
    · rw [ordV_swap (vb b) (vb a)] at h2; omega

/-- E is what is joined of D: of each path the greatest of the right ones, paths rising. -/
structure Jn (D E : List Bm) : Prop where
  ri : rising E
  sub : ∀ e, e ∈ E → e ∈ D ∧ mErr e = 0
  top : ∀ x, x ∈ D → mErr x = 0 → ∃ e, e ∈ E ∧ e.1 = x.1 ∧ ordV (vb x) (vb e) ≤ 0
theorem rising_same {E : List Bm} (h : rising E) {a b : Bm} (ha : a ∈ E) (hb : b ∈ E) (e : a.1 = b.1) : a = b := by
  obtain ⟨i, hi, rfl⟩ := List.getElem_of_mem ha
  obtain ⟨j, hj, rfl⟩ := List.getElem_of_mem hb
  have hp := List.pairwise_iff_getElem.1 h
  rcases Nat.lt_trichotomy i j with h1 | h1 | h1
  · have := hp i j hi hj h1
    rw [e, lt_irrefl] at this; cases this
  · subst h1; rfl
  · have := hp j i hj hi h1
    rw [e, lt_irrefl] at this; cases this
/-- Paths that rise: one row of the same modules alone. -/
theorem rising_ext : ∀ {E F : List Bm}, rising E → rising F → (∀ m, m ∈ E ↔ m ∈ F) → E = F
  | [], [], _, _, _ => rfl
  | [], f :: F, _, _, h => by have := (h f).2 (by simp); cases this
  | e :: E, [], _, _, h => by have := (h e).1 (by simp); cases this
  | e :: E, f :: F, hE, hF, h => by
    obtain ⟨hE1, hE2⟩ := List.pairwise_cons.1 hE
    obtain ⟨hF1, hF2⟩ := List.pairwise_cons.1 hF
    have hef : e = f := by
      rcases List.mem_cons.1 ((h e).1 (by simp)) with a | a
      · exact a
      · rcases List.mem_cons.1 ((h f).2 (by simp)) with b | b
        · exact b.symm
        · have h1 := hF1 e a
          have h2 := hE1 f b
          rw [lt_asymm h1] at h2; cases h2
    subst hef
    have : E = F := rising_ext hE2 hF2 fun m => by
      constructor
      · intro hm
        rcases List.mem_cons.1 ((h m).1 (List.mem_cons_of_mem _ hm)) with a | a
        · subst a; have := hE1 m hm; rw [lt_irrefl] at this; cases this
        · exact a
      · intro hm
        rcases List.mem_cons.1 ((h m).2 (List.mem_cons_of_mem _ hm)) with a | a
        · subst a; have := hF1 m hm; rw [lt_irrefl] at this; cases this
        · exact a
    rw [this]
theorem ver_same {a b : Bm} (ha : mErr a = 0) (hb : mErr b = 0) (e : a.1 = b.1) (h1 : ordV (vb a) (vb b) ≤ 0) (h2 : ordV (vb b) (vb a) ≤ 0) : a = b := by
  have h0 : ordV (vb a) (vb b) = 0 := by rw [ordV_swap (vb a) (vb b)] at h2; omega
  have := (ordV_zero (mErr_zero ha).2 (mErr_zero hb).2).1 h0
  exact Prod.ext e (str_ext this)
/-- What is joined is one row: of the same modules, the same. -/
theorem Jn.one {D D' E F : List Bm} (hE : Jn D E) (hF : Jn D' F) (h : ∀ m, mErr m = 0 → (m ∈ D ↔ m ∈ D')) : E = F := by
  refine rising_ext hE.ri hF.ri fun m => ?_
  have go : ∀ {D D' E F : List Bm}, Jn D E → Jn D' F → (∀ m, mErr m = 0 → (m ∈ D ↔ m ∈ D')) → ∀ m, m ∈ E → m ∈ F := by
    intro D D' E F hE hF h m hm
    obtain ⟨h1, h2⟩ := hE.sub m hm
    obtain ⟨f, hf, e1, h3⟩ := hF.top m ((h m h2).1 h1) h2
    obtain ⟨h4, h5⟩ := hF.sub f hf
    obtain ⟨g, hg, e2, h6⟩ := hE.top f ((h f h5).2 h4) h5
    have hgm : g = m := rising_same hE.ri hg hm (e2.trans e1)
    subst hgm
    rw [ver_same h2 h5 e1.symm h3 h6]; exact hf
  exact ⟨go hE hF h m, go hF hE (fun m hm => (h m hm).symm) m⟩
/-- The first of a path. -/
def atP (B : List Bm) (p : ByteArray) : Option Bm := B.find? fun x => decide (x.1 = p)
/-- Has B the path, in no less a version? -/
def hasV (B : List Bm) (m : Bm) : Bool := match atP B m.1 with
  | none => false
  | some x => !lessB (vb x) (vb m)
/-- Under. -/
def undB (A B : List Bm) : Bool := A.all (hasV B)
theorem atP_rising {E : List Bm} (h : rising E) {e : Bm} (he : e ∈ E) : atP E e.1 = some e := by
  unfold atP
  cases hf : E.find? fun x => decide (x.1 = e.1) with
  | none =>
    have := List.find?_eq_none.1 hf e he
    simp at this
  | some x =>
    have h1 := List.find?_some hf
    have h2 := List.mem_of_find?_eq_some hf
    have h3 : x.1 = e.1 := by simpa using h1
    rw [rising_same h h2 he h3]
theorem hasV_rising {E : List Bm} (h : rising E) {e m : Bm} (he : e ∈ E) (hp : e.1 = m.1) : hasV E m = !lessB (vb e) (vb m) := by
  unfold hasV
  rw [← hp, atP_rising h he]
theorem hasV_of {E : List Bm} (h : rising E) {e m : Bm} (he : e ∈ E) (hp : e.1 = m.1) (ho : ordV (vb m) (vb e) ≤ 0) : hasV E m = true := by
  rw [hasV_rising h he hp]
  unfold lessB
  have : ¬ ordV (vb e) (vb m) < 0 := by rw [ordV_swap (vb m) (vb e)]; omega
  simp [this]
/-- What is joined is over what it is joined of. -/
theorem Jn.over {D E A : List Bm} (h : Jn D E) (hA : ∀ m, m ∈ A → m ∈ D ∧ mErr m = 0) : undB A E = true := by
  unfold undB
  rw [List.all_eq_true]
  intro m hm
  obtain ⟨h1, h2⟩ := hA m hm
  obtain ⟨e, he, e1, e2⟩ := h.top m h1 h2
  exact hasV_of h.ri he e1 e2
/-- Under what is over both. -/
theorem Jn.least {D E C : List Bm} (h : Jn D E) (hD : ∀ m, m ∈ D → hasV C m = true) : undB E C = true := by
  unfold undB
  rw [List.all_eq_true]
  exact fun m hm => hD m (h.sub m hm).1
end Ve
end Go.Proofs.YtjhiajeeijfkeaaGreatDoor

/-
  Elements, suffixes and slashes (plain): an element told byte by byte; the last slash; the text in two. No Go here.
-/
namespace Go.Proofs.YtjhiajeeijfkeaaGreatDoor
namespace Ve

theorem dw_nil (p : UInt8 → Bool) : ∀ l : List UInt8, l.dropWhile p = [] ↔ ∀ x, x ∈ l → p x = true
  | [] => by simp
  | b :: r => by
    rw [List.dropWhile_cons]
    cases hb : p b
    · simp [hb]
    · simp [hb, dw_nil p r]
theorem trim_nil (l : List UInt8) : (Lib.trimB l 46 == []) = l.all (· == 46) := by
  have key : Lib.trimB l 46 = [] ↔ ∀ x, x ∈ l → x = 46 := by
    unfold Lib.trimB Lib.trimLeftB Lib.trimRightB
    constructor
    · intro h x hx
      have h1 : ∀ y, y ∈ (l.reverse.dropWhile (· == 46)).reverse → y = 46 := by
        intro y hy
        have := (dw_nil _ _).1 h y hy
        simpa using this
      have h2 : l.reverse.dropWhile (· == 46) = [] := by
        cases e : l.reverse.dropWhile (· == 46) with
        | nil => rfl
        | cons b r =>
          exfalso
          have hb : b = 46 := h1 b (by rw [e]; simp)
          have := List.head_dropWhile_not (· == 46) (l := l.reverse) (by rw [e]; simp)
          simp [e, hb] at this
      have := (dw_nil _ _).1 h2 x (by simpa using hx)
      simpa using this
    · intro h
      have h2 : l.reverse.dropWhile (· == 46) = [] := (dw_nil _ _).2 (fun x hx => by simpa using h x (by simpa using hx))
      rw [h2]; rfl
  rw [Bool.eq_iff_iff]
  simp only [beq_iff_eq, key, List.all_eq_true]
theorem three_iff (l : List UInt8) : Lib.contains l [46, 46, 46] = true ↔ ∃ k, 2 ≤ k ∧ k < l.length ∧ (l.drop (k - 2)).take 3 = [46, 46, 46] := by
  have hocc : ∀ i, Lib.occAt l [46, 46, 46] i = true ↔ (l.drop i).take 3 = [46, 46, 46] := by
    intro i
    unfold Lib.occAt
    rw [List.isPrefixOf_iff_prefix]
    constructor
    · rintro ⟨t, ht⟩
      rw [← ht]; rfl
    · intro h
      exact ⟨(l.drop i).drop 3, by rw [← h, List.take_append_drop]⟩
  unfold Lib.contains
  rw [decide_eq_true_iff]
  rcases Lib.index_spec l [46, 46, 46] with ⟨h1, h2⟩ | ⟨i, h1, h2, h3, h4⟩
  · constructor
    · intro h; omega
    · rintro ⟨k, hk2, hkl, h⟩
      have := h2 (k - 2) (by omega)
      rw [(hocc (k - 2)).2 h] at this
      cases this
  · constructor
    · intro _
      have h5 := (hocc i).1 h3
      have h6 := congrArg List.length h5
      simp at h6
      exact ⟨i + 2, by omega, by omega, by simpa using h5⟩
    · intro _; omega
/-- What an element's bytes up to k have shown: all may be there, no three dots. -/
def seenOk (l : List UInt8) (k : Nat) : Prop := (l.take k).all el = true ∧ ∀ j, 2 ≤ j → j < k → (l.drop (j - 2)).take 3 ≠ [46, 46, 46]
theorem seen_all {l : List UInt8} (h : seenOk l l.length) : elemOk l = !l.all (· == 46) := by
  unfold elemOk
  rw [trim_nil]
  have h1 : allEl l = true := by have := h.1; rw [List.take_length] at this; exact this
  have h2 : Lib.contains l [46, 46, 46] = false := by
    cases e : Lib.contains l [46, 46, 46]
    · rfl
    · obtain ⟨k, a, b, c⟩ := (three_iff l).1 e
      exact absurd c (h.2 k a b)
  rw [h1, h2]; simp
theorem seen_bad {l : List UInt8} {k : Nat} (hk : k < l.length) (h : el l[k] = false) : elemOk l = false := by
  have : allEl l = false := by
    cases e : allEl l
    · rfl
    · have := List.all_eq_true.1 e l[k] (List.getElem_mem hk)
      rw [h] at this; cases this
  unfold elemOk
  rw [this]; simp
theorem seen_three {l : List UInt8} {k : Nat} (h2 : 2 ≤ k) (hk : k < l.length) (h : (l.drop (k - 2)).take 3 = [46, 46, 46]) : elemOk l = false := by
  have : Lib.contains l [46, 46, 46] = true := (three_iff l).2 ⟨k, h2, hk, h⟩
  unfold elemOk
  rw [this]; simp
theorem seen_next {l : List UInt8} {k : Nat} (hs : seenOk l k) (hk : k < l.length) (h : el l[k] = true) (h3 : 2 ≤ k → (l.drop (k - 2)).take 3 ≠ [46, 46, 46]) : seenOk l (k + 1) := by
  refine ⟨?_, fun j h2 hj => ?_⟩
  · rw [List.take_succ_eq_append_getElem hk, all_snoc, hs.1, h]; rfl
  · by_cases e : j = k
    · subst e; exact h3 h2
    · exact hs.2 j h2 (by omega)
theorem dots_next {l : List UInt8} {k : Nat} (hk : k < l.length) : (l.take (k + 1)).all (· == 46) = ((l.take k).all (· == 46) && l[k] == 46) := by
  rw [List.take_succ_eq_append_getElem hk, all_snoc]

/-- suffixOf: the number of a suffix; nought: none; -1: like one, and none. -/
def sufV (l : List UInt8) : Int := if likeB l then (if sufOk l then (num (restOf l)).1 else -1) else 0
theorem suf_pos {l : List UInt8} (h : sufOk l = true) : 2 ≤ (num (restOf l)).1 := by
  unfold sufOk at h
  simp only [Bool.and_eq_true, decide_eq_true_eq] at h
  exact h.2

theorem cut_app (c : UInt8) (b : List UInt8) (hb : b.contains c = false) : ∀ a : List UInt8, cutAt c (a ++ c :: b) = cutAt c a ++ [b]
  | [] => by
    show cutAt c (c :: b) = [[]] ++ [b]
    rw [cutAt, if_pos rfl, cut_last c b hb]; rfl
  | x :: a => by
    show cutAt c (x :: (a ++ c :: b)) = cutAt c (x :: a) ++ [b]
    rw [cutAt, cutAt, cut_app c b hb a]
    by_cases hx : x = c
    · rw [if_pos hx, if_pos hx]; rfl
    · rw [if_neg hx, if_neg hx]
      cases e : cutAt c a with
      | nil => exact absurd e (cutAt_ne c a)
      | cons y r => rfl
theorem slash_split {l : List UInt8} {k : Nat} (hk : k < l.length) (h : l[k] = 47) (hn : ∀ j (hj : j < l.length), k < j → l[j] ≠ 47) :
    elems l = elems (l.take k) ++ [l.drop (k + 1)] := by
  have hb : (l.drop (k + 1)).contains 47 = false := by
    cases e : (l.drop (k + 1)).contains 47
    · rfl
    · exfalso
      have hm : (47 : UInt8) ∈ l.drop (k + 1) := by simpa using e
      obtain ⟨i, hi, e2⟩ := List.mem_iff_getElem.1 hm
      rw [List.getElem_drop] at e2
      exact hn (k + 1 + i) (by simp at hi; omega) (by omega) e2
  have e1 : l = l.take k ++ 47 :: l.drop (k + 1) := by
    have h2 := List.take_append_drop k l
    rw [← List.getElem_cons_drop (h := hk), h] at h2
    exact h2.symm
  have h3 := cut_app 47 (l.drop (k + 1)) hb (l.take k)
  rw [← e1] at h3
  exact h3
theorem slash_last {l : List UInt8} {k : Nat} (h : elems l = elems (l.take k) ++ [l.drop (k + 1)]) : 1 < (elems l).length ∧ lastOf l = l.drop (k + 1) ∧ Lib.join ((elems l).take ((elems l).length - 1)) [47] = l.take k := by
  have hp := elems_pos (l.take k)
  have hl : (elems l).length = (elems (l.take k)).length + 1 := by rw [h]; simp
  refine ⟨by omega, ?_, ?_⟩
  · unfold lastOf
    rw [hl, h]
    simp
  · rw [hl, h]
    simp only [Nat.add_sub_cancel, List.take_left']
    exact join_cut 47 _
theorem slash_none {l : List UInt8} (hn : ∀ j (hj : j < l.length), l[j] ≠ 47) : elems l = [l] := by
  refine cut_last 47 l ?_
  cases e : l.contains 47
  · rfl
  · exfalso
    have hm : (47 : UInt8) ∈ l := by simpa using e
    obtain ⟨i, hi, e2⟩ := List.mem_iff_getElem.1 hm
    exact hn i hi e2

theorem cut_len (c : UInt8) : ∀ l : List UInt8, (cutAt c l).length = l.count c + 1
  | [] => by simp [cutAt]
  | b :: l => by
    unfold cutAt
    by_cases h : b = c
    · rw [if_pos h, h, List.count_cons_self]; simp [cut_len c l]
    · rw [if_neg h, ahead_len b _ (cutAt_ne c l), cut_len c l, List.count_cons_of_ne (by simpa using h)]
theorem cut_two (c : UInt8) (l : List UInt8) (h : l.count c = 1) : cutAt c l = [(one c l).1, (one c l).2.1] := by
  have hm : c ∈ l := List.count_pos_iff.1 (by omega)
  have h2 : (one c l).2.2 = true := by show l.contains c = true; simpa using hm
  have hb := one_back h2
  have hn : (one c l).1.contains c = false := by
    obtain ⟨j, hj, _, hlt, e1, _⟩ := one_yes (c := c) (l := l) h2
    rw [e1]
    cases e : (l.take j).contains c
    · rfl
    · exfalso
      have hm : c ∈ l.take j := by simpa using e
      obtain ⟨i, hi, e2⟩ := List.mem_iff_getElem.1 hm
      rw [List.getElem_take] at e2
      simp at hi
      exact hlt i (by omega) (by omega) e2
  have hn2 : (one c l).2.1.contains c = false := by
    cases e : (one c l).2.1.contains c
    · rfl
    · exfalso
      have hm : c ∈ (one c l).2.1 := by simpa using e
      have := List.count_pos_iff.2 hm
      rw [hb, List.count_append, List.count_cons_self] at h
      omega
  have h3 : cutAt c ((one c l).1 ++ c :: (one c l).2.1) = [(one c l).1, (one c l).2.1] := by
    rw [cut_step c _ _ hn, cut_last c _ hn2]
  rw [← hb] at h3
  exact h3
end Ve
end Go.Proofs.YtjhiajeeijfkeaaGreatDoor

/-
  What the document's answer says of an element's suffix (suffixOf).
-/
namespace Go.Proofs.YtjhiajeeijfkeaaGreatDoor
open Go.RowKit
namespace Ve

theorem rcut47 (s : ByteArray) (w : World) (hs : s.size < 4294967281) :
    Calls Tryz.prog 62 #[.string s, .int .u8 47] w fun e w' => ∃ v X, e = .returned v ∧ bl X = elems s.data.toList ∧ w'.ownsRow w.heap.size 9 1 v X.length (X.map Value.string) ∧ Below w.heap.size w w' := rcut_any s 47 w hs
theorem rcut64 (s : ByteArray) (w : World) (hs : s.size < 4294967281) :
    Calls Tryz.prog 62 #[.string s, .int .u8 64] w fun e w' => ∃ v X, e = .returned v ∧ bl X = cutAt 64 s.data.toList ∧ w'.ownsRow w.heap.size 9 1 v X.length (X.map Value.string) ∧ Below w.heap.size w w' := rcut_any s 64 w hs

theorem unmarked {s : ByteArray} (hp : 0 < s.size) (h : marked s.data.toList = false) : ((s[0].toNat : Int) == 118) = false := by
  unfold marked at h
  rw [List.headD_eq_head?_getD, List.head?_eq_getElem?, List.getElem?_eq_getElem (by simpa using hp)] at h
  simp only [Option.getD_some, beq_eq_false_iff_ne] at h
  have h2 : s[0] ≠ 118 := h
  refine beq_eq_false_iff_ne.2 fun e => h2 ?_
  apply UInt8.toNat_inj.1
  have : (118 : UInt8).toNat = 118 := rfl
  omega

set_option maxHeartbeats 1000000 in
theorem suffixOf_any (s : ByteArray) (w : World) (hs : s.size ≤ maxLen) :
    Calls Tryz.prog 63 #[.string s] w fun e w' => e = .returned (.int .i64 (sufV s.data.toList)) ∧ w' = w := by
  have HV := hid (show sufV s.data.toList = if likeB s.data.toList then (if sufOk s.data.toList then (num (restOf s.data.toList)).1 else -1) else 0 from rfl)
  have HO := hid (show sufOk s.data.toList = (decide ((num (restOf s.data.toList)).2 = 0) && decide (2 ≤ (num (restOf s.data.toList)).1)) from rfl)
  have HL := hid (show likeB s.data.toList = (marked s.data.toList && digs (restOf s.data.toList)) from rfl)
  have hsz : s.size ≤ 9223372036854775807 := hs
  by_cases h2 : s.size < 2
  · have hk : likeB s.data.toList = false := by
      rw [HL.out]
      cases hm : marked s.data.toList
      · rfl
      · have hd : restOf s.data.toList = [] := by rw [rest_drop hm]; exact List.length_eq_zero_iff.1 (by simp; omega)
        rw [hd]; rfl
    rw [hk] at HV
    clear hk
    go_enter Tryz.func63, Tryz.ntmps63
    go_wp2_with fail
    go_ret
    exact ⟨by rw [HV.out]; rfl, rfl⟩
  · have hpos : 0 < s.size := by omega
    cases hm : marked s.data.toList
    · have h0 := unmarked hpos hm
      rw [HL.out, hm] at HV
      clear hm
      go_enter Tryz.func63, Tryz.ntmps63
      go_wp2_with fail
      go_ret
      exact ⟨by rw [HV.out]; rfl, rfl⟩
    · obtain ⟨_, h0⟩ := marked_pos hm
      have HT := hid (show (s.extract 1 s.size).data.toList = restOf s.data.toList by rw [ext_drop, rest_drop hm])
      have hTs : (s.extract 1 s.size).size ≤ maxLen := by rw [ByteArray.size_extract]; unfold maxLen; omega
      have HA := hid (areDigits_any (s.extract 1 s.size) w hTs)
      have HN := hid (numberOf_any (s.extract 1 s.size) w hTs)
      rw [HT.out] at HA HN
      rw [hm] at HL
      have h1k : (1 : Int) ≤ (s.size : Int) := by omega
      generalize restOf s.data.toList = r at *
      clear hm
      cases hd : digs r
      · rw [hd] at HA HL
        rw [HL.out] at HV
        clear hd
        go_enter Tryz.func63, Tryz.ntmps63
        go_wp2_with fail
        refine HA.out.mono ?_
        rintro e w' ⟨rfl, rfl⟩
        go_wp2_with fail
        go_ret
        exact ⟨by rw [HV.out]; rfl, rfl⟩
      · rw [hd] at HA HL
        rw [HL.out] at HV
        clear hd
        by_cases he : (num r).2 = 0
        · rw [decide_eq_true he] at HO
          have hz : ((num r).2 : Int) = 0 := by omega
          have hz2 : ¬ (0 : Int) < ((num r).2 : Int) := by omega
          rw [hz] at HN
          clear hz he
          by_cases hn : (num r).1 < 2
          · rw [decide_eq_false (show ¬ 2 ≤ (num r).1 by omega)] at HO
            rw [HO.out] at HV
            generalize (num r).1 = n at *
            go_enter Tryz.func63, Tryz.ntmps63
            go_wp2_with fail
            refine HA.out.mono ?_
            rintro e w' ⟨rfl, rfl⟩
            go_wp2_with fail
            refine HN.out.mono ?_
            rintro e w' ⟨rfl, rfl⟩
            go_wp2_with fail
            go_ret
            exact ⟨by rw [HV.out]; rfl, rfl⟩
          · rw [decide_eq_true (show 2 ≤ (num r).1 by omega)] at HO
            rw [HO.out] at HV
            generalize (num r).1 = n at *
            go_enter Tryz.func63, Tryz.ntmps63
            go_wp2_with fail
            refine HA.out.mono ?_
            rintro e w' ⟨rfl, rfl⟩
            go_wp2_with fail
            refine HN.out.mono ?_
            rintro e w' ⟨rfl, rfl⟩
            go_wp2_with fail
            go_ret
            exact ⟨by rw [HV.out]; rfl, rfl⟩
        · rw [decide_eq_false he, Bool.false_and] at HO
          rw [HO.out] at HV
          have hz : (0 : Int) < ((num r).2 : Int) := by omega
          generalize ((num r).2 : Int) = c at *
          generalize (num r).1 = n at *
          clear he
          go_enter Tryz.func63, Tryz.ntmps63
          go_wp2_with fail
          refine HA.out.mono ?_
          rintro e w' ⟨rfl, rfl⟩
          go_wp2_with fail
          refine HN.out.mono ?_
          rintro e w' ⟨rfl, rfl⟩
          go_wp2_with fail
          go_ret
          exact ⟨by rw [HV.out]; rfl, rfl⟩
end Ve
end Go.Proofs.YtjhiajeeijfkeaaGreatDoor

/-
  What the document's answer says of a path (PathError).
-/
namespace Go.Proofs.YtjhiajeeijfkeaaGreatDoor
open Go.RowKit
namespace Ve

theorem bad_one {l : List UInt8} {e : List UInt8} (h : e ∈ elems l) (hb : elemOk e = false) : pathErr l = 1 := by
  have : badE l = true := List.any_eq_true.2 ⟨e, h, by rw [hb]; rfl⟩
  unfold pathErr; rw [this]; rfl
theorem bad_none {l : List UInt8} (h : (elems l).all elemOk = true) : badE l = false := by
  unfold badE
  rw [List.any_eq_false]
  intro x hx
  rw [List.all_eq_true.1 h x hx]; decide
theorem path_2 {l : List UInt8} (h : (elems l).all elemOk = true) (h2 : longE l = true) : pathErr l = 2 := by
  unfold pathErr; rw [bad_none h, h2]; rfl
theorem path_4 {l : List UInt8} (h : (elems l).all elemOk = true) (h2 : longE l = false) (h1 : 1 < (elems l).length) (hs : sufV (lastOf l) < 0) : pathErr l = 4 := by
  unfold sufV at hs
  cases hk : likeB (lastOf l)
  · rw [hk] at hs; simp at hs
  · rw [hk] at hs
    cases ho : sufOk (lastOf l)
    · have hu : sufE l = true := by unfold sufE; rw [hk, decide_eq_true h1]; rfl
      unfold pathErr; rw [bad_none h, h2, hu, ho]; rfl
    · rw [ho] at hs
      have := suf_pos ho
      simp at hs; omega
theorem path_0 {l : List UInt8} (h : (elems l).all elemOk = true) (h2 : longE l = false) (h1 : 1 < (elems l).length) (hs : ¬ sufV (lastOf l) < 0) : pathErr l = 0 := by
  unfold sufV at hs
  cases hk : likeB (lastOf l)
  · have hu : sufE l = false := by unfold sufE; rw [hk]; simp
    unfold pathErr; rw [bad_none h, h2, hu]; rfl
  · rw [hk] at hs
    have hu : sufE l = true := by unfold sufE; rw [hk, decide_eq_true h1]; rfl
    cases ho : sufOk (lastOf l)
    · rw [ho] at hs; simp at hs
    · unfold pathErr; rw [bad_none h, h2, hu, ho]; rfl
theorem path_00 {l : List UInt8} (h : (elems l).all elemOk = true) (h2 : longE l = false) (h1 : ¬ 1 < (elems l).length) : pathErr l = 0 := by
  have hu : sufE l = false := by unfold sufE; rw [decide_eq_false h1]; rfl
  unfold pathErr; rw [bad_none h, h2, hu]; rfl
theorem el_is (c : UInt8) : el c = (decide (97 ≤ (c.toNat : Int) ∧ (c.toNat : Int) ≤ 122) || decide (48 ≤ (c.toNat : Int) ∧ (c.toNat : Int) ≤ 57) || (c.toNat : Int) == 46 || (c.toNat : Int) == 45 || (c.toNat : Int) == 95) := rfl
theorem dot_is (c : UInt8) : (c == 46) = ((c.toNat : Int) == 46) := by
  rw [Bool.eq_iff_iff]
  simp only [beq_iff_eq]
  have : (46 : UInt8).toNat = 46 := rfl
  constructor
  · intro h; rw [h]; rfl
  · intro h; exact UInt8.toNat_inj.1 (by omega)

set_option maxRecDepth 100000 in
set_option maxHeartbeats 16000000 in
theorem pathError_any (s : ByteArray) (w : World) (hs : s.size < 4294967281) :
    Calls Tryz.prog 38 #[.string s] w fun e w' => e = .returned (.int .i64 (pathErr s.data.toList : Nat)) ∧ Below w.heap.size w w' := by
  go_enter Tryz.func38, Tryz.ntmps38
  go_wp2_with fail
  refine (rcut47 s w hs).mono ?_
  rintro e w1 ⟨v, X, rfl, hX, hown, hb⟩
  have HX := hid hX
  have HB := hid hb
  have HXN := hid (show X ≠ [] from fun h => by subst h; exact cutAt_ne _ _ hX.symm)
  obtain ⟨g, cap, rfl, hg, hgz, hcells⟩ := owned_cells hown HXN.out
  have HCE := hid hcells
  have hXle := many_le hX
  have HXZ := hid (show ∀ x, x ∈ X → x.size ≤ maxLen from fun x hx => by have := piece_le hX hx; unfold maxLen; omega)
  have HXL := hid (show (elems s.data.toList).length = X.length by rw [← hX, bl_len])
  have HPOS := hid (show 0 < X.length from List.length_pos_iff.2 HXN.out)
  have HLE := hid (show longE s.data.toList = (decide (5 < (X.length : Int)) || (bl X).any long) by
    unfold longE
    rw [← hX, bl_len]
    congr 1
    rw [decide_eq_decide]; omega)
  have HLA := hid (fun hp => last_get hX hp)
  clear hX hown hb hg hgz hcells
  generalize hlg : decide (5 < (X.length : Int)) = lg at *
  go_wp2_with fail
  go_loop [4, 5] (fun lo i => ∃ k : Nat, k ≤ X.length ∧ i = .int .i64 k ∧ lo = .bool (lg || (bl (X.take k)).any long) ∧ Hid ((bl (X.take k)).all elemOk = true)) (fun _ i => X.length - (intOf i).toNat)
  case atStart => exact ⟨0, Nat.zero_le _, rfl, by simp [bl], hid (by simp [bl])⟩
  case round =>
    obtain ⟨k, hk, rfl, rfl, HOK⟩ := hrel
    generalize hbj : (lg || (bl (X.take k)).any long) = bj at *
    have HBJ := hid hbj
    clear hbj
    by_cases hkX : k < X.length
    · have hcell := HCE.out k hkX
      have HPZ := hid (HXZ.out X[k] (List.getElem_mem hkX))
      have HXJ := hid (bl_take_snoc X k hkX)
      have HMEM := hid (show X[k].data.toList ∈ elems s.data.toList by rw [← HX.out]; exact bl_mem (List.getElem_mem hkX))
      generalize X[k] = p at *
      have hpz : p.size ≤ 9223372036854775807 := HPZ.out
      go_wp2_with fail
      go_loop [6, 7, 8, 9, 10] (fun dt i _ _ _ => ∃ y : Nat, y ≤ p.size ∧ i = .int .i64 y ∧ dt = .bool ((p.data.toList.take y).all (· == 46)) ∧ Hid (seenOk p.data.toList y)) (fun _ i _ _ _ => p.size - (intOf i).toNat)
      case atStart => exact ⟨0, Nat.zero_le _, rfl, rfl, hid ⟨rfl, fun j _ h => absurd h (Nat.not_lt_zero j)⟩⟩
      case round =>
        obtain ⟨y, hy, rfl, rfl, HSE⟩ := hrel
        generalize hdt : (p.data.toList.take y).all (· == 46) = dt at *
        have HDT := hid hdt
        clear hdt
        by_cases hyl : y < p.size
        · have hyb := p[y].toNat_lt
          have HLL := hid (show y < p.data.toList.length by simpa using hyl)
          have HPY := hid (show p.data.toList[y]'(by simpa using hyl) = p[y] from rfl)
          have HEL := hid (el_is p[y])
          have HDI := hid (dot_is p[y])
          have HDN := hid (dots_next (l := p.data.toList) (k := y) (by simpa using hyl))
          rw [HPY.out, HDT.out, HDI.out] at HDN
          have HBAD := hid (show el p[y] = false → pathErr s.data.toList = 1 from fun h => bad_one HMEM.out (seen_bad (k := y) (by simpa using hyl) h))
          have HTHREE := hid (show 2 ≤ y → (p.data.toList.drop (y - 2)).take 3 = [46, 46, 46] → pathErr s.data.toList = 1 from fun h2 h => bad_one HMEM.out (seen_three h2 (by simpa using hyl) h))
          have HNEXT := hid (show el p[y] = true → (2 ≤ y → (p.data.toList.drop (y - 2)).take 3 ≠ [46, 46, 46]) → seenOk p.data.toList (y + 1) from fun h h3 => seen_next HSE.out (by simpa using hyl) h h3)
          have HRG := hid (show (p[y].toNat : Int) < 45 ∨ (p[y].toNat : Int) = 45 ∨ (p[y].toNat : Int) = 46 ∨ (p[y].toNat : Int) = 47 ∨ (48 ≤ (p[y].toNat : Int) ∧ (p[y].toNat : Int) ≤ 57) ∨ (57 < (p[y].toNat : Int) ∧ (p[y].toNat : Int) < 95) ∨ (p[y].toNat : Int) = 95 ∨ (p[y].toNat : Int) = 96 ∨ (97 ≤ (p[y].toNat : Int) ∧ (p[y].toNat : Int) ≤ 122) ∨ 122 < (p[y].toNat : Int) by omega)
          have HEXT := hid (show 2 ≤ y → (p.extract (y - 2) (y + 1)).data.toList = (p.data.toList.drop (y - 2)).take 3 from fun h2 => by rw [extract_list, show y + 1 - (y - 2) = 3 by omega])
          clear hyb
          rcases HRG.out with hr | hr | hr | hr | hr | hr | hr | hr | hr | hr
          · have a1 : ¬ 97 ≤ (p[y].toNat : Int) := by omega
            have a2 : (p[y].toNat : Int) ≤ 122 := by omega
            have d1 : ¬ 48 ≤ (p[y].toNat : Int) := by omega
            have d2 : (p[y].toNat : Int) ≤ 57 := by omega
            have e1 : ((p[y].toNat : Int) == 46) = false := beq_eq_false_iff_ne.2 (by omega)
            have e1p : ¬ (p[y].toNat : Int) = 46 := by omega
            have e1n : ((p[y].toNat : Int) != 46) = true := by rw [bne, e1]; rfl
            have e2 : ((p[y].toNat : Int) == 45) = false := beq_eq_false_iff_ne.2 (by omega)
            have e2p : ¬ (p[y].toNat : Int) = 45 := by omega
            have e2n : ((p[y].toNat : Int) != 45) = true := by rw [bne, e2]; rfl
            have e3 : ((p[y].toNat : Int) == 95) = false := beq_eq_false_iff_ne.2 (by omega)
            have e3p : ¬ (p[y].toNat : Int) = 95 := by omega
            have e3n : ((p[y].toNat : Int) != 95) = true := by rw [bne, e3]; rfl
            have HRES := hid (HBAD.out (by rw [HEL.out]; simp; omega))
            have D5 := hid (show ∀ h : ¬ (p[y].toNat : Int) ≤ 57, decide ((p[y].toNat : Int) ≤ 57) = false from fun h => decide_eq_false h)
            have D9 := hid (show ∀ h : ¬ (p[y].toNat : Int) ≤ 122, decide ((p[y].toNat : Int) ≤ 122) = false from fun h => decide_eq_false h)
            clear hr
            go_wp2_with fail
            all_goals first
              | (go_ret; exact ⟨by rw [HRES.out]; rfl, HB.out⟩)
              | exact absurd ‹((((p[y].toNat : Int) != 46) = false ∨ ((p[y].toNat : Int) != 45) = false) ∨ ((p[y].toNat : Int) != 95) = false)› (by rw [e1n, e2n, e3n]; decide)
              | exact absurd ‹((((!decide ((p[y].toNat : Int) ≤ 57)) = false ∨ ((p[y].toNat : Int) != 46) = false) ∨ ((p[y].toNat : Int) != 45) = false) ∨ ((p[y].toNat : Int) != 95) = false)› (by rw [e1n, e2n, e3n, D5.out (by omega)]; decide)
              | exact absurd ‹(((((!decide ((p[y].toNat : Int) ≤ 122)) = false ∨ (!decide ((p[y].toNat : Int) ≤ 57)) = false) ∨ ((p[y].toNat : Int) != 46) = false) ∨ ((p[y].toNat : Int) != 45) = false) ∨ ((p[y].toNat : Int) != 95) = false)› (by rw [e1n, e2n, e3n, D5.out (by omega), D9.out (by omega)]; decide)
          · have a1 : ¬ 97 ≤ (p[y].toNat : Int) := by omega
            have a2 : (p[y].toNat : Int) ≤ 122 := by omega
            have d1 : ¬ 48 ≤ (p[y].toNat : Int) := by omega
            have d2 : (p[y].toNat : Int) ≤ 57 := by omega
            have e1 : ((p[y].toNat : Int) == 46) = false := beq_eq_false_iff_ne.2 (by omega)
            have e1p : ¬ (p[y].toNat : Int) = 46 := by omega
            have e1n : ((p[y].toNat : Int) != 46) = true := by rw [bne, e1]; rfl
            have e2 : ((p[y].toNat : Int) == 45) = true := beq_iff_eq.2 (by omega)
            have e2p : (p[y].toNat : Int) = 45 := by omega
            have e2n : ((p[y].toNat : Int) != 45) = false := by rw [bne, e2]; rfl
            have e3 : ((p[y].toNat : Int) == 95) = false := beq_eq_false_iff_ne.2 (by omega)
            have e3p : ¬ (p[y].toNat : Int) = 95 := by omega
            have e3n : ((p[y].toNat : Int) != 95) = true := by rw [bne, e3]; rfl
            have HE1 := hid (show el p[y] = true by rw [HEL.out]; simp; omega)
            clear hr
            cases dt
            · have HDV := hid (show Value.bool false = Value.bool ((p.data.toList.take (y + 1)).all (· == 46)) by rw [HDN.out, e1]; rfl)
              have HDW := hid (show Value.bool false = Value.bool ((p.data.toList.take (y + 1)).all (· == 46)) by rw [HDN.out]; rfl)
              by_cases h2 : 2 ≤ y
              · have h2i : (2 : Int) ≤ (y : Int) := by omega
                have s1 : (0 : Int) ≤ (y : Int) - 2 := by omega
                have s2 : (y : Int) - 2 ≤ (y : Int) + 1 := by omega
                have s3 : (y : Int) + 1 ≤ (p.size : Int) := by omega
                have t1 : ((y : Int) - 2).toNat = y - 2 := by omega
                have h3 : (p.data.toList.drop (y - 2)).take 3 ≠ [46, 46, 46] := fun h => by
                  have h4 := congrArg (fun l => l[2]?) h
                  have h5 : ((p.data.toList.drop (y - 2)).take 3)[2]? = some p[y] := by
                    rw [List.getElem?_take_of_lt (by omega), List.getElem?_drop, show y - 2 + 2 = y by omega, List.getElem?_eq_getElem HLL.out, HPY.out]
                  have h6 : some p[y] = some 46 := h5.symm.trans h4
                  have h7 : p[y] = 46 := Option.some.inj h6
                  have h8 := HDI.out
                  rw [h7] at h8 e1
                  exact absurd e1 (by decide)
                have hx3 : ((p.extract (y - 2) (y + 1)).toList == [46, 46, 46]) = false := by rw [ByteArray.toList_eq, HEXT.out h2]; exact beq_eq_false_iff_ne.2 h3
                have HNX := hid (HNEXT.out HE1.out (fun _ => h3))
                clear h3
                go_wp2_with fail
                go_round
                case rel => first | exact ⟨y + 1, by omega, by go_num, HDV.out, hid (HNX.out)⟩ | exact ⟨y + 1, by omega, by go_num, HDW.out, hid (HNX.out)⟩
                case measure => simp [intOf]; omega
              · have h2i : ¬ (2 : Int) ≤ (y : Int) := by omega
                have HNX := hid (HNEXT.out HE1.out (fun h => absurd h h2))
                go_wp2_with fail
                go_round
                case rel => first | exact ⟨y + 1, by omega, by go_num, HDV.out, hid (HNX.out)⟩ | exact ⟨y + 1, by omega, by go_num, HDW.out, hid (HNX.out)⟩
                case measure => simp [intOf]; omega
            · have HDV := hid (show Value.bool false = Value.bool ((p.data.toList.take (y + 1)).all (· == 46)) by rw [HDN.out, e1]; rfl)
              have HDW := hid (show Value.bool ((p[y].toNat : Int) == 46) = Value.bool ((p.data.toList.take (y + 1)).all (· == 46)) by rw [HDN.out]; rfl)
              by_cases h2 : 2 ≤ y
              · have h2i : (2 : Int) ≤ (y : Int) := by omega
                have s1 : (0 : Int) ≤ (y : Int) - 2 := by omega
                have s2 : (y : Int) - 2 ≤ (y : Int) + 1 := by omega
                have s3 : (y : Int) + 1 ≤ (p.size : Int) := by omega
                have t1 : ((y : Int) - 2).toNat = y - 2 := by omega
                have h3 : (p.data.toList.drop (y - 2)).take 3 ≠ [46, 46, 46] := fun h => by
                  have h4 := congrArg (fun l => l[2]?) h
                  have h5 : ((p.data.toList.drop (y - 2)).take 3)[2]? = some p[y] := by
                    rw [List.getElem?_take_of_lt (by omega), List.getElem?_drop, show y - 2 + 2 = y by omega, List.getElem?_eq_getElem HLL.out, HPY.out]
                  have h6 : some p[y] = some 46 := h5.symm.trans h4
                  have h7 : p[y] = 46 := Option.some.inj h6
                  have h8 := HDI.out
                  rw [h7] at h8 e1
                  exact absurd e1 (by decide)
                have hx3 : ((p.extract (y - 2) (y + 1)).toList == [46, 46, 46]) = false := by rw [ByteArray.toList_eq, HEXT.out h2]; exact beq_eq_false_iff_ne.2 h3
                have HNX := hid (HNEXT.out HE1.out (fun _ => h3))
                clear h3
                go_wp2_with fail
                go_round
                case rel => first | exact ⟨y + 1, by omega, by go_num, HDV.out, hid (HNX.out)⟩ | exact ⟨y + 1, by omega, by go_num, HDW.out, hid (HNX.out)⟩
                case measure => simp [intOf]; omega
              · have h2i : ¬ (2 : Int) ≤ (y : Int) := by omega
                have HNX := hid (HNEXT.out HE1.out (fun h => absurd h h2))
                go_wp2_with fail
                go_round
                case rel => first | exact ⟨y + 1, by omega, by go_num, HDV.out, hid (HNX.out)⟩ | exact ⟨y + 1, by omega, by go_num, HDW.out, hid (HNX.out)⟩
                case measure => simp [intOf]; omega
          · have a1 : ¬ 97 ≤ (p[y].toNat : Int) := by omega
            have a2 : (p[y].toNat : Int) ≤ 122 := by omega
            have d1 : ¬ 48 ≤ (p[y].toNat : Int) := by omega
            have d2 : (p[y].toNat : Int) ≤ 57 := by omega
            have e1 : ((p[y].toNat : Int) == 46) = true := beq_iff_eq.2 (by omega)
            have e1p : (p[y].toNat : Int) = 46 := by omega
            have e1n : ((p[y].toNat : Int) != 46) = false := by rw [bne, e1]; rfl
            have e2 : ((p[y].toNat : Int) == 45) = false := beq_eq_false_iff_ne.2 (by omega)
            have e2p : ¬ (p[y].toNat : Int) = 45 := by omega
            have e2n : ((p[y].toNat : Int) != 45) = true := by rw [bne, e2]; rfl
            have e3 : ((p[y].toNat : Int) == 95) = false := beq_eq_false_iff_ne.2 (by omega)
            have e3p : ¬ (p[y].toNat : Int) = 95 := by omega
            have e3n : ((p[y].toNat : Int) != 95) = true := by rw [bne, e3]; rfl
            have HE1 := hid (show el p[y] = true by rw [HEL.out]; simp; omega)
            clear hr
            cases dt
            · have HDV := hid (show Value.bool false = Value.bool ((p.data.toList.take (y + 1)).all (· == 46)) by rw [HDN.out, e1]; rfl)
              have HDW := hid (show Value.bool false = Value.bool ((p.data.toList.take (y + 1)).all (· == 46)) by rw [HDN.out]; rfl)
              by_cases h2 : 2 ≤ y
              · have h2i : (2 : Int) ≤ (y : Int) := by omega
                have s1 : (0 : Int) ≤ (y : Int) - 2 := by omega
                have s2 : (y : Int) - 2 ≤ (y : Int) + 1 := by omega
                have s3 : (y : Int) + 1 ≤ (p.size : Int) := by omega
                have t1 : ((y : Int) - 2).toNat = y - 2 := by omega
                by_cases h3 : (p.data.toList.drop (y - 2)).take 3 = [46, 46, 46]
                · have hx3 : ((p.extract (y - 2) (y + 1)).toList == [46, 46, 46]) = true := by rw [ByteArray.toList_eq, HEXT.out h2]; exact beq_iff_eq.2 h3
                  have HRES := hid (HTHREE.out h2 h3)
                  clear h3
                  go_wp2_with fail
                  go_ret
                  exact ⟨by rw [HRES.out]; rfl, HB.out⟩
                · have hx3 : ((p.extract (y - 2) (y + 1)).toList == [46, 46, 46]) = false := by rw [ByteArray.toList_eq, HEXT.out h2]; exact beq_eq_false_iff_ne.2 h3
                  have HNX := hid (HNEXT.out HE1.out (fun _ => h3))
                  clear h3
                  go_wp2_with fail
                  go_round
                  case rel => first | exact ⟨y + 1, by omega, by go_num, HDV.out, hid (HNX.out)⟩ | exact ⟨y + 1, by omega, by go_num, HDW.out, hid (HNX.out)⟩
                  case measure => simp [intOf]; omega
              · have h2i : ¬ (2 : Int) ≤ (y : Int) := by omega
                have HNX := hid (HNEXT.out HE1.out (fun h => absurd h h2))
                go_wp2_with fail
                go_round
                case rel => first | exact ⟨y + 1, by omega, by go_num, HDV.out, hid (HNX.out)⟩ | exact ⟨y + 1, by omega, by go_num, HDW.out, hid (HNX.out)⟩
                case measure => simp [intOf]; omega
            · have HDV := hid (show Value.bool true = Value.bool ((p.data.toList.take (y + 1)).all (· == 46)) by rw [HDN.out, e1]; rfl)
              have HDW := hid (show Value.bool ((p[y].toNat : Int) == 46) = Value.bool ((p.data.toList.take (y + 1)).all (· == 46)) by rw [HDN.out]; rfl)
              by_cases h2 : 2 ≤ y
              · have h2i : (2 : Int) ≤ (y : Int) := by omega
                have s1 : (0 : Int) ≤ (y : Int) - 2 := by omega
                have s2 : (y : Int) - 2 ≤ (y : Int) + 1 := by omega
                have s3 : (y : Int) + 1 ≤ (p.size : Int) := by omega
                have t1 : ((y : Int) - 2).toNat = y - 2 := by omega
                by_cases h3 : (p.data.toList.drop (y - 2)).take 3 = [46, 46, 46]
                · have hx3 : ((p.extract (y - 2) (y + 1)).toList == [46, 46, 46]) = true := by rw [ByteArray.toList_eq, HEXT.out h2]; exact beq_iff_eq.2 h3
                  have HRES := hid (HTHREE.out h2 h3)
                  clear h3
                  go_wp2_with fail
                  go_ret
                  exact ⟨by rw [HRES.out]; rfl, HB.out⟩
                · have hx3 : ((p.extract (y - 2) (y + 1)).toList == [46, 46, 46]) = false := by rw [ByteArray.toList_eq, HEXT.out h2]; exact beq_eq_false_iff_ne.2 h3
                  have HNX := hid (HNEXT.out HE1.out (fun _ => h3))
                  clear h3
                  go_wp2_with fail
                  go_round
                  case rel => first | exact ⟨y + 1, by omega, by go_num, HDV.out, hid (HNX.out)⟩ | exact ⟨y + 1, by omega, by go_num, HDW.out, hid (HNX.out)⟩
                  case measure => simp [intOf]; omega
              · have h2i : ¬ (2 : Int) ≤ (y : Int) := by omega
                have HNX := hid (HNEXT.out HE1.out (fun h => absurd h h2))
                go_wp2_with fail
                go_round
                case rel => first | exact ⟨y + 1, by omega, by go_num, HDV.out, hid (HNX.out)⟩ | exact ⟨y + 1, by omega, by go_num, HDW.out, hid (HNX.out)⟩
                case measure => simp [intOf]; omega
          · have a1 : ¬ 97 ≤ (p[y].toNat : Int) := by omega
            have a2 : (p[y].toNat : Int) ≤ 122 := by omega
            have d1 : ¬ 48 ≤ (p[y].toNat : Int) := by omega
            have d2 : (p[y].toNat : Int) ≤ 57 := by omega
            have e1 : ((p[y].toNat : Int) == 46) = false := beq_eq_false_iff_ne.2 (by omega)
            have e1p : ¬ (p[y].toNat : Int) = 46 := by omega
            have e1n : ((p[y].toNat : Int) != 46) = true := by rw [bne, e1]; rfl
            have e2 : ((p[y].toNat : Int) == 45) = false := beq_eq_false_iff_ne.2 (by omega)
            have e2p : ¬ (p[y].toNat : Int) = 45 := by omega
            have e2n : ((p[y].toNat : Int) != 45) = true := by rw [bne, e2]; rfl
            have e3 : ((p[y].toNat : Int) == 95) = false := beq_eq_false_iff_ne.2 (by omega)
            have e3p : ¬ (p[y].toNat : Int) = 95 := by omega
            have e3n : ((p[y].toNat : Int) != 95) = true := by rw [bne, e3]; rfl
            have HRES := hid (HBAD.out (by rw [HEL.out]; simp; omega))
            have D5 := hid (show ∀ h : ¬ (p[y].toNat : Int) ≤ 57, decide ((p[y].toNat : Int) ≤ 57) = false from fun h => decide_eq_false h)
            have D9 := hid (show ∀ h : ¬ (p[y].toNat : Int) ≤ 122, decide ((p[y].toNat : Int) ≤ 122) = false from fun h => decide_eq_false h)
            clear hr
            go_wp2_with fail
            all_goals first
              | (go_ret; exact ⟨by rw [HRES.out]; rfl, HB.out⟩)
              | exact absurd ‹((((p[y].toNat : Int) != 46) = false ∨ ((p[y].toNat : Int) != 45) = false) ∨ ((p[y].toNat : Int) != 95) = false)› (by rw [e1n, e2n, e3n]; decide)
              | exact absurd ‹((((!decide ((p[y].toNat : Int) ≤ 57)) = false ∨ ((p[y].toNat : Int) != 46) = false) ∨ ((p[y].toNat : Int) != 45) = false) ∨ ((p[y].toNat : Int) != 95) = false)› (by rw [e1n, e2n, e3n, D5.out (by omega)]; decide)
              | exact absurd ‹(((((!decide ((p[y].toNat : Int) ≤ 122)) = false ∨ (!decide ((p[y].toNat : Int) ≤ 57)) = false) ∨ ((p[y].toNat : Int) != 46) = false) ∨ ((p[y].toNat : Int) != 45) = false) ∨ ((p[y].toNat : Int) != 95) = false)› (by rw [e1n, e2n, e3n, D5.out (by omega), D9.out (by omega)]; decide)
          · have a1 : ¬ 97 ≤ (p[y].toNat : Int) := by omega
            have a2 : (p[y].toNat : Int) ≤ 122 := by omega
            have d1 : 48 ≤ (p[y].toNat : Int) := by omega
            have d2 : (p[y].toNat : Int) ≤ 57 := by omega
            have e1 : ((p[y].toNat : Int) == 46) = false := beq_eq_false_iff_ne.2 (by omega)
            have e1p : ¬ (p[y].toNat : Int) = 46 := by omega
            have e1n : ((p[y].toNat : Int) != 46) = true := by rw [bne, e1]; rfl
            have e2 : ((p[y].toNat : Int) == 45) = false := beq_eq_false_iff_ne.2 (by omega)
            have e2p : ¬ (p[y].toNat : Int) = 45 := by omega
            have e2n : ((p[y].toNat : Int) != 45) = true := by rw [bne, e2]; rfl
            have e3 : ((p[y].toNat : Int) == 95) = false := beq_eq_false_iff_ne.2 (by omega)
            have e3p : ¬ (p[y].toNat : Int) = 95 := by omega
            have e3n : ((p[y].toNat : Int) != 95) = true := by rw [bne, e3]; rfl
            have HE1 := hid (show el p[y] = true by rw [HEL.out]; simp; omega)
            clear hr
            cases dt
            · have HDV := hid (show Value.bool false = Value.bool ((p.data.toList.take (y + 1)).all (· == 46)) by rw [HDN.out, e1]; rfl)
              have HDW := hid (show Value.bool false = Value.bool ((p.data.toList.take (y + 1)).all (· == 46)) by rw [HDN.out]; rfl)
              by_cases h2 : 2 ≤ y
              · have h2i : (2 : Int) ≤ (y : Int) := by omega
                have s1 : (0 : Int) ≤ (y : Int) - 2 := by omega
                have s2 : (y : Int) - 2 ≤ (y : Int) + 1 := by omega
                have s3 : (y : Int) + 1 ≤ (p.size : Int) := by omega
                have t1 : ((y : Int) - 2).toNat = y - 2 := by omega
                have h3 : (p.data.toList.drop (y - 2)).take 3 ≠ [46, 46, 46] := fun h => by
                  have h4 := congrArg (fun l => l[2]?) h
                  have h5 : ((p.data.toList.drop (y - 2)).take 3)[2]? = some p[y] := by
                    rw [List.getElem?_take_of_lt (by omega), List.getElem?_drop, show y - 2 + 2 = y by omega, List.getElem?_eq_getElem HLL.out, HPY.out]
                  have h6 : some p[y] = some 46 := h5.symm.trans h4
                  have h7 : p[y] = 46 := Option.some.inj h6
                  have h8 := HDI.out
                  rw [h7] at h8 e1
                  exact absurd e1 (by decide)
                have hx3 : ((p.extract (y - 2) (y + 1)).toList == [46, 46, 46]) = false := by rw [ByteArray.toList_eq, HEXT.out h2]; exact beq_eq_false_iff_ne.2 h3
                have HNX := hid (HNEXT.out HE1.out (fun _ => h3))
                clear h3
                go_wp2_with fail
                go_round
                case rel => first | exact ⟨y + 1, by omega, by go_num, HDV.out, hid (HNX.out)⟩ | exact ⟨y + 1, by omega, by go_num, HDW.out, hid (HNX.out)⟩
                case measure => simp [intOf]; omega
              · have h2i : ¬ (2 : Int) ≤ (y : Int) := by omega
                have HNX := hid (HNEXT.out HE1.out (fun h => absurd h h2))
                go_wp2_with fail
                go_round
                case rel => first | exact ⟨y + 1, by omega, by go_num, HDV.out, hid (HNX.out)⟩ | exact ⟨y + 1, by omega, by go_num, HDW.out, hid (HNX.out)⟩
                case measure => simp [intOf]; omega
            · have HDV := hid (show Value.bool false = Value.bool ((p.data.toList.take (y + 1)).all (· == 46)) by rw [HDN.out, e1]; rfl)
              have HDW := hid (show Value.bool ((p[y].toNat : Int) == 46) = Value.bool ((p.data.toList.take (y + 1)).all (· == 46)) by rw [HDN.out]; rfl)
              by_cases h2 : 2 ≤ y
              · have h2i : (2 : Int) ≤ (y : Int) := by omega
                have s1 : (0 : Int) ≤ (y : Int) - 2 := by omega
                have s2 : (y : Int) - 2 ≤ (y : Int) + 1 := by omega
                have s3 : (y : Int) + 1 ≤ (p.size : Int) := by omega
                have t1 : ((y : Int) - 2).toNat = y - 2 := by omega
                have h3 : (p.data.toList.drop (y - 2)).take 3 ≠ [46, 46, 46] := fun h => by
                  have h4 := congrArg (fun l => l[2]?) h
                  have h5 : ((p.data.toList.drop (y - 2)).take 3)[2]? = some p[y] := by
                    rw [List.getElem?_take_of_lt (by omega), List.getElem?_drop, show y - 2 + 2 = y by omega, List.getElem?_eq_getElem HLL.out, HPY.out]
                  have h6 : some p[y] = some 46 := h5.symm.trans h4
                  have h7 : p[y] = 46 := Option.some.inj h6
                  have h8 := HDI.out
                  rw [h7] at h8 e1
                  exact absurd e1 (by decide)
                have hx3 : ((p.extract (y - 2) (y + 1)).toList == [46, 46, 46]) = false := by rw [ByteArray.toList_eq, HEXT.out h2]; exact beq_eq_false_iff_ne.2 h3
                have HNX := hid (HNEXT.out HE1.out (fun _ => h3))
                clear h3
                go_wp2_with fail
                go_round
                case rel => first | exact ⟨y + 1, by omega, by go_num, HDV.out, hid (HNX.out)⟩ | exact ⟨y + 1, by omega, by go_num, HDW.out, hid (HNX.out)⟩
                case measure => simp [intOf]; omega
              · have h2i : ¬ (2 : Int) ≤ (y : Int) := by omega
                have HNX := hid (HNEXT.out HE1.out (fun h => absurd h h2))
                go_wp2_with fail
                go_round
                case rel => first | exact ⟨y + 1, by omega, by go_num, HDV.out, hid (HNX.out)⟩ | exact ⟨y + 1, by omega, by go_num, HDW.out, hid (HNX.out)⟩
                case measure => simp [intOf]; omega
          · have a1 : ¬ 97 ≤ (p[y].toNat : Int) := by omega
            have a2 : (p[y].toNat : Int) ≤ 122 := by omega
            have d1 : 48 ≤ (p[y].toNat : Int) := by omega
            have d2 : ¬ (p[y].toNat : Int) ≤ 57 := by omega
            have e1 : ((p[y].toNat : Int) == 46) = false := beq_eq_false_iff_ne.2 (by omega)
            have e1p : ¬ (p[y].toNat : Int) = 46 := by omega
            have e1n : ((p[y].toNat : Int) != 46) = true := by rw [bne, e1]; rfl
            have e2 : ((p[y].toNat : Int) == 45) = false := beq_eq_false_iff_ne.2 (by omega)
            have e2p : ¬ (p[y].toNat : Int) = 45 := by omega
            have e2n : ((p[y].toNat : Int) != 45) = true := by rw [bne, e2]; rfl
            have e3 : ((p[y].toNat : Int) == 95) = false := beq_eq_false_iff_ne.2 (by omega)
            have e3p : ¬ (p[y].toNat : Int) = 95 := by omega
            have e3n : ((p[y].toNat : Int) != 95) = true := by rw [bne, e3]; rfl
            have HRES := hid (HBAD.out (by rw [HEL.out]; simp; omega))
            have D5 := hid (show ∀ h : ¬ (p[y].toNat : Int) ≤ 57, decide ((p[y].toNat : Int) ≤ 57) = false from fun h => decide_eq_false h)
            have D9 := hid (show ∀ h : ¬ (p[y].toNat : Int) ≤ 122, decide ((p[y].toNat : Int) ≤ 122) = false from fun h => decide_eq_false h)
            clear hr
            go_wp2_with fail
            all_goals first
              | (go_ret; exact ⟨by rw [HRES.out]; rfl, HB.out⟩)
              | exact absurd ‹((((p[y].toNat : Int) != 46) = false ∨ ((p[y].toNat : Int) != 45) = false) ∨ ((p[y].toNat : Int) != 95) = false)› (by rw [e1n, e2n, e3n]; decide)
              | exact absurd ‹((((!decide ((p[y].toNat : Int) ≤ 57)) = false ∨ ((p[y].toNat : Int) != 46) = false) ∨ ((p[y].toNat : Int) != 45) = false) ∨ ((p[y].toNat : Int) != 95) = false)› (by rw [e1n, e2n, e3n, D5.out (by omega)]; decide)
              | exact absurd ‹(((((!decide ((p[y].toNat : Int) ≤ 122)) = false ∨ (!decide ((p[y].toNat : Int) ≤ 57)) = false) ∨ ((p[y].toNat : Int) != 46) = false) ∨ ((p[y].toNat : Int) != 45) = false) ∨ ((p[y].toNat : Int) != 95) = false)› (by rw [e1n, e2n, e3n, D5.out (by omega), D9.out (by omega)]; decide)
          · have a1 : ¬ 97 ≤ (p[y].toNat : Int) := by omega
            have a2 : (p[y].toNat : Int) ≤ 122 := by omega
            have d1 : 48 ≤ (p[y].toNat : Int) := by omega
            have d2 : ¬ (p[y].toNat : Int) ≤ 57 := by omega
            have e1 : ((p[y].toNat : Int) == 46) = false := beq_eq_false_iff_ne.2 (by omega)
            have e1p : ¬ (p[y].toNat : Int) = 46 := by omega
            have e1n : ((p[y].toNat : Int) != 46) = true := by rw [bne, e1]; rfl
            have e2 : ((p[y].toNat : Int) == 45) = false := beq_eq_false_iff_ne.2 (by omega)
            have e2p : ¬ (p[y].toNat : Int) = 45 := by omega
            have e2n : ((p[y].toNat : Int) != 45) = true := by rw [bne, e2]; rfl
            have e3 : ((p[y].toNat : Int) == 95) = true := beq_iff_eq.2 (by omega)
            have e3p : (p[y].toNat : Int) = 95 := by omega
            have e3n : ((p[y].toNat : Int) != 95) = false := by rw [bne, e3]; rfl
            have HE1 := hid (show el p[y] = true by rw [HEL.out]; simp; omega)
            clear hr
            cases dt
            · have HDV := hid (show Value.bool false = Value.bool ((p.data.toList.take (y + 1)).all (· == 46)) by rw [HDN.out, e1]; rfl)
              have HDW := hid (show Value.bool false = Value.bool ((p.data.toList.take (y + 1)).all (· == 46)) by rw [HDN.out]; rfl)
              by_cases h2 : 2 ≤ y
              · have h2i : (2 : Int) ≤ (y : Int) := by omega
                have s1 : (0 : Int) ≤ (y : Int) - 2 := by omega
                have s2 : (y : Int) - 2 ≤ (y : Int) + 1 := by omega
                have s3 : (y : Int) + 1 ≤ (p.size : Int) := by omega
                have t1 : ((y : Int) - 2).toNat = y - 2 := by omega
                have h3 : (p.data.toList.drop (y - 2)).take 3 ≠ [46, 46, 46] := fun h => by
                  have h4 := congrArg (fun l => l[2]?) h
                  have h5 : ((p.data.toList.drop (y - 2)).take 3)[2]? = some p[y] := by
                    rw [List.getElem?_take_of_lt (by omega), List.getElem?_drop, show y - 2 + 2 = y by omega, List.getElem?_eq_getElem HLL.out, HPY.out]
                  have h6 : some p[y] = some 46 := h5.symm.trans h4
                  have h7 : p[y] = 46 := Option.some.inj h6
                  have h8 := HDI.out
                  rw [h7] at h8 e1
                  exact absurd e1 (by decide)
                have hx3 : ((p.extract (y - 2) (y + 1)).toList == [46, 46, 46]) = false := by rw [ByteArray.toList_eq, HEXT.out h2]; exact beq_eq_false_iff_ne.2 h3
                have HNX := hid (HNEXT.out HE1.out (fun _ => h3))
                clear h3
                go_wp2_with fail
                all_goals (try exact absurd (‹((((!decide ((p[y].toNat : Int) ≤ 57)) = true ∧ ((p[y].toNat : Int) != 46) = true) ∧ ((p[y].toNat : Int) != 45) = true) ∧ ((p[y].toNat : Int) != 95) = true)›).2 (by rw [e3n]; decide))
                go_round
                case rel => first | exact ⟨y + 1, by omega, by go_num, HDV.out, hid (HNX.out)⟩ | exact ⟨y + 1, by omega, by go_num, HDW.out, hid (HNX.out)⟩
                case measure => simp [intOf]; omega
              · have h2i : ¬ (2 : Int) ≤ (y : Int) := by omega
                have HNX := hid (HNEXT.out HE1.out (fun h => absurd h h2))
                go_wp2_with fail
                all_goals (try exact absurd (‹((((!decide ((p[y].toNat : Int) ≤ 57)) = true ∧ ((p[y].toNat : Int) != 46) = true) ∧ ((p[y].toNat : Int) != 45) = true) ∧ ((p[y].toNat : Int) != 95) = true)›).2 (by rw [e3n]; decide))
                go_round
                case rel => first | exact ⟨y + 1, by omega, by go_num, HDV.out, hid (HNX.out)⟩ | exact ⟨y + 1, by omega, by go_num, HDW.out, hid (HNX.out)⟩
                case measure => simp [intOf]; omega
            · have HDV := hid (show Value.bool false = Value.bool ((p.data.toList.take (y + 1)).all (· == 46)) by rw [HDN.out, e1]; rfl)
              have HDW := hid (show Value.bool ((p[y].toNat : Int) == 46) = Value.bool ((p.data.toList.take (y + 1)).all (· == 46)) by rw [HDN.out]; rfl)
              by_cases h2 : 2 ≤ y
              · have h2i : (2 : Int) ≤ (y : Int) := by omega
                have s1 : (0 : Int) ≤ (y : Int) - 2 := by omega
                have s2 : (y : Int) - 2 ≤ (y : Int) + 1 := by omega
                have s3 : (y : Int) + 1 ≤ (p.size : Int) := by omega
                have t1 : ((y : Int) - 2).toNat = y - 2 := by omega
                have h3 : (p.data.toList.drop (y - 2)).take 3 ≠ [46, 46, 46] := fun h => by
                  have h4 := congrArg (fun l => l[2]?) h
                  have h5 : ((p.data.toList.drop (y - 2)).take 3)[2]? = some p[y] := by
                    rw [List.getElem?_take_of_lt (by omega), List.getElem?_drop, show y - 2 + 2 = y by omega, List.getElem?_eq_getElem HLL.out, HPY.out]
                  have h6 : some p[y] = some 46 := h5.symm.trans h4
                  have h7 : p[y] = 46 := Option.some.inj h6
                  have h8 := HDI.out
                  rw [h7] at h8 e1
                  exact absurd e1 (by decide)
                have hx3 : ((p.extract (y - 2) (y + 1)).toList == [46, 46, 46]) = false := by rw [ByteArray.toList_eq, HEXT.out h2]; exact beq_eq_false_iff_ne.2 h3
                have HNX := hid (HNEXT.out HE1.out (fun _ => h3))
                clear h3
                go_wp2_with fail
                all_goals (try exact absurd (‹((((!decide ((p[y].toNat : Int) ≤ 57)) = true ∧ ((p[y].toNat : Int) != 46) = true) ∧ ((p[y].toNat : Int) != 45) = true) ∧ ((p[y].toNat : Int) != 95) = true)›).2 (by rw [e3n]; decide))
                go_round
                case rel => first | exact ⟨y + 1, by omega, by go_num, HDV.out, hid (HNX.out)⟩ | exact ⟨y + 1, by omega, by go_num, HDW.out, hid (HNX.out)⟩
                case measure => simp [intOf]; omega
              · have h2i : ¬ (2 : Int) ≤ (y : Int) := by omega
                have HNX := hid (HNEXT.out HE1.out (fun h => absurd h h2))
                go_wp2_with fail
                all_goals (try exact absurd (‹((((!decide ((p[y].toNat : Int) ≤ 57)) = true ∧ ((p[y].toNat : Int) != 46) = true) ∧ ((p[y].toNat : Int) != 45) = true) ∧ ((p[y].toNat : Int) != 95) = true)›).2 (by rw [e3n]; decide))
                go_round
                case rel => first | exact ⟨y + 1, by omega, by go_num, HDV.out, hid (HNX.out)⟩ | exact ⟨y + 1, by omega, by go_num, HDW.out, hid (HNX.out)⟩
                case measure => simp [intOf]; omega
          · have a1 : ¬ 97 ≤ (p[y].toNat : Int) := by omega
            have a2 : (p[y].toNat : Int) ≤ 122 := by omega
            have d1 : 48 ≤ (p[y].toNat : Int) := by omega
            have d2 : ¬ (p[y].toNat : Int) ≤ 57 := by omega
            have e1 : ((p[y].toNat : Int) == 46) = false := beq_eq_false_iff_ne.2 (by omega)
            have e1p : ¬ (p[y].toNat : Int) = 46 := by omega
            have e1n : ((p[y].toNat : Int) != 46) = true := by rw [bne, e1]; rfl
            have e2 : ((p[y].toNat : Int) == 45) = false := beq_eq_false_iff_ne.2 (by omega)
            have e2p : ¬ (p[y].toNat : Int) = 45 := by omega
            have e2n : ((p[y].toNat : Int) != 45) = true := by rw [bne, e2]; rfl
            have e3 : ((p[y].toNat : Int) == 95) = false := beq_eq_false_iff_ne.2 (by omega)
            have e3p : ¬ (p[y].toNat : Int) = 95 := by omega
            have e3n : ((p[y].toNat : Int) != 95) = true := by rw [bne, e3]; rfl
            have HRES := hid (HBAD.out (by rw [HEL.out]; simp; omega))
            have D5 := hid (show ∀ h : ¬ (p[y].toNat : Int) ≤ 57, decide ((p[y].toNat : Int) ≤ 57) = false from fun h => decide_eq_false h)
            have D9 := hid (show ∀ h : ¬ (p[y].toNat : Int) ≤ 122, decide ((p[y].toNat : Int) ≤ 122) = false from fun h => decide_eq_false h)
            clear hr
            go_wp2_with fail
            all_goals first
              | (go_ret; exact ⟨by rw [HRES.out]; rfl, HB.out⟩)
              | exact absurd ‹((((p[y].toNat : Int) != 46) = false ∨ ((p[y].toNat : Int) != 45) = false) ∨ ((p[y].toNat : Int) != 95) = false)› (by rw [e1n, e2n, e3n]; decide)
              | exact absurd ‹((((!decide ((p[y].toNat : Int) ≤ 57)) = false ∨ ((p[y].toNat : Int) != 46) = false) ∨ ((p[y].toNat : Int) != 45) = false) ∨ ((p[y].toNat : Int) != 95) = false)› (by rw [e1n, e2n, e3n, D5.out (by omega)]; decide)
              | exact absurd ‹(((((!decide ((p[y].toNat : Int) ≤ 122)) = false ∨ (!decide ((p[y].toNat : Int) ≤ 57)) = false) ∨ ((p[y].toNat : Int) != 46) = false) ∨ ((p[y].toNat : Int) != 45) = false) ∨ ((p[y].toNat : Int) != 95) = false)› (by rw [e1n, e2n, e3n, D5.out (by omega), D9.out (by omega)]; decide)
          · have a1 : 97 ≤ (p[y].toNat : Int) := by omega
            have a2 : (p[y].toNat : Int) ≤ 122 := by omega
            have d1 : 48 ≤ (p[y].toNat : Int) := by omega
            have d2 : ¬ (p[y].toNat : Int) ≤ 57 := by omega
            have e1 : ((p[y].toNat : Int) == 46) = false := beq_eq_false_iff_ne.2 (by omega)
            have e1p : ¬ (p[y].toNat : Int) = 46 := by omega
            have e1n : ((p[y].toNat : Int) != 46) = true := by rw [bne, e1]; rfl
            have e2 : ((p[y].toNat : Int) == 45) = false := beq_eq_false_iff_ne.2 (by omega)
            have e2p : ¬ (p[y].toNat : Int) = 45 := by omega
            have e2n : ((p[y].toNat : Int) != 45) = true := by rw [bne, e2]; rfl
            have e3 : ((p[y].toNat : Int) == 95) = false := beq_eq_false_iff_ne.2 (by omega)
            have e3p : ¬ (p[y].toNat : Int) = 95 := by omega
            have e3n : ((p[y].toNat : Int) != 95) = true := by rw [bne, e3]; rfl
            have HE1 := hid (show el p[y] = true by rw [HEL.out]; simp; omega)
            clear hr
            cases dt
            · have HDV := hid (show Value.bool false = Value.bool ((p.data.toList.take (y + 1)).all (· == 46)) by rw [HDN.out, e1]; rfl)
              have HDW := hid (show Value.bool false = Value.bool ((p.data.toList.take (y + 1)).all (· == 46)) by rw [HDN.out]; rfl)
              by_cases h2 : 2 ≤ y
              · have h2i : (2 : Int) ≤ (y : Int) := by omega
                have s1 : (0 : Int) ≤ (y : Int) - 2 := by omega
                have s2 : (y : Int) - 2 ≤ (y : Int) + 1 := by omega
                have s3 : (y : Int) + 1 ≤ (p.size : Int) := by omega
                have t1 : ((y : Int) - 2).toNat = y - 2 := by omega
                have h3 : (p.data.toList.drop (y - 2)).take 3 ≠ [46, 46, 46] := fun h => by
                  have h4 := congrArg (fun l => l[2]?) h
                  have h5 : ((p.data.toList.drop (y - 2)).take 3)[2]? = some p[y] := by
                    rw [List.getElem?_take_of_lt (by omega), List.getElem?_drop, show y - 2 + 2 = y by omega, List.getElem?_eq_getElem HLL.out, HPY.out]
                  have h6 : some p[y] = some 46 := h5.symm.trans h4
                  have h7 : p[y] = 46 := Option.some.inj h6
                  have h8 := HDI.out
                  rw [h7] at h8 e1
                  exact absurd e1 (by decide)
                have hx3 : ((p.extract (y - 2) (y + 1)).toList == [46, 46, 46]) = false := by rw [ByteArray.toList_eq, HEXT.out h2]; exact beq_eq_false_iff_ne.2 h3
                have HNX := hid (HNEXT.out HE1.out (fun _ => h3))
                clear h3
                go_wp2_with fail
                go_round
                case rel => first | exact ⟨y + 1, by omega, by go_num, HDV.out, hid (HNX.out)⟩ | exact ⟨y + 1, by omega, by go_num, HDW.out, hid (HNX.out)⟩
                case measure => simp [intOf]; omega
              · have h2i : ¬ (2 : Int) ≤ (y : Int) := by omega
                have HNX := hid (HNEXT.out HE1.out (fun h => absurd h h2))
                go_wp2_with fail
                go_round
                case rel => first | exact ⟨y + 1, by omega, by go_num, HDV.out, hid (HNX.out)⟩ | exact ⟨y + 1, by omega, by go_num, HDW.out, hid (HNX.out)⟩
                case measure => simp [intOf]; omega
            · have HDV := hid (show Value.bool false = Value.bool ((p.data.toList.take (y + 1)).all (· == 46)) by rw [HDN.out, e1]; rfl)
              have HDW := hid (show Value.bool ((p[y].toNat : Int) == 46) = Value.bool ((p.data.toList.take (y + 1)).all (· == 46)) by rw [HDN.out]; rfl)
              by_cases h2 : 2 ≤ y
              · have h2i : (2 : Int) ≤ (y : Int) := by omega
                have s1 : (0 : Int) ≤ (y : Int) - 2 := by omega
                have s2 : (y : Int) - 2 ≤ (y : Int) + 1 := by omega
                have s3 : (y : Int) + 1 ≤ (p.size : Int) := by omega
                have t1 : ((y : Int) - 2).toNat = y - 2 := by omega
                have h3 : (p.data.toList.drop (y - 2)).take 3 ≠ [46, 46, 46] := fun h => by
                  have h4 := congrArg (fun l => l[2]?) h
                  have h5 : ((p.data.toList.drop (y - 2)).take 3)[2]? = some p[y] := by
                    rw [List.getElem?_take_of_lt (by omega), List.getElem?_drop, show y - 2 + 2 = y by omega, List.getElem?_eq_getElem HLL.out, HPY.out]
                  have h6 : some p[y] = some 46 := h5.symm.trans h4
                  have h7 : p[y] = 46 := Option.some.inj h6
                  have h8 := HDI.out
                  rw [h7] at h8 e1
                  exact absurd e1 (by decide)
                have hx3 : ((p.extract (y - 2) (y + 1)).toList == [46, 46, 46]) = false := by rw [ByteArray.toList_eq, HEXT.out h2]; exact beq_eq_false_iff_ne.2 h3
                have HNX := hid (HNEXT.out HE1.out (fun _ => h3))
                clear h3
                go_wp2_with fail
                go_round
                case rel => first | exact ⟨y + 1, by omega, by go_num, HDV.out, hid (HNX.out)⟩ | exact ⟨y + 1, by omega, by go_num, HDW.out, hid (HNX.out)⟩
                case measure => simp [intOf]; omega
              · have h2i : ¬ (2 : Int) ≤ (y : Int) := by omega
                have HNX := hid (HNEXT.out HE1.out (fun h => absurd h h2))
                go_wp2_with fail
                go_round
                case rel => first | exact ⟨y + 1, by omega, by go_num, HDV.out, hid (HNX.out)⟩ | exact ⟨y + 1, by omega, by go_num, HDW.out, hid (HNX.out)⟩
                case measure => simp [intOf]; omega
          · have a1 : 97 ≤ (p[y].toNat : Int) := by omega
            have a2 : ¬ (p[y].toNat : Int) ≤ 122 := by omega
            have d1 : 48 ≤ (p[y].toNat : Int) := by omega
            have d2 : ¬ (p[y].toNat : Int) ≤ 57 := by omega
            have e1 : ((p[y].toNat : Int) == 46) = false := beq_eq_false_iff_ne.2 (by omega)
            have e1p : ¬ (p[y].toNat : Int) = 46 := by omega
            have e1n : ((p[y].toNat : Int) != 46) = true := by rw [bne, e1]; rfl
            have e2 : ((p[y].toNat : Int) == 45) = false := beq_eq_false_iff_ne.2 (by omega)
            have e2p : ¬ (p[y].toNat : Int) = 45 := by omega
            have e2n : ((p[y].toNat : Int) != 45) = true := by rw [bne, e2]; rfl
            have e3 : ((p[y].toNat : Int) == 95) = false := beq_eq_false_iff_ne.2 (by omega)
            have e3p : ¬ (p[y].toNat : Int) = 95 := by omega
            have e3n : ((p[y].toNat : Int) != 95) = true := by rw [bne, e3]; rfl
            have HRES := hid (HBAD.out (by rw [HEL.out]; simp; omega))
            have D5 := hid (show ∀ h : ¬ (p[y].toNat : Int) ≤ 57, decide ((p[y].toNat : Int) ≤ 57) = false from fun h => decide_eq_false h)
            have D9 := hid (show ∀ h : ¬ (p[y].toNat : Int) ≤ 122, decide ((p[y].toNat : Int) ≤ 122) = false from fun h => decide_eq_false h)
            clear hr
            go_wp2_with fail
            all_goals first
              | (go_ret; exact ⟨by rw [HRES.out]; rfl, HB.out⟩)
              | exact absurd ‹((((p[y].toNat : Int) != 46) = false ∨ ((p[y].toNat : Int) != 45) = false) ∨ ((p[y].toNat : Int) != 95) = false)› (by rw [e1n, e2n, e3n]; decide)
              | exact absurd ‹((((!decide ((p[y].toNat : Int) ≤ 57)) = false ∨ ((p[y].toNat : Int) != 46) = false) ∨ ((p[y].toNat : Int) != 45) = false) ∨ ((p[y].toNat : Int) != 95) = false)› (by rw [e1n, e2n, e3n, D5.out (by omega)]; decide)
              | exact absurd ‹(((((!decide ((p[y].toNat : Int) ≤ 122)) = false ∨ (!decide ((p[y].toNat : Int) ≤ 57)) = false) ∨ ((p[y].toNat : Int) != 46) = false) ∨ ((p[y].toNat : Int) != 45) = false) ∨ ((p[y].toNat : Int) != 95) = false)› (by rw [e1n, e2n, e3n, D5.out (by omega), D9.out (by omega)]; decide)
        · have hye : y = p.size := by omega
          subst hye
          have HFIN := hid (show elemOk p.data.toList = !dt by
            have h1 : p.data.toList.length = p.size := len_eq p
            have h2 := seen_all (l := p.data.toList) (by rw [h1]; exact HSE.out)
            have h3 := HDT.out
            rw [take_all] at h3
            rw [h2, h3])
          cases dt
          · have HOK2 := hid (show (bl (X.take (k + 1))).all elemOk = true by rw [HXJ.out, List.all_append, HOK.out, List.all_cons, HFIN.out]; rfl)
            have HLJ := hid (show (lg || (bl (X.take (k + 1))).any long) = (bj || decide (10 < p.data.toList.length)) by rw [HXJ.out, List.any_append, ← HBJ.out, Bool.or_assoc]; simp [long])
            rw [len_eq] at HLJ
            by_cases h10 : 10 < p.size
            · have h10i : (10 : Int) < (p.size : Int) := by omega
              rw [decide_eq_true h10] at HLJ
              cases bj
              · have HV := hid (show Value.bool true = Value.bool (lg || (bl (X.take (k + 1))).any long) by rw [HLJ.out]; rfl)
                go_wp2_with fail
                go_round
                case rel => exact ⟨k + 1, by omega, by go_num, HV.out, HOK2⟩
                case measure => simp [intOf]; omega
              · have HV := hid (show Value.bool true = Value.bool (lg || (bl (X.take (k + 1))).any long) by rw [HLJ.out]; rfl)
                go_wp2_with fail
                go_round
                case rel => exact ⟨k + 1, by omega, by go_num, HV.out, HOK2⟩
                case measure => simp [intOf]; omega
            · have h10i : ¬ (10 : Int) < (p.size : Int) := by omega
              rw [decide_eq_false h10] at HLJ
              cases bj
              · have HV := hid (show Value.bool false = Value.bool (lg || (bl (X.take (k + 1))).any long) by rw [HLJ.out]; rfl)
                go_wp2_with fail
                go_round
                case rel => exact ⟨k + 1, by omega, by go_num, HV.out, HOK2⟩
                case measure => simp [intOf]; omega
              · have HV := hid (show Value.bool true = Value.bool (lg || (bl (X.take (k + 1))).any long) by rw [HLJ.out]; rfl)
                go_wp2_with fail
                go_round
                case rel => exact ⟨k + 1, by omega, by go_num, HV.out, HOK2⟩
                case measure => simp [intOf]; omega
          · have HRES := hid (bad_one HMEM.out HFIN.out)
            go_wp2_with fail
            go_ret
            exact ⟨by rw [HRES.out]; rfl, HB.out⟩
    · have hke : k = X.length := by omega
      subst hke
      have hXt : X.take X.length = X := List.take_length
      rw [hXt] at HOK HBJ
      rw [HBJ.out] at HLE
      rw [HX.out] at HOK
      clear hXt
      cases bj
      · by_cases h1 : 1 < X.length
        · have h1i : (1 : Int) < (X.length : Int) := by omega
          have hpl : X.length - 1 < X.length := by omega
          have hcell := HCE.out (X.length - 1) hpl
          have HSZ := hid (HXZ.out X[X.length - 1] (List.getElem_mem hpl))
          have HLG := hid (HLA.out hpl)
          generalize X[X.length - 1] = q at *
          have HSU := hid (suffixOf_any q w1 HSZ.out)
          rw [HLG.out] at HSU
          have hc1 : ((X.length : Int) - 1).toNat = X.length - 1 := by omega
          have hc2 : (0 : Int) ≤ (X.length : Int) - 1 := by omega
          have hc3 : (X.length : Int) - 1 < (X.length : Int) := by omega
          by_cases hneg : sufV (lastOf s.data.toList) < 0
          · have HRES := hid (path_4 HOK.out HLE.out (by rw [HXL.out]; exact h1) hneg)
            generalize sufV (lastOf s.data.toList) = sv at *
            go_wp2_with fail
            refine HSU.out.mono ?_
            rintro e w' ⟨rfl, rfl⟩
            go_wp2_with fail
            go_ret
            exact ⟨by rw [HRES.out]; rfl, HB.out⟩
          · have HRES := hid (path_0 HOK.out HLE.out (by rw [HXL.out]; exact h1) hneg)
            generalize sufV (lastOf s.data.toList) = sv at *
            go_wp2_with fail
            refine HSU.out.mono ?_
            rintro e w' ⟨rfl, rfl⟩
            go_wp2_with fail
            go_ret
            exact ⟨by rw [HRES.out]; rfl, HB.out⟩
        · have h1i : ¬ (1 : Int) < (X.length : Int) := by omega
          have HRES := hid (path_00 HOK.out HLE.out (by rw [HXL.out]; exact h1))
          go_wp2_with fail
          go_ret
          exact ⟨by rw [HRES.out]; rfl, HB.out⟩
      · have HRES := hid (path_2 HOK.out HLE.out)
        go_wp2_with fail
        go_ret
        exact ⟨by rw [HRES.out]; rfl, HB.out⟩
end Ve
end Go.Proofs.YtjhiajeeijfkeaaGreatDoor

/-
  What the document's answer says of a path in two (SplitPath), and what Split of package mod says.
-/
namespace Go.Proofs.YtjhiajeeijfkeaaGreatDoor
open Go.RowKit
namespace Ve

/-- A path in two: what is ahead of the suffix, its number. -/
def splitH (l : List UInt8) : List UInt8 := if pathErr l = 0 then pathH l else []
def splitN (l : List UInt8) : Int := if pathErr l = 0 then pathN l else 0
theorem suf_fits {l : List UInt8} (h : pathErr l = 0) (hs : sufE l = true) : sufOk (lastOf l) = true := by
  cases ho : sufOk (lastOf l)
  · exfalso
    unfold pathErr at h
    cases hb : badE l
    · rw [hb] at h
      cases hl : longE l
      · rw [hl, hs, ho] at h; cases h
      · rw [hl] at h; cases h
    · rw [hb] at h; cases h
  · rfl
theorem split_none {l : List UInt8} (h : pathErr l = 0) (he : elems l = [l]) : splitH l = l ∧ splitN l = 0 := by
  have hu : sufE l = false := by unfold sufE; rw [he]; rfl
  unfold splitH splitN pathH pathN
  rw [if_pos h, if_pos h, hu]
  exact ⟨rfl, rfl⟩
theorem split_pos {l : List UInt8} {k : Nat} (h : pathErr l = 0) (he : elems l = elems (l.take k) ++ [l.drop (k + 1)]) (hn : 0 < sufV (l.drop (k + 1))) : splitH l = l.take k ∧ splitN l = sufV (l.drop (k + 1)) := by
  obtain ⟨h1, h2, h3⟩ := slash_last he
  rw [← h2] at hn ⊢
  have hk : likeB (lastOf l) = true := by
    cases e : likeB (lastOf l)
    · unfold sufV at hn; rw [e] at hn; simp at hn
    · rfl
  have hu : sufE l = true := by unfold sufE; rw [hk, decide_eq_true h1]; rfl
  have ho := suf_fits h hu
  have hv : sufV (lastOf l) = (num (restOf (lastOf l))).1 := by unfold sufV; rw [hk, ho]; rfl
  unfold splitH splitN pathH pathN
  rw [if_pos h, if_pos h, hu, hv]
  exact ⟨h3, rfl⟩
theorem split_zero {l : List UInt8} {k : Nat} (h : pathErr l = 0) (he : elems l = elems (l.take k) ++ [l.drop (k + 1)]) (hn : ¬ 0 < sufV (l.drop (k + 1))) : splitH l = l ∧ splitN l = 0 := by
  obtain ⟨h1, h2, h3⟩ := slash_last he
  rw [← h2] at hn
  have hu : sufE l = false := by
    cases e : sufE l
    · rfl
    · exfalso
      have ho := suf_fits h e
      have hk : likeB (lastOf l) = true := by
        unfold sufE at e
        simp only [Bool.and_eq_true] at e
        exact e.2
      have hv : sufV (lastOf l) = (num (restOf (lastOf l))).1 := by unfold sufV; rw [hk, ho]; rfl
      have := suf_pos ho
      omega
  unfold splitH splitN pathH pathN
  rw [if_pos h, if_pos h, hu]
  exact ⟨rfl, rfl⟩
theorem slash_is {c : UInt8} : ((c.toNat : Int) == 47) = true ↔ c = 47 := by
  rw [beq_iff_eq]
  have : (47 : UInt8).toNat = 47 := rfl
  constructor
  · intro h; exact UInt8.toNat_inj.1 (by omega)
  · intro h; rw [h]; rfl

set_option maxRecDepth 100000 in
set_option maxHeartbeats 4000000 in
theorem splitPath_any (s : ByteArray) (w : World) (hs : s.size < 4294967281) :
    Calls Tryz.prog 150 #[.string s] w fun e w' => ∃ H : ByteArray, e = .returned (.tuple #[.string H, .int .i64 (splitN s.data.toList)]) ∧ H.data.toList = splitH s.data.toList ∧ Below w.heap.size w w' := by
  have HP := hid (pathError_any s w hs)
  by_cases h0 : pathErr s.data.toList = 0
  · have H0 := hid h0
    rw [h0] at HP
    clear h0
    go_enter Tryz.func150, Tryz.ntmps150
    go_wp2_with fail
    refine HP.out.mono ?_
    rintro e w1 ⟨rfl, hb⟩
    have HB := hid hb
    clear hb
    go_wp2_with fail
    go_loop [4] (fun i => ∃ j : Nat, j ≤ s.size ∧ i = .int .i64 ((j : Int) - 1) ∧ Hid (∀ t (ht : t < s.size), j ≤ t → s[t] ≠ 47)) (fun i => (intOf i + 1).toNat)
    case atStart => exact ⟨s.size, Nat.le_refl _, rfl, hid (fun t ht h => absurd ht (by omega))⟩
    case round =>
      obtain ⟨j, hj, rfl, HN⟩ := hrel
      by_cases hz : j = 0
      · subst hz
        have HR := hid (split_none H0.out (slash_none (fun t ht => HN.out t (by simpa using ht) (Nat.zero_le _))))
        go_wp2_with fail
        go_ret2
        exact ⟨s, by rw [HR.out.2]; rfl, HR.out.1.symm, HB.out⟩
      · obtain ⟨k, rfl⟩ : ∃ k, j = k + 1 := ⟨j - 1, by omega⟩
        have hki : ((k + 1 : Nat) : Int) - 1 = (k : Int) := by omega
        rw [hki]
        have hlt : k < s.size := by omega
        have hkb := s[k].toNat_lt
        have h0k : (0 : Int) ≤ (k : Int) := by omega
        cases hc : ((s[k].toNat : Int) == 47)
        · have hcn : ((s[k].toNat : Int) != 47) = true := by rw [bne, hc]; rfl
          have hcp : ¬ (s[k].toNat : Int) = 47 := by simpa using hc
          have HN2 := hid (show ∀ t (ht : t < s.size), k ≤ t → s[t] ≠ 47 from fun t ht h => by
            by_cases e : t = k
            · subst e; intro h2; rw [slash_is.2 h2] at hc; cases hc
            · exact HN.out t ht (by omega))
          go_wp2_with fail
          go_round
          case rel => exact ⟨k, by omega, by go_num, HN2⟩
          case measure => (simp [intOf]; try omega)
        · have hcn : ((s[k].toNat : Int) != 47) = false := by rw [bne, hc]; rfl
          have hcp : (s[k].toNat : Int) = 47 := by simpa using hc
          have HSP := hid (slash_split (l := s.data.toList) (k := k) (by simpa using hlt) (slash_is.1 hc) (fun t ht h => HN.out t (by simpa using ht) (by omega)))
          have HT := hid (show (s.extract (k + 1) s.size).data.toList = s.data.toList.drop (k + 1) from ext_drop s (k + 1))
          have hTs : (s.extract (k + 1) s.size).size ≤ maxLen := by rw [ByteArray.size_extract]; unfold maxLen; omega
          have HSU := hid (suffixOf_any (s.extract (k + 1) s.size) w1 hTs)
          rw [HT.out] at HSU
          have s1 : (0 : Int) ≤ (k : Int) + 1 := by omega
          have s2 : (k : Int) + 1 ≤ (s.size : Int) := by omega
          have s3 : (k : Int) ≤ (s.size : Int) := by omega
          have HK := hid (show (s.extract 0 k).data.toList = s.data.toList.take k by rw [extract_list]; simp)
          by_cases hn : 0 < sufV (s.data.toList.drop (k + 1))
          · have HR := hid (split_pos H0.out HSP.out hn)
            generalize sufV (s.data.toList.drop (k + 1)) = n at *
            go_wp2_with fail
            refine HSU.out.mono ?_
            rintro e w' ⟨rfl, rfl⟩
            go_wp2_with fail
            go_ret2
            exact ⟨s.extract 0 k, by rw [HR.out.2]; rfl, HK.out.trans HR.out.1.symm, HB.out⟩
          · have HR := hid (split_zero H0.out HSP.out hn)
            generalize sufV (s.data.toList.drop (k + 1)) = n at *
            go_wp2_with fail
            refine HSU.out.mono ?_
            rintro e w' ⟨rfl, rfl⟩
            go_wp2_with fail
            go_ret2
            exact ⟨s, by rw [HR.out.2]; rfl, HR.out.1.symm, HB.out⟩
  · have HR := hid (show splitH s.data.toList = [] ∧ splitN s.data.toList = 0 from ⟨by unfold splitH; rw [if_neg h0], by unfold splitN; rw [if_neg h0]⟩)
    rw [HR.out.2]
    have hpos : (0 : Int) < (pathErr s.data.toList : Int) := by omega
    generalize (pathErr s.data.toList : Int) = c at *
    clear h0
    go_enter Tryz.func150, Tryz.ntmps150
    go_wp2_with fail
    refine HP.out.mono ?_
    rintro e w1 ⟨rfl, hb⟩
    have HB := hid hb
    clear hb
    go_wp2_with fail
    go_ret2
    exact ⟨⟨#[]⟩, rfl, HR.out.1.symm, HB.out⟩

end Ve
end Go.Proofs.YtjhiajeeijfkeaaGreatDoor
