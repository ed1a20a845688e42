/-
  IxG IxH IxQ FoA IxPa
-/
import Derived.Test.YtnkgjddkdikikaaGreatDoorPq2
import Derived.Test.YtnkgjddkdikikaaGreatDoorPq3
import Derived.Test.YtnkgjddkdikikaaGreatDoorPq4
import Derived.Test.YtnkgjddkdikikaaGreatDoorPq7
import Derived.Test.YtnkgjddkdikikaaGreatDoorPq10
import Derived.Test.YtnkgjddkdikikaaGreatDoorPq13
import Derived.Test.YtnkgjddkdikikaaGreatDoorPq23
import Derived.Test.YtnkgjddkdikikaaGreatDoorPq27
import Derived.Test.YtnkgjddkdikikaaGreatDoorPq29
import Derived.Test.YtnkgjddkdikikaaGreatDoorPq30
namespace Go.Proofs.YtnkgjddkdikikaaGreatDoor
open Go.RowKit
namespace Ve
def entR (e : Ent) : Nat := if 20 < e.2.1.length then 7 else if codeE (reqE e.1.1 e.2.1) e.2.1.length ≠ 0 then codeE (reqE e.1.1 e.2.1) e.2.1.length else packErr (bl e.2.2.1)
def entW (prev : Option Bm) (e : Ent) : Nat := if mErr e.1 ≠ 0 then mErr e.1 else match prev with
  | none => entR e
  | some p => if mAhead p e.1 then entR e else 8
theorem entW_bad {o : Option Bm} {e : Ent} (h : mErr e.1 ≠ 0) : entW o e = mErr e.1 := by unfold entW; rw [if_pos h]
theorem entW_none {e : Ent} (h : mErr e.1 = 0) : entW none e = entR e := by unfold entW; rw [if_neg (by simp [h])]
theorem entW_some {p : Bm} {e : Ent} (h : mErr e.1 = 0) (ha : mAhead p e.1 = true) : entW (some p) e = entR e := by unfold entW; rw [if_neg (by simp [h])]; simp only [ha, if_true]
theorem entW_order {p : Bm} {e : Ent} (h : mErr e.1 = 0) (ha : mAhead p e.1 = false) : entW (some p) e = 8 := by unfold entW; rw [if_neg (by simp [h])]; simp [ha]
theorem entR_full {e : Ent} (h : 20 < e.2.1.length) : entR e = 7 := by unfold entR; rw [if_pos h]
theorem entR_req {e : Ent} (h : ¬ 20 < e.2.1.length) (hc : codeE (reqE e.1.1 e.2.1) e.2.1.length ≠ 0) : entR e = codeE (reqE e.1.1 e.2.1) e.2.1.length := by unfold entR; rw [if_neg h, if_pos hc]
theorem entR_pack {e : Ent} (h : ¬ 20 < e.2.1.length) (hc : codeE (reqE e.1.1 e.2.1) e.2.1.length = 0) : entR e = packErr (bl e.2.2.1) := by unfold entR; rw [if_neg h, if_neg (by simp [hc])]
structure ShE (e : Ent) : Prop where
  p : e.1.1.size < 999999
  v : e.1.2.size < 999999
  rn : e.2.1.length ≤ 1000000
  rs : shortL e.2.1
  pn : e.2.2.1.length ≤ 1000
  ps : ∀ x, x ∈ e.2.2.1 → x.size < 999999
set_option maxHeartbeats 4000000 in
theorem eachK_bad (p q : ByteArray) (rv pv : Value) (bk : Bool) (i b : Nat) (A : Nat → Addr) (m : Int) (W : World) (hs : slR ((p, q), rv, pv, bk)) (hp : p.size < 999999) (hq : q.size < 999999) (S : Te W A m) (h : mErr (p, q) ≠ 0) :
    Calls Tryz.prog 115 #[.int .i64 (i : Int), .agg #[.string p, .string q, rv, pv, .bool bk], .pointer (some ⟨b, 0, none⟩)] W fun e w' => e = .returned (errA A (mErr (p, q))) ∧ Below W.heap.size W w' := by
  obtain ⟨⟨ra, rn, rc, hrv⟩, pa, pn, pc, hpv⟩ := hs
  simp only at hrv hpv
  subst hrv
  subst hpv
  have HB0 := hid ((Below.refl W.heap.size W).alloc (Nat.le_refl _) (.cells #[.string p, .string q, .slice ra rn rc, .slice pa pn pc, .bool bk] 42))
  have HM := hid (mcheck_any p q A m _ (by omega) (by omega) (S.below HB0.out))
  have hme : mErr (p, q) = modErr p.data.toList q.data.toList := rfl
  rw [← hme, errA_if A h] at HM
  rw [errA_if A h]
  clear S h hme
  go_enter Tryz.func115, Tryz.ntmps115
  go_wp2_with fail
  refine HM.out.mono ?_
  rintro e w1 ⟨rfl, hb⟩
  have HB := hid (HB0.out.trans (hb.mono HB0.out.size))
  clear hb
  go_wp2_with fail
  go_ret
  exact ⟨rfl, HB.out⟩
set_option maxHeartbeats 8000000 in
set_option maxRecDepth 100000 in
theorem eachK_0 (pr : Option Bm) (hpr : pr = none) (p q : ByteArray) (rv pv : Value) (eR : List Bm) (eP : List ByteArray) (bk : Bool) (b : Nat) (A : Nat → Addr) (m : Int) (W : World) (hs : slR ((p, q), rv, pv, bk)) (sh : ShE ((p, q), eR, eP, bk)) (S : Te W A m) (h : mErr (p, q) = 0) (hr : MsAt W rv eR) (hpk : TxAt W pv eP) :
    Calls Tryz.prog 115 #[.int .i64 0, .agg #[.string p, .string q, rv, pv, .bool bk], .pointer (some ⟨b, 0, none⟩)] W fun e w' => e = .returned (errA A (entW pr ((p, q), eR, eP, bk))) ∧ Below W.heap.size W w' := by
  obtain ⟨⟨ra, rn, rc, hrv⟩, pa, pn, pc, hpv⟩ := hs
  simp only at hrv hpv
  subst hrv
  subst hpv
  have hrl : rn = eR.length := by obtain ⟨_, _, h, _⟩ := hr; injection h
  subst hrl
  have HB0 := hid ((Below.refl W.heap.size W).alloc (Nat.le_refl _) (.cells #[.string p, .string q, .slice ra eR.length rc, .slice pa pn pc, .bool bk] 42))
  have HM := hid (mcheck_any p q A m _ (by have := sh.p; simp only at this; omega) (by have := sh.v; simp only at this; omega) (S.below HB0.out))
  have hme : mErr (p, q) = modErr p.data.toList q.data.toList := rfl
  rw [← hme, h, errA0] at HM
  have HS := hid S
  have HSH := hid sh
  have HR := hid hr
  have HPK := hid hpk
  have H := hid h
  have HGX := hid (fun w1 (hb : Below (W.alloc (.cells #[.string p, .string q, .slice ra eR.length rc, .slice pa pn pc, .bool bk] 42)).heap.size (W.alloc (.cells #[.string p, .string q, .slice ra eR.length rc, .slice pa pn pc, .bool bk] 42)) w1) => show w1.heap[W.heap.size]? = some (.cells #[.string p, .string q, .slice ra eR.length rc, .slice pa pn pc, .bool bk] 42 (0, 0)) by rw [hb.block _ (by simp)]; exact heap_alloc_new W _)
  clear S sh hr hpk h hme
  go_enter Tryz.func115, Tryz.ntmps115
  go_wp2_with fail
  refine HM.out.mono ?_
  rintro e wz ⟨rfl, hb⟩
  have HBz := hid (HB0.out.trans (hb.mono HB0.out.size))
  have HEz := hid (HGX.out wz hb)
  clear hb HM HGX
  go_wp2_with fail
  go_quiet (fail)
  have HB1 := hid (below_drawn_of HBz.out nq)
  have HE1 := hid (show (wz.drewN nq).heap[W.heap.size]? = some (.cells #[.string p, .string q, .slice ra eR.length rc, .slice pa pn pc, .bool bk] 42 (0, 0)) from HEz.out)
  obtain ⟨wa, hwa⟩ : ∃ wa, wz.drewN nq = wa := ⟨_, rfl⟩
  rw [hwa] at HB1 HE1 ⊢
  clear hwa
  have y0 : wa.cell? ⟨W.heap.size, 0, none⟩ = some (.string p) := by rw [Lib.cell_of_heap HE1.out]; rfl
  have y1 : wa.cell? ⟨W.heap.size, 1, none⟩ = some (.string q) := by rw [Lib.cell_of_heap HE1.out]; rfl
  have y2 : wa.cell? ⟨W.heap.size, 2, none⟩ = some (.slice ra eR.length rc) := by rw [Lib.cell_of_heap HE1.out]; rfl
  have y3 : wa.cell? ⟨W.heap.size, 3, none⟩ = some (.slice pa pn pc) := by rw [Lib.cell_of_heap HE1.out]; rfl
  have y4 : wa.cell? ⟨W.heap.size, 4, none⟩ = some (.bool bk) := by rw [Lib.cell_of_heap HE1.out]; rfl
  by_cases hf : 20 < eR.length
  · have q2 : (20 : Int) < (eR.length : Int) := by omega
    have HX := hid (show entW pr ((p, q), eR, eP, bk) = 7 by rw [hpr, entW_none H.out]; exact entR_full hf)
    have g6 := (HS.out.below HB1.out).sen.g6
    clear hf
    go_wp2_with fail
    go_ret
    exact ⟨by rw [HX.out]; rfl, HB1.out⟩
  · have q2 : ¬ (20 : Int) < (eR.length : Int) := by omega
    have HF := hid hf
    have HRQ := hid (reqs_any p eR _ A m wa HSH.out.rn HSH.out.rs (HS.out.below HB1.out) (HR.out.below HB1.out))
    clear hf
    go_wp2_with fail
    refine HRQ.out.mono ?_
    rintro e wb ⟨u, rfl, he, hb⟩
    have HB2 := hid (HB1.out.trans (hb.mono HB1.out.size))
    have HE2 := hid (show wb.heap[W.heap.size]? = some (.cells #[.string p, .string q, .slice ra eR.length rc, .slice pa pn pc, .bool bk] 42 (0, 0)) by rw [hb.block _ (lt_of_blk HE1.out)]; exact HE1.out)
    clear y0 y1 y2 y3 y4 HRQ
    have z0 : wb.cell? ⟨W.heap.size, 0, none⟩ = some (.string p) := by rw [Lib.cell_of_heap HE2.out]; rfl
    have z1 : wb.cell? ⟨W.heap.size, 1, none⟩ = some (.string q) := by rw [Lib.cell_of_heap HE2.out]; rfl
    have z2 : wb.cell? ⟨W.heap.size, 2, none⟩ = some (.slice ra eR.length rc) := by rw [Lib.cell_of_heap HE2.out]; rfl
    have z3 : wb.cell? ⟨W.heap.size, 3, none⟩ = some (.slice pa pn pc) := by rw [Lib.cell_of_heap HE2.out]; rfl
    have z4 : wb.cell? ⟨W.heap.size, 4, none⟩ = some (.bool bk) := by rw [Lib.cell_of_heap HE2.out]; rfl
    cases hfe : fstE (reqE p eR) eR.length with
    | none =>
      rw [hfe] at he
      have hc := codeE_none hfe
      have he : u = errA A (codeE (reqE p eR) eR.length) := he
      rw [hc, errA0] at he
      subst he
      have HX := hid (show entW pr ((p, q), eR, eP, bk) = packErr (bl eP) by rw [hpr, entW_none H.out]; exact entR_pack HF.out hc)
      have HPP := hid (packs_any eP _ A m wb HSH.out.pn HSH.out.ps (HS.out.below HB2.out) (HPK.out.below HB2.out))
      clear hb hc hfe
      go_wp2_with fail
      refine HPP.out.mono ?_
      rintro e wc ⟨rfl, hb⟩
      have HB3 := hid (HB2.out.trans (hb.mono HB2.out.size))
      clear hb
      go_wp2_with fail
      go_ret
      exact ⟨by rw [HX.out]; rfl, HB3.out⟩
    | some j =>
      rw [hfe] at he
      have hc : codeE (reqE p eR) eR.length ≠ 0 := he.1
      have HX := hid (show entW pr ((p, q), eR, eP, bk) = codeE (reqE p eR) eR.length by rw [hpr, entW_none H.out]; exact entR_req HF.out hc)
      have HBA := hid (bare_any u _ _ A m wb (HS.out.below HB2.out) he hc)
      obtain ⟨_, fb, hu, _⟩ := he
      subst hu
      clear hb hc hfe
      go_wp2_with fail
      refine HBA.out.mono ?_
      rintro e wc ⟨rfl, hb⟩
      have HB3 := hid (HB2.out.trans (hb.mono HB2.out.size))
      clear hb
      go_wp2_with fail
      go_ret
      exact ⟨by rw [HX.out]; rfl, HB3.out⟩
set_option maxHeartbeats 8000000 in
set_option maxRecDepth 100000 in
theorem eachK_1 (pr : Option Bm) (k : Nat) (p0 q0 : ByteArray) (hpr : pr = some (p0, q0)) (p q : ByteArray) (rv pv : Value) (eR : List Bm) (eP : List ByteArray) (bk : Bool) (b : Nat) (A : Nat → Addr) (m : Int) (W : World) (hs : slR ((p, q), rv, pv, bk)) (sh : ShE ((p, q), eR, eP, bk)) (S : Te W A m) (h : mErr (p, q) = 0) (hr : MsAt W rv eR) (hpk : TxAt W pv eP) (bb oo n c : Nat) (hn : k < n) (hn2 : n ≤ 1000000) (hq0 : q0.size < 999999) (hl : W.cell? ⟨b, 0, none⟩ = some (.slice (some ⟨bb, oo, none⟩) n c)) (hx : W.cell? ⟨bb, oo + k * 5, none⟩ = some (.string p0)) (hy : W.cell? ⟨bb, oo + k * 5 + 1, none⟩ = some (.string q0)) :
    Calls Tryz.prog 115 #[.int .i64 ((k : Int) + 1), .agg #[.string p, .string q, rv, pv, .bool bk], .pointer (some ⟨b, 0, none⟩)] W fun e w' => e = .returned (errA A (entW pr ((p, q), eR, eP, bk))) ∧ Below W.heap.size W w' := by
  obtain ⟨⟨ra, rn, rc, hrv⟩, pa, pn, pc, hpv⟩ := hs
  simp only at hrv hpv
  subst hrv
  subst hpv
  have hrl : rn = eR.length := by obtain ⟨_, _, h, _⟩ := hr; injection h
  subst hrl
  have HB0 := hid ((Below.refl W.heap.size W).alloc (Nat.le_refl _) (.cells #[.string p, .string q, .slice ra eR.length rc, .slice pa pn pc, .bool bk] 42))
  have HM := hid (mcheck_any p q A m _ (by have := sh.p; simp only at this; omega) (by have := sh.v; simp only at this; omega) (S.below HB0.out))
  have hme : mErr (p, q) = modErr p.data.toList q.data.toList := rfl
  rw [← hme, h, errA0] at HM
  have HS := hid S
  have HSH := hid sh
  have HR := hid hr
  have HPK := hid hpk
  have H := hid h
  have HGX := hid (fun w1 (hb : Below (W.alloc (.cells #[.string p, .string q, .slice ra eR.length rc, .slice pa pn pc, .bool bk] 42)).heap.size (W.alloc (.cells #[.string p, .string q, .slice ra eR.length rc, .slice pa pn pc, .bool bk] 42)) w1) => show w1.heap[W.heap.size]? = some (.cells #[.string p, .string q, .slice ra eR.length rc, .slice pa pn pc, .bool bk] 42 (0, 0)) by rw [hb.block _ (by simp)]; exact heap_alloc_new W _)
  have HL := hid hl
  have HXX := hid hx
  have HYY := hid hy
  clear S sh hr hpk h hme hl hx hy
  have hk0 : (0 : Int) < (k : Int) + 1 := by omega
  have hk1 : (k : Int) + 1 - 1 = (k : Int) := by omega
  have hkn : (k : Int) < (n : Int) := by omega
  go_enter Tryz.func115, Tryz.ntmps115
  go_wp2_with fail
  refine HM.out.mono ?_
  rintro e wz ⟨rfl, hb⟩
  have HBz := hid (HB0.out.trans (hb.mono HB0.out.size))
  have HEz := hid (HGX.out wz hb)
  have hl := cell_below HBz.out HL.out
  have hx := cell_below HBz.out HXX.out
  have hy := cell_below HBz.out HYY.out
  have HAH := hid (fun X (hX : Below wz.heap.size wz X) => ahead_any p0 q0 p q A m X hq0 HSH.out.v ((HS.out.below HBz.out).below hX))
  have hma : mAhead (p0, q0) (p, q) = aheadB p0.data.toList q0.data.toList p.data.toList q.data.toList := rfl
  rw [← hma] at HAH
  clear hb HM HGX hma
  have x0 : wz.cell? ⟨W.heap.size, 0, none⟩ = some (.string p) := by rw [Lib.cell_of_heap HEz.out]; rfl
  have x1 : wz.cell? ⟨W.heap.size, 1, none⟩ = some (.string q) := by rw [Lib.cell_of_heap HEz.out]; rfl
  have x2 : wz.cell? ⟨W.heap.size, 2, none⟩ = some (.slice ra eR.length rc) := by rw [Lib.cell_of_heap HEz.out]; rfl
  have x3 : wz.cell? ⟨W.heap.size, 3, none⟩ = some (.slice pa pn pc) := by rw [Lib.cell_of_heap HEz.out]; rfl
  have x4 : wz.cell? ⟨W.heap.size, 4, none⟩ = some (.bool bk) := by rw [Lib.cell_of_heap HEz.out]; rfl
  have gw : IntKind.i64.wrap (k : Int) = (k : Int) := by rw [IntKind.wrap_i64]; omega
  have gk : (0 : Int) ≤ (k : Int) := by omega
  cases hah : mAhead (p0, q0) (p, q)
  · rw [hah] at HAH
    have HX := hid (show entW pr ((p, q), eR, eP, bk) = 8 by rw [hpr]; exact entW_order H.out hah)
    clear hah
    go_wp2_with fail
    go_region_with (go_at_call 117; refine (HAH.out _ (below_drawn _ 1)).mono ?_; rintro e wa ⟨rfl, hb⟩; have HB1 := hid ((HBz.out.trans ((below_drawn _ 1).mono HBz.out.size)).trans (hb.mono HBz.out.size)); have g7 := (HS.out.below HB1.out).sen.g7; clear hb)
    all_goals
      go_wp2_with fail
      go_ret
      exact ⟨by rw [HX.out]; rfl, HB1.out⟩
  · rw [hah] at HAH
    have HLL := hid (show entW pr ((p, q), eR, eP, bk) = entR ((p, q), eR, eP, bk) by rw [hpr]; exact entW_some H.out hah)
    clear hah
    go_wp2_with fail
    go_region_with (go_at_call 117; refine (HAH.out _ (below_drawn _ 1)).mono ?_; rintro e wa ⟨rfl, hb⟩; have HB1 := hid ((HBz.out.trans ((below_drawn _ 1).mono HBz.out.size)).trans (hb.mono HBz.out.size)); have HE1 := hid (show wa.heap[W.heap.size]? = some (.cells #[.string p, .string q, .slice ra eR.length rc, .slice pa pn pc, .bool bk] 42 (0, 0)) by rw [hb.block _ (lt_of_blk HEz.out)]; exact HEz.out); clear hb x0 x1 x2 x3 x4 hl hx hy)
    all_goals
      have y0 : wa.cell? ⟨W.heap.size, 0, none⟩ = some (.string p) := by rw [Lib.cell_of_heap HE1.out]; rfl
      have y1 : wa.cell? ⟨W.heap.size, 1, none⟩ = some (.string q) := by rw [Lib.cell_of_heap HE1.out]; rfl
      have y2 : wa.cell? ⟨W.heap.size, 2, none⟩ = some (.slice ra eR.length rc) := by rw [Lib.cell_of_heap HE1.out]; rfl
      have y3 : wa.cell? ⟨W.heap.size, 3, none⟩ = some (.slice pa pn pc) := by rw [Lib.cell_of_heap HE1.out]; rfl
      have y4 : wa.cell? ⟨W.heap.size, 4, none⟩ = some (.bool bk) := by rw [Lib.cell_of_heap HE1.out]; rfl
      by_cases hf : 20 < eR.length
      · have q2 : (20 : Int) < (eR.length : Int) := by omega
        have HX := hid (show entW pr ((p, q), eR, eP, bk) = 7 by rw [HLL.out]; exact entR_full hf)
        have g6 := (HS.out.below HB1.out).sen.g6
        clear hf
        go_wp2_with fail
        go_ret
        exact ⟨by rw [HX.out]; rfl, HB1.out⟩
      · have q2 : ¬ (20 : Int) < (eR.length : Int) := by omega
        have HF := hid hf
        have HRQ := hid (reqs_any p eR _ A m wa HSH.out.rn HSH.out.rs (HS.out.below HB1.out) (HR.out.below HB1.out))
        clear hf
        go_wp2_with fail
        refine HRQ.out.mono ?_
        rintro e wb ⟨u, rfl, he, hb⟩
        have HB2 := hid (HB1.out.trans (hb.mono HB1.out.size))
        have HE2 := hid (show wb.heap[W.heap.size]? = some (.cells #[.string p, .string q, .slice ra eR.length rc, .slice pa pn pc, .bool bk] 42 (0, 0)) by rw [hb.block _ (lt_of_blk HE1.out)]; exact HE1.out)
        clear y0 y1 y2 y3 y4 HRQ
        have z0 : wb.cell? ⟨W.heap.size, 0, none⟩ = some (.string p) := by rw [Lib.cell_of_heap HE2.out]; rfl
        have z1 : wb.cell? ⟨W.heap.size, 1, none⟩ = some (.string q) := by rw [Lib.cell_of_heap HE2.out]; rfl
        have z2 : wb.cell? ⟨W.heap.size, 2, none⟩ = some (.slice ra eR.length rc) := by rw [Lib.cell_of_heap HE2.out]; rfl
        have z3 : wb.cell? ⟨W.heap.size, 3, none⟩ = some (.slice pa pn pc) := by rw [Lib.cell_of_heap HE2.out]; rfl
        have z4 : wb.cell? ⟨W.heap.size, 4, none⟩ = some (.bool bk) := by rw [Lib.cell_of_heap HE2.out]; rfl
        cases hfe : fstE (reqE p eR) eR.length with
        | none =>
          rw [hfe] at he
          have hc := codeE_none hfe
          have he : u = errA A (codeE (reqE p eR) eR.length) := he
          rw [hc, errA0] at he
          subst he
          have HX := hid (show entW pr ((p, q), eR, eP, bk) = packErr (bl eP) by rw [HLL.out]; exact entR_pack HF.out hc)
          have HPP := hid (packs_any eP _ A m wb HSH.out.pn HSH.out.ps (HS.out.below HB2.out) (HPK.out.below HB2.out))
          clear hb hc hfe
          go_wp2_with fail
          refine HPP.out.mono ?_
          rintro e wc ⟨rfl, hb⟩
          have HB3 := hid (HB2.out.trans (hb.mono HB2.out.size))
          clear hb
          go_wp2_with fail
          go_ret
          exact ⟨by rw [HX.out]; rfl, HB3.out⟩
        | some j =>
          rw [hfe] at he
          have hc : codeE (reqE p eR) eR.length ≠ 0 := he.1
          have HX := hid (show entW pr ((p, q), eR, eP, bk) = codeE (reqE p eR) eR.length by rw [HLL.out]; exact entR_req HF.out hc)
          have HBA := hid (bare_any u _ _ A m wb (HS.out.below HB2.out) he hc)
          obtain ⟨_, fb, hu, _⟩ := he
          subst hu
          clear hb hc hfe
          go_wp2_with fail
          refine HBA.out.mono ?_
          rintro e wc ⟨rfl, hb⟩
          have HB3 := hid (HB2.out.trans (hb.mono HB2.out.size))
          clear hb
          go_wp2_with fail
          go_ret
          exact ⟨by rw [HX.out]; rfl, HB3.out⟩
end Ve
end Go.Proofs.YtnkgjddkdikikaaGreatDoor
namespace Go.Proofs.YtnkgjddkdikikaaGreatDoor
open Go.RowKit
namespace Ve
def entE (L : List Ent) (i : Nat) : Nat := match L[i]? with
  | none => 0
  | some e => entW (if i = 0 then none else (L[i - 1]?).map (·.1)) e
theorem entE_0 {L : List Ent} (h : 0 < L.length) : entE L 0 = entW none L[0] := by unfold entE; rw [List.getElem?_eq_getElem h]; rfl
theorem entE_1 {L : List Ent} {k : Nat} (h : k + 1 < L.length) : entE L (k + 1) = entW (some (L[k]'(by omega)).1) L[k + 1] := by
  unfold entE
  rw [List.getElem?_eq_getElem h]
  simp only [Nat.add_sub_cancel, List.getElem?_eq_getElem (show k < L.length by omega)]
  rw [if_neg (by omega)]; rfl
def reqE2 (Q : List Raw) (L : List Ent) (i : Nat) : Nat := match L[i]? with
  | none => 0
  | some e => codeE (nonE Q e.2.1) e.2.1.length
theorem reqE2_at {Q : List Raw} {L : List Ent} {i : Nat} (h : i < L.length) : reqE2 Q L i = codeE (nonE Q L[i].2.1) L[i].2.1.length := by unfold reqE2; rw [List.getElem?_eq_getElem h]
def chk (Q : List Raw) (L : List Ent) : Nat × Option Nat := if 100 < L.length then (7, none) else match fstE (entE L) L.length with
  | some i => (entE L i, some i)
  | none => (codeE (reqE2 Q L) L.length, fstE (reqE2 Q L) L.length)
theorem chk_full {Q : List Raw} {L : List Ent} (h : 100 < L.length) : chk Q L = (7, none) := by unfold chk; rw [if_pos h]
theorem chk_each {Q : List Raw} {L : List Ent} {i : Nat} (h : ¬ 100 < L.length) (hi : fstE (entE L) L.length = some i) : chk Q L = (entE L i, some i) := by unfold chk; rw [if_neg h, hi]
theorem chk_reqs {Q : List Raw} {L : List Ent} (h : ¬ 100 < L.length) (hi : fstE (entE L) L.length = none) : chk Q L = (codeE (reqE2 Q L) L.length, fstE (reqE2 Q L) L.length) := by unfold chk; rw [if_neg h, hi]
theorem eachK_any (Q : List Raw) (L : List Ent) (v : Value) (b : Nat) (A : Nat → Addr) (m : Int) (W : World) (hL : L.length ≤ 1000000) (sh : ∀ e, e ∈ L → ShE e) (S : Te W A m) (h1 : W.cell? ⟨b, 0, none⟩ = some v) (I : Ixs W v Q L) (i : Nat) (hi : i < Q.length) :
    Calls Tryz.prog 115 (#[.int .i64 (i : Int), rawV Q[i]] ++ #[.pointer (some ⟨b, 0, none⟩)]) W fun e w' => e = .returned (errA A (entE L i)) ∧ Below W.heap.size W w' := by
  have hiL : i < L.length := by rw [← I.ln]; exact hi
  have ok := I.ok i hi hiL
  have she := sh L[i] (List.getElem_mem hiL)
  obtain ⟨a, c, hv, _, hs, hc⟩ := id I.es
  have hsl := hs Q[i] (List.getElem_mem hi)
  cases i with
  | zero =>
    rw [entE_0 hiL]
    generalize hq : Q[0] = r at *
    generalize he : L[0] = e at *
    obtain ⟨⟨p, q⟩, rv, pv, bk⟩ := r
    obtain ⟨⟨p', q'⟩, eR, eP, bk'⟩ := e
    obtain ⟨hm, hrq, hpk, hbk⟩ := ok
    simp only at hm hrq hpk hbk
    subst hbk
    obtain ⟨rfl, rfl⟩ : p = p' ∧ q = q' := by injection hm with h1 h2; exact ⟨h1, h2⟩
    by_cases hb : mErr (p, q) = 0
    · exact eachK_0 none rfl p q rv pv eR eP bk b A m W hsl she S hb hrq hpk
    · rw [entW_bad hb]
      exact eachK_bad p q rv pv bk 0 b A m W hsl she.p she.v S hb
  | succ k =>
    rw [entE_1 hiL]
    have hkq : k < Q.length := by omega
    have hkL : k < L.length := by omega
    have okk := (I.ok k hkq hkL).m
    have shk := sh L[k] (List.getElem_mem hkL)
    obtain ⟨bb, oo, ha, hcc⟩ := hc (by intro h; rw [h] at hkq; simp at hkq)
    obtain ⟨y0, y1, _⟩ := hcc k hkq
    generalize hq : Q[k + 1] = r at *
    generalize he : L[k + 1] = e at *
    generalize hpr : L[k].1 = pr at *
    obtain ⟨⟨p, q⟩, rv, pv, bk⟩ := r
    obtain ⟨⟨p', q'⟩, eR, eP, bk'⟩ := e
    obtain ⟨p0, q0⟩ := pr
    obtain ⟨hm, hrq, hpk, hbk⟩ := ok
    simp only at hm hrq hpk hbk
    subst hbk
    obtain ⟨rfl, rfl⟩ : p = p' ∧ q = q' := by injection hm with h1 h2; exact ⟨h1, h2⟩
    by_cases hb : mErr (p, q) = 0
    · refine eachK_1 (some (p0, q0)) k p0 q0 rfl p q rv pv eR eP bk b A m W hsl she S hb hrq hpk bb oo Q.length c hkq (by rw [I.ln]; exact hL) ?_ ?_ ?_ ?_
      · have := shk.v; rw [hpr] at this; exact this
      · rw [h1, hv, ha]
      · rw [okk] at y0; exact y0
      · rw [okk] at y1; exact y1
    · rw [entW_bad hb]
      exact eachK_bad p q rv pv bk (k + 1) b A m W hsl she.p she.v S hb
set_option maxHeartbeats 2000000 in
theorem each_any (Q : List Raw) (L : List Ent) (v : Value) (A : Nat → Addr) (m : Int) (w : World) (hL : L.length ≤ 1000000) (sh : ∀ e, e ∈ L → ShE e) (S : Te w A m) (I : Ixs w v Q L) :
    Calls Tryz.prog 52 #[v] w fun e w' => ∃ x, e = .returned x ∧ ErrAt w' A x (codeE (entE L) L.length) (fstE (entE L) L.length) ∧ Below w.heap.size w w' := by
  obtain ⟨a, c, hv1, _⟩ := id I.es
  subst hv1
  have HB0 := hid ((Below.refl w.heap.size w).alloc (Nat.le_refl _) (.cells #[.slice a Q.length c] 22))
  have eg : ∀ args w, (callFunc 115 args).run Tryz.prog w = .ok (.enter 115 args) w := enters_of Tryz.func115 (by kernel_rfl) rfl
  have HF := hid (firstE_any 115 #[.pointer (some ⟨w.heap.size, 0, none⟩)] (entE L) Q _ A (w.alloc (.cells #[.slice a Q.length c] 22)) eg (by rw [I.ln]; exact hL) (I.es.below HB0.out) (fun i hi W hW =>
    eachK_any Q L _ w.heap.size A m W hL sh ((S.below HB0.out).below hW) (cell_below hW (by simp)) ((I.below HB0.out).below hW) i hi))
  have HLN := hid I.ln
  clear S I eg
  go_enter Tryz.func52, Tryz.ntmps52
  go_wp2_with fail
  refine HF.out.mono ?_
  rintro e w1 ⟨u, rfl, he, hb⟩
  have HB := hid (HB0.out.trans (hb.mono HB0.out.size))
  rw [HLN.out] at he
  have HE := hid he
  clear hb he
  go_wp2_with fail
  go_ret
  exact ⟨_, rfl, HE.out, HB.out⟩
set_option maxHeartbeats 4000000 in
theorem icheck_any (Q : List Raw) (L : List Ent) (v : Value) (A : Nat → Addr) (m : Int) (w : World) (hL : L.length ≤ 1000000) (sh : ∀ e, e ∈ L → ShE e) (S : Te w A m) (I : Ixs w v Q L) :
    Calls Tryz.prog 15 #[v] w fun e w' => ∃ x, e = .returned x ∧ ErrAt w' A x (chk Q L).1 (chk Q L).2 ∧ Below w.heap.size w w' := by
  obtain ⟨a, c, hv1, _, hs, _⟩ := id I.es
  subst hv1
  have HB0 := hid ((Below.refl w.heap.size w).alloc (Nat.le_refl _) (.cells #[.slice a Q.length c] 22))
  have HEA := hid (each_any Q L _ A m _ hL sh (S.below HB0.out) (I.below HB0.out))
  have hln := I.ln
  have HS := hid S
  have HI := hid I
  have HSL := hid hs
  have HSH := hid sh
  have c0 : (w.alloc (.cells #[.slice a Q.length c] 22)).cell? ⟨w.heap.size, 0, none⟩ = some (.slice a Q.length c) := by simp
  have HC0 := hid c0
  rw [hln] at c0
  have eg : ∀ args w, (callFunc 54 args).run Tryz.prog w = .ok (.enter 54 args) w := enters_of Tryz.func54 (by kernel_rfl) rfl
  have HEG := hid eg
  clear S I hs sh eg
  by_cases h1 : 100 < L.length
  · have q1 : (100 : Int) < (L.length : Int) := by omega
    have g6 := (HS.out.below HB0.out).sen.g6
    rw [chk_full h1, hln]
    rw [hln] at HB0
    clear h1 HEA
    go_enter Tryz.func15, Tryz.ntmps15
    rw [hln] at g6
    go_wp2_with fail
    go_ret
    exact ⟨_, rfl, rfl, HB0.out⟩
  · have q1 : ¬ (100 : Int) < (L.length : Int) := by omega
    have H1 := hid h1
    rw [hln] at HB0 HEA ⊢
    clear h1
    go_enter Tryz.func15, Tryz.ntmps15
    go_wp2_with fail
    refine HEA.out.mono ?_
    rintro e w1 ⟨x, rfl, he, hb⟩
    have HB1 := hid (HB0.out.trans (hb.mono HB0.out.size))
    have c1 := cell_below hb c0
    have HC1 := hid c1
    clear hb HEA
    cases hf : fstE (entE L) L.length with
    | some i =>
      rw [hf, codeE_some hf] at he
      have HX := hid (chk_each (Q := Q) H1.out hf)
      have HE := hid he
      obtain ⟨_, fb, hu, _⟩ := he
      subst hu
      clear hf
      go_wp2_with fail
      go_ret
      exact ⟨_, rfl, by rw [HX.out]; exact HE.out, HB1.out⟩
    | none =>
      rw [hf, codeE_none hf] at he
      have he : x = errA A 0 := he
      rw [errA0] at he
      subst he
      have HX := hid (chk_reqs (Q := Q) H1.out hf)
      have HF := hid (firstE_any 54 #[.pointer (some ⟨w.heap.size, 0, none⟩)] (reqE2 Q L) Q (.slice a Q.length c) A w1 HEG.out (by rw [hln]; exact hL) ((HI.out.es).below HB1.out) (fun i hi W hW => by
        have hiL : i < L.length := by rw [← hln]; exact hi
        rw [reqE2_at hiL]
        exact checkK_any Q Q[i] L[i].2.1 i w.heap.size (.slice a Q.length c) A m W (by rw [hln]; exact hL) (HSH.out L[i] (List.getElem_mem hiL)).rn ((HS.out.below HB1.out).below hW) (cell_below hW (by rw [hln]; exact HC1.out)) ((HI.out.es.below HB1.out).below hW) (HSL.out Q[i] (List.getElem_mem hi)) ((HI.out.ok i hi hiL).rq.below (HB1.out.trans (hW.mono HB1.out.size)))))
      rw [hln] at HF
      clear hf
      go_wp2_with fail
      refine HF.out.mono ?_
      rintro e w2 ⟨x, rfl, he, hb⟩
      have HB2 := hid (HB1.out.trans (hb.mono HB1.out.size))
      have HE := hid he
      clear hb he
      go_wp2_with fail
      go_ret
      exact ⟨_, rfl, by rw [HX.out]; exact HE.out, HB2.out⟩
end Ve
end Go.Proofs.YtnkgjddkdikikaaGreatDoor
namespace Go.Proofs.YtnkgjddkdikikaaGreatDoor
open Go.RowKit
namespace Ve
theorem idx_is {P : Raw → Bool} {L : List Raw} {k : Nat} (h : idxOf P L = (k : Int)) : ∃ hk : k < L.length, P L[k] = true := by
  unfold idxOf at h
  cases h1 : fstE (idxE P L) L.length with
  | none => rw [h1] at h; simp only at h; omega
  | some j =>
    rw [h1] at h
    simp only at h
    have e : j = k := by omega
    subst e
    obtain ⟨a, b, _⟩ := fstE_of_some h1
    refine ⟨a, ?_⟩
    rw [idxE_at a] at b
    cases hp : P L[j] with
    | true => rfl
    | false => rw [hp] at b; exact absurd rfl b
theorem ErrAt.kind {W : World} {A : Nat → Addr} {x : Value} {c : Nat} {o : Option Nat} (h : ErrAt W A x c o) : (c = 0 ∧ x = .nilIface) ∨ (c ≠ 0 ∧ ∃ T a, x = .iface T (.pointer (some a))) := by
  cases o with
  | none =>
    have h : x = errA A c := h
    by_cases hc : c = 0
    · subst hc; exact Or.inl ⟨rfl, h⟩
    · obtain ⟨a, ha⟩ := errA_ne A hc
      exact Or.inr ⟨hc, _, a, h.trans ha⟩
  | some i =>
    obtain ⟨h1, b, h2, _⟩ := h
    exact Or.inr ⟨h1, _, _, h2⟩
theorem okI_iff {L : List Ent} (h : okI L = true) : (L.length ≤ 30 ∨ L.length = 101) ∧ ∀ e, e ∈ L → e.1.1.size ≤ 70 ∧ e.1.2.size ≤ 60 ∧ e.2.1.length ≤ 25 ∧ (∀ m, m ∈ e.2.1 → m.1.size ≤ 70 ∧ m.2.size ≤ 60) ∧ e.2.2.1.length ≤ 15 ∧ ∀ x, x ∈ e.2.2.1 → x.size ≤ 70 := by
  unfold okI at h
  rw [Bool.and_eq_true] at h
  obtain ⟨h1, h2⟩ := h
  refine ⟨by simpa [okN] using h1, fun e he => ?_⟩
  have h3 := List.all_eq_true.1 h2 e he
  unfold okE at h3
  simp only [Bool.and_eq_true, decide_eq_true_eq] at h3
  obtain ⟨⟨⟨⟨a, b⟩, c⟩, d⟩, f⟩ := h3
  obtain ⟨c1, c2⟩ := okL_iff c
  refine ⟨a, b, c1, c2, d, fun x hx => ?_⟩
  have := List.all_eq_true.1 f x hx
  simpa using this
theorem okI_sh {L : List Ent} (h : okI L = true) : ∀ e, e ∈ L → ShE e := fun e he => by
  obtain ⟨a, b, c, d, f, g⟩ := (okI_iff h).2 e he
  exact ⟨by omega, by omega, by omega, fun m hm => ⟨by have := (d m hm).1; omega, by have := (d m hm).2; omega⟩, by omega, fun x hx => by have := g x hx; omega⟩
theorem okI_fits {L : List Ent} (h : okI L = true) : ∀ e, e ∈ L → Fits e := fun e he => by
  obtain ⟨a, b, c, d, f, g⟩ := (okI_iff h).2 e he
  exact ⟨by omega, by omega⟩
end Ve
end Go.Proofs.YtnkgjddkdikikaaGreatDoor
namespace Go.Proofs.YtnkgjddkdikikaaGreatDoor
open Go.RowKit Go.Maps
namespace Ve
def eqM (x m : Bm) : Bool := decide (x.1 = m.1 ∧ x.2 = m.2)
theorem eqM_run (x m : Bm) (W : World) : (binOp .eql 35 (.agg #[.string x.1, .string x.2]) (.agg #[.string m.1, .string m.2])).run Tryz.prog W = .ok (.bool (eqM x m)) W := modEql x.1 x.2 m.1 m.2 W
set_option maxRecDepth 100000 in
set_option maxHeartbeats 1000000 in
theorem findOf_some (L : List Raw) (m : Bm) (b o c : Nat) (w : World) (hL : L.length ≤ 1000000)
    (hc : ∀ j (h : j < L.length), w.cell? ⟨b, o + j * 5, none⟩ = some (.string L[j].1.1) ∧ w.cell? ⟨b, o + j * 5 + 1, none⟩ = some (.string L[j].1.2)) :
    Calls Tryz.prog 28 #[.slice (some ⟨b, o, none⟩) L.length c, .agg #[.string m.1, .string m.2]] w fun e w' => e = .returned (.int .i64 (idxOf (isM m) L)) ∧ Below w.heap.size w w' := by
  have HC := hid hc
  have hgd := modGuard
  generalize hr : idxOf (isM m) L = r
  have HR := hid hr
  have HB0 := hid ((Below.refl w.heap.size w).alloc (Nat.le_refl _) (.cells #[.string m.1, .string m.2] 35))
  have HE0 := hid (heap_new w (.cells #[.string m.1, .string m.2] 35))
  clear hc hr
  go_enter Tryz.func28, Tryz.ntmps28
  go_wp2_with fail
  generalize hw1 : w.alloc (.cells #[.string m.1, .string m.2] 35) = w1 at *
  clear hw1
  go_loopw [5] (fun i wr => ∃ k : Nat, k ≤ L.length ∧ i = .int .i64 k ∧ Hid (∀ j (h : j < L.length), j < k → isM m L[j] = false) ∧ Hid (Below w1.heap.size w1 wr)) (fun i _ => L.length - (intOf i).toNat)
  case atStart => exact ⟨0, Nat.zero_le _, rfl, hid (fun j _ hj => absurd hj (by omega)), hid (Below.refl _ _)⟩
  case round =>
    obtain ⟨k, hk, rfl, HA, HB⟩ := hrel
    have HBw := hid (HB0.out.trans (HB.out.mono HB0.out.size))
    by_cases hlt : k < L.length
    · have x0 := cell_below HBw.out (HC.out k hlt).1
      have x1 := cell_below HBw.out (HC.out k hlt).2
      have hE : wr.heap[w.heap.size]? = some (.cells #[.string m.1, .string m.2] 35 (0, 0)) := (HB.out.block _ (lt_of_blk HE0.out)).trans HE0.out
      have y0 : wr.cell? ⟨w.heap.size, 0, none⟩ = some (.string m.1) := by rw [Lib.cell_of_heap hE]; rfl
      have y1 : wr.cell? ⟨w.heap.size, 1, none⟩ = some (.string m.2) := by rw [Lib.cell_of_heap hE]; rfl
      have HF := hid (fun h => idx_hit hlt HA.out h)
      have HN := hid (fun h => idx_next hlt HA.out h)
      have HEQ := hid (show isM m L[k] = eqM L[k].1 m from rfl)
      have hkI : (k : Int) < (L.length : Int) := by omega
      have HLT := hid hlt
      clear hE
      generalize L[k] = x at *
      clear hlt
      have heq := fun W => eqM_run x.1 m W
      cases he : eqM x.1 m with
      | false =>
        rw [he] at heq HEQ
        have HN2 := hid (HN.out HEQ.out)
        clear HF HN HEQ he
        go_wp2_with fail
        go_quiet (fail)
        go_wp2_with fail
        go_roundw
        case rel => first | exact ⟨k + 1, HLT.out, nr_idx k, HN2, hid (below_drawn_of HB.out _)⟩ | exact ⟨k + 1, HLT.out, nx_idx HLT.out hL, HN2, hid (below_drawn_of HB.out _)⟩
        case measure => first | exact nr_meas HLT.out | exact nx_meas HLT.out hL
      | true =>
        rw [he] at heq HEQ
        have HF2 := hid (HF.out HEQ.out)
        clear HF HN HEQ he
        go_wp2_with fail
        go_quiet (fail)
        go_wp2_with fail
        go_ret
        exact ⟨by rw [← HR.out, HF2.out]; rfl, below_drawn_of HBw.out _⟩
    · have HF := hid (show idxOf (isM m) L = -1 by unfold idxOf; rw [fstE_none (idxE_zero (Nat.le_refl _) (fun j hj _ => HA.out j hj (by omega)))])
      have hkI : ¬ (k : Int) < (L.length : Int) := by omega
      clear hlt
      go_wp2_with fail
      go_ret
      exact ⟨by rw [← HR.out, HF.out]; rfl, HBw.out⟩
theorem findOf_any (L : List Raw) (m : Bm) (v : Value) (w : World) (hL : L.length ≤ 1000000) (h0 : 0 < L.length) (hv : EsAt w v L) :
    Calls Tryz.prog 28 #[v, .agg #[.string m.1, .string m.2]] w fun e w' => e = .returned (.int .i64 (idxOf (isM m) L)) ∧ Below w.heap.size w w' := by
  obtain ⟨a, c, rfl, _, _, h⟩ := hv
  obtain ⟨b, o, rfl, h2⟩ := h (fun e => by rw [e] at h0; exact absurd h0 (Nat.lt_irrefl _))
  exact findOf_some L m b o c w hL (fun j hj => ⟨(h2 j hj).1, (h2 j hj).2.1⟩)
theorem MsAt.cells {w : World} {a : Option Addr} {n c : Nat} {L : List Bm} (h : MsAt w (.slice a n c) L) {k : Nat} (hk : k < L.length) : ∃ b o, a = some ⟨b, o, none⟩ ∧ w.cell? ⟨b, o + k * 2, none⟩ = some (.string L[k].1) ∧ w.cell? ⟨b, o + k * 2 + 1, none⟩ = some (.string L[k].2) := by
  obtain ⟨a', c', e, _, h⟩ := h
  injection e with e1 e2 e3
  subst e1
  obtain ⟨b, o, e4, h4⟩ := h (by intro h0; rw [h0] at hk; simp at hk)
  exact ⟨b, o, e4, h4 k hk⟩
theorem es_cells {W : World} {a : Option Addr} {n c : Nat} {Q : List Raw} (h : EsAt W (.slice a n c) Q) {k : Nat} (hk : k < Q.length) : ∃ b o, a = some ⟨b, o, none⟩ ∧ W.cell? ⟨b, o + k * 5 + 2, none⟩ = some Q[k].2.1 := by
  obtain ⟨a', c', e, _, _, h⟩ := h
  injection e with e1 e2 e3
  subst e1
  obtain ⟨b', o', e4, h4⟩ := h (by intro h0; rw [h0] at hk; simp at hk)
  exact ⟨b', o', e4, (h4 k hk).2.2.1⟩
end Ve
end Go.Proofs.YtnkgjddkdikikaaGreatDoor
namespace Go.Proofs.YtnkgjddkdikikaaGreatDoor
open Go.RowKit
namespace Ve
theorem mAhead_trans {a b c : Bm} (h1 : mAhead a b = true) (h2 : mAhead b c = true) : mAhead a c = true := by
  unfold mAhead aheadB at *
  by_cases e1 : a.1.data.toList = b.1.data.toList
  · rw [if_pos e1] at h1
    rw [e1]
    by_cases e2 : b.1.data.toList = c.1.data.toList
    · rw [if_pos e2] at h2 ⊢
      unfold lessB at *
      simp only [Bool.and_eq_true, decide_eq_true_eq] at *
      exact ⟨h1.1, h2.2.1, ordV_trans h1.2.2 h2.2.2⟩
    · rw [if_neg e2] at h2 ⊢; exact h2
  · rw [if_neg e1] at h1
    by_cases e2 : b.1.data.toList = c.1.data.toList
    · rw [← e2, if_neg e1]; exact h1
    · rw [if_neg e2] at h2
      have h3 := cbt _ _ _ (of_decide_eq_true h1) (of_decide_eq_true h2)
      by_cases e3 : a.1.data.toList = c.1.data.toList
      · rw [e3] at h3
        have := lt_irrefl c.1
        unfold lt at this
        exact absurd h3 (of_decide_eq_false this)
      · rw [if_neg e3]; exact decide_eq_true h3
theorem chk_each0 {Q : List Raw} {L : List Ent} (h : (chk Q L).1 = 0) : L.length ≤ 100 ∧ ∀ i, i < L.length → entE L i = 0 := by
  by_cases h1 : 100 < L.length
  · rw [chk_full h1] at h; exact absurd h (by decide)
  · refine ⟨by omega, ?_⟩
    cases hf : fstE (entE L) L.length with
    | some i =>
      rw [chk_each h1 hf] at h
      exact absurd h (fstE_of_some hf).2.1
    | none => exact fstE_of_none hf
theorem entE_mod {L : List Ent} {i : Nat} (hi : i < L.length) (h : entE L i = 0) : mErr L[i].1 = 0 := by
  by_cases hm : mErr L[i].1 = 0
  · exact hm
  · unfold entE at h
    rw [List.getElem?_eq_getElem hi] at h
    simp only at h
    rw [entW_bad hm] at h
    exact absurd h hm
theorem entE_ahead {L : List Ent} {k : Nat} (hk : k + 1 < L.length) (h : entE L (k + 1) = 0) : mAhead (L[k]'(by omega)).1 L[k + 1].1 = true := by
  have hm := entE_mod hk h
  rw [entE_1 hk] at h
  cases ha : mAhead (L[k]'(by omega)).1 L[k + 1].1
  · rw [entW_order hm ha] at h; exact absurd h (by decide)
  · rfl
theorem ahead_all {L : List Ent} (h : ∀ i, i < L.length → entE L i = 0) : ∀ (d i : Nat) (hi : i + d + 1 < L.length), mAhead (L[i]'(by omega)).1 (L[i + d + 1]'hi).1 = true
  | 0, i, hi => entE_ahead hi (h _ hi)
  | d + 1, i, hi => mAhead_trans (ahead_all h d i (by omega)) (entE_ahead (k := i + d + 1) hi (h _ hi))
end Ve
end Go.Proofs.YtnkgjddkdikikaaGreatDoor
