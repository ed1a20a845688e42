/-
  What mvs.newestFirst answers; what slices.SortFunc with it makes of a row of modules that are right.
-/
import Derived.Test.YtacggkigfjpfnaaGreatDoorTm2
import Derived.Deep.RegionHeld
import Derived.Test.YtacggkigfjpfnaaGreatDoorFileQ
import Derived.Test.YtacggkigfjpfnaaGreatDoorTm1
import Derived.Maps.OwnSet
import Derived.DeepKeys4
import Derived.MapViews
import Derived.Deep.DeepCutAuto
import Derived.Test.YtacggkigfjpfnaaGreatDoorProg
namespace Go.Proofs.YtacggkigfjpfnaaGreatDoor
open Go.RowKit
namespace Ve

theorem grow_of_be {W w' : World} (h : Below W.heap.size W w') (hd : W.drawn ≤ w'.drawn) : ∃ q os', w' = Go.Sort.grow (W.drewN q) os' := by
  refine ⟨w'.drawn - W.drawn, w'.heap.extract W.heap.size w'.heap.size, ?_⟩
  have hh : w'.heap = W.heap ++ w'.heap.extract W.heap.size w'.heap.size := by
    apply Array.ext_getElem?
    intro i
    by_cases hi : i < W.heap.size
    · rw [Array.getElem?_append_left hi, h.block i hi]
    · rw [Array.getElem?_append_right (by omega), Array.getElem?_extract]
      have hs := h.size
      by_cases h2 : i < w'.heap.size
      · rw [if_pos (by omega)]
        congr 1
        omega
      · rw [if_neg (by omega)]
        exact Array.getElem?_eq_none (by omega)
  obtain ⟨a, b, c, d, e⟩ := w'
  obtain ⟨a', b', c', d', e'⟩ := W
  have h1 := h.os
  have h2 := h.tape
  have h3 := h.output
  simp only at h1 h2 h3 hh hd
  subst h1 h2 h3
  simp only [Go.Sort.grow, World.drewN, World.mk.injEq, true_and, and_true]
  exact ⟨hh, by omega⟩
set_option maxHeartbeats 2000000 in
/-- mvs.newestFirst. -/
theorem nf_any (a b : Bm) (A : Nat → Addr) (ml : Int) (w : World) (ha : a.2.size < 999999) (hb : b.2.size < 999999) (S : Te w A ml) :
    Calls Tryz.prog 51 #[.agg #[.string a.1, .string a.2], .agg #[.string b.1, .string b.2]] w fun e w' => e = .returned (.int .i64 (nfC a b)) ∧ Below w.heap.size w w' := by
  obtain ⟨p, v⟩ := a
  obtain ⟨q, u⟩ := b
  simp only at ha hb
  have HB0 := hid (((Below.refl w.heap.size w).alloc (Nat.le_refl _) (.cells #[.string p, .string v] 45)).alloc (by simp) (.cells #[.string q, .string u] 45))
  have HS := hid S
  by_cases h : p = q
  · subst h
    have he := str_refl p
    have HX := hid (show nfC (p, v) (p, u) = if mAhead (p, u) (p, v) then -1 else if mAhead (p, v) (p, u) then 1 else 0 by unfold nfC; rw [if_pos rfl])
    have H1 := hid (fun W (SW : Te W A ml) => ahead_any p u p v A ml W hb ha SW)
    have H2 := hid (fun W (SW : Te W A ml) => ahead_any p v p u A ml W ha hb SW)
    have e1 : aheadB p.data.toList u.data.toList p.data.toList v.data.toList = mAhead (p, u) (p, v) := rfl
    have e2 : aheadB p.data.toList v.data.toList p.data.toList u.data.toList = mAhead (p, v) (p, u) := rfl
    rw [e1] at H1
    rw [e2] at H2
    generalize nfC (p, v) (p, u) = r at *
    clear S e1 e2
    have HD := hid (fun W (hW : Below ((w.alloc (.cells #[.string p, .string v] 45)).alloc (.cells #[.string p, .string u] 45)).heap.size ((w.alloc (.cells #[.string p, .string v] 45)).alloc (.cells #[.string p, .string u] 45)) W) =>
      show W.cell? ⟨w.heap.size, 0, none⟩ = some (.string p) ∧ W.cell? ⟨w.heap.size, 1, none⟩ = some (.string v) ∧ W.cell? ⟨w.heap.size + 1, 0, none⟩ = some (.string p) ∧ W.cell? ⟨w.heap.size + 1, 1, none⟩ = some (.string u) from ⟨cell_below hW (by simp), cell_below hW (by simp), cell_below hW (by simp), cell_below hW (by simp)⟩)
    cases h1 : mAhead (p, u) (p, v)
    · rw [h1] at H1 HX
      cases h2 : mAhead (p, v) (p, u)
      · rw [h2] at H2 HX
        clear h1 h2
        go_enter Tryz.func51, Tryz.ntmps51
        go_wp2_with fail
        refine (H1.out _ (HS.out.below HB0.out)).mono ?_
        rintro e w1 ⟨rfl, hb1⟩
        obtain ⟨d0, d1, d2, d3⟩ := HD.out w1 hb1
        have HB1 := hid (HB0.out.trans (hb1.mono HB0.out.size))
        clear hb1
        go_wp2_with fail
        refine (H2.out _ (HS.out.below HB1.out)).mono ?_
        rintro e w2 ⟨rfl, hb2⟩
        have HB2 := hid (HB1.out.trans (hb2.mono HB1.out.size))
        clear hb2
        go_wp2_with fail
        go_ret
        exact ⟨by rw [HX.out]; rfl, HB2.out⟩
      · rw [h2] at H2 HX
        clear h1 h2
        go_enter Tryz.func51, Tryz.ntmps51
        go_wp2_with fail
        refine (H1.out _ (HS.out.below HB0.out)).mono ?_
        rintro e w1 ⟨rfl, hb1⟩
        obtain ⟨d0, d1, d2, d3⟩ := HD.out w1 hb1
        have HB1 := hid (HB0.out.trans (hb1.mono HB0.out.size))
        clear hb1
        go_wp2_with fail
        refine (H2.out _ (HS.out.below HB1.out)).mono ?_
        rintro e w2 ⟨rfl, hb2⟩
        have HB2 := hid (HB1.out.trans (hb2.mono HB1.out.size))
        clear hb2
        go_wp2_with fail
        go_ret
        exact ⟨by rw [HX.out]; rfl, HB2.out⟩
    · rw [h1] at H1 HX
      clear h1
      go_enter Tryz.func51, Tryz.ntmps51
      go_wp2_with fail
      refine (H1.out _ (HS.out.below HB0.out)).mono ?_
      rintro e w1 ⟨rfl, hb1⟩
      have HB1 := hid (HB0.out.trans (hb1.mono HB0.out.size))
      clear hb1
      go_wp2_with fail
      go_ret
      exact ⟨by rw [HX.out]; rfl, HB1.out⟩
  · have he := str_ne h
    have HX := hid (show nfC (p, v) (q, u) = Lib.compareBytes p.data.toList q.data.toList by unfold nfC; rw [if_neg h])
    have HC := hid (fun W => Tryz.strings_Compare p q W)
    rw [HX.out]
    clear S h
    go_enter Tryz.func51, Tryz.ntmps51
    go_wp2_with fail
    refine (HC.out _).mono ?_
    rintro e w1 ⟨rfl, rfl⟩
    go_wp2_with fail
    go_ret
    exact ⟨rfl, HB0.out⟩
theorem nf_bw (a b : Bm) (A : Nat → Addr) (ml : Int) (w : World) (ha : a.2.size < 999999) (hb : b.2.size < 999999) (S : Te w A ml) :
    Calls Tryz.prog 51 #[.agg #[.string a.1, .string a.2], .agg #[.string b.1, .string b.2]] w fun e w' => e = .returned (.int .i64 (nfC a b)) ∧ ∃ q os', w' = Go.Sort.grow (w.drewN q) os' :=
  (Mo.calls_ge (nf_any a b A ml w ha hb S) (fun _ _ h => ⟨_, h.1⟩)).mono fun _ _ ⟨⟨h1, h2⟩, h3⟩ => ⟨h1, grow_of_be h2 h3⟩
/-- The modules that are right. -/
abbrev Mq := { m : Bm // Rt m }
def encJ (m : Mq) : List Value := mcells m.1
def cfM (a b : Mq) : Int := nfC a.1 b.1
theorem swoM : Go.Sort.SWO (ltOf cfM) where
  irrefl x := by
    unfold ltOf cfM
    simpa using Int.not_lt.1 (nf_irr x.2)
  trans x y z h1 h2 := by
    unfold ltOf cfM at *
    simp only [decide_eq_true_eq] at *
    exact nf_trans x.2 y.2 z.2 h1 h2
  ntrans x y z h1 h2 := by
    unfold ltOf cfM at *
    simp only [decide_eq_false_iff_not] at *
    exact nfW_not z.2 x.2 (nfW_trans z.2 y.2 x.2 (nf_not z.2 y.2 h2) (nf_not y.2 x.2 h1))
theorem encJ_len (r : Mq) : (encJ r).length = 2 := rfl
theorem sorted_belowM {w : World} {g : Nat} {α : Type} [Inhabited α] (enc : α → List Value) (m : Nat) (dk : Array α) (os : Array Obj) (B : Nat) (hB : B ≤ g) (hz : B ≤ w.heap.size) : Below B w (sortWorldK enc 2 w g 0 m dk os) := by
  refine ⟨rfl, rfl, rfl, size_sortWorldK_c enc 2 w g 0 m dk os, fun k hk => ?_⟩
  unfold sortWorldK
  rw [Go.Sort.heap_grow_old _ _ (by rw [Go.Sort.size_putRowK]; show k < w.heap.size; omega)]
  unfold Go.Sort.putRowK Go.Sort.putRow
  show (Array.modify (Go.Sort.ahead w m).heap g _)[k]? = _
  rw [Array.getElem?_modify, if_neg (by omega)]
  rfl
theorem cmpM {w0 w : World} {g : Nat} {D : List Bm} (h : Mw w0 w g D) (A : Nat → Addr) (ml : Int) (S : Te w0 A ml) (n : Nat) [Inhabited Mq] : CmpLays Tryz.prog 51 #[] encJ 2 cfM g 0 n w := by
  intro m os dk hs x y
  have hb : Below w0.heap.size w0 (sortWorldK encJ 2 w g 0 m dk os) := h.bl.trans (sorted_belowM encJ m dk os w0.heap.size h.lo h.bl.size)
  have h := nf_bw x.1 y.1 A ml (sortWorldK encJ 2 w g 0 m dk os) x.2.v y.2.v (S.below hb)
  have e : (#[.agg (encJ x).toArray, .agg (encJ y).toArray] ++ #[] : Array Value) = #[.agg #[.string x.1.1, .string x.1.2], .agg #[.string y.1.1, .string y.1.2]] := by simp [encJ, mcells]
  rw [e]
  exact h
theorem holds_mw {w0 w : World} {g : Nat} {D : List Bm} (h : Mw w0 w g D) [Inhabited Mq] (d : Array Mq) (hd : d.toList.map (·.1) = D) : Go.Sort.HoldsK encJ 2 w g 0 d := by
  have hl : d.size = D.length := by rw [← hd]; simp
  intro t ht
  rw [Go.Sort.size_flatK] at ht
  rw [Go.Sort.get_flatK _ _ _ _ ht]
  have hi : t / 2 < d.size := by omega
  have e : d[t / 2]!.1 = D[t / 2]'(by omega) := by
    rw [getElem!_pos d (t / 2) hi]
    simp [← hd]
  refine ⟨?_, by rw [Nat.zero_add]; exact h.fz t⟩
  show w.cell? ⟨g, 0 + t, none⟩ = some ((mcells d[t / 2]!.1)[t % 2]!)
  rw [e, Nat.zero_add]
  have hm : t % 2 < 2 := Nat.mod_lt _ (by omega)
  have hdm := Nat.div_add_mod t 2
  match hc : t % 2, hm with
  | 0, _ => have := h.c0 (t / 2) (by omega); rw [show t / 2 * 2 = t by omega] at this; exact this
  | 1, _ => have := h.c1 (t / 2) (by omega); rw [show t / 2 * 2 + 1 = t by omega] at this; exact this
theorem lift_mq : ∀ D : List Bm, (∀ r, r ∈ D → Rt r) → ∃ l : List Mq, l.map (·.1) = D
  | [], _ => ⟨[], rfl⟩
  | r :: R, h => by
    obtain ⟨l, e⟩ := lift_mq R (fun q hq => h q (List.mem_cons_of_mem _ hq))
    exact ⟨⟨r, h r (by simp)⟩ :: l, by simp [e]⟩
theorem sort_mw (w0 w : World) (g cap : Nat) (D : List Bm) (hD : D ≠ []) (h12 : D.length ≤ 1000000) (A : Nat → Addr) (ml : Int) (S : Te w0 A ml) (hr : ∀ r, r ∈ D → Rt r) (h : Mw w0 w g D) :
    Calls Tryz.prog 50 #[.slice (some ⟨g, 0, none⟩) D.length cap, .func (.func 51) #[] #[]] w fun e w' => e = .returned (.tuple #[]) ∧ ∃ D', D'.Perm D ∧ srtM D' ∧ Mw w0 w' g D' := by
  obtain ⟨r0, R, rfl⟩ : ∃ r R, D = r :: R := by
    cases D with
    | nil => exact absurd rfl hD
    | cons r R => exact ⟨r, R, rfl⟩
  letI : Inhabited Mq := ⟨⟨r0, hr r0 (by simp)⟩⟩
  obtain ⟨d, hd⟩ : ∃ d : Array Mq, d.toList.map (·.1) = r0 :: R := by
    obtain ⟨l, e⟩ := lift_mq (r0 :: R) hr
    exact ⟨l.toArray, by simpa using e⟩
  have hl : d.size = (r0 :: R).length := by rw [← hd]; simp
  have hH := holds_mw h d hd
  have eg : ∀ args w, (callFunc 51 args).run Tryz.prog w = .ok (.enter 51 args) w := enters_of Tryz.func51 (by kernel_rfl) rfl
  have hcon := AnyQ.slices_SortFunc Tryz.sortMods 2 Tryz.isAgg45 Tryz.sizeOf45 encJ encJ_len (fun x v hv => by
    simp only [encJ, mcells, List.mem_cons, List.not_mem_nil, or_false] at hv
    rcases hv with rfl | rfl <;> rfl) cfM swoM 51 #[] g 0 cap d w eg (cmpM h A ml S d.size) hH h.hi (by omega)
  rw [hl] at hcon
  refine Calls.mono hcon ?_
  rintro e w' ⟨he, d', n, os, hp, hs, rfl⟩
  obtain ⟨hsz, _, hperm⟩ := hp
  have hsz' : d'.size = (r0 :: R).length := hsz.trans hl
  have hHd := holdsK_sortWorldK_c encJ 2 w g 0 d d' n os hH h.hi hsz
  have hpm : d'.toList.Perm d.toList := by
    have e1 : d'.extract 0 (r0 :: R).length = d' := by rw [← hsz']; simp
    have e2 : d.extract 0 (r0 :: R).length = d := by rw [← hl]; simp
    rw [e1, e2] at hperm
    exact hperm
  have hg : ∀ j (hj : j < (d'.toList.map (·.1)).length), d'[j]! = d'[j]'(by simpa using hj) := fun j hj => getElem!_pos d' j (by simpa using hj)
  have cell : ∀ j (hj : j < (d'.toList.map (·.1)).length) c (hc : c < 2), (sortWorldK encJ 2 w g 0 n d' os).cell? ⟨g, j * 2 + c, none⟩ = some ((mcells (d'.toList.map (·.1))[j])[c]!) := by
    intro j hj c hc
    have h1 := (hHd.cell (i := j) (c := c) (by simpa using hj) hc).1
    rw [Nat.zero_add, hg j hj] at h1
    rw [h1]
    simp [encJ]
  refine ⟨he, d'.toList.map (·.1), ?_, ?_, ?_⟩
  · rw [← hd]; exact hpm.map _
  · unfold srtM
    rw [List.pairwise_iff_getElem]
    intro i j hi hj hij
    have h1 := hs i j (Nat.zero_le _) hij (by rw [← hsz']; simpa using hj)
    rw [hg i hi, hg j hj] at h1
    unfold ltOf cfM at h1
    simp only [decide_eq_false_iff_not] at h1
    simp only [List.getElem_map, Array.getElem_toList]
    exact nf_not (d'[i]'(by simpa using hi)).2 (d'[j]'(by simpa using hj)).2 h1
  · refine ⟨h.bl.trans ((sorted_belowM encJ n d' os w0.heap.size h.lo h.bl.size)), h.lo, Nat.lt_of_lt_of_le h.hi (size_sortWorldK_c encJ 2 w g 0 n d' os), fun o => ?_, fun j hj => ?_, fun j hj => ?_⟩
    · unfold sortWorldK
      rw [Go.Sort.frozen?_grow _ _ _ (by rw [Go.Sort.size_putRowK]; exact h.hi)]
      unfold Go.Sort.putRowK
      rw [Go.Sort.frozen?_putRow]
      exact h.fz o
    · exact cell j hj 0 (by omega)
    · exact cell j hj 1 (by omega)
end Ve
end Go.Proofs.YtacggkigfjpfnaaGreatDoor

/-
  slices.CompactFunc over a sorted row of modules: of each path the first one stays.
-/
namespace Go.Proofs.YtacggkigfjpfnaaGreatDoor
open Go.RowKit
namespace Ve

set_option maxHeartbeats 1000000 in
/-- Two modules: are they of one path? -/
theorem sameP_any (a b : Bm) (W : World) :
    Calls Tryz.prog 53 #[.agg #[.string a.1, .string a.2], .agg #[.string b.1, .string b.2]] W fun e w' => e = .returned (.bool (decide (a.1 = b.1))) ∧ Below W.heap.size W w' := by
  obtain ⟨p, v⟩ := a
  obtain ⟨q, u⟩ := b
  have HB0 := hid (((Below.refl W.heap.size W).alloc (Nat.le_refl _) (.cells #[.string p, .string v] 45)).alloc (by simp) (.cells #[.string q, .string u] 45))
  by_cases h : p = q
  · subst h
    have he := str_refl p
    have HD := hid (show decide (p = p) = true by simp)
    show Calls Tryz.prog 53 _ W fun e w' => e = .returned (.bool (decide (p = p))) ∧ _
    generalize decide (p = p) = z at *
    go_enter Tryz.func53, Tryz.ntmps53
    go_wp2_with fail
    go_ret
    exact ⟨ret_bool HD.out.symm, HB0.out⟩
  · have he := str_ne h
    have HD := hid (show decide (p = q) = false by simp [h])
    show Calls Tryz.prog 53 _ W fun e w' => e = .returned (.bool (decide (p = q))) ∧ _
    generalize decide (p = q) = z at *
    go_enter Tryz.func53, Tryz.ntmps53
    go_wp2_with fail
    go_ret
    exact ⟨ret_bool HD.out.symm, HB0.out⟩
theorem compactM_nil (a : Option Addr) (c : Nat) (W : World) : Calls Tryz.prog 52 #[.slice a 0 c, .func (.func 53) #[] #[]] W fun e w' => e = .returned (.slice a 0 c) ∧ Below W.heap.size W w' := by
  go_enter Tryz.func52, Tryz.ntmps52
  go_wp2_with fail
  go_ret
  exact ⟨rfl, Below.refl _ _⟩

/-- Two neighbours' cells, and the row. -/
def TwoM (w0 W : World) (g i j : Nat) (D : List Bm) (y x : Bm) : Prop :=
  W.cell? ⟨g, i, none⟩ = some (.string y.1) ∧ W.cell? ⟨g, i + 1, none⟩ = some (.string y.2) ∧ W.cell? ⟨g, j, none⟩ = some (.string x.1) ∧ W.cell? ⟨g, j + 1, none⟩ = some (.string x.2) ∧ Hid (Mw w0 W g D)
theorem Mw.two {w0 W : World} {g : Nat} {D : List Bm} (h : Mw w0 W g D) {j : Nat} {y x : Bm} (hy : D[j]? = some y) (hx : D[j + 1]? = some x) : TwoM w0 W g (j * 2) ((j + 1) * 2) D y x :=
  ⟨(h.at hy).1, (h.at hy).2, (h.at hx).1, (h.at hx).2, h⟩
set_option maxRecDepth 100000 in
set_option maxHeartbeats 8000000 in
theorem compact_mw (w0 w : World) (g cap : Nat) (D : List Bm) (hD : D ≠ []) (h12 : D.length ≤ 1000000) (hc : D.length ≤ cap) (hr : ∀ r, r ∈ D → Rt r) (hs : srtM D) (hR : Mw w0 w g D) :
    Calls Tryz.prog 52 #[.slice (some ⟨g, 0, none⟩) D.length cap, .func (.func 53) #[] #[]] w fun e w' => ∃ E : List Bm, e = .returned (.slice (some ⟨g, 0, none⟩) E.length cap) ∧ E.length ≤ D.length ∧ Jn D E ∧ Mw w0 w' g E := by
  have HR := hid hR
  have HS := hid hs
  have HRT := hid hr
  have hpos : 0 < D.length := List.length_pos_iff.2 hD
  clear hR hs hD hr
  by_cases h2 : D.length < 2
  · have h2i : (D.length : Int) < 2 := by omega
    have HRI := hid (show Jn D D by
      have h := (CpM.start hpos HRT.out)
      rw [show (1 : Nat) = D.length by omega, List.take_length] at h
      exact h.jn HRT.out)
    go_enter Tryz.func52, Tryz.ntmps52
    go_wp2_with fail
    go_ret
    exact ⟨D, rfl, Nat.le_refl _, HRI.out, HR.out⟩
  · have h2i : ¬ (D.length : Int) < 2 := by omega
    go_enter Tryz.func52, Tryz.ntmps52
    go_wp2_with fail
    go_loopw [5] (fun i wr => ∃ k : Nat, k + 1 ≤ D.length ∧ i = .int .i64 ((k : Int) + 1) ∧ Hid (CpM D (k + 1) (D.take (k + 1))) ∧ Hid (Mw w0 wr g D)) (fun i _ => D.length - (intOf i).toNat)
    case atStart => exact ⟨0, by omega, rfl, hid (CpM.start hpos HRT.out), HR⟩
    case round =>
      obtain ⟨k, hk, rfl, HCP, HRW⟩ := hrel
      by_cases hkn : k + 1 < D.length
      · have hi1 : (0 : Int) ≤ (k : Int) + 1 := by omega
        have hi2 : (k : Int) + 1 < (D.length : Int) := by omega
        have hi3 : (0 : Int) ≤ (k : Int) := by omega
        have hi4 : (k : Int) < (D.length : Int) := by omega
        have hi5 : (k : Int) + 1 - 1 = (k : Int) := by omega
        have hwp : IntKind.i64.wrap (k : Int) = (k : Int) := by rw [IntKind.wrap_i64]; omega
        have hwe : ((k : Int) + 1).toNat = k + 1 := by omega
        have hcap1 : (k : Int) + 1 ≤ (cap : Int) := by omega
        have hcap2 : (D.length : Int) ≤ (cap : Int) := by omega
        have HPL := hid (fun h => HCP.out.plain HS.out HRT.out hkn h)
        have HSA := hid (fun h => HCP.out.same HS.out HRT.out hkn h)
        have hy2 : D[k]? = some D[k] := List.getElem?_eq_getElem (by omega)
        have hx2 : D[k + 1]? = some D[k + 1] := List.getElem?_eq_getElem hkn
        generalize D[k] = y at *
        generalize D[k + 1] = x at *
        obtain ⟨ty, vy⟩ := y
        obtain ⟨tx, vx⟩ := x
        have HCM := hid (fun W => (show Calls Tryz.prog 53 #[.agg #[.string tx, .string vx], .agg #[.string ty, .string vy]] W
            fun e w' => e = .returned (.bool (decide (tx = ty))) ∧ Below W.heap.size W w' from sameP_any (tx, vx) (ty, vy) W))
        have HTW := hid (fun (W : World) (h : Mw w0 W g D) => (show W.cell? ⟨g, k * 2, none⟩ = some (.string ty) ∧ W.cell? ⟨g, k * 2 + 1, none⟩ = some (.string vy) ∧ W.cell? ⟨g, (k + 1) * 2, none⟩ = some (.string tx) ∧ W.cell? ⟨g, (k + 1) * 2 + 1, none⟩ = some (.string vx) ∧ Hid (Mw w0 W g D) from h.two hy2 hx2))
        obtain ⟨a0, a1, b0, b1, _⟩ := HTW.out _ HRW.out
        clear hy2 hx2
        by_cases hod : tx = ty
        · have HC2 := hid (HSA.out hod)
          rw [decide_eq_true hod] at HCM
          clear hod
          go_wp2_with fail
          go_region_held (fun W => W.cell? ⟨g, k * 2, none⟩ = some (.string ty) ∧ W.cell? ⟨g, k * 2 + 1, none⟩ = some (.string vy) ∧ W.cell? ⟨g, (k + 1) * 2, none⟩ = some (.string tx) ∧ W.cell? ⟨g, (k + 1) * 2 + 1, none⟩ = some (.string vx) ∧ Hid (Mw w0 W g D)) (first | exact HTW.out _ HRa.out | exact HTW.out _ (HRW.out.below (below_drawn _ 1))) (first
            | (go_at_call 53; refine (HCM.out _).mono ?_; rintro e w' ⟨rfl, hb⟩; have HRa := hid ((HRW.out.below (below_drawn _ 1)).below hb); clear hb))
          all_goals
            have HN := hid (show (D.take (k + 1)).length = k + 1 by simp; omega)
            clear a0 a1 b0 b1
            go_wp2_with fail
            go_loopw [5, 7] (fun a b wr2 => ∃ (j : Nat) (E : List Bm), a = .int .i64 (E.length : Int) ∧ b = .int .i64 ((j : Int) + 1) ∧ k + 1 + (j + 1) ≤ D.length ∧ E.length ≤ k + 1 + j ∧ Hid (CpM D (k + 1 + j + 1) E) ∧ Hid (Mw w0 wr2 g (E ++ D.drop E.length))) (fun _ b _ => D.length - (intOf b).toNat)
            case atStart => exact ⟨0, D.take (k + 1), by rw [HN.out]; rfl, rfl, by omega, by rw [HN.out]; omega, HC2, hid (by rw [HN.out, List.take_append_drop]; exact HRa.out)⟩
            case round =>
              obtain ⟨j, E, rfl, rfl, hjD, hEj, HCE, HRV⟩ := hrel
              have HAT := hid (show ∀ i, E.length ≤ i → (E ++ D.drop E.length)[i]? = D[i]? from fun i hi => by rw [List.getElem?_append_right hi, List.getElem?_drop]; congr 1; omega)
              by_cases hj : k + 1 + (j + 1) < D.length
              · have g1 : (0 : Int) ≤ (j : Int) + 1 := by omega
                have g2 : (j : Int) + 1 < ((D.length - (k + 1) : Nat) : Int) := by omega
                have g3 : (0 : Int) ≤ (j : Int) := by omega
                have g4 : (j : Int) < ((D.length - (k + 1) : Nat) : Int) := by omega
                have g5 : (j : Int) + 1 - 1 = (j : Int) := by omega
                have gwp : IntKind.i64.wrap (j : Int) = (j : Int) := by rw [IntKind.wrap_i64]; omega
                have gwe : ((j : Int) + 1).toNat = j + 1 := by omega
                have HMO := hid (fun h => HCE.out.more HS.out HRT.out hj h)
                have HSM := hid (fun h => HCE.out.same HS.out HRT.out hj h)
                have hv2 : (E ++ D.drop E.length)[k + 1 + j]? = some D[k + 1 + j] := by rw [HAT.out _ hEj]; exact List.getElem?_eq_getElem (by omega)
                have hu2 : (E ++ D.drop E.length)[k + 1 + j + 1]? = some D[k + 1 + j + 1] := by rw [HAT.out _ (by omega)]; exact List.getElem?_eq_getElem hj
                generalize D[k + 1 + j] = y at *
                generalize D[k + 1 + j + 1] = x at *
                obtain ⟨sy, vsy⟩ := y
                obtain ⟨sx, vsx⟩ := x
                have HCN := hid (fun W => (show Calls Tryz.prog 53 #[.agg #[.string sx, .string vsx], .agg #[.string sy, .string vsy]] W
                  fun e w' => e = .returned (.bool (decide (sx = sy))) ∧ Below W.heap.size W w' from sameP_any (sx, vsx) (sy, vsy) W))
                have HTV := hid (fun (W : World) (h : Mw w0 W g (E ++ D.drop E.length)) => (show W.cell? ⟨g, (k + 1) * 2 + j * 2, none⟩ = some (.string sy) ∧ W.cell? ⟨g, (k + 1) * 2 + j * 2 + 1, none⟩ = some (.string vsy) ∧ W.cell? ⟨g, (k + 1) * 2 + (j + 1) * 2, none⟩ = some (.string sx) ∧ W.cell? ⟨g, (k + 1) * 2 + (j + 1) * 2 + 1, none⟩ = some (.string vsx) ∧ Hid (Mw w0 W g (E ++ D.drop E.length)) by
                  have h2 := h.two hv2 hu2
                  unfold TwoM at h2
                  rw [show (k + 1 + j) * 2 = (k + 1) * 2 + j * 2 by omega, show (k + 1 + j + 1) * 2 = (k + 1) * 2 + (j + 1) * 2 by omega] at h2
                  exact h2))
                obtain ⟨a0, a1, b0, b1, _⟩ := HTV.out _ HRV.out
                clear hv2 hu2
                by_cases hoe : sx = sy
                · have HC3 := hid (HSM.out hoe)
                  rw [decide_eq_true hoe] at HCN
                  clear hoe
                  go_wp2_with fail
                  go_region_held (fun W => W.cell? ⟨g, (k + 1) * 2 + j * 2, none⟩ = some (.string sy) ∧ W.cell? ⟨g, (k + 1) * 2 + j * 2 + 1, none⟩ = some (.string vsy) ∧ W.cell? ⟨g, (k + 1) * 2 + (j + 1) * 2, none⟩ = some (.string sx) ∧ W.cell? ⟨g, (k + 1) * 2 + (j + 1) * 2 + 1, none⟩ = some (.string vsx) ∧ Hid (Mw w0 W g (E ++ D.drop E.length))) (first | exact HTV.out _ HRb.out | exact HTV.out _ (HRV.out.below (below_drawn _ 1))) (first
                  | (go_at_call 53; refine (HCN.out _).mono ?_; rintro e w' ⟨rfl, hb⟩; have HRb := hid ((HRV.out.below (below_drawn _ 1)).below hb); clear hb))
                  all_goals
                    go_wp2_with fail
                    go_roundw
                    case rel => exact ⟨j + 1, E, rfl, by go_num, by omega, by omega, HC3, HRb⟩
                    case measure => simp [intOf]; omega
                · have HC3 := hid (HMO.out hoe)
                  rw [decide_eq_false hoe] at HCN
                  clear hoe
                  go_wp2_with fail
                  go_region_held (fun W => W.cell? ⟨g, (k + 1) * 2 + j * 2, none⟩ = some (.string sy) ∧ W.cell? ⟨g, (k + 1) * 2 + j * 2 + 1, none⟩ = some (.string vsy) ∧ W.cell? ⟨g, (k + 1) * 2 + (j + 1) * 2, none⟩ = some (.string sx) ∧ W.cell? ⟨g, (k + 1) * 2 + (j + 1) * 2 + 1, none⟩ = some (.string vsx) ∧ Hid (Mw w0 W g (E ++ D.drop E.length))) (first | exact HTV.out _ HRb.out | exact HTV.out _ (HRV.out.below (below_drawn _ 1))) (first
                  | (go_at_call 53; refine (HCN.out _).mono ?_; rintro e w' ⟨rfl, hb⟩; have HRb := hid ((HRV.out.below (below_drawn _ 1)).below hb); clear hb))
                  all_goals
                    clear a0 a1 b0 b1
                    obtain ⟨a0, a1, b0, b1, _⟩ := HTV.out _ HRb.out
                    have hfz := HRb.out.fz
                    have e1 : (0 : Int) ≤ (E.length : Int) := by omega
                    have e2 : (E.length : Int) < (D.length : Int) := by omega
                    have hEl : E.length < (E ++ D.drop E.length).length := by simp; omega
                    obtain ⟨z0, z1⟩ := HRb.out.at (j := E.length) (r := (E ++ D.drop E.length)[E.length]) (List.getElem?_eq_getElem hEl)
                    have HW4 := hid (show Mw w0 ((w'.setCell ⟨g, E.length * 2, none⟩ (.string sx)).setCell ⟨g, E.length * 2 + 1, none⟩ (.string vsx)) g ((E ++ [((sx, vsx) : Bm)]) ++ D.drop (E ++ [((sx, vsx) : Bm)]).length) by
                      have h := HRb.out.setAt E.length hEl (sx, vsx)
                      have e : (E ++ D.drop E.length).set E.length (sx, vsx) = (E ++ [((sx, vsx) : Bm)]) ++ D.drop (E ++ [((sx, vsx) : Bm)]).length := by
                        rw [List.set_append_right _ _ (Nat.le_refl _), Nat.sub_self, List.drop_eq_getElem_cons (show E.length < D.length by omega), List.set_cons_zero, List.length_append]
                        simp
                      rw [e] at h
                      exact h)
                    go_wp2_with fail
                    go_roundw
                    case rel => exact ⟨j + 1, E ++ [(sx, vsx)], by simp, by go_num, by omega, by simp; omega, HC3, HW4⟩
                    case measure => simp [intOf]; omega
              · have hje : k + 1 + (j + 1) = D.length := by omega
                have g2 : ¬ (j : Int) + 1 < ((D.length - (k + 1) : Nat) : Int) := by omega
                have hRl : (E ++ D.drop E.length).length = D.length := by simp; omega
                obtain ⟨zs, hcl⟩ := run_clear_mw HRV.out E.length (by omega)
                rw [hRl] at hcl
                have HEN := hid (show CpM D D.length E by have := HCE.out; rw [show k + 1 + j + 1 = D.length by omega] at this; exact this)
                have HRE := hid (show Mw w0 (wr.setCells g (E.length * 2) zs) g E by
                  have := HRV.out.cleared E.length (by omega) zs
                  rw [List.take_left'  rfl] at this
                  exact this)
                have c1 : (E.length : Int) ≤ (D.length : Int) := by omega
                have c2 : (E.length : Int) < (cap : Int) := by omega
                have c3 : (E.length : Int) ≤ (cap : Int) := by omega
                have c4 : (0 : Int) ≤ (E.length : Int) := by omega
                have c5 : E.length < cap := by omega
                go_wp2_with fail
                go_ret
                exact ⟨E, rfl, by omega, HEN.out.jn HRT.out, HRE.out⟩
        · have HC2 := hid (HPL.out hod)
          rw [decide_eq_false hod] at HCM
          clear hod
          go_wp2_with fail
          go_region_held (fun W => W.cell? ⟨g, k * 2, none⟩ = some (.string ty) ∧ W.cell? ⟨g, k * 2 + 1, none⟩ = some (.string vy) ∧ W.cell? ⟨g, (k + 1) * 2, none⟩ = some (.string tx) ∧ W.cell? ⟨g, (k + 1) * 2 + 1, none⟩ = some (.string vx) ∧ Hid (Mw w0 W g D)) (first | exact HTW.out _ HRa.out | exact HTW.out _ (HRW.out.below (below_drawn _ 1))) (first
            | (go_at_call 53; refine (HCM.out _).mono ?_; rintro e w' ⟨rfl, hb⟩; have HRa := hid ((HRW.out.below (below_drawn _ 1)).below hb); clear hb))
          all_goals
            go_wp2_with fail
            go_roundw
            case rel => exact ⟨k + 1, by omega, by go_num, HC2, HRa⟩
            case measure => simp [intOf]; omega
      · obtain hke : k + 1 = D.length := by omega
        have HFI := hid (show CpM D D.length D by have := HCP.out; rw [hke, List.take_length] at this; exact this)
        have hi2 : ¬ (k : Int) + 1 < (D.length : Int) := by omega
        go_wp2_with fail
        go_ret
        exact ⟨D, rfl, Nat.le_refl _, HFI.out.jn HRT.out, HRW.out⟩
end Ve
end Go.Proofs.YtacggkigfjpfnaaGreatDoor

/-
  slices.DeleteFunc over a row of modules: those that are right stay.
-/
namespace Go.Proofs.YtacggkigfjpfnaaGreatDoor
open Go.RowKit
namespace Ve

/-- Is a module not right? -/
def badM (m : Bm) : Bool := decide (mErr m ≠ 0)
/-- Those that are right. -/
def rightL (D : List Bm) : List Bm := D.filter fun m => !badM m
theorem rightL_mem {D : List Bm} {m : Bm} : m ∈ rightL D ↔ m ∈ D ∧ mErr m = 0 := by
  unfold rightL
  rw [List.mem_filter]
  simp [badM]
set_option maxHeartbeats 1000000 in
theorem rightK_any (m : Bm) (A : Nat → Addr) (ml : Int) (W : World) (hp : m.1.size < 999999) (hv : m.2.size < 999999) (S : Te W A ml) :
    Calls Tryz.prog 55 (#[.agg #[.string m.1, .string m.2]] ++ #[]) W fun e w' => e = .returned (.bool (badM m)) ∧ Below W.heap.size W w' := by
  obtain ⟨p, v⟩ := m
  simp only at hp hv
  show Calls Tryz.prog 55 #[.agg #[.string p, .string v]] W _
  have HB0 := hid ((Below.refl W.heap.size W).alloc (Nat.le_refl _) (.cells #[.string p, .string v] 45))
  have HM := hid (mcheck_any p v A ml _ (by omega) (by omega) (S.below HB0.out))
  have hme : mErr (p, v) = modErr p.data.toList v.data.toList := rfl
  rw [← hme] at HM
  clear S hme
  by_cases h : mErr (p, v) = 0
  · have HD := hid (show badM (p, v) = false by unfold badM; simp [h])
    rw [h, errA0] at HM
    generalize badM (p, v) = z at *
    clear h
    go_enter Tryz.func55, Tryz.ntmps55
    go_wp2_with fail
    refine HM.out.mono ?_
    rintro e w1 ⟨rfl, hb⟩
    have HB := hid (HB0.out.trans (hb.mono HB0.out.size))
    clear hb
    go_wp2_with fail
    go_ret
    exact ⟨ret_bool HD.out.symm, HB.out⟩
  · have HD := hid (show badM (p, v) = true by unfold badM; simp [h])
    rw [errA_if A h] at HM
    generalize badM (p, v) = z at *
    clear h
    go_enter Tryz.func55, Tryz.ntmps55
    go_wp2_with fail
    refine HM.out.mono ?_
    rintro e w1 ⟨rfl, hb⟩
    have HB := hid (HB0.out.trans (hb.mono HB0.out.size))
    clear hb
    go_wp2_with fail
    go_ret
    exact ⟨ret_bool HD.out.symm, HB.out⟩
theorem rightL_take {D : List Bm} {k : Nat} (hk : k < D.length) : rightL (D.take (k + 1)) = if badM D[k] then rightL (D.take k) else rightL (D.take k) ++ [D[k]] := by
  unfold rightL
  rw [List.take_succ_eq_append_getElem hk, List.filter_append]
  cases h : badM D[k] <;> simp [h]
theorem rightL_first {D : List Bm} {k : Nat} (hk : k < D.length) (h1 : badM D[k] = true) (h2 : ∀ j (hj : j < D.length), j < k → badM D[j] = false) : rightL (D.take (k + 1)) = D.take k := by
  rw [rightL_take hk, if_pos h1]
  unfold rightL
  rw [List.filter_eq_self]
  intro x hx
  obtain ⟨i, hi, him, rfl⟩ := mem_take_at hx
  rw [h2 i hi him]; rfl
theorem rightL_all {D : List Bm} (h : ∀ x, x ∈ D → badM x = false) : rightL D = D := by
  unfold rightL
  rw [List.filter_eq_self]
  intro x hx
  rw [h x hx]; rfl
set_option maxRecDepth 100000 in
set_option maxHeartbeats 8000000 in
theorem del_mw (w0 w : World) (g cap : Nat) (D : List Bm) (A : Nat → Addr) (ml : Int) (S : Te w0 A ml) (h12 : D.length ≤ 1000000) (hc : D.length ≤ cap) (hz : ∀ r, r ∈ D → r.1.size < 999999 ∧ r.2.size < 999999) (hR : Mw w0 w g D) :
    Calls Tryz.prog 38 #[.slice (some ⟨g, 0, none⟩) D.length cap, .func (.func 55) #[] #[]] w fun e w' => e = .returned (.slice (some ⟨g, 0, none⟩) (rightL D).length cap) ∧ Mw w0 w' g (rightL D) := by
  have eg : ∀ args w, (callFunc 55 args).run Tryz.prog w = .ok (.enter 55 args) w := enters_of Tryz.func55 (by kernel_rfl) rfl
  have HRK := hid (fun (m : Bm) (hm : m ∈ D) W (hW : Below w0.heap.size w0 W) => rightK_any m A ml W (hz m hm).1 (hz m hm).2 (S.below hW))
  have HI := hid (idxM_any 55 #[] badM D _ w eg h12 (hR.ms hc) (fun i hi W hW => HRK.out D[i] (List.getElem_mem hi) W (hR.bl.trans (hW.mono hR.bl.size))))
  have HR := hid hR
  clear hR S hz
  rcases idxB_kind badM D with ⟨e1, h2⟩ | ⟨k, hk, e1, h2, h3⟩
  · rw [e1] at HI
    rw [rightL_all h2]
    clear e1 h2
    go_enter Tryz.func38, Tryz.ntmps38
    go_wp2_with fail
    refine HI.out.mono ?_
    rintro e w1 ⟨rfl, hb⟩
    have HR1 := hid (HR.out.below hb)
    clear hb
    go_wp2_with fail
    go_ret
    exact ⟨rfl, HR1.out⟩
  · rw [e1] at HI
    have HF := hid (rightL_first hk h2 h3)
    have hkn : ¬ (k : Int) = -1 := by omega
    have hk1 : (k : Int) < (D.length : Int) := by omega
    clear e1 h2 h3
    go_enter Tryz.func38, Tryz.ntmps38
    go_wp2_with fail
    refine HI.out.mono ?_
    rintro e w1 ⟨rfl, hb⟩
    have HR1 := hid (HR.out.below hb)
    clear hb
    go_wp2_with fail
    go_loopw [5, 6] (fun a b wr => ∃ (j : Nat), a = .int .i64 ((rightL (D.take j)).length : Int) ∧ b = .int .i64 (j : Int) ∧ j ≤ D.length ∧ (rightL (D.take j)).length < j ∧ Hid (Mw w0 wr g (rightL (D.take j) ++ D.drop (rightL (D.take j)).length))) (fun _ b _ => D.length - (intOf b).toNat)
    case atStart =>
      have hl : (D.take k).length = k := by simp; omega
      exact ⟨k + 1, by rw [HF.out, hl], by go_num, by omega, by rw [HF.out, hl]; omega, hid (by rw [HF.out, hl, List.take_append_drop]; exact HR1.out)⟩
    case round =>
      obtain ⟨j, rfl, rfl, hjD, hEj, HRV⟩ := hrel
      have HAT := hid (show ∀ i, (rightL (D.take j)).length ≤ i → (rightL (D.take j) ++ D.drop (rightL (D.take j)).length)[i]? = D[i]? from fun i hi => by rw [List.getElem?_append_right hi, List.getElem?_drop]; congr 1; omega)
      by_cases hj : j < D.length
      · have g1 : (j : Int) < (D.length : Int) := by omega
        have HT := hid (rightL_take hj)
        obtain ⟨y0, y1⟩ := HRV.out.at (j := j) (r := D[j]) (by rw [HAT.out j (by omega)]; exact List.getElem?_eq_getElem hj)
        have HKX := hid (fun W (hW : Below w0.heap.size w0 W) => (show Calls Tryz.prog 55 #[.agg #[.string D[j].1, .string D[j].2]] W fun e w' => e = .returned (.bool (badM D[j])) ∧ Below W.heap.size W w' from HRK.out D[j] (List.getElem_mem hj) W hW))
        generalize D[j] = x at *
        generalize hE : rightL (D.take j) = E at *
        obtain ⟨x1, x2⟩ := x
        have HBA := hid ((Below.refl wr.heap.size wr).alloc (Nat.le_refl _) (.cells #[.string x1, .string x2] 45))
        have HRA := hid (HRV.out.below HBA.out)
        have HP := hid (HKX.out _ HRA.out.bl)
        cases hbad : badM (x1, x2)
        · rw [hbad] at HP HT
          have HT2 := hid (show rightL (D.take (j + 1)) = E ++ [(x1, x2)] from HT.out)
          clear hbad
          go_wp2_with fail
          refine HP.out.mono ?_
          rintro e w2 ⟨rfl, hb⟩
          have HR2 := hid (HRA.out.below hb)
          have d0 : w2.cell? ⟨wr.heap.size, 0, none⟩ = some (.string x1) := cell_below hb (by simp)
          have d1 : w2.cell? ⟨wr.heap.size, 1, none⟩ = some (.string x2) := cell_below hb (by simp)
          have hfz := HR2.out.fz
          have e1 : (0 : Int) ≤ (E.length : Int) := by omega
          have e2 : (E.length : Int) < (D.length : Int) := by omega
          have hEl : E.length < (E ++ D.drop E.length).length := by simp; omega
          obtain ⟨z0, z1⟩ := HR2.out.at (j := E.length) (r := (E ++ D.drop E.length)[E.length]) (List.getElem?_eq_getElem hEl)
          have HW4 := hid (show Mw w0 ((w2.setCell ⟨g, E.length * 2, none⟩ (.string x1)).setCell ⟨g, E.length * 2 + 1, none⟩ (.string x2)) g ((E ++ [((x1, x2) : Bm)]) ++ D.drop (E ++ [((x1, x2) : Bm)]).length) by
            have h := HR2.out.setAt E.length hEl (x1, x2)
            have e : (E ++ D.drop E.length).set E.length (x1, x2) = (E ++ [((x1, x2) : Bm)]) ++ D.drop (E ++ [((x1, x2) : Bm)]).length := by
              rw [List.set_append_right _ _ (Nat.le_refl _), Nat.sub_self, List.drop_eq_getElem_cons (show E.length < D.length by omega), List.set_cons_zero, List.length_append]
              simp
            rw [e] at h
            exact h)
          clear hb y0 y1
          go_wp2_with fail
          go_roundw
          case rel =>
            repeat apply Exists.intro
            refine ⟨?r, rfl⟩
            exact ⟨j + 1, by rw [HT2.out]; first | (simp; done) | (rw [List.length_append]; go_num), by go_num, by omega, by rw [HT2.out]; simp; omega, hid (by rw [HT2.out]; exact HW4.out)⟩
          case measure => simp [intOf]; omega
        · rw [hbad] at HP HT
          have HT2 := hid (show rightL (D.take (j + 1)) = E from HT.out)
          clear hbad
          go_wp2_with fail
          refine HP.out.mono ?_
          rintro e w2 ⟨rfl, hb⟩
          have HR2 := hid (HRA.out.below hb)
          clear hb y0 y1
          go_wp2_with fail
          go_roundw
          case rel =>
            repeat apply Exists.intro
            refine ⟨?r2, rfl⟩
            exact ⟨j + 1, by rw [HT2.out], by go_num, by omega, by rw [HT2.out]; omega, hid (by rw [HT2.out]; exact HR2.out)⟩
          case measure => simp [intOf]; omega
      · obtain rfl : j = D.length := by omega
        have g2 : ¬ (D.length : Int) < (D.length : Int) := by omega
        rw [List.take_length] at hEj HRV HAT ⊢
        generalize hE : rightL D = E at *
        have hRl : (E ++ D.drop E.length).length = D.length := by simp; omega
        obtain ⟨zs, hcl⟩ := run_clear_mw HRV.out E.length (by omega)
        rw [hRl] at hcl
        have HRE := hid (show Mw w0 (wr.setCells g (E.length * 2) zs) g E by
          have := HRV.out.cleared E.length (by omega) zs
          rw [List.take_left' rfl] at this
          exact this)
        have c1 : (E.length : Int) ≤ (D.length : Int) := by omega
        have c2 : (E.length : Int) < (cap : Int) := by omega
        have c3 : (E.length : Int) ≤ (cap : Int) := by omega
        have c4 : (0 : Int) ≤ (E.length : Int) := by omega
        have c5 : E.length < cap := by omega
        have c6 : (D.length : Int) ≤ (cap : Int) := by omega
        go_wp2_with fail
        go_ret
        exact ⟨rfl, HRE.out⟩
end Ve
end Go.Proofs.YtacggkigfjpfnaaGreatDoor

/-
  What is reached, plain: who came, and by whom; ways back.
-/
namespace Go.Proofs.YtacggkigfjpfnaaGreatDoor
namespace Ve

/-- Who came, in their order, and by whom each. -/
abbrev By := List (Bm × Bm)
def whoT (T : By) : List Bm := T.map fun x => x.1
theorem whoT_len (T : By) : (whoT T).length = T.length := by simp [whoT]
theorem whoT_get {T : By} {k : Nat} (h : k < T.length) : (whoT T)[k]'(by rw [whoT_len]; exact h) = T[k].1 := by simp [whoT]
theorem whoT_mem {T : By} {m : Bm} : m ∈ whoT T ↔ ∃ k, ∃ h : k < T.length, T[k].1 = m := by
  constructor
  · intro h
    obtain ⟨k, hk, e⟩ := List.getElem_of_mem h
    have hk2 : k < T.length := by rw [← whoT_len]; exact hk
    exact ⟨k, hk2, by rw [← whoT_get hk2]; exact e⟩
  · rintro ⟨k, h, rfl⟩
    exact List.mem_map.2 ⟨T[k], List.getElem_mem h, rfl⟩
def cameB (T : By) (m : Bm) : Bool := T.any fun x => decide (x.1.1 = m.1 ∧ x.1.2 = m.2)
theorem cameB_iff {T : By} {m : Bm} : cameB T m = true ↔ m ∈ whoT T := by
  unfold cameB
  rw [List.any_eq_true]
  constructor
  · rintro ⟨x, hx, h⟩
    have h2 := of_decide_eq_true h
    exact List.mem_map.2 ⟨x, hx, Prod.ext h2.1 h2.2⟩
  · intro h
    obtain ⟨x, hx, e⟩ := List.mem_map.1 h
    exact ⟨x, hx, decide_eq_true (by rw [e]; exact ⟨rfl, rfl⟩)⟩
theorem cameB_not {T : By} {m : Bm} (h : cameB T m = false) : m ∉ whoT T := fun hm => by rw [cameB_iff.2 hm] at h; cases h
def comeT (T : By) (m f : Bm) : By := if cameB T m then T else T ++ [(m, f)]
theorem come_yes {T : By} {m f : Bm} (h : cameB T m = true) : comeT T m f = T := by unfold comeT; rw [if_pos h]
theorem come_no {T : By} {m f : Bm} (h : cameB T m = false) : comeT T m f = T ++ [(m, f)] := by unfold comeT; rw [h]; rfl
theorem whoT_app (T : By) (m f : Bm) : whoT (T ++ [(m, f)]) = whoT T ++ [m] := by simp [whoT]
theorem come_mem (T : By) (m f : Bm) : m ∈ whoT (comeT T m f) := by
  cases h : cameB T m
  · rw [come_no h, whoT_app]; simp
  · rw [come_yes h]; exact cameB_iff.1 h
theorem come_sub {T : By} {m f x : Bm} (h : x ∈ whoT T) : x ∈ whoT (comeT T m f) := by
  cases hc : cameB T m
  · rw [come_no hc, whoT_app]; simp [h]
  · rw [come_yes hc]; exact h
/-- What was there stays where it was. -/
theorem come_old (T : By) (m f : Bm) : ∃ R, comeT T m f = T ++ R := by
  cases hc : cameB T m
  · exact ⟨[(m, f)], come_no hc⟩
  · exact ⟨[], by rw [come_yes hc]; simp⟩
theorem nd_len {α : Type} [DecidableEq α] : ∀ (a b : List α), a.Nodup → (∀ x, x ∈ a → x ∈ b) → a.length ≤ b.length
  | [], _, _, _ => Nat.zero_le _
  | x :: a, b, hn, hs => by
    obtain ⟨h1, h2⟩ := List.nodup_cons.1 hn
    have hx := hs x (by simp)
    have h3 := nd_len a (b.erase x) h2 (fun y hy => (List.mem_erase_of_ne (fun e => h1 (by rw [← e]; exact hy))).2 (hs y (List.mem_cons_of_mem _ hy)))
    rw [List.length_erase_of_mem hx] at h3
    have := List.length_pos_of_mem hx
    simp
    omega

/-- The walk, as far as it has come: the first i have been asked whom they require. -/
structure Bfs (req : Bm → List Bm) (U roots : List Bm) (T : By) (i : Nat) : Prop where
  le : i ≤ T.length
  nd : (whoT T).Nodup
  un : ∀ m, m ∈ whoT T → m ∈ U
  by_ : ∀ k (h : k < T.length), (T[k].1 = T[k].2 ∧ T[k].1 ∈ roots) ∨ ∃ j, ∃ hj : j < k, (T[j]'(Nat.lt_trans hj h)).1 = T[k].2 ∧ T[k].1 ∈ req T[k].2
  cl : ∀ j (h : j < T.length), j < i → ∀ m, m ∈ req T[j].1 → m ∈ whoT T
theorem Bfs.none (req : Bm → List Bm) (U roots : List Bm) : Bfs req U roots [] 0 := ⟨Nat.le_refl _, by simp [whoT], fun m h => by simp [whoT] at h, fun k h => absurd h (Nat.not_lt_zero _), fun j h => absurd h (Nat.not_lt_zero _)⟩
theorem Bfs.len {req : Bm → List Bm} {U roots : List Bm} {T : By} {i : Nat} (h : Bfs req U roots T i) : T.length ≤ U.length := by
  have := nd_len (whoT T) U h.nd h.un
  rw [whoT_len] at this
  exact this
theorem Bfs.come {req : Bm → List Bm} {U roots : List Bm} {T : By} {i : Nat} (h : Bfs req U roots T i) {m f : Bm} (hm : m ∈ U) (hf : (m = f ∧ m ∈ roots) ∨ (f ∈ whoT T ∧ m ∈ req f)) : Bfs req U roots (comeT T m f) i := by
  cases hc : cameB T m
  · rw [come_no hc]
    have hn : m ∉ whoT T := cameB_not hc
    refine ⟨by have := h.le; simp; omega, ?_, ?_, ?_, ?_⟩
    · rw [whoT_app]
      exact List.nodup_append.2 ⟨h.nd, by simp, fun a ha b hb e => by simp at hb; subst hb; subst e; exact hn ha⟩
    · intro x hx
      rw [whoT_app] at hx
      rcases List.mem_append.1 hx with hx | hx
      · exact h.un x hx
      · simp at hx; subst hx; exact hm
    · intro k hk
      by_cases hkT : k < T.length
      · have e : (T ++ [(m, f)])[k] = T[k] := List.getElem_append_left hkT
        rw [e]
        rcases h.by_ k hkT with h1 | ⟨j, hj, h2, h3⟩
        · exact Or.inl h1
        · exact Or.inr ⟨j, hj, by rw [List.getElem_append_left (by omega)]; exact h2, h3⟩
      · have hk2 : k = T.length := by simp at hk; omega
        subst hk2
        have e : (T ++ [(m, f)])[T.length] = (m, f) := by simp
        rw [e]
        rcases hf with hf | ⟨hf, hr⟩
        · exact Or.inl hf
        · obtain ⟨j, hj, ej⟩ := whoT_mem.1 hf
          exact Or.inr ⟨j, hj, by rw [List.getElem_append_left hj]; exact ej, hr⟩
    · intro j hj hji x hx
      rw [whoT_app]
      by_cases hjT : j < T.length
      · rw [List.getElem_append_left hjT] at hx
        exact List.mem_append_left _ (h.cl j hjT hji x hx)
      · have := h.le; omega
  · rw [come_yes hc]; exact h
theorem Bfs.next {req : Bm → List Bm} {U roots : List Bm} {T : By} {i : Nat} (h : Bfs req U roots T i) (hi : i < T.length) (hr : ∀ m, m ∈ req T[i].1 → m ∈ whoT T) : Bfs req U roots T (i + 1) :=
  ⟨hi, h.nd, h.un, h.by_, fun j hj hji m hm => by
    rcases Nat.lt_or_ge j i with h1 | h1
    · exact h.cl j hj h1 m hm
    · have : j = i := by omega
      subst this
      exact hr m hm⟩

/-- What is reached. -/
inductive Rch (req : Bm → List Bm) (roots : List Bm) : Bm → Prop
  | root {m : Bm} : m ∈ roots → Rch req roots m
  | step {p m : Bm} : Rch req roots p → m ∈ req p → Rch req roots m
theorem Bfs.only {req : Bm → List Bm} {U roots : List Bm} {T : By} {i : Nat} (h : Bfs req U roots T i) : ∀ (n k : Nat) (hk : k < T.length), k ≤ n → Rch req roots T[k].1
  | 0, k, hk, hn => by
    rcases h.by_ k hk with h1 | ⟨j, hj, _⟩
    · exact .root h1.2
    · omega
  | n + 1, k, hk, hn => by
    rcases h.by_ k hk with h1 | ⟨j, hj, h2, h3⟩
    · exact .root h1.2
    · have := h.only n j (by omega) (by omega)
      rw [h2] at this
      exact .step this h3
theorem nd_get {T : By} (h : (whoT T).Nodup) {i j : Nat} (hi : i < T.length) (hj : j < T.length) (e : T[i].1 = T[j].1) : i = j := by
  rw [← whoT_get hi, ← whoT_get hj] at e
  have hp := List.pairwise_iff_getElem.1 h
  rcases Nat.lt_trichotomy i j with h1 | h1 | h1
  · exact absurd e (hp i j (by rw [whoT_len]; exact hi) (by rw [whoT_len]; exact hj) h1)
  · exact h1
  · exact absurd e.symm (hp j i (by rw [whoT_len]; exact hj) (by rw [whoT_len]; exact hi) h1)
/-- There is a way of n modules. -/
inductive Wn (req : Bm → List Bm) (roots : List Bm) : Nat → Bm → Prop
  | root {m : Bm} : m ∈ roots → Wn req roots 1 m
  | step {n : Nat} {p m : Bm} : Wn req roots n p → m ∈ req p → Wn req roots (n + 1) m
theorem Wn.rch {req : Bm → List Bm} {roots : List Bm} {n : Nat} {m : Bm} (h : Wn req roots n m) : Rch req roots m := by
  induction h with
  | root hr => exact .root hr
  | step _ hr ih => exact .step ih hr
theorem Wn.pos {req : Bm → List Bm} {roots : List Bm} {n : Nat} {m : Bm} (h : Wn req roots n m) : 1 ≤ n := by
  cases h with
  | root _ => exact Nat.le_refl _
  | step _ _ => omega
/-- The shortest way has n modules. -/
def Dst (req : Bm → List Bm) (roots : List Bm) (m : Bm) (n : Nat) : Prop := Wn req roots n m ∧ ∀ k, Wn req roots k m → n ≤ k
theorem Dst.one {req : Bm → List Bm} {roots : List Bm} {m : Bm} {a b : Nat} (ha : Dst req roots m a) (hb : Dst req roots m b) : a = b := Nat.le_antisymm (ha.2 b hb.1) (hb.2 a ha.1)
/-- The levels of who came. -/
structure LvOk (req : Bm → List Bm) (roots : List Bm) (T : By) (i : Nat) (V : List Nat) : Prop where
  ln : V.length = T.length
  wn : ∀ k (h : k < T.length) (h' : k < V.length), Wn req roots V[k] T[k].1
  st : ∀ k (h : k < T.length) (h' : k < V.length), (T[k].1 = T[k].2 ∧ V[k] = 1) ∨ ∃ j, ∃ hj : j < k, (T[j]'(Nat.lt_trans hj h)).1 = T[k].2 ∧ V[k] = (V[j]'(Nat.lt_trans hj h')) + 1
  mo : ∀ a b (hb : b < V.length) (hab : a < b), (V[a]'(Nat.lt_trans hab hb)) ≤ V[b]
  nx : ∀ k (h : k < V.length) (hi : i < V.length), V[k] ≤ V[i] + 1
  pr : ∀ j (h : j < T.length) (h' : j < V.length), j < i → ∀ m, m ∈ req T[j].1 → ∃ k, ∃ hk : k < T.length, ∃ hk' : k < V.length, T[k].1 = m ∧ V[k] ≤ V[j] + 1
  rt : ∀ k (h : k < T.length) (h' : k < V.length), T[k].1 ∈ roots → V[k] = 1
theorem LvOk.none (req : Bm → List Bm) (roots : List Bm) : LvOk req roots [] 0 [] :=
  ⟨rfl, fun _ h => absurd h (Nat.not_lt_zero _), fun _ h => absurd h (Nat.not_lt_zero _), fun _ _ hb => absurd hb (Nat.not_lt_zero _), fun _ h => absurd h (Nat.not_lt_zero _), fun _ h => absurd h (Nat.not_lt_zero _), fun _ h => absurd h (Nat.not_lt_zero _)⟩
/-- One more behind the others, of the level l. -/
theorem LvOk.push {req : Bm → List Bm} {roots : List Bm} {T : By} {i : Nat} {V : List Nat} (h : LvOk req roots T i V) {m f : Bm} {l : Nat} (hw : Wn req roots l m)
    (hs : (m = f ∧ l = 1) ∨ ∃ j, ∃ hj : j < T.length, T[j].1 = f ∧ l = (V[j]'(by rw [h.ln]; exact hj)) + 1) (hm : ∀ k (hk : k < V.length), V[k] ≤ l) (hn : ∀ (hi : i < V.length), l ≤ V[i] + 1) (hi0 : i ≤ T.length) (hi1 : i = V.length → l ≤ l + 1) (hr : m ∈ roots → l = 1) : LvOk req roots (T ++ [(m, f)]) i (V ++ [l]) := by
  have hl : V.length = T.length := h.ln
  have gT : ∀ k (hk : k < T.length) (hk' : k < (T ++ [(m, f)]).length), (T ++ [(m, f)])[k] = T[k] := fun k hk _ => List.getElem_append_left hk
  have gV : ∀ k (hk : k < V.length) (hk' : k < (V ++ [l]).length), (V ++ [l])[k] = V[k] := fun k hk _ => List.getElem_append_left hk
  have eT : ∀ (hk' : T.length < (T ++ [(m, f)]).length), (T ++ [(m, f)])[T.length] = (m, f) := fun _ => by simp
  have eV : ∀ (hk' : T.length < (V ++ [l]).length), (V ++ [l])[T.length] = l := fun _ => by
    have : ∀ (n : Nat) (hn : n = V.length) (hk : n < (V ++ [l]).length), (V ++ [l])[n] = l := fun n hn hk => by subst hn; simp
    exact this _ hl.symm _
  refine ⟨by simp [hl], ?_, ?_, ?_, ?_, ?_, ?_⟩
  · intro k hk hk'
    by_cases hT : k < T.length
    · rw [gT k hT hk, gV k (by omega) hk']; exact h.wn k hT _
    · have : k = T.length := by simp at hk; omega
      subst this
      rw [eT hk, eV hk']; exact hw
  · intro k hk hk'
    by_cases hT : k < T.length
    · rw [gT k hT hk, gV k (by omega) hk']
      rcases h.st k hT (by omega) with h1 | ⟨j, hj, h2, h3⟩
      · exact Or.inl h1
      · exact Or.inr ⟨j, hj, by rw [gT j (by omega)]; exact h2, by rw [gV j (by omega)]; exact h3⟩
    · have : k = T.length := by simp at hk; omega
      subst this
      rw [eT hk, eV hk']
      rcases hs with h1 | ⟨j, hj, h2, h3⟩
      · exact Or.inl h1
      · exact Or.inr ⟨j, hj, by rw [gT j hj]; exact h2, by rw [gV j (by omega)]; exact h3⟩
  · intro a b hb hab
    by_cases hB : b < V.length
    · rw [gV b hB hb, gV a (by omega)]; exact h.mo a b hB hab
    · have : b = T.length := by simp at hb; omega
      subst this
      rw [eV hb, gV a (by omega)]
      exact hm a (by omega)
  · intro k hk hi
    by_cases hI : i < V.length
    · rw [gV i hI hi]
      by_cases hK : k < V.length
      · rw [gV k hK hk]; exact h.nx k hK hI
      · have : k = T.length := by simp at hk; omega
        subst this
        rw [eV hk]; exact hn hI
    · have hie : i = T.length := by simp at hi; omega
      subst hie
      rw [eV hi]
      by_cases hK : k < V.length
      · rw [gV k hK hk]; exact Nat.le_succ_of_le (hm k hK)
      · have : k = T.length := by simp at hk; omega
        subst this
        rw [eV hk]; omega
  · intro j hj hj' hji x hx
    have hjT : j < T.length := by omega
    rw [gT j hjT hj] at hx
    obtain ⟨k, hk, hk', e, hle⟩ := h.pr j hjT (by omega) hji x hx
    refine ⟨k, by simp; omega, by simp; omega, by rw [gT k hk]; exact e, ?_⟩
    rw [gV k hk', gV j (by omega)]; exact hle
  · intro k hk hk' hx
    by_cases hT : k < T.length
    · rw [gT k hT hk] at hx
      rw [gV k (by omega) hk']; exact h.rt k hT _ hx
    · have : k = T.length := by simp at hk; omega
      subst this
      rw [eT hk] at hx
      rw [eV hk']; exact hr hx
/-- A root comes. -/
theorem LvOk.root {req : Bm → List Bm} {roots : List Bm} {T : By} {V : List Nat} (h : LvOk req roots T 0 V) (h1 : ∀ k (hk : k < V.length), V[k] = 1) {m : Bm} (hm : m ∈ roots) : ∃ V', LvOk req roots (comeT T m m) 0 V' ∧ ∀ k (hk : k < V'.length), V'[k] = 1 := by
  cases hc : cameB T m with
  | true => rw [come_yes hc]; exact ⟨V, h, h1⟩
  | false =>
    rw [come_no hc]
    refine ⟨V ++ [1], h.push (.root hm) (Or.inl ⟨rfl, rfl⟩) (fun k hk => by rw [h1 k hk]; exact Nat.le_refl _) (fun hi => by omega) (Nat.zero_le _) (fun _ => by omega) (fun _ => rfl), fun k hk => ?_⟩
    by_cases hK : k < V.length
    · rw [List.getElem_append_left hK]; exact h1 k hK
    · have : k = V.length := by simp at hk; omega
      subst this; simp
/-- What the one at i requires comes. -/
theorem LvOk.reqs {req : Bm → List Bm} {roots : List Bm} {T : By} {i : Nat} {V : List Nat} (h : LvOk req roots T i V) (hi : i < T.length) (hall : ∀ m, m ∈ roots → m ∈ whoT T) {m : Bm} (hm : m ∈ req T[i].1) : ∃ V', LvOk req roots (comeT T m T[i].1) i V' := by
  have hiV : i < V.length := by rw [h.ln]; exact hi
  cases hc : cameB T m with
  | true => rw [come_yes hc]; exact ⟨V, h⟩
  | false =>
    rw [come_no hc]
    exact ⟨V ++ [V[i] + 1], h.push (.step (h.wn i hi hiV) hm) (Or.inr ⟨i, hi, rfl, rfl⟩) (fun k hk => h.nx k hk hiV) (fun _ => Nat.le_refl _) (Nat.le_of_lt hi) (fun e => by omega) (fun hr => absurd (hall m hr) (cameB_not hc))⟩
/-- The next one's turn. -/
theorem LvOk.next {req : Bm → List Bm} {roots : List Bm} {T : By} {i : Nat} {V : List Nat} (h : LvOk req roots T i V) (hi : i < T.length) (hr : ∀ m, m ∈ req T[i].1 → m ∈ whoT T) : LvOk req roots T (i + 1) V := by
  have hiV : i < V.length := by rw [h.ln]; exact hi
  refine ⟨h.ln, h.wn, h.st, h.mo, fun k hk hi1 => ?_, fun j hj hj' hji m hm => ?_, h.rt⟩
  · exact Nat.le_trans (h.nx k hk hiV) (Nat.succ_le_succ (h.mo i (i + 1) hi1 (Nat.lt_succ_self i)))
  · rcases Nat.lt_or_ge j i with h1 | h1
    · exact h.pr j hj hj' h1 m hm
    · have : j = i := by omega
      subst this
      obtain ⟨k, hk, e⟩ := whoT_mem.1 (hr m hm)
      exact ⟨k, hk, by rw [h.ln]; exact hk, e, h.nx k (by rw [h.ln]; exact hk) hiV⟩
/-- At the end: the level is how far one is off. -/
theorem LvOk.low {req : Bm → List Bm} {roots : List Bm} {T : By} {V : List Nat} (h : LvOk req roots T T.length V) (hall : ∀ m, m ∈ roots → m ∈ whoT T) {n : Nat} {m : Bm} (hw : Wn req roots n m) : ∃ k, ∃ hk : k < T.length, ∃ hk' : k < V.length, T[k].1 = m ∧ V[k] ≤ n := by
  induction hw with
  | root hr =>
    obtain ⟨k, hk, rfl⟩ := whoT_mem.1 (hall _ hr)
    exact ⟨k, hk, by rw [h.ln]; exact hk, rfl, Nat.le_of_eq (h.rt k hk _ hr)⟩
  | step _ hr ih =>
    obtain ⟨j, hj, hj', rfl, hle⟩ := ih
    obtain ⟨k, hk, hk', e, hle2⟩ := h.pr j hj hj' hj _ hr
    exact ⟨k, hk, hk', e, by omega⟩
theorem LvOk.dst {req : Bm → List Bm} {roots : List Bm} {T : By} {V : List Nat} (h : LvOk req roots T T.length V) (hnd : (whoT T).Nodup) (hall : ∀ m, m ∈ roots → m ∈ whoT T) {k : Nat} (hk : k < T.length) (hk' : k < V.length) : Dst req roots T[k].1 V[k] := by
  refine ⟨h.wn k hk hk', fun n hn => ?_⟩
  obtain ⟨j, hj, hj', e, hle⟩ := h.low hall hn
  have := nd_get hnd hj hk e
  subst this
  exact hle
/-- At the end: who came is who is reached. -/
structure Came (req : Bm → List Bm) (U roots : List Bm) (T : By) : Prop where
  b : Bfs req U roots T T.length
  r : ∀ m, m ∈ roots → m ∈ whoT T
  l : ∃ V, LvOk req roots T T.length V
theorem Came.iff {req : Bm → List Bm} {U roots : List Bm} {T : By} (h : Came req U roots T) (m : Bm) : m ∈ whoT T ↔ Rch req roots m := by
  constructor
  · intro hm
    obtain ⟨k, hk, rfl⟩ := whoT_mem.1 hm
    exact h.b.only k k hk (Nat.le_refl _)
  · intro hm
    induction hm with
    | root hr => exact h.r _ hr
    | step _ hr ih =>
      obtain ⟨k, hk, rfl⟩ := whoT_mem.1 ih
      exact h.b.cl k hk hk _ hr
theorem Came.cameB {req : Bm → List Bm} {U roots : List Bm} {T : By} (h : Came req U roots T) (m : Bm) : Ve.cameB T m = true ↔ Rch req roots m := by
  rw [cameB_iff]
  exact h.iff m
theorem Rch.mono {req : Bm → List Bm} {r r' : List Bm} (hs : ∀ m, m ∈ r → m ∈ r') {m : Bm} (h : Rch req r m) : Rch req r' m := by
  induction h with
  | root hr => exact .root (hs _ hr)
  | step _ hr ih => exact .step ih hr
theorem Rch.app {req : Bm → List Bm} {a b : List Bm} {m : Bm} : Rch req (a ++ b) m ↔ Rch req a m ∨ Rch req b m := by
  constructor
  · intro h
    induction h with
    | root hr =>
      rcases List.mem_append.1 hr with h1 | h1
      · exact Or.inl (.root h1)
      · exact Or.inr (.root h1)
    | step _ hr ih =>
      rcases ih with h1 | h1
      · exact Or.inl (.step h1 hr)
      · exact Or.inr (.step h1 hr)
  · rintro (h | h)
    · exact h.mono fun m hm => List.mem_append_left _ hm
    · exact h.mono fun m hm => List.mem_append_right _ hm
/-- Of what is reached no more is reached. -/
theorem Rch.again {req : Bm → List Bm} {r x : List Bm} (hx : ∀ m, m ∈ x ↔ Rch req r m) {m : Bm} : Rch req x m ↔ Rch req r m := by
  constructor
  · intro h
    induction h with
    | root hr => exact (hx _).1 hr
    | step _ hr ih => exact .step ih hr
  · intro h
    exact .root ((hx m).2 h)

/-- A way back, turned round: from the one at place k to the one that was asked for. -/
inductive Wy (req : Bm → List Bm) (T : By) : Bm → Nat → List Bm → Prop
  | start {k : Nat} (h : k < T.length) : Wy req T T[k].1 k [T[k].1]
  | next {m : Bm} {k j : Nat} {Y : List Bm} : Wy req T m k Y → (hk : k < T.length) → (hj : j < k) → (T[j]'(Nat.lt_trans hj hk)).1 = T[k].2 → T[k].1 ∈ req T[k].2 → Wy req T m j ((T[j]'(Nat.lt_trans hj hk)).1 :: Y)
theorem Wy.lt {req : Bm → List Bm} {T : By} {m : Bm} {k : Nat} {Y : List Bm} (h : Wy req T m k Y) : k < T.length := by
  cases h with
  | start h => exact h
  | next h hk hj _ _ => omega
theorem Wy.at_ {req : Bm → List Bm} {T : By} {m : Bm} {k : Nat} {Y : List Bm} (h : Wy req T m k Y) : ∃ Z, Y = (T[k]'h.lt).1 :: Z := by
  cases h with
  | start h => exact ⟨[], rfl⟩
  | next h hk hj _ _ => exact ⟨_, rfl⟩
theorem Wy.pos {req : Bm → List Bm} {T : By} {m : Bm} {k : Nat} {Y : List Bm} (h : Wy req T m k Y) : 0 < Y.length := by
  cases h with
  | start h => simp
  | next h hk hj _ _ => simp
theorem Wy.head {req : Bm → List Bm} {T : By} {m : Bm} {k : Nat} {Y : List Bm} (h : Wy req T m k Y) : Y[0]'h.pos = (T[k]'h.lt).1 := by
  cases h with
  | start h => rfl
  | next h hk hj _ _ => rfl
theorem Wy.last {req : Bm → List Bm} {T : By} {m : Bm} {k : Nat} {Y : List Bm} (h : Wy req T m k Y) : Y.getLast? = some m := by
  induction h with
  | start h => rfl
  | next h hk hj _ _ ih =>
    rw [List.getLast?_cons, ih]
    rfl
theorem Wy.far {req : Bm → List Bm} {T : By} {m : Bm} {k : Nat} {Y : List Bm} (h : Wy req T m k Y) : ∀ y, y ∈ Y → ∃ p, ∃ hp : p < T.length, k ≤ p ∧ T[p].1 = y := by
  induction h with
  | start h => intro y hy; simp at hy; exact ⟨_, h, Nat.le_refl _, hy.symm⟩
  | next h hk hj _ _ ih =>
    intro y hy
    rcases List.mem_cons.1 hy with rfl | hy
    · exact ⟨_, by omega, Nat.le_refl _, rfl⟩
    · obtain ⟨p, hp, h1, h2⟩ := ih y hy
      exact ⟨p, hp, by omega, h2⟩
theorem Wy.nd {req : Bm → List Bm} {T : By} {m : Bm} {k : Nat} {Y : List Bm} (hn : (whoT T).Nodup) (h : Wy req T m k Y) : Y.Nodup := by
  induction h with
  | start h => simp
  | next h hk hj _ _ ih =>
    refine List.nodup_cons.2 ⟨fun hy => ?_, ih⟩
    obtain ⟨p, hp, h1, h2⟩ := h.far _ hy
    have := nd_get hn hp (by omega) h2
    omega
/-- Each is required by the one ahead. -/
theorem Wy.chain {req : Bm → List Bm} {T : By} {m : Bm} {k : Nat} {Y : List Bm} (h : Wy req T m k Y) : ∀ a (ha : a + 1 < Y.length), Y[a + 1] ∈ req Y[a] := by
  induction h with
  | start h => intro a ha; simp at ha
  | next h hk hj h2 h3 ih =>
    intro a ha
    cases a with
    | zero =>
      simp only [List.getElem_cons_succ, List.getElem_cons_zero]
      rw [h2, h.head]
      exact h3
    | succ a =>
      simp only [List.getElem_cons_succ]
      exact ih a (by simpa using ha)
/-- How long the way back is. -/
theorem LvOk.way {req : Bm → List Bm} {roots : List Bm} {T : By} {i : Nat} {V : List Nat} (h : LvOk req roots T i V) (hnd : (whoT T).Nodup) {m : Bm} {k : Nat} {Y : List Bm} (hy : Wy req T m k Y) : ∃ t, ∃ ht : t < T.length, ∃ ht' : t < V.length, ∃ hk' : k < V.length, T[t].1 = m ∧ Y.length + V[k] = V[t] + 1 := by
  induction hy with
  | @start k hk => exact ⟨k, hk, by rw [h.ln]; exact hk, by rw [h.ln]; exact hk, rfl, by simp; omega⟩
  | @next m k j Y hy hk hj e1 e2 ih =>
    obtain ⟨t, ht, ht', hk', e, hl⟩ := ih
    refine ⟨t, ht, ht', by omega, e, ?_⟩
    rcases h.st k hk hk' with ⟨s1, s2⟩ | ⟨j', hj', s1, s2⟩
    · have := nd_get hnd (by omega) hk (e1.trans s1.symm)
      omega
    · have := nd_get hnd (by omega) (by omega) (s1.trans e1.symm)
      subst this
      simp
      omega
end Ve
end Go.Proofs.YtacggkigfjpfnaaGreatDoor

/-
  The map of who came by whom, in memory; what graph.came answers.
-/
namespace Go.Proofs.YtacggkigfjpfnaaGreatDoor
open Go.RowKit Go.Maps
namespace Ve

theorem gLaidOut : laidOutB Tryz.prog = true := by kernel_rfl
theorem modRow : 45 < Tryz.prog.types.size := of_decide_eq_true (by kernel_rfl)
theorem modDeep : Tryz.prog.keyTypeAt 2 45 = true := by kernel_rfl
theorem modKeyT : Tryz.prog.keyType 45 = true := by kernel_rfl
theorem modKey : Keyed Tryz.prog 45 := Keyed.of_law (deep_law_laid gLaidOut (m := 2) (by omega) modRow modDeep (by kernel_rfl))
theorem gCellsMod : Tryz.prog.cellsOf 45 = 2 := by kernel_rfl
theorem gCellsStr : Tryz.prog.cellsOf 9 = 1 := by kernel_rfl
/-- A module as a value, and as a key. -/
def modV (m : Bm) : Value := .agg #[.string m.1, .string m.2]
def kL (m : Bm) : Lit := .string (keyBytes [.string m.1.data.toList, .string m.2.data.toList])
theorem keyLits_mod (n : Nat) (m : Bm) (h1 : m.1.size ≤ maxLen) (h2 : m.2.size ≤ maxLen) : Tryz.prog.keyLits (n + 2) 45 [.string m.1, .string m.2] = some [.string m.1.data.toList, .string m.2.data.toList] := by
  unfold Program.keyLits
  rw [Tryz.underlying45]
  simp [gCellsMod, gCellsStr, Program.keyLits, Tryz.underlying9, h1, h2]
theorem keyOf_mod (m : Bm) (h1 : m.1.size ≤ maxLen) (h2 : m.2.size ≤ maxLen) : keyOf Tryz.prog 45 (modV m) = some (kL m) := by
  have hf : (modV m).formed Tryz.prog 45 = true := by
    simp [modV, Value.formed, Tryz.underlying45, gCellsMod]
  have hl : Tryz.prog.keyLits (Tryz.prog.types.size + 1) 45 (modV m).cells.toList = some [.string m.1.data.toList, .string m.2.data.toList] := by
    obtain ⟨n, hn⟩ : ∃ n, Tryz.prog.types.size + 1 = n + 2 := ⟨Tryz.prog.types.size - 1, by have := modRow; omega⟩
    rw [hn]
    exact keyLits_mod n m h1 h2
  unfold keyOf
  rw [Tryz.underlying45]
  simp only
  rw [if_pos (by rw [modKeyT, hf]; rfl), hl]
  rfl
theorem kL_inj {a b : Bm} (ha1 : a.1.size ≤ maxLen) (ha2 : a.2.size ≤ maxLen) (hb1 : b.1.size ≤ maxLen) (hb2 : b.2.size ≤ maxLen) (h : kL a = kL b) : a = b := by
  have h1 := keyOf_mod a ha1 ha2
  have h2 := keyOf_mod b hb1 hb2
  rw [h] at h1
  have := modKey.inj h1 h2
  simp only [modV, Value.agg.injEq, Array.mk.injEq, List.cons.injEq, Value.string.injEq, and_true] at this
  exact Prod.ext this.1 this.2
theorem kL_key (m : Bm) : WideAt.IsKeyLit (kL m) := trivial
/-- How an element of the map reads. -/
def rB : Value → Option (DataW Bm × List MemPlace)
  | .agg cs => match cs.toList with
    | [.string a, .string b] => some (.held (a, b), [])
    | _ => none
  | _ => none
theorem rB_mod (m : Bm) : rB (modV m) = some (.held m, []) := rfl
theorem rB_inv {v : Value} {m : Bm} {ps : List MemPlace} (h : rB v = some (.held m, ps)) : v = modV m := by
  cases v with
  | agg cs =>
    simp only [rB] at h
    split at h
    · rename_i a b e
      simp only [Option.some.injEq, Prod.mk.injEq, DataW.held.injEq] at h
      obtain ⟨h1, _⟩ := h
      subst h1
      unfold modV
      congr 1
      exact Array.toList_inj.1 e
    · cases h
  | _ => cases h
/-- What the map reads as. -/
def datB (T : By) : DataW Bm := T.foldl (fun D x => D.put (kL x.1) (.held x.2)) (.map [])
theorem datB_app (T : By) (m f : Bm) : datB (T ++ [(m, f)]) = (datB T).put (kL m) (.held f) := by simp [datB, List.foldl_append]
/-- Modules of lengths that there are. -/
def szT (T : By) : Prop := ∀ x, x ∈ T → x.1.1.size ≤ maxLen ∧ x.1.2.size ≤ maxLen
theorem datB_map : ∀ T : By, IsMap (datB T) := fun T => by
  unfold datB
  suffices ∀ (T : By) (D : DataW Bm), IsMap D → IsMap (T.foldl (fun D x => D.put (kL x.1) (.held x.2)) D) from this T _ isMap_empty
  intro T
  induction T with
  | nil => exact fun D h => h
  | cons x r ih => exact fun D h => ih _ (h.put _ _)
theorem datB_has {m : Bm} (h1 : m.1.size ≤ maxLen) (h2 : m.2.size ≤ maxLen) : ∀ {T : By}, szT T → has (datB T) (kL m) = cameB T m := fun {T} hT => by
  suffices ∀ (T : By) (D : DataW Bm), IsMap D → szT T → has (T.foldl (fun D x => D.put (kL x.1) (.held x.2)) D) (kL m) = (has D (kL m) || cameB T m) by
    have := this T (.map []) isMap_empty hT
    unfold datB
    rw [this]
    simp [has_eq]
  intro T
  induction T with
  | nil => intro D _ _; simp [cameB]
  | cons x r ih =>
    intro D hD hs
    rw [List.foldl_cons, ih _ (hD.put _ _) (fun y hy => hs y (List.mem_cons_of_mem _ hy))]
    by_cases e : x.1 = m
    · subst e
      rw [has_put_same hD (kL_key _)]
      simp [cameB]
    · have hx := hs x (by simp)
      rw [has_put_other (fun he => e (kL_inj hx.1 hx.2 h1 h2 he.symm))]
      have : cameB (x :: r) m = cameB r m := by
        unfold cameB
        rw [List.any_cons, decide_eq_false (fun he => e (Prod.ext he.1 he.2)), Bool.false_or]
      rw [this]
theorem datB_at {T : By} (hT : szT T) (hn : (whoT T).Nodup) {k : Nat} (hk : k < T.length) (z : DataW Bm) : (datB T).atKey (kL T[k].1) z = .held T[k].2 := by
  suffices ∀ (T : By) (D : DataW Bm), IsMap D → szT T → (whoT T).Nodup → ∀ k (hk : k < T.length), (T.foldl (fun D x => D.put (kL x.1) (.held x.2)) D).atKey (kL T[k].1) z = .held T[k].2 from this T _ isMap_empty hT hn k hk
  clear hT hn hk
  intro T
  induction T with
  | nil => intro D _ _ _ k hk; simp at hk
  | cons x r ih =>
    intro D hD hs hn k hk
    have hn2 : (x.1 :: whoT r).Nodup := hn
    obtain ⟨n1, n2⟩ := List.nodup_cons.1 hn2
    rw [List.foldl_cons]
    cases k with
    | succ k =>
      simp only [List.getElem_cons_succ]
      exact ih _ (hD.put _ _) (fun y hy => hs y (List.mem_cons_of_mem _ hy)) n2 k (by simpa using hk)
    | zero =>
      simp only [List.getElem_cons_zero]
      have hx := hs x (by simp)
      have : ∀ (r : By) (D : DataW Bm), szT r → x.1 ∉ whoT r → (r.foldl (fun D x => D.put (kL x.1) (.held x.2)) D).atKey (kL x.1) z = D.atKey (kL x.1) z := by
        intro r
        induction r with
        | nil => intro D _ _; rfl
        | cons y r ih2 =>
          intro D hs2 hn3
          have hy := hs2 y (by simp)
          rw [List.foldl_cons, ih2 _ (fun y hy => hs2 y (List.mem_cons_of_mem _ hy)) (fun h => hn3 (List.mem_cons_of_mem _ h))]
          exact atKey_put_other (fun he => hn3 (by rw [kL_inj hx.1 hx.2 hy.1 hy.2 he]; simp [whoT])) _ _
      rw [this r _ (fun y hy => hs y (List.mem_cons_of_mem _ hy)) n1]
      exact atKey_put_same hD (kL_key _) _ _
theorem datB_held (T : By) (k : Lit) (z : Bm) : ∃ x, (datB T).atKey k (.held z) = .held x := by
  suffices ∀ (T : By) (D : DataW Bm), IsMap D → (∃ x, D.atKey k (.held z) = .held x) → ∃ x, (T.foldl (fun D x => D.put (kL x.1) (.held x.2)) D).atKey k (.held z) = .held x from this T _ isMap_empty ⟨z, rfl⟩
  intro T
  induction T with
  | nil => exact fun D _ h => h
  | cons x r ih =>
    intro D hD h
    refine ih _ (hD.put _ _) ?_
    by_cases e : k = kL x.1
    · subst e
      exact ⟨x.2, atKey_put_same hD (kL_key _) _ _⟩
    · rw [atKey_put_other e]
      exact h
/-- The map lies in memory. -/
def ByAt (w : World) (b : Nat) (T : By) : Prop := w.ownsMap Tryz.prog 45 rB b T.length (datB T)
theorem ByAt.below {w w' : World} {b : Nat} {T : By} (h : ByAt w b T) (hb : Below w.heap.size w w') : ByAt w' b T := by
  have hlt := World.ownsMap.lt h
  obtain ⟨es, clock, h1, F, hs, hD⟩ := h
  exact ⟨es, clock, (hb.block b hlt).trans h1, F, hs, hD⟩
theorem ByAt.heap {w w' : World} {b : Nat} {T : By} (h : ByAt w b T) (hb : w'.heap[b]? = w.heap[b]?) : ByAt w' b T := by
  obtain ⟨es, clock, h1, F, hs, hD⟩ := h
  exact ⟨es, clock, hb.trans h1, F, hs, hD⟩
theorem zeroMod (w : World) : (zeroValue 45).run Tryz.prog w = .ok (modV (⟨#[]⟩, ⟨#[]⟩)) w := Tryz.zeroValue45 w
set_option maxRecDepth 100000 in
set_option maxHeartbeats 1000000 in
/-- graph.came. -/
theorem came_any (b : Nat) (T : By) (m : Bm) (w : World) (hm : m.1.size ≤ maxLen ∧ m.2.size ≤ maxLen) (hT : szT T) (h : ByAt w b T) :
    Calls Tryz.prog 49 #[.map (some b), .agg #[.string m.1, .string m.2]] w fun e w' => e = .returned (.bool (cameB T m)) ∧ Below w.heap.size w w' := by
  have HB := hid ((Below.refl w.heap.size w).alloc (Nat.le_refl _) (.cells #[.string m.1, .string m.2] 45))
  obtain ⟨v, ps, hrun, hv⟩ := World.ownsMap.look_ok (h.below HB.out) modKey Tryz.underlying81 (zeroMod _) (rB_mod _) (keyOf_mod m hm.1 hm.2)
  rw [datB_has hm.1 hm.2 hT] at hrun
  obtain ⟨x, hx⟩ := datB_held T (kL m) (⟨#[]⟩, ⟨#[]⟩)
  rw [hx] at hv
  obtain rfl := rB_inv hv
  unfold modV at hrun
  clear h hv hx hm hT
  go_enter Tryz.func49, Tryz.ntmps49
  go_wp2_with fail
  go_ret
  exact ⟨rfl, HB.out.alloc HB.out.size _⟩
end Ve
end Go.Proofs.YtacggkigfjpfnaaGreatDoor

/-
  What the function inside graph.walk does: one more comes, or has come already.
-/
namespace Go.Proofs.YtacggkigfjpfnaaGreatDoor
open Go.RowKit Go.Maps
namespace Ve

/-- The walk's memory: the boxes of the map and of the order, the map, the order. -/
structure Wk (w0 W : World) (bb ob mb : Nat) (T : By) : Prop where
  bl : Below w0.heap.size w0 W
  sz : szT T
  b1 : w0.heap.size ≤ bb
  b2 : w0.heap.size ≤ ob
  b3 : w0.heap.size ≤ mb
  bc : W.heap[bb]? = some (.cells #[.map (some mb)] 81 (0, 0))
  mp : ByAt W mb T
  oc : ∃ ov, W.heap[ob]? = some (.cells #[ov] 23 (0, 0)) ∧ W.ownsRow w0.heap.size 45 2 ov T.length (flatM (whoT T))
theorem Wk.below {w0 W W' : World} {bb ob mb : Nat} {T : By} (h : Wk w0 W bb ob mb T) (hb : Below W.heap.size W W') : Wk w0 W' bb ob mb T := by
  obtain ⟨ov, h1, h2⟩ := h.oc
  exact ⟨h.bl.trans (hb.mono h.bl.size), h.sz, h.b1, h.b2, h.b3, (hb.block _ (lt_of_blk h.bc)).trans h.bc, h.mp.below hb, ov, (hb.block _ (lt_of_blk h1)).trans h1, owns_below h2 hb⟩
theorem flatM_who (T : By) (m f : Bm) : flatM (whoT (T ++ [(m, f)])) = flatM (whoT T) ++ [.string m.1, .string m.2] := by
  rw [whoT_app, flatM_app]; simp [flatM]
theorem ByAt.block {w : World} {b : Nat} {T : By} (h : ByAt w b T) : ∃ es clock, w.heap[b]? = some (.map es clock) := by
  obtain ⟨es, clock, h1, _⟩ := h
  exact ⟨es, clock, h1⟩
theorem ByAt.ne {w : World} {b g : Nat} {T : By} {cs : Array Value} {t : TypeId} {fr : Nat × Nat} (h : ByAt w b T) (hg : w.heap[g]? = some (.cells cs t fr)) : g ≠ b := fun e => by
  obtain ⟨es, clock, h1⟩ := h.block
  subst e
  rw [h1] at hg
  cases hg
theorem ByAt.far {w w2 : World} {b B n : Nat} {T : By} {v : Value} {e : TypeId} {xs : List Value} (h : ByAt w b T) (hg : w.grownBy w2 (some b)) (ho : w.ownsRow B e 2 v n xs) : w2.ownsRow B e 2 v n xs :=
  owns_far ho hg fun g hv => by
    obtain ⟨hl, ⟨h1, _⟩ | ⟨g', cap, cur, e1, e2, e3, _⟩⟩ := ho
    · rw [h1] at hv; cases hv
    · rw [e1] at hv
      have : g' = g := by simpa [Value.ownBlock] using hv
      subst this
      intro e
      exact h.ne e3 (by simpa using e.symm)
/-- The walk's memory behind one more. -/
theorem Wk.more {w0 w1 w2 w3 : World} {bb ob mb : Nat} {T : By} {m f : Bm} {ov v' : Value} {o : Obj} (h : Wk w0 w1 bb ob mb T) (hm : m.1.size ≤ maxLen ∧ m.2.size ≤ maxLen) (o1 : w1.heap[ob]? = some (.cells #[ov] 23 (0, 0))) (o2 : w1.ownsRow w0.heap.size 45 2 ov T.length (flatM (whoT T)))
    (hown : w2.ownsMap Tryz.prog 45 rB mb (T.length + 1) ((datB T).put (kL m) (.held f))) (hg : w1.grownBy w2 (some mb)) (hown3 : w3.ownsRow w0.heap.size 45 2 v' (T.length + 1) (flatM (whoT T) ++ [.string m.1, .string m.2])) (hg3 : (w2.alloc o).grownBy w3 ov.ownBlock) :
    Wk w0 (w3.setCell ⟨ob, 0, none⟩ v') bb ob mb (T ++ [(m, f)]) := by
  have hs1 := h.bl.size
  have l1 := lt_of_blk h.bc
  have l2 := lt_of_blk o1
  obtain ⟨es, clock, hm1⟩ := ByAt.block h.mp
  have l3 := lt_of_blk hm1
  have n1 : bb ≠ mb := h.mp.ne h.bc
  have n2 : ob ≠ mb := h.mp.ne o1
  have n3 : bb ≠ ob := fun e => by
    subst e
    have := h.bc.symm.trans o1
    simp at this
  have o2' := h.mp.far hg o2
  have r1 : ov.ownBlock ≠ some bb := own_ne2 o2 h.bc (by decide)
  have r2 : ov.ownBlock ≠ some ob := own_ne2 o2 o1 (by decide)
  have r3 : ov.ownBlock ≠ some mb := fun e => by
    obtain ⟨hl, ⟨h1, _⟩ | ⟨g', cap, cur, e1, e2, e3, _⟩⟩ := o2
    · rw [h1] at e; cases e
    · rw [e1] at e
      have : g' = mb := by simpa [Value.ownBlock] using e
      exact h.mp.ne e3 this
  have sz2 := hg.size
  have step : ∀ b, b < w1.heap.size → b ≠ mb → ov.ownBlock ≠ some b → w3.heap[b]? = w1.heap[b]? := fun b hb hne hr => by
    rw [hg3.block b (by simp; omega) (fun e => hr e.symm), ((Below.refl w2.heap.size w2).alloc (Nat.le_refl _) o).block b (by omega), hg.block b hb (by simp [hne])]
  have q1 := (step bb l1 n1 r1).trans h.bc
  have q2 := (step ob l2 n2 r2).trans o1
  have q3 : w3.heap[mb]? = w2.heap[mb]? := by
    rw [hg3.block mb (by simp; omega) (fun e => r3 e.symm), ((Below.refl w2.heap.size w2).alloc (Nat.le_refl _) o).block mb (by omega)]
  have b2 : Below w0.heap.size w0 w2 := h.bl.grown hg hs1 (fun k hk => by cases hk; exact h.b3)
  have b3 : Below w0.heap.size w0 w3 := (b2.alloc b2.size o).grown hg3 (by simp; have := b2.size; omega) (fun k hk => (o2.lt k hk).1)
  refine ⟨b3.setCell (p := ⟨ob, 0, none⟩) h.b2 v', ?_, h.b1, h.b2, h.b3, keep_set q1 n3, ?_, v', ?_, ?_⟩
  · intro x hx
    rcases List.mem_append.1 hx with hx | hx
    · exact h.sz x hx
    · simp at hx; subst hx; exact hm
  · unfold ByAt
    rw [datB_app, List.length_append]
    obtain ⟨es2, clock2, h1, F, hs, hD⟩ := hown
    exact ⟨es2, clock2, by rw [Below.heap_setCell _ _ _ _ (Ne.symm n2), q3]; exact h1, F, hs, hD⟩
  · have := set_block (o := 0) (x := v') q2
    simpa using this
  · rw [flatM_who, List.length_append]
    exact owns_set hown3 (own_ne2 hown3 q2 (by decide))
set_option maxRecDepth 100000 in
set_option maxHeartbeats 2000000 in
theorem come_any (w0 W : World) (bb ob mb : Nat) (T : By) (m f : Bm) (hm : m.1.size ≤ maxLen ∧ m.2.size ≤ maxLen) (hl : T.length ≤ 1000) (h : Wk w0 W bb ob mb T) :
    Calls Tryz.prog 80 #[.agg #[.string m.1, .string m.2], .agg #[.string f.1, .string f.2], .pointer (some ⟨bb, 0, none⟩), .pointer (some ⟨ob, 0, none⟩)] W fun e w' => e = .returned (.tuple #[]) ∧ Wk w0 w' bb ob mb (comeT T m f) := by
  obtain ⟨i0, hi0, hz0, hz1, hz2⟩ := info_parts infoMod
  have HBa := hid (((Below.refl W.heap.size W).alloc (Nat.le_refl _) (.cells #[.string m.1, .string m.2] 45)).alloc (by simp) (.cells #[.string f.1, .string f.2] 45))
  have HW := hid (h.below HBa.out)
  have HC := hid (came_any mb T m _ hm HW.out.sz HW.out.mp)
  have c0 : ((W.alloc (.cells #[.string m.1, .string m.2] 45)).alloc (.cells #[.string f.1, .string f.2] 45)).cell? ⟨bb, 0, none⟩ = some (.map (some mb)) := by rw [Lib.cell_of_heap HW.out.bc]; rfl
  have HM := hid hm
  clear h hm
  go_enter Tryz.func80, Tryz.ntmps80
  go_wp2_with fail
  refine HC.out.mono ?_
  rintro e w1 ⟨rfl, hb⟩
  have HW1 := hid (HW.out.below hb)
  have e0 : w1.heap[W.heap.size]? = some (.cells #[.string m.1, .string m.2] 45 (0, 0)) := by
    rw [hb.block _ (by simp; omega)]; exact heap_old _ _ (heap_new W _)
  have e1 : w1.heap[W.heap.size + 1]? = some (.cells #[.string f.1, .string f.2] 45 (0, 0)) := by
    rw [hb.block _ (by simp)]
    have := heap_new (W.alloc (.cells #[.string m.1, .string m.2] 45)) (.cells #[.string f.1, .string f.2] 45)
    rw [show (W.alloc (.cells #[.string m.1, .string m.2] 45)).heap.size = W.heap.size + 1 by simp] at this
    exact this
  clear hb
  cases hc : cameB T m with
  | true =>
    go_wp2_with fail
    go_end0
    exact ⟨rfl, by rw [come_yes hc]; exact HW1.out⟩
  | false =>
    have HCN := hid hc
    obtain ⟨ov, o1, o2⟩ := HW1.out.oc
    have HO1 := hid o1
    have HO2 := hid o2
    have k0 : w1.cell? ⟨bb, 0, none⟩ = some (.map (some mb)) := by rw [Lib.cell_of_heap HW1.out.bc]; rfl
    have k1 : w1.cell? ⟨W.heap.size, 0, none⟩ = some (.string m.1) := by rw [Lib.cell_of_heap e0]; rfl
    have k2 : w1.cell? ⟨W.heap.size, 1, none⟩ = some (.string m.2) := by rw [Lib.cell_of_heap e0]; rfl
    have k3 : w1.cell? ⟨W.heap.size + 1, 0, none⟩ = some (.string f.1) := by rw [Lib.cell_of_heap e1]; rfl
    have k4 : w1.cell? ⟨W.heap.size + 1, 1, none⟩ = some (.string f.2) := by rw [Lib.cell_of_heap e1]; rfl
    have HE0 := hid e0
    clear o1 o2 e0 e1 hc c0
    go_wp2_with (at_mapUpdate; refine wpList_mapUpdate_own _ rfl _ _ _ 81 rfl 45 45 modKey Tryz.underlying81 rB mb T.length (datB T) rfl HW1.out.mp (by unfold maxLen; omega) (modV m) (modV f) (kL m) rfl rfl (keyOf_mod m HM.out.1 HM.out.2) (.held f) [] (rB_mod f) ?_)
    intro w2 hown hgrow
    have HOWN := hid hown
    have HGR := hid hgrow
    have n1 := HW1.out.mp.ne HE0.out
    have n2 := HW1.out.mp.ne HO1.out
    have j0 : w2.heap[W.heap.size]? = some (.cells #[.string m.1, .string m.2] 45 (0, 0)) := (hgrow.block _ (lt_of_blk HE0.out) (by simp [n1])).trans HE0.out
    have j1 : w2.heap[ob]? = some (.cells #[ov] 23 (0, 0)) := (hgrow.block _ (lt_of_blk HO1.out) (by simp [n2])).trans HO1.out
    have HOV := hid (HW1.out.mp.far hgrow HO2.out)
    obtain ⟨oa, oc, hov⟩ := own_slN HO2.out
    subst hov
    have i1 : w2.cell? ⟨W.heap.size, 0, none⟩ = some (.string m.1) := by rw [Lib.cell_of_heap j0]; rfl
    have i2 : w2.cell? ⟨W.heap.size, 1, none⟩ = some (.string m.2) := by rw [Lib.cell_of_heap j0]; rfl
    have i3 : w2.cell? ⟨ob, 0, none⟩ = some (.slice oa T.length oc) := by rw [Lib.cell_of_heap j1]; rfl
    have HJ1 := hid j1
    have HNE := hid (own_ne2 HOV.out j1 (by decide))
    have hsz := HW1.out.bl.size
    have hsz2 := hgrow.size
    clear hown hgrow j0 j1 k0 k1 k2 k3 k4 n1 n2
    go_wp2_with (at_builtin; refine wpList_append_own _ rfl _ _ 23 rfl w0.heap.size 45 i0 _ 2 32 Tryz.underlying23 hi0 hz0 hz1 hz2 rfl (by decide) _ _ _ rfl (HOV.out.alloc _) ⟨w2.heap.size, 0, none⟩ 1 1 [.string m.1, .string m.2] rfl rfl ?c1 ?c2 ?c3 ?c4 ?c5 ?_)
    case c1 => exact World.news_of_block (cs := #[.string m.1, .string m.2]) (t := 45) (fr := (0, 0)) (heap_alloc_new w2 _)
    case c2 =>
      intro u hu
      simp at hu
      rcases hu with rfl | rfl <;> rfl
    case c3 => unfold maxLen; omega
    case c4 => omega
    case c5 => simp; omega
    intro v' w3 hown3 hgrow3 _
    have HF := hid (HW1.out.more HM.out HO1.out HO2.out HOWN.out HGR.out hown3 hgrow3)
    have q2 : w3.heap[ob]? = some (.cells #[.slice oa T.length oc] 23 (0, 0)) := by
      rw [hgrow3.block ob (by have := lt_of_blk HJ1.out; simp; omega) (fun e => HNE.out e.symm), ((Below.refl w2.heap.size w2).alloc (Nat.le_refl _) _).block ob (lt_of_blk HJ1.out)]
      exact HJ1.out
    have i4 : w3.cell? ⟨ob, 0, none⟩ = some (.slice oa T.length oc) := by rw [Lib.cell_of_heap q2]; rfl
    have i5 : w3.frozen? ⟨ob, 0, none⟩ = false := by simp [World.frozen?, q2]
    obtain ⟨va, vc, hv⟩ := own_slN hown3
    subst hv
    clear hown3 hgrow3 q2 i1 i2 i3
    go_wp2_with fail
    go_end0
    exact ⟨rfl, by rw [come_no HCN.out]; exact HF.out⟩
end Ve
end Go.Proofs.YtacggkigfjpfnaaGreatDoor

/-
  Places in an index; errors, or none; the lengths of an index that is not too long; the next round of a loop.
-/
namespace Go.Proofs.YtacggkigfjpfnaaGreatDoor
open Go.RowKit
namespace Ve

theorem idx_is {P : Raw → Bool} {L : List Raw} {k : Nat} (h : idxOf P L = (k : Int)) : ∃ hk : k < L.length, P L[k] = true := by
  unfold idxOf at h
  cases h1 : fstE (idxE P L) L.length with
  | none => rw [h1] at h; simp only at h; omega
  | some j =>
    rw [h1] at h
    simp only at h
    have e : j = k := by omega
    subst e
    obtain ⟨a, b, _⟩ := fstE_of_some h1
    refine ⟨a, ?_⟩
    rw [idxE_at a] at b
    cases hp : P L[j] with
    | true => rfl
    | false => rw [hp] at b; exact absurd rfl b
/-- An error, or none. -/
theorem ErrAt.kind {W : World} {A : Nat → Addr} {x : Value} {c : Nat} {o : Option Nat} (h : ErrAt W A x c o) : (c = 0 ∧ x = .nilIface) ∨ (c ≠ 0 ∧ ∃ T a, x = .iface T (.pointer (some a))) := by
  cases o with
  | none =>
    have h : x = errA A c := h
    by_cases hc : c = 0
    · subst hc; exact Or.inl ⟨rfl, h⟩
    · obtain ⟨a, ha⟩ := errA_ne A hc
      exact Or.inr ⟨hc, _, a, h.trans ha⟩
  | some i =>
    obtain ⟨h1, b, h2, _⟩ := h
    exact Or.inr ⟨h1, _, _, h2⟩
theorem okI_iff {L : List Ent} (h : okI L = true) : (L.length ≤ 30 ∨ L.length = 101) ∧ ∀ e, e ∈ L → e.1.1.size ≤ 70 ∧ e.1.2.size ≤ 60 ∧ e.2.1.length ≤ 25 ∧ (∀ m, m ∈ e.2.1 → m.1.size ≤ 70 ∧ m.2.size ≤ 60) ∧ e.2.2.1.length ≤ 15 ∧ ∀ x, x ∈ e.2.2.1 → x.size ≤ 70 := by
  unfold okI at h
  rw [Bool.and_eq_true] at h
  obtain ⟨h1, h2⟩ := h
  refine ⟨by simpa [okN] using h1, fun e he => ?_⟩
  have h3 := List.all_eq_true.1 h2 e he
  unfold okE at h3
  simp only [Bool.and_eq_true, decide_eq_true_eq] at h3
  obtain ⟨⟨⟨⟨a, b⟩, c⟩, d⟩, f⟩ := h3
  obtain ⟨c1, c2⟩ := okL_iff c
  refine ⟨a, b, c1, c2, d, fun x hx => ?_⟩
  have := List.all_eq_true.1 f x hx
  simpa using this
theorem okI_sh {L : List Ent} (h : okI L = true) : ∀ e, e ∈ L → ShE e := fun e he => by
  obtain ⟨a, b, c, d, f, g⟩ := (okI_iff h).2 e he
  exact ⟨by omega, by omega, by omega, fun m hm => ⟨by have := (d m hm).1; omega, by have := (d m hm).2; omega⟩, by omega, fun x hx => by have := g x hx; omega⟩
theorem okI_fits {L : List Ent} (h : okI L = true) : ∀ e, e ∈ L → Fits e := fun e he => by
  obtain ⟨a, b, c, d, f, g⟩ := (okI_iff h).2 e he
  exact ⟨by omega, by omega⟩
theorem ixs_sz {w : World} {v : Value} {Q : List Raw} {L : List Ent} (I : Ixs w v Q L) (h : okI L = true) : ∀ r, r ∈ Q → r.1.1.size ≤ 80 ∧ r.1.2.size ≤ 80 := fun r hr => by
  obtain ⟨j, hj, rfl⟩ := List.getElem_of_mem hr
  have hj2 : j < L.length := by rw [← I.ln]; exact hj
  have hm := (I.ok j hj hj2).m
  obtain ⟨a, b, _⟩ := (okI_iff h).2 L[j] (List.getElem_mem hj2)
  rw [hm]
  exact ⟨by omega, by omega⟩

theorem nx_idx {t n : Nat} (h : t < n) (h2 : n ≤ 1000000) : Value.int .i64 (wrap64 ((t : Int) + 1)) = .int .i64 ((t + 1 : Nat) : Int) := by
  rw [IntWalk.wrap64_in _ (by omega)]; rfl
theorem nx_meas {t n : Nat} (h : t < n) (h2 : n ≤ 1000000) : n - (intOf (Value.int .i64 (wrap64 ((t : Int) + 1)))).toNat < n - (intOf (Value.int .i64 (t : Int))).toNat := by
  rw [IntWalk.wrap64_in _ (by omega)]
  show n - ((t : Int) + 1).toNat < n - ((t : Int)).toNat
  omega
theorem nr_idx (t : Nat) : Value.int .i64 ((t : Int) + 1) = .int .i64 ((t + 1 : Nat) : Int) := rfl
theorem nr_meas {t n : Nat} (h : t < n) : n - (intOf (Value.int .i64 ((t : Int) + 1))).toNat < n - (intOf (Value.int .i64 (t : Int))).toNat := by
  show n - ((t : Int) + 1).toNat < n - ((t : Int)).toNat
  omega
end Ve
end Go.Proofs.YtacggkigfjpfnaaGreatDoor

/-
  What graph.walk answers.
-/
namespace Go.Proofs.YtacggkigfjpfnaaGreatDoor
open Go.RowKit Go.Maps
namespace Ve

/-- The modules of an index. -/
def univ (L : List Ent) : List Bm := L.map fun e => e.1
theorem univ_len (L : List Ent) : (univ L).length = L.length := by simp [univ]
/-- Whom a module of an index requires. -/
def reqQ (Q : List Raw) (L : List Ent) (m : Bm) : List Bm := if idxOf (isM m) Q < 0 then [] else ((L[(idxOf (isM m) Q).toNat]?).map fun e => e.2.1).getD []
theorem ixs_get {w : World} {v : Value} {Q : List Raw} {L : List Ent} (I : Ixs w v Q L) {j : Nat} (hj : j < Q.length) : ∃ hj' : j < L.length, Q[j].1 = L[j].1 := by
  have hj' : j < L.length := by rw [← I.ln]; exact hj
  exact ⟨hj', (I.ok j hj hj').m⟩
theorem isM_iff {m : Bm} {r : Raw} : isM m r = true ↔ r.1 = m := by
  unfold isM
  constructor
  · intro h; have h2 := of_decide_eq_true h; exact Prod.ext h2.1 h2.2
  · intro h; exact decide_eq_true (by rw [h]; exact ⟨rfl, rfl⟩)
theorem idx_nat (P : Raw → Bool) (Q : List Raw) : idxOf P Q = -1 ∨ ∃ k : Nat, idxOf P Q = (k : Int) := by
  unfold idxOf
  cases fstE (idxE P Q) Q.length with
  | none => exact Or.inl rfl
  | some k => exact Or.inr ⟨k, rfl⟩
theorem idx_none {P : Raw → Bool} {Q : List Raw} (h : idxOf P Q = -1) : ∀ r, r ∈ Q → P r = false := fun r hr => by
  obtain ⟨j, hj, rfl⟩ := List.getElem_of_mem hr
  unfold idxOf at h
  cases h1 : fstE (idxE P Q) Q.length with
  | some k => rw [h1] at h; simp only at h; omega
  | none =>
    have := fstE_of_none h1 j hj
    rw [idxE_at hj] at this
    cases hp : P Q[j] with
    | false => rfl
    | true => rw [hp] at this; simp at this
/-- What is found is a module of the index. -/
theorem found_iff {w : World} {v : Value} {Q : List Raw} {L : List Ent} (I : Ixs w v Q L) (m : Bm) : m ∈ univ L ↔ ∃ k : Nat, idxOf (isM m) Q = (k : Int) := by
  constructor
  · intro h
    rcases idx_nat (isM m) Q with h1 | h1
    · obtain ⟨e, he, rfl⟩ := List.mem_map.1 h
      obtain ⟨j, hj, rfl⟩ := List.getElem_of_mem he
      have hj2 : j < Q.length := by rw [I.ln]; exact hj
      have := idx_none h1 Q[j] (List.getElem_mem hj2)
      rw [isM_iff.2 (I.ok j hj2 hj).m] at this
      cases this
    · exact h1
  · rintro ⟨k, h⟩
    obtain ⟨hk, h1⟩ := idx_is h
    obtain ⟨hk', h2⟩ := ixs_get I hk
    exact List.mem_map.2 ⟨L[k], List.getElem_mem hk', by rw [← h2]; exact isM_iff.1 h1⟩
theorem reqQ_at {Q : List Raw} {L : List Ent} {m : Bm} {k : Nat} (h : idxOf (isM m) Q = (k : Int)) (hk : k < L.length) : reqQ Q L m = L[k].2.1 := by
  unfold reqQ
  rw [h, if_neg (by omega), Int.toNat_natCast, List.getElem?_eq_getElem hk]
  rfl

theorem MsAt.cells {w : World} {a : Option Addr} {n c : Nat} {L : List Bm} (h : MsAt w (.slice a n c) L) {k : Nat} (hk : k < L.length) : ∃ b o, a = some ⟨b, o, none⟩ ∧ w.cell? ⟨b, o + k * 2, none⟩ = some (.string L[k].1) ∧ w.cell? ⟨b, o + k * 2 + 1, none⟩ = some (.string L[k].2) := by
  obtain ⟨a', c', e, _, h⟩ := h
  injection e with e1 e2 e3
  subst e1
  obtain ⟨b, o, e4, h4⟩ := h (by intro h0; rw [h0] at hk; simp at hk)
  exact ⟨b, o, e4, h4 k hk⟩
theorem es_cells {W : World} {a : Option Addr} {n c : Nat} {Q : List Raw} (h : EsAt W (.slice a n c) Q) {k : Nat} (hk : k < Q.length) : ∃ b o, a = some ⟨b, o, none⟩ ∧ W.cell? ⟨b, o + k * 5 + 2, none⟩ = some Q[k].2.1 := by
  obtain ⟨a', c', e, _, _, h⟩ := h
  injection e with e1 e2 e3
  subst e1
  obtain ⟨b', o', e4, h4⟩ := h (by intro h0; rw [h0] at hk; simp at hk)
  exact ⟨b', o', e4, (h4 k hk).2.2.1⟩
set_option maxRecDepth 100000 in
set_option maxHeartbeats 2000000 in
theorem walk_any (Q : List Raw) (L : List Ent) (roots : List Bm) (v rv : Value) (w : World) (hn : L.length ≤ 1000) (hrn : roots.length ≤ 1000000) (I : Ixs w v Q L) (hr : MsAt w rv roots) (hz : ∀ m, m ∈ univ L → m.1.size ≤ maxLen ∧ m.2.size ≤ maxLen) (hrl : ∀ e, e ∈ L → e.2.1.length ≤ 1000000)
    (hru : ∀ m, m ∈ roots → m ∈ univ L) (hlu : ∀ m, m ∈ univ L → ∀ x, x ∈ reqQ Q L m → x ∈ univ L) :
    Calls Tryz.prog 48 #[v, rv] w fun e w' => ∃ b, e = .returned (.map (some b)) ∧ ∃ T, ByAt w' b T ∧ szT T ∧ Came (reqQ Q L) (univ L) roots T ∧ Below w.heap.size w w' := by
  obtain ⟨a, c, hv, -⟩ := id I.es
  subst hv
  obtain ⟨ra, rc, hrv, -⟩ := id hr
  subst hrv
  have HI := hid I
  have HR := hid hr
  have HZ := hid hz
  have HRL := hid hrl
  have HRU := hid hru
  have HLU := hid hlu
  have eg : ∀ args w, (callFunc 80 args).run Tryz.prog w = .ok (.enter 80 args) w := enters_of Tryz.func80 (by kernel_rfl) rfl
  have hmk : ∀ W : World, (Instr.makeMap 81 none).run Tryz.prog W = .ok (.map (some W.heap.size)) (W.alloc (.map #[] 0)) := fun W => run_makeMap 81 W
  clear I hr hz hrl hru hlu
  go_enter Tryz.func48, Tryz.ntmps48
  go_wp2_with fail
  have HW0 := hid (show Wk w (((w.alloc (.map #[] 0)).alloc (.cells #[.map (some w.heap.size)] 81)).alloc (.cells #[.slice none 0 0] 23)) (w.heap.size + 1) (w.heap.size + 1 + 1) w.heap.size [] by
    have b1 := (Below.refl w.heap.size w).alloc (Nat.le_refl _) (.map #[] 0)
    have b2 := b1.alloc (by simp) (.cells #[.map (some w.heap.size)] 81)
    have b3 := b2.alloc (by simp; omega) (.cells #[.slice none 0 0] 23)
    have c1 := (Below.refl (w.alloc (.map #[] 0)).heap.size (w.alloc (.map #[] 0))).alloc (Nat.le_refl _) (.cells #[.map (some w.heap.size)] 81)
    have c2 := (Below.refl ((w.alloc (.map #[] 0)).alloc (.cells #[.map (some w.heap.size)] 81)).heap.size ((w.alloc (.map #[] 0)).alloc (.cells #[.map (some w.heap.size)] 81))).alloc (Nat.le_refl _) (.cells #[.slice none 0 0] 23)
    have m0 : ByAt (w.alloc (.map #[] 0)) w.heap.size [] := World.ownsMap_made w Tryz.prog 45 rB
    have h1 := heap_new (w.alloc (.map #[] 0)) (.cells #[.map (some w.heap.size)] 81)
    have h2 := heap_new ((w.alloc (.map #[] 0)).alloc (.cells #[.map (some w.heap.size)] 81)) (.cells #[.slice none 0 0] 23)
    have s1 : (w.alloc (.map #[] 0)).heap.size = w.heap.size + 1 := by simp
    have s2 : ((w.alloc (.map #[] 0)).alloc (.cells #[.map (some w.heap.size)] 81)).heap.size = w.heap.size + 1 + 1 := by simp
    rw [s1] at h1
    rw [s2] at h2
    exact ⟨b3, fun x hx => (by cases hx), by omega, by omega, by omega, heap_old _ _ h1, (m0.below c1).below c2, _, h2, World.ownsRow_nil _ _ _ _⟩)
  generalize hW0 : ((w.alloc (.map #[] 0)).alloc (.cells #[.map (some w.heap.size)] 81)).alloc (.cells #[.slice none 0 0] 23) = W0 at *
  clear hW0
  go_loopw [17] (fun iv wr => ∃ k : Nat, k ≤ roots.length ∧ iv = .int .i64 k ∧ Hid (∃ T, Wk w wr (w.heap.size + 1) (w.heap.size + 1 + 1) w.heap.size T ∧ Bfs (reqQ Q L) (univ L) roots T 0 ∧ (∀ m, m ∈ roots.take k → m ∈ whoT T) ∧ ∃ V, LvOk (reqQ Q L) roots T 0 V ∧ ∀ k (hk : k < V.length), V[k] = 1)) (fun i _ => roots.length - (intOf i).toNat)
  case atStart => exact ⟨0, Nat.zero_le _, rfl, hid ⟨[], HW0.out, Bfs.none _ _ _, fun m hm => by simp at hm, [], LvOk.none _ _, fun _ h => absurd h (Nat.not_lt_zero _)⟩⟩
  case round =>
    obtain ⟨k, hk, rfl, HT⟩ := hrel
    by_cases hlt : k < roots.length
    · obtain ⟨T, hT⟩ := HT.out
      have HTT := hid hT
      have HRM := hid (HR.out.below hT.1.bl)
      obtain ⟨rb, ro, hra, hcc⟩ := HRM.out.cells hlt
      subst hra
      have x0 := hcc.1
      have x1 := hcc.2
      have HMU := hid (HRU.out roots[k] (List.getElem_mem hlt))
      have HMR := hid (List.getElem_mem hlt)
      have HTK := hid (show ∀ x, x ∈ roots.take (k + 1) → x ∈ roots.take k ∨ x = roots[k] from fun x hx => by
        rw [List.take_succ_eq_append_getElem hlt] at hx
        rcases List.mem_append.1 hx with h | h
        · exact Or.inl h
        · exact Or.inr (List.mem_singleton.1 h))
      have HLT := hid hlt
      have hkI : (k : Int) < (roots.length : Int) := by omega
      clear hT hcc
      generalize roots[k] = m at *
      clear hlt
      have HBa := hid ((Below.refl wr.heap.size wr).alloc (Nat.le_refl _) (.cells #[.string m.1, .string m.2] 45))
      have HCO := hid (come_any w _ (w.heap.size + 1) (w.heap.size + 1 + 1) w.heap.size T m m (HZ.out m HMU.out) (by have := HTT.out.2.1.len; rw [univ_len] at this; omega) (HTT.out.1.below HBa.out))
      go_wp2_with fail
      refine HCO.out.mono ?_
      rintro e w1 ⟨rfl, hk1⟩
      have HN := hid (show ∃ T, Wk w w1 (w.heap.size + 1) (w.heap.size + 1 + 1) w.heap.size T ∧ Bfs (reqQ Q L) (univ L) roots T 0 ∧ (∀ m, m ∈ roots.take (k + 1) → m ∈ whoT T) ∧ ∃ V, LvOk (reqQ Q L) roots T 0 V ∧ ∀ k (hk : k < V.length), V[k] = 1 from
        ⟨_, hk1, HTT.out.2.1.come HMU.out (Or.inl ⟨rfl, HMR.out⟩), fun x hx => by
          rcases HTK.out x hx with h | rfl
          · exact come_sub (HTT.out.2.2.1 x h)
          · exact come_mem _ _ _, by
          obtain ⟨V, h1, h2⟩ := HTT.out.2.2.2
          exact h1.root h2 HMR.out⟩)
      clear hk1
      go_wp2_with fail
      go_roundw
      case rel => exact ⟨k + 1, HLT.out, nr_idx k, HN⟩
      case measure => exact nr_meas HLT.out
    · have HALL := hid (show ∃ T, Wk w wr (w.heap.size + 1) (w.heap.size + 1 + 1) w.heap.size T ∧ Bfs (reqQ Q L) (univ L) roots T 0 ∧ (∀ m, m ∈ roots → m ∈ whoT T) ∧ ∃ V, LvOk (reqQ Q L) roots T 0 V by
        have := HT.out
        rw [List.take_of_length_le (by omega)] at this
        obtain ⟨T, h1, h2, h3, V, h4, _⟩ := this
        exact ⟨T, h1, h2, h3, V, h4⟩)
      have hkI : ¬ (k : Int) < (roots.length : Int) := by omega
      clear HT hlt
      go_wp2_with fail
      go_loopw [10] (fun iv wr => ∃ i : Nat, iv = .int .i64 i ∧ Hid (∃ T, Wk w wr (w.heap.size + 1) (w.heap.size + 1 + 1) w.heap.size T ∧ Bfs (reqQ Q L) (univ L) roots T i ∧ (∀ m, m ∈ roots → m ∈ whoT T) ∧ ∃ V, LvOk (reqQ Q L) roots T i V)) (fun i _ => L.length - (intOf i).toNat)
      case atStart => exact ⟨0, rfl, HALL⟩
      case round =>
        obtain ⟨i, rfl, HA⟩ := hrel
        obtain ⟨T, hT⟩ := HA.out
        have HTT := hid hT
        obtain ⟨ov, o1, o2⟩ := hT.1.oc
        have hTl : T.length ≤ L.length := by have := hT.2.1.len; rw [univ_len] at this; exact this
        obtain ⟨oa, oc, hov⟩ := own_slN o2
        subst hov
        have z0 : wr.cell? ⟨w.heap.size + 1 + 1, 0, none⟩ = some (.slice oa T.length oc) := by rw [Lib.cell_of_heap o1]; rfl
        have HO2 := hid o2
        clear hT o1 o2 HA
        by_cases hlt : i < T.length
        · have hiI : (i : Int) < (T.length : Int) := by omega
          obtain ⟨b1, o1, hoa, yy0, yy1⟩ := (own_ms (L := whoT T) (by rw [whoT_len]; exact HO2.out)).cells (k := i) (by rw [whoT_len]; exact hlt)
          subst hoa
          rw [whoT_get hlt] at yy0 yy1
          have HLT := hid hlt
          have HOU := hid (HTT.out.2.1.un T[i].1 (whoT_mem.2 ⟨i, hlt, rfl⟩))
          have HOM := hid (show T[i].1 ∈ whoT T from whoT_mem.2 ⟨i, hlt, rfl⟩)
          obtain ⟨o, ho, y0, y1, hou, hom⟩ : ∃ o, T[i].1 = o ∧ wr.cell? ⟨b1, o1 + i * 2, none⟩ = some (.string o.1) ∧ wr.cell? ⟨b1, o1 + i * 2 + 1, none⟩ = some (.string o.2) ∧ o ∈ univ L ∧ o ∈ whoT T := ⟨_, rfl, yy0, yy1, HOU.out, HOM.out⟩
          clear yy0 yy1 HOU HOM
          have HOU := hid hou
          have HOM := hid hom
          have HOI := hid (show ∃ h : i < T.length, (T[i]'h).1 = o from ⟨hlt, ho⟩)
          clear hou hom
          obtain ⟨kq, hkq⟩ := (found_iff HI.out o).1 HOU.out
          obtain ⟨hkl, -⟩ := idx_is hkq
          have hkl2 : kq < L.length := by rw [← HI.out.ln]; exact hkl
          have HFI := hid (find_any Q o (.slice a Q.length c) wr (by rw [HI.out.ln]; omega) (HI.out.below HTT.out.1.bl).es)
          rw [hkq] at HFI
          have HRQ := hid (reqQ_at hkq hkl2)
          have hkI : (kq : Int) < (Q.length : Int) := by omega
          have hk0 : (0 : Int) ≤ (kq : Int) := by omega
          have HES := hid (fun W (h : Below w.heap.size w W) => es_cells (HI.out.below h).es hkl)
          have HMS := hid (fun W (h : Below w.heap.size w W) => ((HI.out.below h).ok kq hkl hkl2).rq)
          have hrl2 := HRL.out L[kq] (List.getElem_mem hkl2)
          generalize (L[kq]'hkl2).2.1 = R at *
          generalize (Q[kq]'hkl).2.1 = qv at *
          obtain ⟨qa, qc, hqv, -⟩ := HMS.out w (Below.refl _ _)
          subst hqv
          clear hkq hkl hkl2 ho hlt
          go_wp2_with fail
          refine HFI.out.mono ?_
          rintro e w1 ⟨rfl, hb⟩
          have HW1 := hid (HTT.out.1.below hb)
          obtain ⟨eb, eo, ha, x2⟩ := HES.out w1 HW1.out.bl
          subst ha
          clear hb HFI
          go_wp2_with fail
          have HMS1 := hid (HMS.out w1 HW1.out.bl)
          have HST := hid (show ∃ T', Wk w w1 (w.heap.size + 1) (w.heap.size + 1 + 1) w.heap.size T' ∧ Bfs (reqQ Q L) (univ L) roots T' i ∧ (∀ m, m ∈ roots → m ∈ whoT T') ∧ (∃ h : i < T'.length, (T'[i]'h).1 = o) ∧ (∀ m, m ∈ R.take 0 → m ∈ whoT T') ∧ ∃ V, LvOk (reqQ Q L) roots T' i V from
            ⟨T, HW1.out, HTT.out.2.1, HTT.out.2.2.1, HOI.out, fun m hm => by simp at hm, HTT.out.2.2.2⟩)
          clear HW1 HTT x2 y0 y1 z0
          go_loopw [43] (fun iv wr => ∃ k : Nat, k ≤ R.length ∧ iv = .int .i64 k ∧ Hid (∃ T', Wk w wr (w.heap.size + 1) (w.heap.size + 1 + 1) w.heap.size T' ∧ Bfs (reqQ Q L) (univ L) roots T' i ∧ (∀ m, m ∈ roots → m ∈ whoT T') ∧ (∃ h : i < T'.length, (T'[i]'h).1 = o) ∧ (∀ m, m ∈ R.take k → m ∈ whoT T') ∧ ∃ V, LvOk (reqQ Q L) roots T' i V)) (fun i _ => R.length - (intOf i).toNat)
          case atStart => exact ⟨0, Nat.zero_le _, rfl, HST⟩
          case round =>
            obtain ⟨k2, hk2, rfl, HS2⟩ := hrel
            by_cases hlt : k2 < R.length
            · obtain ⟨T2, hT2⟩ := HS2.out
              have HT2 := hid hT2
              obtain ⟨qb, qo, hqa, xx0, xx1⟩ := (HMS.out wr hT2.1.bl).cells hlt
              subst hqa
              have HMR := hid (show R[k2] ∈ reqQ Q L o by rw [HRQ.out]; exact List.getElem_mem hlt)
              have HTK := hid (show ∀ x, x ∈ R.take (k2 + 1) → x ∈ R.take k2 ∨ x = R[k2] from fun x hx => by
                rw [List.take_succ_eq_append_getElem hlt] at hx
                rcases List.mem_append.1 hx with h | h
                · exact Or.inl h
                · exact Or.inr (List.mem_singleton.1 h))
              have HLT2 := hid hlt
              have hkI2 : (k2 : Int) < (R.length : Int) := by omega
              obtain ⟨m, hm, x0, x1, hmr, htk⟩ : ∃ m, R[k2] = m ∧ wr.cell? ⟨qb, qo + k2 * 2, none⟩ = some (.string m.1) ∧ wr.cell? ⟨qb, qo + k2 * 2 + 1, none⟩ = some (.string m.2) ∧ m ∈ reqQ Q L o ∧ ∀ x, x ∈ R.take (k2 + 1) → x ∈ R.take k2 ∨ x = m := ⟨_, rfl, xx0, xx1, HMR.out, HTK.out⟩
              clear HMR HTK xx0 xx1
              have HMR := hid hmr
              have HTK := hid htk
              have HMU := hid (HLU.out o HOU.out m hmr)
              obtain ⟨hi2, ho2⟩ := hT2.2.2.2.1
              have HFO := hid (show o ∈ whoT T2 from whoT_mem.2 ⟨i, hi2, ho2⟩)
              obtain ⟨ov, o1, o2⟩ := hT2.1.oc
              obtain ⟨oa2, oc2, hov⟩ := own_slN o2
              subst hov
              have hBa := (Below.refl wr.heap.size wr).alloc (Nat.le_refl _) (.cells #[.string m.1, .string m.2] 45)
              obtain ⟨b3, o3, hoa, w0, w1'⟩ := (own_ms (L := whoT T2) (by rw [whoT_len]; exact o2)).cells (k := i) (by rw [whoT_len]; exact hi2)
              subst hoa
              rw [whoT_get hi2] at w0 w1'
              have hiI2 : (i : Int) < (T2.length : Int) := by omega
              have hi00 : (0 : Int) ≤ (i : Int) := by omega
              obtain ⟨q0, q1⟩ : (wr.alloc (.cells #[.string m.1, .string m.2] 45)).cell? ⟨b3, o3 + i * 2, none⟩ = some (.string o.1) ∧ (wr.alloc (.cells #[.string m.1, .string m.2] 45)).cell? ⟨b3, o3 + i * 2 + 1, none⟩ = some (.string o.2) := ⟨cell_below hBa (by rw [← ho2]; exact w0), cell_below hBa (by rw [← ho2]; exact w1')⟩
              have q2 : (wr.alloc (.cells #[.string m.1, .string m.2] 45)).cell? ⟨w.heap.size + 1 + 1, 0, none⟩ = some (.slice (some ⟨b3, o3, none⟩) T2.length oc2) := cell_below hBa (by rw [Lib.cell_of_heap o1]; rfl)
              have HCO := hid (fun W (h : Wk w W (w.heap.size + 1) (w.heap.size + 1 + 1) w.heap.size T2) => come_any w W (w.heap.size + 1) (w.heap.size + 1 + 1) w.heap.size T2 m o (HZ.out m HMU.out) (by have := HT2.out.2.1.len; rw [univ_len] at this; omega) h)
              have HWB := hid (hT2.1.below hBa)
              clear hT2 hm hmr htk o1 o2 w0 w1' hBa
              clear ho2 hi2 hlt
              go_upto_region 15 with fail
              go_region_with (go_at_call 80; refine (HCO.out _ (HWB.out.below (below_drawn _ 1))).mono ?_; rintro e w4 ⟨rfl, hk4⟩; have HK4 := hid hk4; clear hk4)
              all_goals
                have HNX := hid (show ∃ T', Wk w w4 (w.heap.size + 1) (w.heap.size + 1 + 1) w.heap.size T' ∧ Bfs (reqQ Q L) (univ L) roots T' i ∧ (∀ m, m ∈ roots → m ∈ whoT T') ∧ (∃ h : i < T'.length, (T'[i]'h).1 = o) ∧ (∀ m, m ∈ R.take (k2 + 1) → m ∈ whoT T') ∧ ∃ V, LvOk (reqQ Q L) roots T' i V from by
                  obtain ⟨h1, h2, h3, ⟨h4, h5⟩, h6, V, h7⟩ := HT2.out
                  refine ⟨_, HK4.out, h2.come HMU.out (Or.inr ⟨HFO.out, HMR.out⟩), fun x hx => come_sub (h3 x hx), ?_, fun x hx => ?_, by rw [← h5]; exact h7.reqs h4 h3 (by rw [h5]; exact HMR.out)⟩
                  · obtain ⟨E, hE⟩ := come_old T2 m o
                    rw [hE]
                    exact ⟨by simp; omega, by rw [List.getElem_append_left h4]; exact h5⟩
                  · rcases HTK.out x hx with h | rfl
                    · exact come_sub (h6 x h)
                    · exact come_mem _ _ _)
                go_wp2_with fail
                go_roundw
                case rel => exact ⟨k2 + 1, HLT2.out, nr_idx k2, HNX⟩
                case measure => exact nr_meas HLT2.out
            · have HSE := hid (show ∃ T', Wk w wr (w.heap.size + 1) (w.heap.size + 1 + 1) w.heap.size T' ∧ Bfs (reqQ Q L) (univ L) roots T' (i + 1) ∧ (∀ m, m ∈ roots → m ∈ whoT T') ∧ ∃ V, LvOk (reqQ Q L) roots T' (i + 1) V by
                obtain ⟨T', h1, h2, h3, ⟨h4, h5⟩, h6, V, h7⟩ := HS2.out
                rw [List.take_of_length_le (by omega)] at h6
                exact ⟨T', h1, h2.next h4 (by rw [h5, HRQ.out]; exact h6), h3, V, h7.next h4 (by rw [h5, HRQ.out]; exact h6)⟩)
              have hkI2 : ¬ (k2 : Int) < (R.length : Int) := by omega
              have HIL := hid (show i < L.length by
                obtain ⟨T', h1, h2, h3, ⟨h4, h5⟩, h6⟩ := HS2.out
                have := h2.len
                rw [univ_len] at this
                omega)
              clear HS2 hlt
              go_wp2_with fail
              go_roundw
              case rel => exact ⟨i + 1, nr_idx i, HSE⟩
              case measure => exact nr_meas HIL.out
        · have hiI : ¬ (i : Int) < (T.length : Int) := by omega
          have HTE := hid (show i = T.length by have := HTT.out.2.1.le; omega)
          have z1 : wr.cell? ⟨w.heap.size + 1, 0, none⟩ = some (.map (some w.heap.size)) := by rw [Lib.cell_of_heap HTT.out.1.bc]; rfl
          clear hlt
          go_wp2_with fail
          go_ret
          exact ⟨_, rfl, T, HTT.out.1.mp, HTT.out.1.sz, ⟨by have := HTT.out.2.1; rw [HTE.out] at this; exact this, HTT.out.2.2.1, by have := HTT.out.2.2.2; rw [HTE.out] at this; exact this⟩, HTT.out.1.bl⟩
end Ve
end Go.Proofs.YtacggkigfjpfnaaGreatDoor

/-
  What graph.check, graph.reached and graph.Reach answer.
-/
namespace Go.Proofs.YtacggkigfjpfnaaGreatDoor
open Go.RowKit Go.Maps
namespace Ve

/-- What is wrong with an index and roots. -/
def chkG (Q : List Raw) (L : List Ent) (roots : List Bm) : Nat × Option Nat := if (chk Q L).1 ≠ 0 then chk Q L else (codeE (nonE Q roots) roots.length, fstE (nonE Q roots) roots.length)
theorem chkG_bad {Q : List Raw} {L : List Ent} {roots : List Bm} (h : (chk Q L).1 ≠ 0) : chkG Q L roots = chk Q L := by unfold chkG; rw [if_pos h]
theorem chkG_ok {Q : List Raw} {L : List Ent} {roots : List Bm} (h : (chk Q L).1 = 0) : chkG Q L roots = (codeE (nonE Q roots) roots.length, fstE (nonE Q roots) roots.length) := by unfold chkG; rw [if_neg (by simp [h])]
theorem codeE_all {E : Nat → Nat} {n : Nat} (h : codeE E n = 0) : ∀ j, j < n → E j = 0 := by
  cases h1 : fstE E n with
  | none => exact fstE_of_none h1
  | some i =>
    rw [codeE_some h1] at h
    exact absurd h (fstE_of_some h1).2.1
theorem nonE_found {w : World} {v : Value} {Q : List Raw} {L : List Ent} (I : Ixs w v Q L) {R : List Bm} (h : codeE (nonE Q R) R.length = 0) : ∀ m, m ∈ R → m ∈ univ L := fun m hm => by
  obtain ⟨j, hj, rfl⟩ := List.getElem_of_mem hm
  have h1 := codeE_all h j hj
  rw [nonE_at hj] at h1
  unfold nonW at h1
  refine (found_iff I _).2 ?_
  rcases idx_nat (isM R[j]) Q with h2 | h2
  · rw [h2] at h1; simp at h1
  · exact h2
theorem chk_reqs0 {w : World} {v : Value} {Q : List Raw} {L : List Ent} (I : Ixs w v Q L) (h : (chk Q L).1 = 0) : ∀ m, m ∈ univ L → ∀ x, x ∈ reqQ Q L m → x ∈ univ L := fun m hm x hx => by
  have h100 : ¬ 100 < L.length := by have := (chk_each0 h).1; omega
  cases hf : fstE (entE L) L.length with
  | some i => rw [chk_each h100 hf] at h; exact absurd h (fstE_of_some hf).2.1
  | none =>
    rw [chk_reqs h100 hf] at h
    obtain ⟨k, hk⟩ := (found_iff I m).1 hm
    obtain ⟨hkq, -⟩ := idx_is hk
    have hkl : k < L.length := by rw [← I.ln]; exact hkq
    rw [reqQ_at hk hkl] at hx
    have := codeE_all h k hkl
    rw [reqE2_at hkl] at this
    exact nonE_found I this x hx
set_option maxRecDepth 100000 in
set_option maxHeartbeats 2000000 in
theorem gcheck_any (Q : List Raw) (L : List Ent) (roots : List Bm) (v rv : Value) (A : Nat → Addr) (m : Int) (w : World) (hn : L.length ≤ 1000) (hrn : roots.length ≤ 1000000) (sh : ∀ e, e ∈ L → ShE e) (S : Te w A m) (I : Ixs w v Q L) (hr : MsAt w rv roots) :
    Calls Tryz.prog 47 #[v, rv] w fun e w' => ∃ x, e = .returned x ∧ ErrAt w' A x (chkG Q L roots).1 (chkG Q L roots).2 ∧ Below w.heap.size w w' := by
  have HCK := hid (icheck_any Q L v A m w (by omega) sh S I)
  have HCM := hid (fun W (h : Below w.heap.size w W) => cmods_any Q roots v rv A m W (by rw [I.ln]; omega) hrn (S.below h) (I.es.below h) (hr.below h))
  obtain ⟨a, c, hv, -⟩ := id I.es
  subst hv
  obtain ⟨ra, rc, hrv, -⟩ := id hr
  subst hrv
  clear S I hr sh
  go_enter Tryz.func47, Tryz.ntmps47
  go_wp2_with fail
  refine HCK.out.mono ?_
  rintro e w1 ⟨x, rfl, he, hb⟩
  have HE := hid he
  have HB := hid hb
  clear hb
  rcases he.kind.symm with ⟨hc0, T, xa, rfl⟩ | ⟨hc0, rfl⟩
  · have HX := hid (chkG_bad (roots := roots) hc0)
    clear he hc0
    go_wp2_with fail
    go_ret
    exact ⟨_, rfl, by rw [HX.out]; exact HE.out, HB.out⟩
  · have HX := hid (chkG_ok (roots := roots) hc0)
    have HC2 := hid (HCM.out w1 HB.out)
    clear he hc0 HCM
    go_wp2_with fail
    refine HC2.out.mono ?_
    rintro e w2 ⟨y, rfl, he, hb⟩
    have HE2 := hid he
    have HB2 := hid (HB.out.trans (hb.mono HB.out.size))
    clear he hb
    go_wp2_with fail
    go_ret
    exact ⟨_, rfl, by rw [HX.out]; exact HE2.out, HB2.out⟩
/-- The entries that came. -/
def goQ (T : By) (Q : List Raw) : List Raw := Q.filter fun r => cameB T r.1
def goM (T : By) (Q : List Raw) : List Bm := (goQ T Q).map fun r => r.1
set_option maxRecDepth 100000 in
set_option maxHeartbeats 2000000 in
theorem reached_some (Q : List Raw) (L : List Ent) (roots : List Bm) (v rv : Value) (A : Nat → Addr) (m : Int) (w : World) (hn : L.length ≤ 1000) (hrn : roots.length ≤ 1000000) (sh : ∀ e, e ∈ L → ShE e) (S : Te w A m) (I : Ixs w v Q L) (hr : MsAt w rv roots) (h0 : (chkG Q L roots).1 = 0) :
    Calls Tryz.prog 34 #[v, rv] w fun e w' => ∃ u, e = .returned (.tuple #[u, .nilIface]) ∧ ∃ T, Came (reqQ Q L) (univ L) roots T ∧ w'.ownsRow w.heap.size 48 5 u (goQ T Q).length (flatR (goQ T Q)) ∧ Below w.heap.size w w' := by
  have hc0 : (chk Q L).1 = 0 := by
    by_cases hc : (chk Q L).1 = 0
    · exact hc
    · rw [chkG_bad hc] at h0; exact absurd h0 hc
  have hru : ∀ m, m ∈ roots → m ∈ univ L := by rw [chkG_ok hc0] at h0; exact nonE_found I h0
  have HCK := hid (gcheck_any Q L roots v rv A m w hn hrn sh S I hr)
  have hz : ∀ m, m ∈ univ L → m.1.size ≤ maxLen ∧ m.2.size ≤ maxLen := fun m hm => by
    obtain ⟨e, he, rfl⟩ := List.mem_map.1 hm
    have := sh e he
    exact ⟨by have := this.p; unfold maxLen; omega, by have := this.v; unfold maxLen; omega⟩
  have HWK := hid (fun W (h : Below w.heap.size w W) => walk_any Q L roots v rv W hn hrn (I.below h) (hr.below h) hz (fun e he => (sh e he).rn) hru (chk_reqs0 I hc0))
  obtain ⟨a, c, hv, -, hs, hcc⟩ := id I.es
  subst hv
  obtain ⟨ra, rc, hrv, -⟩ := id hr
  subst hrv
  obtain ⟨i0, hi0, hz0, hz1, hz2⟩ := info_parts infoEnt
  have HH0 := hid h0
  have HC := hid hcc
  have HSL := hid hs
  have HI := hid I
  have HZ := hid hz
  clear S I hr sh h0 hc0 hru hz hs hcc
  go_enter Tryz.func34, Tryz.ntmps34
  go_wp2_with fail
  refine HCK.out.mono ?_
  rintro e w1 ⟨x, rfl, he, hb⟩
  have HB := hid hb
  have hx : x = .nilIface := by
    rcases he.kind with ⟨_, h⟩ | ⟨h, _⟩
    · exact h
    · exact absurd HH0.out h
  subst hx
  clear hb he HCK
  go_wp2_with fail
  refine (HWK.out w1 HB.out).mono ?_
  rintro e w2 ⟨mb, rfl, T, hby, hsz, hcm, hb⟩
  have HBY := hid hby
  have HSZ := hid hsz
  have HCM := hid hcm
  have HB2 := hid (HB.out.trans (hb.mono HB.out.size))
  clear hby hsz hcm hb HWK
  go_wp2_with fail
  go_loopw [8, 22] (fun ov i wr => ∃ k : Nat, k ≤ Q.length ∧ i = .int .i64 k ∧ Hid (wr.ownsRow w2.heap.size 48 5 ov (goQ T (Q.take k)).length (flatR (goQ T (Q.take k)))) ∧ Hid (Below w2.heap.size w2 wr)) (fun _ i _ => Q.length - (intOf i).toNat)
  case atStart => exact ⟨0, Nat.zero_le _, rfl, hid (World.ownsRow_nil _ _ _ _), hid (Below.refl _ _)⟩
  case round =>
    obtain ⟨k, hk, rfl, HO, HBr⟩ := hrel
    by_cases hlt : k < Q.length
    · have HBw := hid (HB2.out.trans (HBr.out.mono HB2.out.size))
      obtain ⟨eb, eo, ha, hce⟩ := HC.out (by intro h; rw [h] at hlt; simp at hlt)
      subst ha
      obtain ⟨y0, y1, y2, y3, y4⟩ := hce k hlt
      have x0 := cell_below HBw.out y0
      have x1 := cell_below HBw.out y1
      have x2 := cell_below HBw.out y2
      have x3 := cell_below HBw.out y3
      have x4 := cell_below HBw.out y4
      have hsl := HSL.out Q[k] (List.getElem_mem hlt)
      have hkI : (k : Int) < (Q.length : Int) := by omega
      have HLT := hid hlt
      have HQL := hid (show Q.length ≤ 1000000 by have := HI.out.ln; omega)
      have HY := hid (fun h => filter_yes hlt h (P := fun r => cameB T r.1))
      have HN := hid (fun h => filter_no hlt h (P := fun r => cameB T r.1))
      have HQZ := hid (show Q[k].1.1.size ≤ maxLen ∧ Q[k].1.2.size ≤ maxLen by
        obtain ⟨h1, h2⟩ := ixs_get HI.out hlt
        exact Eq.mpr (congrArg (fun m : Bm => m.1.size ≤ maxLen ∧ m.2.size ≤ maxLen) h2) (HZ.out _ (List.mem_map.2 ⟨L[k], List.getElem_mem h1, rfl⟩)))
      have HLN := hid (show (goQ T (Q.take k)).length ≤ 1000 from Nat.le_trans (List.length_filter_le _ _) (by rw [List.length_take]; have := HI.out.ln; omega))
      clear y0 y1 y2 y3 y4 hce
      generalize Q[k] = r at *
      obtain ⟨⟨p, q⟩, rv, pv, bk⟩ := r
      obtain ⟨⟨ra2, rn2, rc2, hrv⟩, pa, pn, pc, hpv⟩ := hsl
      simp only at hrv hpv
      subst hrv
      subst hpv
      have HBa := hid ((Below.refl wr.heap.size wr).alloc (Nat.le_refl _) (.cells #[.string p, .string q, .slice ra2 rn2 rc2, .slice pa pn pc, .bool bk] 48))
      have HBB := hid (HBr.out.trans (HBa.out.mono HBr.out.size))
      have HCA := hid (came_any mb T (p, q) _ HQZ.out HSZ.out (HBY.out.below HBB.out))
      have HOa := hid (HO.out.alloc (.cells #[.string p, .string q, .slice ra2 rn2 rc2, .slice pa pn pc, .bool bk] 48))
      clear hlt
      cases hp : cameB T (p, q) with
      | false =>
        rw [hp] at HCA
        have HN2 := hid (HN.out hp)
        clear hp
        go_wp2_with fail
        refine HCA.out.mono ?_
        rintro e w3 ⟨rfl, hb⟩
        have HB3 := hid (HBB.out.trans (hb.mono HBB.out.size))
        have HO3 := hid (owns_below HOa.out hb)
        clear hb
        go_wp2_with fail
        go_roundw
        case rel => first | exact ⟨k + 1, HLT.out, nr_idx k, by unfold goQ; rw [HN2.out]; exact HO3, HB3⟩ | exact ⟨k + 1, HLT.out, nx_idx HLT.out HQL.out, by unfold goQ; rw [HN2.out]; exact HO3, HB3⟩
        case measure => first | exact nr_meas HLT.out | exact nx_meas HLT.out HQL.out
      | true =>
        rw [hp] at HCA
        have HY2 := hid (HY.out hp)
        clear hp
        go_wp2_with fail
        refine HCA.out.mono ?_
        rintro e w3 ⟨rfl, hb⟩
        have HB3 := hid (HBB.out.trans (hb.mono HBB.out.size))
        have HO3 := hid (owns_below HOa.out hb)
        have HE1 := hid (show w3.heap[wr.heap.size]? = some (.cells #[.string p, .string q, .slice ra2 rn2 rc2, .slice pa pn pc, .bool bk] 48 (0, 0)) by rw [hb.block _ (by simp)]; exact heap_alloc_new wr _)
        have z0 : w3.cell? ⟨wr.heap.size, 0, none⟩ = some (.string p) := by rw [Lib.cell_of_heap HE1.out]; rfl
        have z1 : w3.cell? ⟨wr.heap.size, 1, none⟩ = some (.string q) := by rw [Lib.cell_of_heap HE1.out]; rfl
        have z2 : w3.cell? ⟨wr.heap.size, 2, none⟩ = some (.slice ra2 rn2 rc2) := by rw [Lib.cell_of_heap HE1.out]; rfl
        have z3 : w3.cell? ⟨wr.heap.size, 3, none⟩ = some (.slice pa pn pc) := by rw [Lib.cell_of_heap HE1.out]; rfl
        have z4 : w3.cell? ⟨wr.heap.size, 4, none⟩ = some (.bool bk) := by rw [Lib.cell_of_heap HE1.out]; rfl
        clear hb x0 x1 x2 x3 x4
        go_wp2_with (at_builtin; refine wpList_append_own _ rfl _ _ 22 rfl w2.heap.size 48 i0 _ 5 88 Tryz.underlying22 hi0 hz0 hz1 hz2 rfl (by decide) _ _ _ rfl (HO3.out.alloc _) ⟨w3.heap.size, 0, none⟩ 1 1 [.string p, .string q, .slice ra2 rn2 rc2, .slice pa pn pc, .bool bk] rfl rfl ?c1 ?c2 ?c3 ?c4 ?c5 ?_)
        case c1 => exact World.news_of_block (cs := #[.string p, .string q, .slice ra2 rn2 rc2, .slice pa pn pc, .bool bk]) (t := 48) (fr := (0, 0)) (heap_alloc_new w3 _)
        case c2 =>
          intro u hu
          simp at hu
          rcases hu with rfl | rfl | rfl | rfl | rfl <;> rfl
        case c3 => have := HLN.out; unfold maxLen; omega
        case c4 => have := HLN.out; omega
        case c5 => have := HB3.out.size; simp; omega
        intro v' w4 hown hgrow _
        have HR3 := hid (rel_app5 HB3.out.size HB3.out HO3.out (Below.refl _ _) hgrow)
        have HO4 := hid hown
        clear hown hgrow z0 z1 z2 z3 z4
        go_wp2_with fail
        go_roundw
        case rel => first | exact ⟨k + 1, HLT.out, nr_idx k, hid (own_nextR (x := ((p, q), .slice ra2 rn2 rc2, .slice pa pn pc, bk)) HO4.out HY2.out), HR3⟩ | exact ⟨k + 1, HLT.out, nx_idx HLT.out HQL.out, hid (own_nextR (x := ((p, q), .slice ra2 rn2 rc2, .slice pa pn pc, bk)) HO4.out HY2.out), HR3⟩
        case measure => first | exact nr_meas HLT.out | exact nx_meas HLT.out HQL.out
    · have HTR := hid (show Q.take k = Q from List.take_of_length_le (by omega))
      rw [HTR.out] at HO
      have hkI : ¬ (k : Int) < (Q.length : Int) := by omega
      obtain ⟨oa, oc, hov⟩ := own_slN HO.out
      subst hov
      clear hlt
      go_wp2_with fail
      go_ret2
      exact ⟨_, rfl, T, HCM.out, own_baseN HO.out HB2.out.size, HB2.out.trans (HBr.out.mono HB2.out.size)⟩
end Ve
end Go.Proofs.YtacggkigfjpfnaaGreatDoor

/-
  What graph.Reach answers.
-/
namespace Go.Proofs.YtacggkigfjpfnaaGreatDoor
open Go.RowKit Go.Maps
namespace Ve

set_option maxRecDepth 100000 in
set_option maxHeartbeats 2000000 in
theorem reached_bad (Q : List Raw) (L : List Ent) (roots : List Bm) (v rv : Value) (A : Nat → Addr) (m : Int) (w : World) (hn : L.length ≤ 1000) (hrn : roots.length ≤ 1000000) (sh : ∀ e, e ∈ L → ShE e) (S : Te w A m) (I : Ixs w v Q L) (hr : MsAt w rv roots) (h0 : (chkG Q L roots).1 ≠ 0) :
    Calls Tryz.prog 34 #[v, rv] w fun e w' => ∃ T a, e = .returned (.tuple #[.slice none 0 0, .iface T (.pointer (some a))]) ∧ ErrAt w' A (.iface T (.pointer (some a))) (chkG Q L roots).1 (chkG Q L roots).2 ∧ Below w.heap.size w w' := by
  have HCK := hid (gcheck_any Q L roots v rv A m w hn hrn sh S I hr)
  obtain ⟨a, c, hv, -⟩ := id I.es
  subst hv
  obtain ⟨ra, rc, hrv, -⟩ := id hr
  subst hrv
  have HH0 := hid h0
  clear S I hr sh h0
  go_enter Tryz.func34, Tryz.ntmps34
  go_wp2_with fail
  refine HCK.out.mono ?_
  rintro e w1 ⟨x, rfl, he, hb⟩
  have HB := hid hb
  have HE := hid he
  rcases he.kind with ⟨h, _⟩ | ⟨_, T, xa, rfl⟩
  · exact absurd h HH0.out
  clear hb he HCK
  go_wp2_with fail
  go_ret2
  exact ⟨_, _, rfl, HE.out, HB.out⟩
set_option maxRecDepth 100000 in
set_option maxHeartbeats 2000000 in
theorem reach_bad (Q : List Raw) (L : List Ent) (roots : List Bm) (v rv : Value) (A : Nat → Addr) (m : Int) (w : World) (hn : L.length ≤ 1000) (hrn : roots.length ≤ 1000000) (sh : ∀ e, e ∈ L → ShE e) (S : Te w A m) (I : Ixs w v Q L) (hr : MsAt w rv roots) (h0 : (chkG Q L roots).1 ≠ 0) :
    Calls Tryz.prog 19 #[v, rv] w fun e w' => ∃ T a, e = .returned (.tuple #[.slice none 0 0, .iface T (.pointer (some a))]) ∧ ErrAt w' A (.iface T (.pointer (some a))) (chkG Q L roots).1 (chkG Q L roots).2 ∧ Below w.heap.size w w' := by
  have HCK := hid (reached_bad Q L roots v rv A m w hn hrn sh S I hr h0)
  obtain ⟨a, c, hv, -⟩ := id I.es
  subst hv
  obtain ⟨ra, rc, hrv, -⟩ := id hr
  subst hrv
  clear S I hr sh h0
  go_enter Tryz.func19, Tryz.ntmps19
  go_wp2_with fail
  refine HCK.out.mono ?_
  rintro e w1 ⟨T, xa, rfl, he, hb⟩
  have HB := hid hb
  have HE := hid he
  clear hb he HCK
  go_wp2_with fail
  go_ret2
  exact ⟨_, _, rfl, HE.out, HB.out⟩
theorem goM_next {X : List Raw} {k : Nat} (hk : k < X.length) : flatM ((X.take (k + 1)).map fun r => r.1) = flatM ((X.take k).map fun r => r.1) ++ [.string X[k].1.1, .string X[k].1.2] := by
  rw [List.take_succ_eq_append_getElem hk, List.map_append, flatM_app]
  simp [flatM]
theorem rel_app2 {B : Nat} {w wr w2 w3 : World} {e : TypeId} {v : Value} {n : Nat} {xs : List Value} {o : Obj} (hB : B ≤ wr.heap.size) (hb : Below B w wr) (hown : wr.ownsRow B e 2 v n xs) (hb2 : Below wr.heap.size wr w2)
    (hg : (w2.alloc o).grownBy w3 v.ownBlock) : Below B w w3 := by
  have h2 : Below B w w2 := hb.trans (hb2.mono hB)
  have h3 : Below B w (w2.alloc o) := h2.alloc (Nat.le_trans hB hb2.size) o
  exact h3.grown hg (by simp; exact Nat.le_succ_of_le (Nat.le_trans hB hb2.size)) (fun k hk => (hown.lt k hk).1)
set_option maxRecDepth 100000 in
set_option maxHeartbeats 2000000 in
theorem reach_good (Q : List Raw) (L : List Ent) (roots : List Bm) (v rv : Value) (A : Nat → Addr) (m : Int) (w : World) (hn : L.length ≤ 1000) (hrn : roots.length ≤ 1000000) (sh : ∀ e, e ∈ L → ShE e) (S : Te w A m) (I : Ixs w v Q L) (hr : MsAt w rv roots) (h0 : (chkG Q L roots).1 = 0) :
    Calls Tryz.prog 19 #[v, rv] w fun e w' => ∃ u, e = .returned (.tuple #[u, .nilIface]) ∧ ∃ T, Came (reqQ Q L) (univ L) roots T ∧ w'.ownsRow w.heap.size 45 2 u (goM T Q).length (flatM (goM T Q)) ∧ Below w.heap.size w w' := by
  have HRE := hid (reached_some Q L roots v rv A m w hn hrn sh S I hr h0)
  obtain ⟨a, c, hv, -, hs, -⟩ := id I.es
  subst hv
  obtain ⟨ra, rc, hrv, -⟩ := id hr
  subst hrv
  obtain ⟨i0, hi0, hz0, hz1, hz2⟩ := info_parts infoMod
  have HSL := hid hs
  have HLN := hid I.ln
  clear S I hr sh h0 hs
  go_enter Tryz.func19, Tryz.ntmps19
  go_wp2_with fail
  refine HRE.out.mono ?_
  rintro e w1 ⟨u, rfl, T, hcm, hown, hb⟩
  have HCM := hid hcm
  have HB := hid hb
  have HES := hid (show EsAt w1 u (goQ T Q) from own_es (fun r hr => HSL.out r (List.mem_filter.1 hr).1) hown)
  obtain ⟨ua, uc, hu⟩ := own_slN hown
  subst hu
  have HXL := hid (show (goQ T Q).length ≤ 1000 from Nat.le_trans (List.length_filter_le _ _) (by rw [HLN.out]; exact hn))
  have HSX := hid (show ∀ r, r ∈ goQ T Q → slR r from fun r hr => HSL.out r (List.mem_filter.1 hr).1)
  have HGM := hid (show goM T Q = (goQ T Q).map fun r => r.1 from rfl)
  clear hcm hb hown HRE HSL
  generalize goQ T Q = X at *
  go_wp2_with fail
  go_loopw [8, 22] (fun ov i wr => ∃ k : Nat, k ≤ X.length ∧ i = .int .i64 k ∧ Hid (wr.ownsRow w1.heap.size 45 2 ov k (flatM ((X.take k).map fun r => r.1))) ∧ Hid (Below w1.heap.size w1 wr)) (fun _ i _ => X.length - (intOf i).toNat)
  case atStart => exact ⟨0, Nat.zero_le _, rfl, hid (World.ownsRow_nil _ _ _ _), hid (Below.refl _ _)⟩
  case round =>
    obtain ⟨k, hk, rfl, HO, HBr⟩ := hrel
    by_cases hlt : k < X.length
    · obtain ⟨ua', uc', hue, -, -, hce⟩ := HES.out.below HBr.out
      injection hue with hu1 hu2 hu3
      subst hu1
      subst hu3
      clear hu2
      obtain ⟨eb, eo, ha, hce2⟩ := hce (by intro h; rw [h] at hlt; simp at hlt)
      subst ha
      obtain ⟨x0, x1, x2, x3, x4⟩ := hce2 k hlt
      have hsl := HSX.out X[k] (List.getElem_mem hlt)
      have hkI : (k : Int) < (X.length : Int) := by omega
      have HLT := hid hlt
      have HNX := hid (goM_next hlt)
      clear hce hce2
      generalize X[k] = r at *
      obtain ⟨⟨p, q⟩, rv, pv, bk⟩ := r
      obtain ⟨⟨ra2, rn2, rc2, hrv⟩, pa, pn, pc, hpv⟩ := hsl
      simp only at hrv hpv
      subst hrv
      subst hpv
      have HBa := hid ((Below.refl wr.heap.size wr).alloc (Nat.le_refl _) (.cells #[.string p, .string q, .slice ra2 rn2 rc2, .slice pa pn pc, .bool bk] 48))
      have HBB := hid (HBr.out.trans (HBa.out.mono HBr.out.size))
      have HOa := hid (HO.out.alloc (.cells #[.string p, .string q, .slice ra2 rn2 rc2, .slice pa pn pc, .bool bk] 48))
      have hs1 := HBr.out.size
      clear hlt
      go_wp2_with (at_builtin; refine wpList_append_own _ rfl _ _ 23 rfl w1.heap.size 45 i0 _ 2 32 Tryz.underlying23 hi0 hz0 hz1 hz2 rfl (by decide) _ _ _ rfl (HOa.out.alloc _) ⟨wr.heap.size + 1, 0, none⟩ 1 1 [.string p, .string q] rfl rfl ?c1 ?c2 ?c3 ?c4 ?c5 ?_)
      case c2 => first | rfl | exact ⟨rfl, rfl⟩ | (intro u hu; simp at hu; rcases hu with rfl | rfl <;> rfl) | simp
      case c3 => have := HLT.out; have := HXL.out; unfold maxLen; omega
      case c4 => have := HLT.out; have := HXL.out; omega
      case c5 => first | omega | (simp; omega)
      intro v' w4 hown hgrow _
      have HR3 := hid (rel_app2 HBB.out.size HBB.out HOa.out (Below.refl _ _) hgrow)
      have HO4 := hid hown
      clear hown hgrow
      go_wp2_with fail
      go_roundw
      case rel => first | exact ⟨k + 1, HLT.out, nr_idx k, hid (by rw [HNX.out, List.map_take]; exact HO4.out), HR3⟩ | exact ⟨k + 1, HLT.out, nx_idx HLT.out (by have := HXL.out; omega), hid (by rw [HNX.out, List.map_take]; exact HO4.out), HR3⟩
      case measure => first | exact nr_meas HLT.out | exact nx_meas HLT.out (by have := HXL.out; omega)
    · have HTR := hid (show X.take k = X from List.take_of_length_le (by omega))
      have HKE := hid (show k = X.length by omega)
      rw [HTR.out] at HO
      have hkI : ¬ (k : Int) < (X.length : Int) := by omega
      obtain ⟨oa, oc, hov⟩ := own_slN HO.out
      subst hov
      clear hlt
      go_wp2_with fail
      go_ret2
      exact ⟨_, rfl, T, HCM.out, by rw [HGM.out, List.length_map, ← HKE.out]; exact own_baseN HO.out HB.out.size, HB.out.trans (HBr.out.mono HB.out.size)⟩
end Ve
end Go.Proofs.YtacggkigfjpfnaaGreatDoor

/-
  Nothing: this program holds no slices.Reverse.
-/


/-
  slices.Reverse of modules; whom a module came by, out of the map.
-/
namespace Go.Proofs.YtacggkigfjpfnaaGreatDoor
open Go.RowKit Go.Maps Go.Sort Go.Lib
namespace Ve

def encM (m : Bm) : List Value := [.string m.1, .string m.2]
/-- Whom a module came by. -/
theorem look_at {w : World} {b : Nat} {T : By} (h : ByAt w b T) (hT : szT T) (hn : (whoT T).Nodup) {k : Nat} (hk : k < T.length) :
    (Instr.lookup 81 (.map (some b)) (.agg #[.string T[k].1.1, .string T[k].1.2]) false).run Tryz.prog w = .ok (.agg #[.string T[k].2.1, .string T[k].2.2]) w := by
  have hs := hT T[k] (List.getElem_mem hk)
  obtain ⟨v, ps, hrun, hv⟩ := World.ownsMap.lookup h modKey Tryz.underlying81 (zeroMod w) (rB_mod _) (keyOf_mod T[k].1 hs.1 hs.2)
  rw [datB_at hT hn hk] at hv
  obtain rfl := rB_inv hv
  exact hrun
end Ve
end Go.Proofs.YtacggkigfjpfnaaGreatDoor

/-
  What graph.Way answers.
-/
namespace Go.Proofs.YtacggkigfjpfnaaGreatDoor
open Go.RowKit Go.Maps
namespace Ve

/-- What is asked ahead of a walk of an index and roots that are right. -/
structure Rgt (Q : List Raw) (L : List Ent) (roots : List Bm) : Prop where
  c : (chk Q L).1 = 0
  r : ∀ m, m ∈ roots → m ∈ univ L
theorem rgt_of {w : World} {v : Value} {Q : List Raw} {L : List Ent} {roots : List Bm} (I : Ixs w v Q L) (h0 : (chkG Q L roots).1 = 0) : Rgt Q L roots := by
  have hc0 : (chk Q L).1 = 0 := by
    by_cases hc : (chk Q L).1 = 0
    · exact hc
    · rw [chkG_bad hc] at h0; exact absurd h0 hc
  exact ⟨hc0, by rw [chkG_ok hc0] at h0; exact nonE_found I h0⟩
theorem univ_sz {L : List Ent} (sh : ∀ e, e ∈ L → ShE e) : ∀ m, m ∈ univ L → m.1.size ≤ maxLen ∧ m.2.size ≤ maxLen := fun m hm => by
  obtain ⟨e, he, rfl⟩ := List.mem_map.1 hm
  have := sh e he
  exact ⟨by have := this.p; unfold maxLen; omega, by have := this.v; unfold maxLen; omega⟩
theorem modNeq_ne {m f : Bm} (h : m ≠ f) (W : World) : (binOp .neq 45 (.agg #[.string m.1, .string m.2]) (.agg #[.string f.1, .string f.2])).run Tryz.prog W = .ok (.bool true) W := by
  rw [modNeq, decide_eq_false (fun e => h (Prod.ext e.1 e.2))]; rfl
/-- A way: from a root to a module, each required by the one ahead, no one twice. -/
structure WayOk (req : Bm → List Bm) (U roots : List Bm) (x : Bm) (Y : List Bm) : Prop where
  un : ∀ y, y ∈ Y → y ∈ U
  pos : 0 < Y.length
  first : Y[0]'pos ∈ roots
  last : Y.getLast? = some x
  nd : Y.Nodup
  ch : ∀ a (ha : a + 1 < Y.length), Y[a + 1] ∈ req Y[a]
  ds : Dst req roots x Y.length
def lenOf : Value → Nat
  | .slice _ n _ => n
  | _ => 0
/-- The way back, as far as it has come. -/
structure Wst (w0 W : World) (req : Bm → List Bm) (T : By) (x : Bm) (mb : Nat) (yv : Value) (k : Nat) (V : List Bm) : Prop where
  bl : Below w0.heap.size w0 W
  wy : Wy req T x k V.reverse
  ln : V.length + k ≤ T.length
  xc : ∃ h : k < T.length, W.heap[w0.heap.size]? = some (.cells #[.string (T[k]'h).1.1, .string (T[k]'h).1.2] 45 (0, 0))
  mp : ByAt W mb T
  row : W.ownsRow (w0.heap.size + 1) 45 2 yv V.length (flatM V)
theorem Wst.below {w0 W W' : World} {req : Bm → List Bm} {T : By} {x : Bm} {mb : Nat} {yv : Value} {k : Nat} {V : List Bm} (h : Wst w0 W req T x mb yv k V) (hb : Below W.heap.size W W') : Wst w0 W' req T x mb yv k V := by
  obtain ⟨hk, hc⟩ := h.xc
  exact ⟨h.bl.trans (hb.mono h.bl.size), h.wy, h.ln, ⟨hk, (hb.block _ (lt_of_blk hc)).trans hc⟩, h.mp.below hb, owns_below h.row hb⟩
/-- The box behind a store of a module. -/
def putM (W : World) (b : Nat) (m : Bm) : World := (W.setCell ⟨b, 0, none⟩ (.string m.1)).setCell ⟨b, 1, none⟩ (.string m.2)
theorem putM_block {W : World} {b : Nat} {c0 c1 : Value} {t : TypeId} (m : Bm) (h : W.heap[b]? = some (.cells #[c0, c1] t (0, 0))) : (putM W b m).heap[b]? = some (.cells #[.string m.1, .string m.2] t (0, 0)) := by
  unfold putM
  have h1 := set_block (o := 0) (x := .string m.1) h
  have h2 := set_block (o := 1) (x := .string m.2) h1
  simpa using h2
theorem putM_other {W : World} {b g : Nat} (m : Bm) (h : g ≠ b) : (putM W b m).heap[g]? = W.heap[g]? := by
  unfold putM
  rw [Below.heap_setCell _ _ _ _ h, Below.heap_setCell _ _ _ _ h]
theorem putM_size (W : World) (b : Nat) (m : Bm) : (putM W b m).heap.size = W.heap.size := by simp [putM, World.setCell]
theorem putM_owns {W : World} {b n : Nat} {e : TypeId} {v : Value} {xs : List Value} (m : Bm) (h : W.ownsRow (b + 1) e 2 v n xs) : (putM W b m).ownsRow (b + 1) e 2 v n xs := by
  have hne : v.ownBlock ≠ some b := fun hh => by have := (h.lt b hh).1; omega
  exact owns_set (owns_set h hne) hne
/-- One step back. -/
theorem Wst.more {w0 W w6 : World} {req : Bm → List Bm} {T : By} {x : Bm} {mb : Nat} {yv yv' : Value} {k : Nat} {V : List Bm} {o : Obj} (h : Wst w0 W req T x mb yv k V) (hk : k < T.length) {j : Nat} (hj : j < k) (e1 : (T[j]'(Nat.lt_trans hj hk)).1 = T[k].2) (e2 : T[k].1 ∈ req T[k].2)
    (hown : w6.ownsRow (w0.heap.size + 1) 45 2 yv' (V.length + 1) (flatM V ++ [.string T[k].2.1, .string T[k].2.2])) (hg : ((putM W w0.heap.size T[k].2).alloc o).grownBy w6 yv.ownBlock) :
    Wst w0 w6 req T x mb yv' j (V ++ [T[k].2]) := by
  obtain ⟨hk', hc⟩ := h.xc
  have hs := h.bl.size
  have l1 := lt_of_blk hc
  obtain ⟨es, clock, hm1⟩ := h.mp.block
  have l2 := lt_of_blk hm1
  have n1 : w0.heap.size ≠ mb := h.mp.ne hc
  have r1 : yv.ownBlock ≠ some w0.heap.size := fun hh => by have := (h.row.lt _ hh).1; omega
  have r2 : yv.ownBlock ≠ some mb := fun hh => by
    obtain ⟨hl, ⟨h1, _⟩ | ⟨g', cap, cur, q1, q2, q3, _⟩⟩ := h.row
    · rw [h1] at hh; cases hh
    · rw [q1] at hh
      have : g' = mb := by simpa [Value.ownBlock] using hh
      exact h.mp.ne q3 this
  have al := (Below.refl (putM W w0.heap.size T[k].2).heap.size (putM W w0.heap.size T[k].2)).alloc (Nat.le_refl _) o
  have keep : ∀ b, b < W.heap.size → yv.ownBlock ≠ some b → w6.heap[b]? = (putM W w0.heap.size T[k].2).heap[b]? := fun b hb hr => by
    rw [hg.block b (by simp [putM_size]; omega) (fun e => hr e.symm), al.block b (by rw [putM_size]; exact hb)]
  have b1 : Below w0.heap.size w0 (putM W w0.heap.size T[k].2) := (h.bl.setCell (p := ⟨w0.heap.size, 0, none⟩) (Nat.le_refl _) _).setCell (p := ⟨w0.heap.size, 1, none⟩) (Nat.le_refl _) _
  have b2 : Below w0.heap.size w0 w6 := (b1.alloc b1.size o).grown hg (by simp [putM_size]; omega) (fun q hq => by have := (h.row.lt q hq).1; omega)
  refine ⟨b2, ?_, ?_, ⟨Nat.lt_trans hj hk, ?_⟩, ?_, ?_⟩
  · rw [List.reverse_append, List.reverse_singleton, ← e1]
    exact Wy.next h.wy hk hj e1 e2
  · have := h.ln; simp; omega
  · rw [keep _ l1 r1, e1]; exact putM_block _ hc
  · exact (h.mp.heap (putM_other _ (Ne.symm n1))).heap (keep mb l2 r2)
  · rw [List.length_append, flatM_app]
    exact hown
theorem Wst.ok {w0 W : World} {Q : List Raw} {L : List Ent} {roots : List Bm} {T : By} {x : Bm} {mb : Nat} {yv : Value} {k : Nat} {V : List Bm} (h : Wst w0 W (reqQ Q L) T x mb yv k V) (hc : Came (reqQ Q L) (univ L) roots T) (hk : k < T.length) (e : T[k].1 = T[k].2) : WayOk (reqQ Q L) (univ L) roots x V.reverse := by
  refine ⟨fun y hy => by
    obtain ⟨p, hp, _, e⟩ := h.wy.far y hy
    exact hc.b.un y (whoT_mem.2 ⟨p, hp, e⟩), h.wy.pos, ?_, h.wy.last, h.wy.nd hc.b.nd, h.wy.chain, ?_⟩
  · rw [h.wy.head]
    rcases hc.b.by_ k hk with h1 | ⟨j, hj, h2, _⟩
    · exact h1.2
    · have := nd_get hc.b.nd (by omega) hk (h2.trans e.symm)
      omega
  · obtain ⟨G, hG⟩ := hc.l
    obtain ⟨t, ht, ht', hk', e1, e2⟩ := hG.way hc.b.nd h.wy
    have h1 : G[k] = 1 := by
      rcases hG.st k hk hk' with h1 | ⟨j, hj, h2, _⟩
      · exact h1.2
      · have := nd_get hc.b.nd (by omega) hk (h2.trans e.symm)
        omega
    have h2 := hG.dst hc.b.nd hc.r ht ht'
    rw [e1] at h2
    rw [show V.reverse.length = G[t] by omega]
    exact h2
end Ve
end Go.Proofs.YtacggkigfjpfnaaGreatDoor
