/-
  What mvs.newestFirst answers; what slices.SortFunc with it makes of a row of modules that are right.
-/
import Derived.Test.YtanponneancajaaGreatDoorMvB
import Derived.Test.YtanponneancajaaGreatDoorMono
import Derived.Test.YtanponneancajaaGreatDoorShelfS
namespace Go.Proofs.YtanponneancajaaGreatDoor
open Go.RowKit
namespace Ve

theorem grow_of_be {W w' : World} (h : Below W.heap.size W w') (hd : W.drawn ≤ w'.drawn) : ∃ q os', w' = Go.Sort.grow (W.drewN q) os' := by
  refine ⟨w'.drawn - W.drawn, w'.heap.extract W.heap.size w'.heap.size, ?_⟩
  have hh : w'.heap = W.heap ++ w'.heap.extract W.heap.size w'.heap.size := by
    apply Array.ext_getElem?
    intro i
    by_cases hi : i < W.heap.size
    · rw [Array.getElem?_append_left hi, h.block i hi]
    · rw [Array.getElem?_append_right (by omega), Array.getElem?_extract]
      have hs := h.size
      by_cases h2 : i < w'.heap.size
      · rw [if_pos (by omega)]
        congr 1
        omega
      · rw [if_neg (by omega)]
        exact Array.getElem?_eq_none (by omega)
  obtain ⟨a, b, c, d, e⟩ := w'
  obtain ⟨a', b', c', d', e'⟩ := W
  have h1 := h.os
  have h2 := h.tape
  have h3 := h.output
  simp only at h1 h2 h3 hh hd
  subst h1 h2 h3
  simp only [Go.Sort.grow, World.drewN, World.mk.injEq, true_and, and_true]
  exact ⟨hh, by omega⟩
set_option maxHeartbeats 2000000 in
/-- mvs.newestFirst. -/
theorem nf_any (a b : Bm) (A : Nat → Addr) (ml : Int) (w : World) (ha : a.2.size < 999999) (hb : b.2.size < 999999) (S : Te w A ml) :
    Calls Tryz.prog 170 #[.agg #[.string a.1, .string a.2], .agg #[.string b.1, .string b.2]] w fun e w' => e = .returned (.int .i64 (nfC a b)) ∧ Below w.heap.size w w' := by
  obtain ⟨p, v⟩ := a
  obtain ⟨q, u⟩ := b
  simp only at ha hb
  have HB0 := hid (((Below.refl w.heap.size w).alloc (Nat.le_refl _) (.cells #[.string p, .string v] 51)).alloc (by simp) (.cells #[.string q, .string u] 51))
  have HS := hid S
  by_cases h : p = q
  · subst h
    have he := str_refl p
    have HX := hid (show nfC (p, v) (p, u) = if mAhead (p, u) (p, v) then -1 else if mAhead (p, v) (p, u) then 1 else 0 by unfold nfC; rw [if_pos rfl])
    have H1 := hid (fun W (SW : Te W A ml) => ahead_any p u p v A ml W hb ha SW)
    have H2 := hid (fun W (SW : Te W A ml) => ahead_any p v p u A ml W ha hb SW)
    have e1 : aheadB p.data.toList u.data.toList p.data.toList v.data.toList = mAhead (p, u) (p, v) := rfl
    have e2 : aheadB p.data.toList v.data.toList p.data.toList u.data.toList = mAhead (p, v) (p, u) := rfl
    rw [e1] at H1
    rw [e2] at H2
    generalize nfC (p, v) (p, u) = r at *
    clear S e1 e2
    have HD := hid (fun W (hW : Below ((w.alloc (.cells #[.string p, .string v] 51)).alloc (.cells #[.string p, .string u] 51)).heap.size ((w.alloc (.cells #[.string p, .string v] 51)).alloc (.cells #[.string p, .string u] 51)) W) =>
      show W.cell? ⟨w.heap.size, 0, none⟩ = some (.string p) ∧ W.cell? ⟨w.heap.size, 1, none⟩ = some (.string v) ∧ W.cell? ⟨w.heap.size + 1, 0, none⟩ = some (.string p) ∧ W.cell? ⟨w.heap.size + 1, 1, none⟩ = some (.string u) from ⟨cell_below hW (by simp), cell_below hW (by simp), cell_below hW (by simp), cell_below hW (by simp)⟩)
    cases h1 : mAhead (p, u) (p, v)
    · rw [h1] at H1 HX
      cases h2 : mAhead (p, v) (p, u)
      · rw [h2] at H2 HX
        clear h1 h2
        go_enter Tryz.func170, Tryz.ntmps170
        go_wp2_with fail
        refine (H1.out _ (HS.out.below HB0.out)).mono ?_
        rintro e w1 ⟨rfl, hb1⟩
        obtain ⟨d0, d1, d2, d3⟩ := HD.out w1 hb1
        have HB1 := hid (HB0.out.trans (hb1.mono HB0.out.size))
        clear hb1
        go_wp2_with fail
        refine (H2.out _ (HS.out.below HB1.out)).mono ?_
        rintro e w2 ⟨rfl, hb2⟩
        have HB2 := hid (HB1.out.trans (hb2.mono HB1.out.size))
        clear hb2
        go_wp2_with fail
        go_ret
        exact ⟨by rw [HX.out]; rfl, HB2.out⟩
      · rw [h2] at H2 HX
        clear h1 h2
        go_enter Tryz.func170, Tryz.ntmps170
        go_wp2_with fail
        refine (H1.out _ (HS.out.below HB0.out)).mono ?_
        rintro e w1 ⟨rfl, hb1⟩
        obtain ⟨d0, d1, d2, d3⟩ := HD.out w1 hb1
        have HB1 := hid (HB0.out.trans (hb1.mono HB0.out.size))
        clear hb1
        go_wp2_with fail
        refine (H2.out _ (HS.out.below HB1.out)).mono ?_
        rintro e w2 ⟨rfl, hb2⟩
        have HB2 := hid (HB1.out.trans (hb2.mono HB1.out.size))
        clear hb2
        go_wp2_with fail
        go_ret
        exact ⟨by rw [HX.out]; rfl, HB2.out⟩
    · rw [h1] at H1 HX
      clear h1
      go_enter Tryz.func170, Tryz.ntmps170
      go_wp2_with fail
      refine (H1.out _ (HS.out.below HB0.out)).mono ?_
      rintro e w1 ⟨rfl, hb1⟩
      have HB1 := hid (HB0.out.trans (hb1.mono HB0.out.size))
      clear hb1
      go_wp2_with fail
      go_ret
      exact ⟨by rw [HX.out]; rfl, HB1.out⟩
  · have he := str_ne h
    have HX := hid (show nfC (p, v) (q, u) = Lib.compareBytes p.data.toList q.data.toList by unfold nfC; rw [if_neg h])
    have HC := hid (fun W => Tryz.strings_Compare p q W)
    rw [HX.out]
    clear S h
    go_enter Tryz.func170, Tryz.ntmps170
    go_wp2_with fail
    refine (HC.out _).mono ?_
    rintro e w1 ⟨rfl, rfl⟩
    go_wp2_with fail
    go_ret
    exact ⟨rfl, HB0.out⟩
theorem nf_bw (a b : Bm) (A : Nat → Addr) (ml : Int) (w : World) (ha : a.2.size < 999999) (hb : b.2.size < 999999) (S : Te w A ml) :
    Calls Tryz.prog 170 #[.agg #[.string a.1, .string a.2], .agg #[.string b.1, .string b.2]] w fun e w' => e = .returned (.int .i64 (nfC a b)) ∧ ∃ q os', w' = Go.Sort.grow (w.drewN q) os' :=
  (Mo.calls_ge (nf_any a b A ml w ha hb S) (fun _ _ h => ⟨_, h.1⟩)).mono fun _ _ ⟨⟨h1, h2⟩, h3⟩ => ⟨h1, grow_of_be h2 h3⟩
/-- The modules that are right. -/
abbrev Mq := { m : Bm // Rt m }
def encJ (m : Mq) : List Value := mcells m.1
def cfM (a b : Mq) : Int := nfC a.1 b.1
theorem swoM : Go.Sort.SWO (ltOf cfM) where
  irrefl x := by
    unfold ltOf cfM
    simpa using Int.not_lt.1 (nf_irr x.2)
  trans x y z h1 h2 := by
    unfold ltOf cfM at *
    simp only [decide_eq_true_eq] at *
    exact nf_trans x.2 y.2 z.2 h1 h2
  ntrans x y z h1 h2 := by
    unfold ltOf cfM at *
    simp only [decide_eq_false_iff_not] at *
    exact nfW_not z.2 x.2 (nfW_trans z.2 y.2 x.2 (nf_not z.2 y.2 h2) (nf_not y.2 x.2 h1))
theorem encJ_len (r : Mq) : (encJ r).length = 2 := rfl
theorem sorted_belowM {w : World} {g : Nat} {α : Type} [Inhabited α] (enc : α → List Value) (m : Nat) (dk : Array α) (os : Array Obj) (B : Nat) (hB : B ≤ g) (hz : B ≤ w.heap.size) : Below B w (sortWorldK enc 2 w g 0 m dk os) := by
  refine ⟨rfl, rfl, rfl, size_sortWorldK_c enc 2 w g 0 m dk os, fun k hk => ?_⟩
  unfold sortWorldK
  rw [Go.Sort.heap_grow_old _ _ (by rw [Go.Sort.size_putRowK]; show k < w.heap.size; omega)]
  unfold Go.Sort.putRowK Go.Sort.putRow
  show (Array.modify (Go.Sort.ahead w m).heap g _)[k]? = _
  rw [Array.getElem?_modify, if_neg (by omega)]
  rfl
theorem cmpM {w0 w : World} {g : Nat} {D : List Bm} (h : Mw w0 w g D) (A : Nat → Addr) (ml : Int) (S : Te w0 A ml) (n : Nat) [Inhabited Mq] : CmpLays Tryz.prog 170 #[] encJ 2 cfM g 0 n w := by
  intro m os dk hs x y
  have hb : Below w0.heap.size w0 (sortWorldK encJ 2 w g 0 m dk os) := h.bl.trans (sorted_belowM encJ m dk os w0.heap.size h.lo h.bl.size)
  have h := nf_bw x.1 y.1 A ml (sortWorldK encJ 2 w g 0 m dk os) x.2.v y.2.v (S.below hb)
  have e : (#[.agg (encJ x).toArray, .agg (encJ y).toArray] ++ #[] : Array Value) = #[.agg #[.string x.1.1, .string x.1.2], .agg #[.string y.1.1, .string y.1.2]] := by simp [encJ, mcells]
  rw [e]
  exact h
theorem holds_mw {w0 w : World} {g : Nat} {D : List Bm} (h : Mw w0 w g D) [Inhabited Mq] (d : Array Mq) (hd : d.toList.map (·.1) = D) : Go.Sort.HoldsK encJ 2 w g 0 d := by
  have hl : d.size = D.length := by rw [← hd]; simp
  intro t ht
  rw [Go.Sort.size_flatK] at ht
  rw [Go.Sort.get_flatK _ _ _ _ ht]
  have hi : t / 2 < d.size := by omega
  have e : d[t / 2]!.1 = D[t / 2]'(by omega) := by
    rw [getElem!_pos d (t / 2) hi]
    simp [← hd]
  refine ⟨?_, by rw [Nat.zero_add]; exact h.fz t⟩
  show w.cell? ⟨g, 0 + t, none⟩ = some ((mcells d[t / 2]!.1)[t % 2]!)
  rw [e, Nat.zero_add]
  have hm : t % 2 < 2 := Nat.mod_lt _ (by omega)
  have hdm := Nat.div_add_mod t 2
  match hc : t % 2, hm with
  | 0, _ => have := h.c0 (t / 2) (by omega); rw [show t / 2 * 2 = t by omega] at this; exact this
  | 1, _ => have := h.c1 (t / 2) (by omega); rw [show t / 2 * 2 + 1 = t by omega] at this; exact this
theorem lift_mq : ∀ D : List Bm, (∀ r, r ∈ D → Rt r) → ∃ l : List Mq, l.map (·.1) = D
  | [], _ => ⟨[], rfl⟩
  | r :: R, h => by
    obtain ⟨l, e⟩ := lift_mq R (fun q hq => h q (List.mem_cons_of_mem _ hq))
    exact ⟨⟨r, h r (by simp)⟩ :: l, by simp [e]⟩
theorem sort_mw (w0 w : World) (g cap : Nat) (D : List Bm) (hD : D ≠ []) (h12 : D.length ≤ 1000000) (A : Nat → Addr) (ml : Int) (S : Te w0 A ml) (hr : ∀ r, r ∈ D → Rt r) (h : Mw w0 w g D) :
    Calls Tryz.prog 169 #[.slice (some ⟨g, 0, none⟩) D.length cap, .func (.func 170) #[] #[]] w fun e w' => e = .returned (.tuple #[]) ∧ ∃ D', D'.Perm D ∧ srtM D' ∧ Mw w0 w' g D' := by
  obtain ⟨r0, R, rfl⟩ : ∃ r R, D = r :: R := by
    cases D with
    | nil => exact absurd rfl hD
    | cons r R => exact ⟨r, R, rfl⟩
  letI : Inhabited Mq := ⟨⟨r0, hr r0 (by simp)⟩⟩
  obtain ⟨d, hd⟩ : ∃ d : Array Mq, d.toList.map (·.1) = r0 :: R := by
    obtain ⟨l, e⟩ := lift_mq (r0 :: R) hr
    exact ⟨l.toArray, by simpa using e⟩
  have hl : d.size = (r0 :: R).length := by rw [← hd]; simp
  have hH := holds_mw h d hd
  have eg : ∀ args w, (callFunc 170 args).run Tryz.prog w = .ok (.enter 170 args) w := enters_of Tryz.func170 (by kernel_rfl) rfl
  have hcon := AnyQ.slices_SortFunc Tryz.sortMods 2 Tryz.isAgg51 Tryz.sizeOf51 encJ encJ_len (fun x v hv => by
    simp only [encJ, mcells, List.mem_cons, List.not_mem_nil, or_false] at hv
    rcases hv with rfl | rfl <;> rfl) cfM swoM 170 #[] g 0 cap d w eg (cmpM h A ml S d.size) hH h.hi (by omega)
  rw [hl] at hcon
  refine Calls.mono hcon ?_
  rintro e w' ⟨he, d', n, os, hp, hs, rfl⟩
  obtain ⟨hsz, _, hperm⟩ := hp
  have hsz' : d'.size = (r0 :: R).length := hsz.trans hl
  have hHd := holdsK_sortWorldK_c encJ 2 w g 0 d d' n os hH h.hi hsz
  have hpm : d'.toList.Perm d.toList := by
    have e1 : d'.extract 0 (r0 :: R).length = d' := by rw [← hsz']; simp
    have e2 : d.extract 0 (r0 :: R).length = d := by rw [← hl]; simp
    rw [e1, e2] at hperm
    exact hperm
  have hg : ∀ j (hj : j < (d'.toList.map (·.1)).length), d'[j]! = d'[j]'(by simpa using hj) := fun j hj => getElem!_pos d' j (by simpa using hj)
  have cell : ∀ j (hj : j < (d'.toList.map (·.1)).length) c (hc : c < 2), (sortWorldK encJ 2 w g 0 n d' os).cell? ⟨g, j * 2 + c, none⟩ = some ((mcells (d'.toList.map (·.1))[j])[c]!) := by
    intro j hj c hc
    have h1 := (hHd.cell (i := j) (c := c) (by simpa using hj) hc).1
    rw [Nat.zero_add, hg j hj] at h1
    rw [h1]
    simp [encJ]
  refine ⟨he, d'.toList.map (·.1), ?_, ?_, ?_⟩
  · rw [← hd]; exact hpm.map _
  · unfold srtM
    rw [List.pairwise_iff_getElem]
    intro i j hi hj hij
    have h1 := hs i j (Nat.zero_le _) hij (by rw [← hsz']; simpa using hj)
    rw [hg i hi, hg j hj] at h1
    unfold ltOf cfM at h1
    simp only [decide_eq_false_iff_not] at h1
    simp only [List.getElem_map, Array.getElem_toList]
    exact nf_not (d'[i]'(by simpa using hi)).2 (d'[j]'(by simpa using hj)).2 h1
  · refine ⟨h.bl.trans ((sorted_belowM encJ n d' os w0.heap.size h.lo h.bl.size)), h.lo, Nat.lt_of_lt_of_le h.hi (size_sortWorldK_c encJ 2 w g 0 n d' os), fun o => ?_, fun j hj => ?_, fun j hj => ?_⟩
    · unfold sortWorldK
      rw [Go.Sort.frozen?_grow _ _ _ (by rw [Go.Sort.size_putRowK]; exact h.hi)]
      unfold Go.Sort.putRowK
      rw [Go.Sort.frozen?_putRow]
      exact h.fz o
    · exact cell j hj 0 (by omega)
    · exact cell j hj 1 (by omega)
end Ve
end Go.Proofs.YtanponneancajaaGreatDoor
