/-
  slices.SortFunc at this program: the contract of the compiled library laid here, by one application.
-/
import Derived.Shelf.SlSortCmp.WholeK
import Derived.Shelf.SlGeneric
import Derived.Test.YtjhiajeeijfkeaaGreatDoorProg
import Derived.Test.YtjhiajeeijfkeaaGreatDoorDn5
import Derived.Deep.RegionHeld
import Derived.Test.YtjhiajeeijfkeaaGreatDoorDn4
import Derived.Lib.AppendZeros
namespace Go.Proofs
open Go.Shelf
def Tryz.sortMods_ren : Go.Shelf.Ren := ⟨fun | 6 => 80 | 15 => 116 | 14 => 115 | 28 => 159 | 29 => 160 | 20 => 151 | 21 => 152 | 22 => 153 | 23 => 154 | 24 => 155 | 25 => 156 | 26 => 157 | 27 => 158 | 46 => 186 | 47 => 187 | 48 => 188 | 49 => 189 | 50 => 190 | 57 => 208 | n => n, fun | 22 => 23 | 24 => 36 | 25 => 120 | 3 => 3 | 39 => 161 | 0 => 0 | 53 => 214 | 55 => 216 | 4 => 4 | 46 => 207 | 45 => 206 | 50 => 211 | 5 => 5 | 9 => 9 | 66 => 232 | 70 => 236 | 76 => 245 | 77 => 69 | n => n, fun | n => n⟩
theorem Tryz.sortMods : Go.Proofs.SlLaysF0.n6 Tryz.prog Tryz.sortMods_ren := {
  mixed := by kernel_rfl
  f6 := ⟨Tryz.f80.name, by decide, Tryz.func80.trans (congrArg some (by kernel_rfl))⟩
  f14 := ⟨Tryz.f115.name, by decide, Tryz.func115.trans (congrArg some (by kernel_rfl))⟩
  f15 := Tryz.func116.trans (congrArg some (by kernel_rfl))
  f20 := ⟨Tryz.f151.name, by decide, Tryz.func151.trans (congrArg some (by kernel_rfl))⟩
  f21 := ⟨Tryz.f152.name, by decide, Tryz.func152.trans (congrArg some (by kernel_rfl))⟩
  f22 := ⟨Tryz.f153.name, by decide, Tryz.func153.trans (congrArg some (by kernel_rfl))⟩
  f23 := ⟨Tryz.f154.name, by decide, Tryz.func154.trans (congrArg some (by kernel_rfl))⟩
  f24 := ⟨Tryz.f155.name, by decide, Tryz.func155.trans (congrArg some (by kernel_rfl))⟩
  f25 := ⟨Tryz.f156.name, by decide, Tryz.func156.trans (congrArg some (by kernel_rfl))⟩
  f26 := ⟨Tryz.f157.name, by decide, Tryz.func157.trans (congrArg some (by kernel_rfl))⟩
  f27 := ⟨Tryz.f158.name, by decide, Tryz.func158.trans (congrArg some (by kernel_rfl))⟩
  f28 := Tryz.func159.trans (congrArg some (by kernel_rfl))
  f29 := Tryz.func160.trans (congrArg some (by kernel_rfl))
  f46 := ⟨Tryz.f186.name, by decide, Tryz.func186.trans (congrArg some (by kernel_rfl))⟩
  f47 := Tryz.func187.trans (congrArg some (by kernel_rfl))
  f48 := Tryz.func188.trans (congrArg some (by kernel_rfl))
  f49 := ⟨Tryz.f189.name, by decide, Tryz.func189.trans (congrArg some (by kernel_rfl))⟩
  f50 := ⟨Tryz.f190.name, by decide, Tryz.func190.trans (congrArg some (by kernel_rfl))⟩
  f57 := ⟨Tryz.f208.name, by decide, Tryz.func208.trans (congrArg some (by kernel_rfl))⟩
  t0 := Tryz.underlying0
  a0 := Tryz.isAgg0
  z0 := Tryz.sizeOf0
  v0 := Tryz.zeroValue0
  t3 := Tryz.underlying3
  a3 := Tryz.isAgg3
  z3 := Tryz.sizeOf3
  v3 := Tryz.zeroValue3
  t4 := Tryz.underlying4
  a4 := Tryz.isAgg4
  z4 := Tryz.sizeOf4
  v4 := Tryz.zeroValue4
  t5 := Tryz.underlying5
  a5 := Tryz.isAgg5
  z5 := Tryz.sizeOf5
  v5 := Tryz.zeroValue5
  t9 := Tryz.underlying9
  a9 := Tryz.isAgg9
  z9 := Tryz.sizeOf9
  v9 := Tryz.zeroValue9
  t22 := Tryz.underlying23
  a22 := Tryz.isAgg23
  z22 := Tryz.sizeOf23
  v22 := Tryz.zeroValue23
  t25 := Tryz.underlying120
  a25 := Tryz.isAgg120
  z25 := Tryz.sizeOf120
  v25 := Tryz.zeroValue120
  t39 := Tryz.underlying161
  a39 := Tryz.isAgg161
  z39 := Tryz.sizeOf161
  v39 := Tryz.zeroValue161
  t45 := Tryz.underlying206
  a45 := Tryz.isAgg206
  z45 := Tryz.sizeOf206
  v45 := Tryz.zeroValue206
  t46 := Tryz.underlying207
  a46 := Tryz.isAgg207
  z46 := Tryz.sizeOf207
  v46 := Tryz.zeroValue207
  t50 := Tryz.underlying211
  a50 := Tryz.isAgg211
  z50 := Tryz.sizeOf211
  v50 := Tryz.zeroValue211
  t53 := Tryz.underlying214
  a53 := Tryz.isAgg214
  z53 := Tryz.sizeOf214
  v53 := Tryz.zeroValue214
  t55 := Tryz.underlying216
  a55 := Tryz.isAgg216
  z55 := Tryz.sizeOf216
  v55 := Tryz.zeroValue216
  t66 := Tryz.underlying232
  a66 := Tryz.isAgg232
  z66 := Tryz.sizeOf232
  v66 := Tryz.zeroValue232
  t70 := Tryz.underlying236
  a70 := Tryz.isAgg236
  z70 := Tryz.sizeOf236
  v70 := Tryz.zeroValue236
  t76 := Tryz.underlying245
  a76 := Tryz.isAgg245
  z76 := Tryz.sizeOf245
  v76 := Tryz.zeroValue245
  t77 := Tryz.underlying69
  a77 := Tryz.isAgg69
  z77 := Tryz.sizeOf69
  v77 := Tryz.zeroValue69 }
end Go.Proofs

/-
  What mvs.newestFirst answers; what slices.SortFunc with it makes of a row of modules that are right.
-/
namespace Go.Proofs.YtjhiajeeijfkeaaGreatDoor
open Go.RowKit
namespace Ve

theorem grow_of_be {W w' : World} (h : Below W.heap.size W w') (hd : W.drawn ≤ w'.drawn) : ∃ q os', w' = Go.Sort.grow (W.drewN q) os' := by
  refine ⟨w'.drawn - W.drawn, w'.heap.extract W.heap.size w'.heap.size, ?_⟩
  have hh : w'.heap = W.heap ++ w'.heap.extract W.heap.size w'.heap.size := by
    apply Array.ext_getElem?
    intro i
    by_cases hi : i < W.heap.size
    · rw [Array.getElem?_append_left hi, h.block i hi]
    · rw [Array.getElem?_append_right (by omega), Array.getElem?_extract]
      have hs := h.size
      by_cases h2 : i < w'.heap.size
      · rw [if_pos (by omega)]
        congr 1
        omega
      · rw [if_neg (by omega)]
        exact Array.getElem?_eq_none (by omega)
  obtain ⟨a, b, c, d, e⟩ := w'
  obtain ⟨a', b', c', d', e'⟩ := W
  have h1 := h.os
  have h2 := h.tape
  have h3 := h.output
  simp only at h1 h2 h3 hh hd
  subst h1 h2 h3
  simp only [Go.Sort.grow, World.drewN, World.mk.injEq, true_and, and_true]
  exact ⟨hh, by omega⟩
set_option maxHeartbeats 2000000 in
/-- mvs.newestFirst. -/
theorem nf_any (a b : Bm) (A : Nat → Addr) (ml : Int) (w : World) (ha : a.2.size < 999999) (hb : b.2.size < 999999) (S : Te w A ml) :
    Calls Tryz.prog 81 #[.agg #[.string a.1, .string a.2], .agg #[.string b.1, .string b.2]] w fun e w' => e = .returned (.int .i64 (nfC a b)) ∧ Below w.heap.size w w' := by
  obtain ⟨p, v⟩ := a
  obtain ⟨q, u⟩ := b
  simp only at ha hb
  have HB0 := hid (((Below.refl w.heap.size w).alloc (Nat.le_refl _) (.cells #[.string p, .string v] 36)).alloc (by simp) (.cells #[.string q, .string u] 36))
  have HS := hid S
  by_cases h : p = q
  · subst h
    have he := str_refl p
    have HX := hid (show nfC (p, v) (p, u) = if mAhead (p, u) (p, v) then -1 else if mAhead (p, v) (p, u) then 1 else 0 by unfold nfC; rw [if_pos rfl])
    have H1 := hid (fun W (SW : Te W A ml) => ahead_any p u p v A ml W hb ha SW)
    have H2 := hid (fun W (SW : Te W A ml) => ahead_any p v p u A ml W ha hb SW)
    have e1 : aheadB p.data.toList u.data.toList p.data.toList v.data.toList = mAhead (p, u) (p, v) := rfl
    have e2 : aheadB p.data.toList v.data.toList p.data.toList u.data.toList = mAhead (p, v) (p, u) := rfl
    rw [e1] at H1
    rw [e2] at H2
    generalize nfC (p, v) (p, u) = r at *
    clear S e1 e2
    have HD := hid (fun W (hW : Below ((w.alloc (.cells #[.string p, .string v] 36)).alloc (.cells #[.string p, .string u] 36)).heap.size ((w.alloc (.cells #[.string p, .string v] 36)).alloc (.cells #[.string p, .string u] 36)) W) =>
      show W.cell? ⟨w.heap.size, 0, none⟩ = some (.string p) ∧ W.cell? ⟨w.heap.size, 1, none⟩ = some (.string v) ∧ W.cell? ⟨w.heap.size + 1, 0, none⟩ = some (.string p) ∧ W.cell? ⟨w.heap.size + 1, 1, none⟩ = some (.string u) from ⟨cell_below hW (by simp), cell_below hW (by simp), cell_below hW (by simp), cell_below hW (by simp)⟩)
    cases h1 : mAhead (p, u) (p, v)
    · rw [h1] at H1 HX
      cases h2 : mAhead (p, v) (p, u)
      · rw [h2] at H2 HX
        clear h1 h2
        go_enter Tryz.func81, Tryz.ntmps81
        go_wp2_with fail
        refine (H1.out _ (HS.out.below HB0.out)).mono ?_
        rintro e w1 ⟨rfl, hb1⟩
        obtain ⟨d0, d1, d2, d3⟩ := HD.out w1 hb1
        have HB1 := hid (HB0.out.trans (hb1.mono HB0.out.size))
        clear hb1
        go_wp2_with fail
        refine (H2.out _ (HS.out.below HB1.out)).mono ?_
        rintro e w2 ⟨rfl, hb2⟩
        have HB2 := hid (HB1.out.trans (hb2.mono HB1.out.size))
        clear hb2
        go_wp2_with fail
        go_ret
        exact ⟨by rw [HX.out]; rfl, HB2.out⟩
      · rw [h2] at H2 HX
        clear h1 h2
        go_enter Tryz.func81, Tryz.ntmps81
        go_wp2_with fail
        refine (H1.out _ (HS.out.below HB0.out)).mono ?_
        rintro e w1 ⟨rfl, hb1⟩
        obtain ⟨d0, d1, d2, d3⟩ := HD.out w1 hb1
        have HB1 := hid (HB0.out.trans (hb1.mono HB0.out.size))
        clear hb1
        go_wp2_with fail
        refine (H2.out _ (HS.out.below HB1.out)).mono ?_
        rintro e w2 ⟨rfl, hb2⟩
        have HB2 := hid (HB1.out.trans (hb2.mono HB1.out.size))
        clear hb2
        go_wp2_with fail
        go_ret
        exact ⟨by rw [HX.out]; rfl, HB2.out⟩
    · rw [h1] at H1 HX
      clear h1
      go_enter Tryz.func81, Tryz.ntmps81
      go_wp2_with fail
      refine (H1.out _ (HS.out.below HB0.out)).mono ?_
      rintro e w1 ⟨rfl, hb1⟩
      have HB1 := hid (HB0.out.trans (hb1.mono HB0.out.size))
      clear hb1
      go_wp2_with fail
      go_ret
      exact ⟨by rw [HX.out]; rfl, HB1.out⟩
  · have he := str_ne h
    have HX := hid (show nfC (p, v) (q, u) = Lib.compareBytes p.data.toList q.data.toList by unfold nfC; rw [if_neg h])
    have HC := hid (fun W => Tryz.strings_Compare p q W)
    rw [HX.out]
    clear S h
    go_enter Tryz.func81, Tryz.ntmps81
    go_wp2_with fail
    refine (HC.out _).mono ?_
    rintro e w1 ⟨rfl, rfl⟩
    go_wp2_with fail
    go_ret
    exact ⟨rfl, HB0.out⟩
theorem nf_bw (a b : Bm) (A : Nat → Addr) (ml : Int) (w : World) (ha : a.2.size < 999999) (hb : b.2.size < 999999) (S : Te w A ml) :
    Calls Tryz.prog 81 #[.agg #[.string a.1, .string a.2], .agg #[.string b.1, .string b.2]] w fun e w' => e = .returned (.int .i64 (nfC a b)) ∧ ∃ q os', w' = Go.Sort.grow (w.drewN q) os' :=
  (Mo.calls_ge (nf_any a b A ml w ha hb S) (fun _ _ h => ⟨_, h.1⟩)).mono fun _ _ ⟨⟨h1, h2⟩, h3⟩ => ⟨h1, grow_of_be h2 h3⟩
/-- The modules that are right. -/
abbrev Mq := { m : Bm // Rt m }
def encJ (m : Mq) : List Value := mcells m.1
def cfM (a b : Mq) : Int := nfC a.1 b.1
theorem swoM : Go.Sort.SWO (ltOf cfM) where
  irrefl x := by
    unfold ltOf cfM
    simpa using Int.not_lt.1 (nf_irr x.2)
  trans x y z h1 h2 := by
    unfold ltOf cfM at *
    simp only [decide_eq_true_eq] at *
    exact nf_trans x.2 y.2 z.2 h1 h2
  ntrans x y z h1 h2 := by
    unfold ltOf cfM at *
    simp only [decide_eq_false_iff_not] at *
    exact nfW_not z.2 x.2 (nfW_trans z.2 y.2 x.2 (nf_not z.2 y.2 h2) (nf_not y.2 x.2 h1))
theorem encJ_len (r : Mq) : (encJ r).length = 2 := rfl
theorem sorted_belowM {w : World} {g : Nat} {α : Type} [Inhabited α] (enc : α → List Value) (m : Nat) (dk : Array α) (os : Array Obj) (B : Nat) (hB : B ≤ g) (hz : B ≤ w.heap.size) : Below B w (sortWorldK enc 2 w g 0 m dk os) := by
  refine ⟨rfl, rfl, rfl, size_sortWorldK_c enc 2 w g 0 m dk os, fun k hk => ?_⟩
  unfold sortWorldK
  rw [Go.Sort.heap_grow_old _ _ (by rw [Go.Sort.size_putRowK]; show k < w.heap.size; omega)]
  unfold Go.Sort.putRowK Go.Sort.putRow
  show (Array.modify (Go.Sort.ahead w m).heap g _)[k]? = _
  rw [Array.getElem?_modify, if_neg (by omega)]
  rfl
theorem cmpM {w0 w : World} {g : Nat} {D : List Bm} (h : Mw w0 w g D) (A : Nat → Addr) (ml : Int) (S : Te w0 A ml) (n : Nat) [Inhabited Mq] : CmpLays Tryz.prog 81 #[] encJ 2 cfM g 0 n w := by
  intro m os dk hs x y
  have hb : Below w0.heap.size w0 (sortWorldK encJ 2 w g 0 m dk os) := h.bl.trans (sorted_belowM encJ m dk os w0.heap.size h.lo h.bl.size)
  have h := nf_bw x.1 y.1 A ml (sortWorldK encJ 2 w g 0 m dk os) x.2.v y.2.v (S.below hb)
  have e : (#[.agg (encJ x).toArray, .agg (encJ y).toArray] ++ #[] : Array Value) = #[.agg #[.string x.1.1, .string x.1.2], .agg #[.string y.1.1, .string y.1.2]] := by simp [encJ, mcells]
  rw [e]
  exact h
theorem holds_mw {w0 w : World} {g : Nat} {D : List Bm} (h : Mw w0 w g D) [Inhabited Mq] (d : Array Mq) (hd : d.toList.map (·.1) = D) : Go.Sort.HoldsK encJ 2 w g 0 d := by
  have hl : d.size = D.length := by rw [← hd]; simp
  intro t ht
  rw [Go.Sort.size_flatK] at ht
  rw [Go.Sort.get_flatK _ _ _ _ ht]
  have hi : t / 2 < d.size := by omega
  have e : d[t / 2]!.1 = D[t / 2]'(by omega) := by
    rw [getElem!_pos d (t / 2) hi]
    simp [← hd]
  refine ⟨?_, by rw [Nat.zero_add]; exact h.fz t⟩
  show w.cell? ⟨g, 0 + t, none⟩ = some ((mcells d[t / 2]!.1)[t % 2]!)
  rw [e, Nat.zero_add]
  have hm : t % 2 < 2 := Nat.mod_lt _ (by omega)
  have hdm := Nat.div_add_mod t 2
  match hc : t % 2, hm with
  | 0, _ => have := h.c0 (t / 2) (by omega); rw [show t / 2 * 2 = t by omega] at this; exact this
  | 1, _ => have := h.c1 (t / 2) (by omega); rw [show t / 2 * 2 + 1 = t by omega] at this; exact this
theorem lift_mq : ∀ D : List Bm, (∀ r, r ∈ D → Rt r) → ∃ l : List Mq, l.map (·.1) = D
  | [], _ => ⟨[], rfl⟩
  | r :: R, h => by
    obtain ⟨l, e⟩ := lift_mq R (fun q hq => h q (List.mem_cons_of_mem _ hq))
    exact ⟨⟨r, h r (by simp)⟩ :: l, by simp [e]⟩
theorem sort_mw (w0 w : World) (g cap : Nat) (D : List Bm) (hD : D ≠ []) (h12 : D.length ≤ 1000000) (A : Nat → Addr) (ml : Int) (S : Te w0 A ml) (hr : ∀ r, r ∈ D → Rt r) (h : Mw w0 w g D) :
    Calls Tryz.prog 80 #[.slice (some ⟨g, 0, none⟩) D.length cap, .func (.func 81) #[] #[]] w fun e w' => e = .returned (.tuple #[]) ∧ ∃ D', D'.Perm D ∧ srtM D' ∧ Mw w0 w' g D' := by
  obtain ⟨r0, R, rfl⟩ : ∃ r R, D = r :: R := by
    cases D with
    | nil => exact absurd rfl hD
    | cons r R => exact ⟨r, R, rfl⟩
  letI : Inhabited Mq := ⟨⟨r0, hr r0 (by simp)⟩⟩
  obtain ⟨d, hd⟩ : ∃ d : Array Mq, d.toList.map (·.1) = r0 :: R := by
    obtain ⟨l, e⟩ := lift_mq (r0 :: R) hr
    exact ⟨l.toArray, by simpa using e⟩
  have hl : d.size = (r0 :: R).length := by rw [← hd]; simp
  have hH := holds_mw h d hd
  have eg : ∀ args w, (callFunc 81 args).run Tryz.prog w = .ok (.enter 81 args) w := enters_of Tryz.func81 (by kernel_rfl) rfl
  have hcon := AnyQ.slices_SortFunc Tryz.sortMods 2 Tryz.isAgg36 Tryz.sizeOf36 encJ encJ_len (fun x v hv => by
    simp only [encJ, mcells, List.mem_cons, List.not_mem_nil, or_false] at hv
    rcases hv with rfl | rfl <;> rfl) cfM swoM 81 #[] g 0 cap d w eg (cmpM h A ml S d.size) hH h.hi (by omega)
  rw [hl] at hcon
  refine Calls.mono hcon ?_
  rintro e w' ⟨he, d', n, os, hp, hs, rfl⟩
  obtain ⟨hsz, _, hperm⟩ := hp
  have hsz' : d'.size = (r0 :: R).length := hsz.trans hl
  have hHd := holdsK_sortWorldK_c encJ 2 w g 0 d d' n os hH h.hi hsz
  have hpm : d'.toList.Perm d.toList := by
    have e1 : d'.extract 0 (r0 :: R).length = d' := by rw [← hsz']; simp
    have e2 : d.extract 0 (r0 :: R).length = d := by rw [← hl]; simp
    rw [e1, e2] at hperm
    exact hperm
  have hg : ∀ j (hj : j < (d'.toList.map (·.1)).length), d'[j]! = d'[j]'(by simpa using hj) := fun j hj => getElem!_pos d' j (by simpa using hj)
  have cell : ∀ j (hj : j < (d'.toList.map (·.1)).length) c (hc : c < 2), (sortWorldK encJ 2 w g 0 n d' os).cell? ⟨g, j * 2 + c, none⟩ = some ((mcells (d'.toList.map (·.1))[j])[c]!) := by
    intro j hj c hc
    have h1 := (hHd.cell (i := j) (c := c) (by simpa using hj) hc).1
    rw [Nat.zero_add, hg j hj] at h1
    rw [h1]
    simp [encJ]
  refine ⟨he, d'.toList.map (·.1), ?_, ?_, ?_⟩
  · rw [← hd]; exact hpm.map _
  · unfold srtM
    rw [List.pairwise_iff_getElem]
    intro i j hi hj hij
    have h1 := hs i j (Nat.zero_le _) hij (by rw [← hsz']; simpa using hj)
    rw [hg i hi, hg j hj] at h1
    unfold ltOf cfM at h1
    simp only [decide_eq_false_iff_not] at h1
    simp only [List.getElem_map, Array.getElem_toList]
    exact nf_not (d'[i]'(by simpa using hi)).2 (d'[j]'(by simpa using hj)).2 h1
  · refine ⟨h.bl.trans ((sorted_belowM encJ n d' os w0.heap.size h.lo h.bl.size)), h.lo, Nat.lt_of_lt_of_le h.hi (size_sortWorldK_c encJ 2 w g 0 n d' os), fun o => ?_, fun j hj => ?_, fun j hj => ?_⟩
    · unfold sortWorldK
      rw [Go.Sort.frozen?_grow _ _ _ (by rw [Go.Sort.size_putRowK]; exact h.hi)]
      unfold Go.Sort.putRowK
      rw [Go.Sort.frozen?_putRow]
      exact h.fz o
    · exact cell j hj 0 (by omega)
    · exact cell j hj 1 (by omega)
end Ve
end Go.Proofs.YtjhiajeeijfkeaaGreatDoor

/-
  slices.CompactFunc over a sorted row of modules: of each path the first one stays.
-/
namespace Go.Proofs.YtjhiajeeijfkeaaGreatDoor
open Go.RowKit
namespace Ve

set_option maxHeartbeats 1000000 in
/-- Two modules: are they of one path? -/
theorem sameP_any (a b : Bm) (W : World) :
    Calls Tryz.prog 83 #[.agg #[.string a.1, .string a.2], .agg #[.string b.1, .string b.2]] W fun e w' => e = .returned (.bool (decide (a.1 = b.1))) ∧ Below W.heap.size W w' := by
  obtain ⟨p, v⟩ := a
  obtain ⟨q, u⟩ := b
  have HB0 := hid (((Below.refl W.heap.size W).alloc (Nat.le_refl _) (.cells #[.string p, .string v] 36)).alloc (by simp) (.cells #[.string q, .string u] 36))
  by_cases h : p = q
  · subst h
    have he := str_refl p
    have HD := hid (show decide (p = p) = true by simp)
    show Calls Tryz.prog 83 _ W fun e w' => e = .returned (.bool (decide (p = p))) ∧ _
    generalize decide (p = p) = z at *
    go_enter Tryz.func83, Tryz.ntmps83
    go_wp2_with fail
    go_ret
    exact ⟨ret_bool HD.out.symm, HB0.out⟩
  · have he := str_ne h
    have HD := hid (show decide (p = q) = false by simp [h])
    show Calls Tryz.prog 83 _ W fun e w' => e = .returned (.bool (decide (p = q))) ∧ _
    generalize decide (p = q) = z at *
    go_enter Tryz.func83, Tryz.ntmps83
    go_wp2_with fail
    go_ret
    exact ⟨ret_bool HD.out.symm, HB0.out⟩
theorem compactM_nil (a : Option Addr) (c : Nat) (W : World) : Calls Tryz.prog 82 #[.slice a 0 c, .func (.func 83) #[] #[]] W fun e w' => e = .returned (.slice a 0 c) ∧ Below W.heap.size W w' := by
  go_enter Tryz.func82, Tryz.ntmps82
  go_wp2_with fail
  go_ret
  exact ⟨rfl, Below.refl _ _⟩

/-- Two neighbours' cells, and the row. -/
def TwoM (w0 W : World) (g i j : Nat) (D : List Bm) (y x : Bm) : Prop :=
  W.cell? ⟨g, i, none⟩ = some (.string y.1) ∧ W.cell? ⟨g, i + 1, none⟩ = some (.string y.2) ∧ W.cell? ⟨g, j, none⟩ = some (.string x.1) ∧ W.cell? ⟨g, j + 1, none⟩ = some (.string x.2) ∧ Hid (Mw w0 W g D)
theorem Mw.two {w0 W : World} {g : Nat} {D : List Bm} (h : Mw w0 W g D) {j : Nat} {y x : Bm} (hy : D[j]? = some y) (hx : D[j + 1]? = some x) : TwoM w0 W g (j * 2) ((j + 1) * 2) D y x :=
  ⟨(h.at hy).1, (h.at hy).2, (h.at hx).1, (h.at hx).2, h⟩
set_option maxRecDepth 100000 in
set_option maxHeartbeats 8000000 in
theorem compact_mw (w0 w : World) (g cap : Nat) (D : List Bm) (hD : D ≠ []) (h12 : D.length ≤ 1000000) (hc : D.length ≤ cap) (hr : ∀ r, r ∈ D → Rt r) (hs : srtM D) (hR : Mw w0 w g D) :
    Calls Tryz.prog 82 #[.slice (some ⟨g, 0, none⟩) D.length cap, .func (.func 83) #[] #[]] w fun e w' => ∃ E : List Bm, e = .returned (.slice (some ⟨g, 0, none⟩) E.length cap) ∧ E.length ≤ D.length ∧ Jn D E ∧ Mw w0 w' g E := by
  have HR := hid hR
  have HS := hid hs
  have HRT := hid hr
  have hpos : 0 < D.length := List.length_pos_iff.2 hD
  clear hR hs hD hr
  by_cases h2 : D.length < 2
  · have h2i : (D.length : Int) < 2 := by omega
    have HRI := hid (show Jn D D by
      have h := (CpM.start hpos HRT.out)
      rw [show (1 : Nat) = D.length by omega, List.take_length] at h
      exact h.jn HRT.out)
    go_enter Tryz.func82, Tryz.ntmps82
    go_wp2_with fail
    go_ret
    exact ⟨D, rfl, Nat.le_refl _, HRI.out, HR.out⟩
  · have h2i : ¬ (D.length : Int) < 2 := by omega
    go_enter Tryz.func82, Tryz.ntmps82
    go_wp2_with fail
    go_loopw [5] (fun i wr => ∃ k : Nat, k + 1 ≤ D.length ∧ i = .int .i64 ((k : Int) + 1) ∧ Hid (CpM D (k + 1) (D.take (k + 1))) ∧ Hid (Mw w0 wr g D)) (fun i _ => D.length - (intOf i).toNat)
    case atStart => exact ⟨0, by omega, rfl, hid (CpM.start hpos HRT.out), HR⟩
    case round =>
      obtain ⟨k, hk, rfl, HCP, HRW⟩ := hrel
      by_cases hkn : k + 1 < D.length
      · have hi1 : (0 : Int) ≤ (k : Int) + 1 := by omega
        have hi2 : (k : Int) + 1 < (D.length : Int) := by omega
        have hi3 : (0 : Int) ≤ (k : Int) := by omega
        have hi4 : (k : Int) < (D.length : Int) := by omega
        have hi5 : (k : Int) + 1 - 1 = (k : Int) := by omega
        have hwp : IntKind.i64.wrap (k : Int) = (k : Int) := by rw [IntKind.wrap_i64]; omega
        have hwe : ((k : Int) + 1).toNat = k + 1 := by omega
        have hcap1 : (k : Int) + 1 ≤ (cap : Int) := by omega
        have hcap2 : (D.length : Int) ≤ (cap : Int) := by omega
        have HPL := hid (fun h => HCP.out.plain HS.out HRT.out hkn h)
        have HSA := hid (fun h => HCP.out.same HS.out HRT.out hkn h)
        have hy2 : D[k]? = some D[k] := List.getElem?_eq_getElem (by omega)
        have hx2 : D[k + 1]? = some D[k + 1] := List.getElem?_eq_getElem hkn
        generalize D[k] = y at *
        generalize D[k + 1] = x at *
        obtain ⟨ty, vy⟩ := y
        obtain ⟨tx, vx⟩ := x
        have HCM := hid (fun W => (show Calls Tryz.prog 83 #[.agg #[.string tx, .string vx], .agg #[.string ty, .string vy]] W
            fun e w' => e = .returned (.bool (decide (tx = ty))) ∧ Below W.heap.size W w' from sameP_any (tx, vx) (ty, vy) W))
        have HTW := hid (fun (W : World) (h : Mw w0 W g D) => (show W.cell? ⟨g, k * 2, none⟩ = some (.string ty) ∧ W.cell? ⟨g, k * 2 + 1, none⟩ = some (.string vy) ∧ W.cell? ⟨g, (k + 1) * 2, none⟩ = some (.string tx) ∧ W.cell? ⟨g, (k + 1) * 2 + 1, none⟩ = some (.string vx) ∧ Hid (Mw w0 W g D) from h.two hy2 hx2))
        obtain ⟨a0, a1, b0, b1, _⟩ := HTW.out _ HRW.out
        clear hy2 hx2
        by_cases hod : tx = ty
        · have HC2 := hid (HSA.out hod)
          rw [decide_eq_true hod] at HCM
          clear hod
          go_wp2_with fail
          go_region_held (fun W => W.cell? ⟨g, k * 2, none⟩ = some (.string ty) ∧ W.cell? ⟨g, k * 2 + 1, none⟩ = some (.string vy) ∧ W.cell? ⟨g, (k + 1) * 2, none⟩ = some (.string tx) ∧ W.cell? ⟨g, (k + 1) * 2 + 1, none⟩ = some (.string vx) ∧ Hid (Mw w0 W g D)) (first | exact HTW.out _ HRa.out | exact HTW.out _ (HRW.out.below (below_drawn _ 1))) (first
            | (go_at_call 83; refine (HCM.out _).mono ?_; rintro e w' ⟨rfl, hb⟩; have HRa := hid ((HRW.out.below (below_drawn _ 1)).below hb); clear hb))
          all_goals
            have HN := hid (show (D.take (k + 1)).length = k + 1 by simp; omega)
            clear a0 a1 b0 b1
            go_wp2_with fail
            go_loopw [5, 7] (fun a b wr2 => ∃ (j : Nat) (E : List Bm), a = .int .i64 (E.length : Int) ∧ b = .int .i64 ((j : Int) + 1) ∧ k + 1 + (j + 1) ≤ D.length ∧ E.length ≤ k + 1 + j ∧ Hid (CpM D (k + 1 + j + 1) E) ∧ Hid (Mw w0 wr2 g (E ++ D.drop E.length))) (fun _ b _ => D.length - (intOf b).toNat)
            case atStart => exact ⟨0, D.take (k + 1), by rw [HN.out]; rfl, rfl, by omega, by rw [HN.out]; omega, HC2, hid (by rw [HN.out, List.take_append_drop]; exact HRa.out)⟩
            case round =>
              obtain ⟨j, E, rfl, rfl, hjD, hEj, HCE, HRV⟩ := hrel
              have HAT := hid (show ∀ i, E.length ≤ i → (E ++ D.drop E.length)[i]? = D[i]? from fun i hi => by rw [List.getElem?_append_right hi, List.getElem?_drop]; congr 1; omega)
              by_cases hj : k + 1 + (j + 1) < D.length
              · have g1 : (0 : Int) ≤ (j : Int) + 1 := by omega
                have g2 : (j : Int) + 1 < ((D.length - (k + 1) : Nat) : Int) := by omega
                have g3 : (0 : Int) ≤ (j : Int) := by omega
                have g4 : (j : Int) < ((D.length - (k + 1) : Nat) : Int) := by omega
                have g5 : (j : Int) + 1 - 1 = (j : Int) := by omega
                have gwp : IntKind.i64.wrap (j : Int) = (j : Int) := by rw [IntKind.wrap_i64]; omega
                have gwe : ((j : Int) + 1).toNat = j + 1 := by omega
                have HMO := hid (fun h => HCE.out.more HS.out HRT.out hj h)
                have HSM := hid (fun h => HCE.out.same HS.out HRT.out hj h)
                have hv2 : (E ++ D.drop E.length)[k + 1 + j]? = some D[k + 1 + j] := by rw [HAT.out _ hEj]; exact List.getElem?_eq_getElem (by omega)
                have hu2 : (E ++ D.drop E.length)[k + 1 + j + 1]? = some D[k + 1 + j + 1] := by rw [HAT.out _ (by omega)]; exact List.getElem?_eq_getElem hj
                generalize D[k + 1 + j] = y at *
                generalize D[k + 1 + j + 1] = x at *
                obtain ⟨sy, vsy⟩ := y
                obtain ⟨sx, vsx⟩ := x
                have HCN := hid (fun W => (show Calls Tryz.prog 83 #[.agg #[.string sx, .string vsx], .agg #[.string sy, .string vsy]] W
                  fun e w' => e = .returned (.bool (decide (sx = sy))) ∧ Below W.heap.size W w' from sameP_any (sx, vsx) (sy, vsy) W))
                have HTV := hid (fun (W : World) (h : Mw w0 W g (E ++ D.drop E.length)) => (show W.cell? ⟨g, (k + 1) * 2 + j * 2, none⟩ = some (.string sy) ∧ W.cell? ⟨g, (k + 1) * 2 + j * 2 + 1, none⟩ = some (.string vsy) ∧ W.cell? ⟨g, (k + 1) * 2 + (j + 1) * 2, none⟩ = some (.string sx) ∧ W.cell? ⟨g, (k + 1) * 2 + (j + 1) * 2 + 1, none⟩ = some (.string vsx) ∧ Hid (Mw w0 W g (E ++ D.drop E.length)) by
                  have h2 := h.two hv2 hu2
                  unfold TwoM at h2
                  rw [show (k + 1 + j) * 2 = (k + 1) * 2 + j * 2 by omega, show (k + 1 + j + 1) * 2 = (k + 1) * 2 + (j + 1) * 2 by omega] at h2
                  exact h2))
                obtain ⟨a0, a1, b0, b1, _⟩ := HTV.out _ HRV.out
                clear hv2 hu2
                by_cases hoe : sx = sy
                · have HC3 := hid (HSM.out hoe)
                  rw [decide_eq_true hoe] at HCN
                  clear hoe
                  go_wp2_with fail
                  go_region_held (fun W => W.cell? ⟨g, (k + 1) * 2 + j * 2, none⟩ = some (.string sy) ∧ W.cell? ⟨g, (k + 1) * 2 + j * 2 + 1, none⟩ = some (.string vsy) ∧ W.cell? ⟨g, (k + 1) * 2 + (j + 1) * 2, none⟩ = some (.string sx) ∧ W.cell? ⟨g, (k + 1) * 2 + (j + 1) * 2 + 1, none⟩ = some (.string vsx) ∧ Hid (Mw w0 W g (E ++ D.drop E.length))) (first | exact HTV.out _ HRb.out | exact HTV.out _ (HRV.out.below (below_drawn _ 1))) (first
                  | (go_at_call 83; refine (HCN.out _).mono ?_; rintro e w' ⟨rfl, hb⟩; have HRb := hid ((HRV.out.below (below_drawn _ 1)).below hb); clear hb))
                  all_goals
                    go_wp2_with fail
                    go_roundw
                    case rel => exact ⟨j + 1, E, rfl, by go_num, by omega, by omega, HC3, HRb⟩
                    case measure => simp [intOf]; omega
                · have HC3 := hid (HMO.out hoe)
                  rw [decide_eq_false hoe] at HCN
                  clear hoe
                  go_wp2_with fail
                  go_region_held (fun W => W.cell? ⟨g, (k + 1) * 2 + j * 2, none⟩ = some (.string sy) ∧ W.cell? ⟨g, (k + 1) * 2 + j * 2 + 1, none⟩ = some (.string vsy) ∧ W.cell? ⟨g, (k + 1) * 2 + (j + 1) * 2, none⟩ = some (.string sx) ∧ W.cell? ⟨g, (k + 1) * 2 + (j + 1) * 2 + 1, none⟩ = some (.string vsx) ∧ Hid (Mw w0 W g (E ++ D.drop E.length))) (first | exact HTV.out _ HRb.out | exact HTV.out _ (HRV.out.below (below_drawn _ 1))) (first
                  | (go_at_call 83; refine (HCN.out _).mono ?_; rintro e w' ⟨rfl, hb⟩; have HRb := hid ((HRV.out.below (below_drawn _ 1)).below hb); clear hb))
                  all_goals
                    clear a0 a1 b0 b1
                    obtain ⟨a0, a1, b0, b1, _⟩ := HTV.out _ HRb.out
                    have hfz := HRb.out.fz
                    have e1 : (0 : Int) ≤ (E.length : Int) := by omega
                    have e2 : (E.length : Int) < (D.length : Int) := by omega
                    have hEl : E.length < (E ++ D.drop E.length).length := by simp; omega
                    obtain ⟨z0, z1⟩ := HRb.out.at (j := E.length) (r := (E ++ D.drop E.length)[E.length]) (List.getElem?_eq_getElem hEl)
                    have HW4 := hid (show Mw w0 ((w'.setCell ⟨g, E.length * 2, none⟩ (.string sx)).setCell ⟨g, E.length * 2 + 1, none⟩ (.string vsx)) g ((E ++ [((sx, vsx) : Bm)]) ++ D.drop (E ++ [((sx, vsx) : Bm)]).length) by
                      have h := HRb.out.setAt E.length hEl (sx, vsx)
                      have e : (E ++ D.drop E.length).set E.length (sx, vsx) = (E ++ [((sx, vsx) : Bm)]) ++ D.drop (E ++ [((sx, vsx) : Bm)]).length := by
                        rw [List.set_append_right _ _ (Nat.le_refl _), Nat.sub_self, List.drop_eq_getElem_cons (show E.length < D.length by omega), List.set_cons_zero, List.length_append]
                        simp
                      rw [e] at h
                      exact h)
                    go_wp2_with fail
                    go_roundw
                    case rel => exact ⟨j + 1, E ++ [(sx, vsx)], by simp, by go_num, by omega, by simp; omega, HC3, HW4⟩
                    case measure => simp [intOf]; omega
              · have hje : k + 1 + (j + 1) = D.length := by omega
                have g2 : ¬ (j : Int) + 1 < ((D.length - (k + 1) : Nat) : Int) := by omega
                have hRl : (E ++ D.drop E.length).length = D.length := by simp; omega
                obtain ⟨zs, hcl⟩ := run_clear_mw HRV.out E.length (by omega)
                rw [hRl] at hcl
                have HEN := hid (show CpM D D.length E by have := HCE.out; rw [show k + 1 + j + 1 = D.length by omega] at this; exact this)
                have HRE := hid (show Mw w0 (wr.setCells g (E.length * 2) zs) g E by
                  have := HRV.out.cleared E.length (by omega) zs
                  rw [List.take_left'  rfl] at this
                  exact this)
                have c1 : (E.length : Int) ≤ (D.length : Int) := by omega
                have c2 : (E.length : Int) < (cap : Int) := by omega
                have c3 : (E.length : Int) ≤ (cap : Int) := by omega
                have c4 : (0 : Int) ≤ (E.length : Int) := by omega
                have c5 : E.length < cap := by omega
                go_wp2_with fail
                go_ret
                exact ⟨E, rfl, by omega, HEN.out.jn HRT.out, HRE.out⟩
        · have HC2 := hid (HPL.out hod)
          rw [decide_eq_false hod] at HCM
          clear hod
          go_wp2_with fail
          go_region_held (fun W => W.cell? ⟨g, k * 2, none⟩ = some (.string ty) ∧ W.cell? ⟨g, k * 2 + 1, none⟩ = some (.string vy) ∧ W.cell? ⟨g, (k + 1) * 2, none⟩ = some (.string tx) ∧ W.cell? ⟨g, (k + 1) * 2 + 1, none⟩ = some (.string vx) ∧ Hid (Mw w0 W g D)) (first | exact HTW.out _ HRa.out | exact HTW.out _ (HRW.out.below (below_drawn _ 1))) (first
            | (go_at_call 83; refine (HCM.out _).mono ?_; rintro e w' ⟨rfl, hb⟩; have HRa := hid ((HRW.out.below (below_drawn _ 1)).below hb); clear hb))
          all_goals
            go_wp2_with fail
            go_roundw
            case rel => exact ⟨k + 1, by omega, by go_num, HC2, HRa⟩
            case measure => simp [intOf]; omega
      · obtain hke : k + 1 = D.length := by omega
        have HFI := hid (show CpM D D.length D by have := HCP.out; rw [hke, List.take_length] at this; exact this)
        have hi2 : ¬ (k : Int) + 1 < (D.length : Int) := by omega
        go_wp2_with fail
        go_ret
        exact ⟨D, rfl, Nat.le_refl _, HFI.out.jn HRT.out, HRW.out⟩
end Ve
end Go.Proofs.YtjhiajeeijfkeaaGreatDoor

/-
  slices.DeleteFunc over a row of modules: those that are right stay.
-/
namespace Go.Proofs.YtjhiajeeijfkeaaGreatDoor
open Go.RowKit
namespace Ve

/-- Is a module not right? -/
def badM (m : Bm) : Bool := decide (mErr m ≠ 0)
/-- Those that are right. -/
def rightL (D : List Bm) : List Bm := D.filter fun m => !badM m
theorem rightL_mem {D : List Bm} {m : Bm} : m ∈ rightL D ↔ m ∈ D ∧ mErr m = 0 := by
  unfold rightL
  rw [List.mem_filter]
  simp [badM]
set_option maxHeartbeats 1000000 in
theorem rightK_any (m : Bm) (A : Nat → Addr) (ml : Int) (W : World) (hp : m.1.size < 999999) (hv : m.2.size < 999999) (S : Te W A ml) :
    Calls Tryz.prog 86 (#[.agg #[.string m.1, .string m.2]] ++ #[]) W fun e w' => e = .returned (.bool (badM m)) ∧ Below W.heap.size W w' := by
  obtain ⟨p, v⟩ := m
  simp only at hp hv
  show Calls Tryz.prog 86 #[.agg #[.string p, .string v]] W _
  have HB0 := hid ((Below.refl W.heap.size W).alloc (Nat.le_refl _) (.cells #[.string p, .string v] 36))
  have HM := hid (mcheck_any p v A ml _ (by omega) (by omega) (S.below HB0.out))
  have hme : mErr (p, v) = modErr p.data.toList v.data.toList := rfl
  rw [← hme] at HM
  clear S hme
  by_cases h : mErr (p, v) = 0
  · have HD := hid (show badM (p, v) = false by unfold badM; simp [h])
    rw [h, errA0] at HM
    generalize badM (p, v) = z at *
    clear h
    go_enter Tryz.func86, Tryz.ntmps86
    go_wp2_with fail
    refine HM.out.mono ?_
    rintro e w1 ⟨rfl, hb⟩
    have HB := hid (HB0.out.trans (hb.mono HB0.out.size))
    clear hb
    go_wp2_with fail
    go_ret
    exact ⟨ret_bool HD.out.symm, HB.out⟩
  · have HD := hid (show badM (p, v) = true by unfold badM; simp [h])
    rw [errA_if A h] at HM
    generalize badM (p, v) = z at *
    clear h
    go_enter Tryz.func86, Tryz.ntmps86
    go_wp2_with fail
    refine HM.out.mono ?_
    rintro e w1 ⟨rfl, hb⟩
    have HB := hid (HB0.out.trans (hb.mono HB0.out.size))
    clear hb
    go_wp2_with fail
    go_ret
    exact ⟨ret_bool HD.out.symm, HB.out⟩
theorem rightL_take {D : List Bm} {k : Nat} (hk : k < D.length) : rightL (D.take (k + 1)) = if badM D[k] then rightL (D.take k) else rightL (D.take k) ++ [D[k]] := by
  unfold rightL
  rw [List.take_succ_eq_append_getElem hk, List.filter_append]
  cases h : badM D[k] <;> simp [h]
theorem rightL_first {D : List Bm} {k : Nat} (hk : k < D.length) (h1 : badM D[k] = true) (h2 : ∀ j (hj : j < D.length), j < k → badM D[j] = false) : rightL (D.take (k + 1)) = D.take k := by
  rw [rightL_take hk, if_pos h1]
  unfold rightL
  rw [List.filter_eq_self]
  intro x hx
  obtain ⟨i, hi, him, rfl⟩ := mem_take_at hx
  rw [h2 i hi him]; rfl
theorem rightL_all {D : List Bm} (h : ∀ x, x ∈ D → badM x = false) : rightL D = D := by
  unfold rightL
  rw [List.filter_eq_self]
  intro x hx
  rw [h x hx]; rfl
set_option maxRecDepth 100000 in
set_option maxHeartbeats 8000000 in
theorem del_mw (w0 w : World) (g cap : Nat) (D : List Bm) (A : Nat → Addr) (ml : Int) (S : Te w0 A ml) (h12 : D.length ≤ 1000000) (hc : D.length ≤ cap) (hz : ∀ r, r ∈ D → r.1.size < 999999 ∧ r.2.size < 999999) (hR : Mw w0 w g D) :
    Calls Tryz.prog 84 #[.slice (some ⟨g, 0, none⟩) D.length cap, .func (.func 86) #[] #[]] w fun e w' => e = .returned (.slice (some ⟨g, 0, none⟩) (rightL D).length cap) ∧ Mw w0 w' g (rightL D) := by
  have eg : ∀ args w, (callFunc 86 args).run Tryz.prog w = .ok (.enter 86 args) w := enters_of Tryz.func86 (by kernel_rfl) rfl
  have HRK := hid (fun (m : Bm) (hm : m ∈ D) W (hW : Below w0.heap.size w0 W) => rightK_any m A ml W (hz m hm).1 (hz m hm).2 (S.below hW))
  have HI := hid (idxM_any 86 #[] badM D _ w eg h12 (hR.ms hc) (fun i hi W hW => HRK.out D[i] (List.getElem_mem hi) W (hR.bl.trans (hW.mono hR.bl.size))))
  have HR := hid hR
  clear hR S hz
  rcases idxB_kind badM D with ⟨e1, h2⟩ | ⟨k, hk, e1, h2, h3⟩
  · rw [e1] at HI
    rw [rightL_all h2]
    clear e1 h2
    go_enter Tryz.func84, Tryz.ntmps84
    go_wp2_with fail
    refine HI.out.mono ?_
    rintro e w1 ⟨rfl, hb⟩
    have HR1 := hid (HR.out.below hb)
    clear hb
    go_wp2_with fail
    go_ret
    exact ⟨rfl, HR1.out⟩
  · rw [e1] at HI
    have HF := hid (rightL_first hk h2 h3)
    have hkn : ¬ (k : Int) = -1 := by omega
    have hk1 : (k : Int) < (D.length : Int) := by omega
    clear e1 h2 h3
    go_enter Tryz.func84, Tryz.ntmps84
    go_wp2_with fail
    refine HI.out.mono ?_
    rintro e w1 ⟨rfl, hb⟩
    have HR1 := hid (HR.out.below hb)
    clear hb
    go_wp2_with fail
    go_loopw [5, 6] (fun a b wr => ∃ (j : Nat), a = .int .i64 ((rightL (D.take j)).length : Int) ∧ b = .int .i64 (j : Int) ∧ j ≤ D.length ∧ (rightL (D.take j)).length < j ∧ Hid (Mw w0 wr g (rightL (D.take j) ++ D.drop (rightL (D.take j)).length))) (fun _ b _ => D.length - (intOf b).toNat)
    case atStart =>
      have hl : (D.take k).length = k := by simp; omega
      exact ⟨k + 1, by rw [HF.out, hl], by go_num, by omega, by rw [HF.out, hl]; omega, hid (by rw [HF.out, hl, List.take_append_drop]; exact HR1.out)⟩
    case round =>
      obtain ⟨j, rfl, rfl, hjD, hEj, HRV⟩ := hrel
      have HAT := hid (show ∀ i, (rightL (D.take j)).length ≤ i → (rightL (D.take j) ++ D.drop (rightL (D.take j)).length)[i]? = D[i]? from fun i hi => by rw [List.getElem?_append_right hi, List.getElem?_drop]; congr 1; omega)
      by_cases hj : j < D.length
      · have g1 : (j : Int) < (D.length : Int) := by omega
        have HT := hid (rightL_take hj)
        obtain ⟨y0, y1⟩ := HRV.out.at (j := j) (r := D[j]) (by rw [HAT.out j (by omega)]; exact List.getElem?_eq_getElem hj)
        have HKX := hid (fun W (hW : Below w0.heap.size w0 W) => (show Calls Tryz.prog 86 #[.agg #[.string D[j].1, .string D[j].2]] W fun e w' => e = .returned (.bool (badM D[j])) ∧ Below W.heap.size W w' from HRK.out D[j] (List.getElem_mem hj) W hW))
        generalize D[j] = x at *
        generalize hE : rightL (D.take j) = E at *
        obtain ⟨x1, x2⟩ := x
        have HBA := hid ((Below.refl wr.heap.size wr).alloc (Nat.le_refl _) (.cells #[.string x1, .string x2] 36))
        have HRA := hid (HRV.out.below HBA.out)
        have HP := hid (HKX.out _ HRA.out.bl)
        cases hbad : badM (x1, x2)
        · rw [hbad] at HP HT
          have HT2 := hid (show rightL (D.take (j + 1)) = E ++ [(x1, x2)] from HT.out)
          clear hbad
          go_wp2_with fail
          refine HP.out.mono ?_
          rintro e w2 ⟨rfl, hb⟩
          have HR2 := hid (HRA.out.below hb)
          have d0 : w2.cell? ⟨wr.heap.size, 0, none⟩ = some (.string x1) := cell_below hb (by simp)
          have d1 : w2.cell? ⟨wr.heap.size, 1, none⟩ = some (.string x2) := cell_below hb (by simp)
          have hfz := HR2.out.fz
          have e1 : (0 : Int) ≤ (E.length : Int) := by omega
          have e2 : (E.length : Int) < (D.length : Int) := by omega
          have hEl : E.length < (E ++ D.drop E.length).length := by simp; omega
          obtain ⟨z0, z1⟩ := HR2.out.at (j := E.length) (r := (E ++ D.drop E.length)[E.length]) (List.getElem?_eq_getElem hEl)
          have HW4 := hid (show Mw w0 ((w2.setCell ⟨g, E.length * 2, none⟩ (.string x1)).setCell ⟨g, E.length * 2 + 1, none⟩ (.string x2)) g ((E ++ [((x1, x2) : Bm)]) ++ D.drop (E ++ [((x1, x2) : Bm)]).length) by
            have h := HR2.out.setAt E.length hEl (x1, x2)
            have e : (E ++ D.drop E.length).set E.length (x1, x2) = (E ++ [((x1, x2) : Bm)]) ++ D.drop (E ++ [((x1, x2) : Bm)]).length := by
              rw [List.set_append_right _ _ (Nat.le_refl _), Nat.sub_self, List.drop_eq_getElem_cons (show E.length < D.length by omega), List.set_cons_zero, List.length_append]
              simp
            rw [e] at h
            exact h)
          clear hb y0 y1
          go_wp2_with fail
          go_roundw
          case rel =>
            repeat apply Exists.intro
            refine ⟨?r, rfl⟩
            exact ⟨j + 1, by rw [HT2.out]; first | (simp; done) | (rw [List.length_append]; go_num), by go_num, by omega, by rw [HT2.out]; simp; omega, hid (by rw [HT2.out]; exact HW4.out)⟩
          case measure => simp [intOf]; omega
        · rw [hbad] at HP HT
          have HT2 := hid (show rightL (D.take (j + 1)) = E from HT.out)
          clear hbad
          go_wp2_with fail
          refine HP.out.mono ?_
          rintro e w2 ⟨rfl, hb⟩
          have HR2 := hid (HRA.out.below hb)
          clear hb y0 y1
          go_wp2_with fail
          go_roundw
          case rel =>
            repeat apply Exists.intro
            refine ⟨?r2, rfl⟩
            exact ⟨j + 1, by rw [HT2.out], by go_num, by omega, by rw [HT2.out]; omega, hid (by rw [HT2.out]; exact HR2.out)⟩
          case measure => simp [intOf]; omega
      · obtain rfl : j = D.length := by omega
        have g2 : ¬ (D.length : Int) < (D.length : Int) := by omega
        rw [List.take_length] at hEj HRV HAT ⊢
        generalize hE : rightL D = E at *
        have hRl : (E ++ D.drop E.length).length = D.length := by simp; omega
        obtain ⟨zs, hcl⟩ := run_clear_mw HRV.out E.length (by omega)
        rw [hRl] at hcl
        have HRE := hid (show Mw w0 (wr.setCells g (E.length * 2) zs) g E by
          have := HRV.out.cleared E.length (by omega) zs
          rw [List.take_left' rfl] at this
          exact this)
        have c1 : (E.length : Int) ≤ (D.length : Int) := by omega
        have c2 : (E.length : Int) < (cap : Int) := by omega
        have c3 : (E.length : Int) ≤ (cap : Int) := by omega
        have c4 : (0 : Int) ≤ (E.length : Int) := by omega
        have c5 : E.length < cap := by omega
        have c6 : (D.length : Int) ≤ (cap : Int) := by omega
        go_wp2_with fail
        go_ret
        exact ⟨rfl, HRE.out⟩
end Ve
end Go.Proofs.YtjhiajeeijfkeaaGreatDoor

/-
  slices.Grow of nothing, and slices.Concat of two rows of modules.
-/
namespace Go.Proofs.YtjhiajeeijfkeaaGreatDoor
open Go.RowKit
namespace Ve

theorem zero_len (n : Nat) : (Builtin.zeroCells (Value.agg #[.string ⟨#[]⟩, .string ⟨#[]⟩]).cells n).size = n * 2 := by
  simp [Builtin.zeroCells, Value.cells]
set_option maxHeartbeats 2000000 in
theorem grow_zero (w : World) : Calls Tryz.prog 118 #[.slice none 0 0, .int .i64 0] w fun e w' => e = .returned (.slice none 0 0) ∧ Below w.heap.size w w' := by
  go_enter Tryz.func118, Tryz.ntmps118
  go_wp2_with fail
  go_ret
  exact ⟨rfl, Below.refl _ _⟩
set_option maxRecDepth 100000 in
set_option maxHeartbeats 4000000 in
theorem grow_some (n : Nat) (w : World) (h0 : 0 < n) (hn : n ≤ 1000000) : Calls Tryz.prog 118 #[.slice none 0 0, .int .i64 (n : Int)] w fun e w' => ∃ v, e = .returned v ∧ w'.ownsRow w.heap.size 36 2 v 0 [] ∧ Below w.heap.size w w' := by
  obtain ⟨i0, hi, hz0, hz1, hz2⟩ := info_parts infoMod
  have HA := hid (fun (W : World) ty => Lib.run_append_nil_zeros (P := Tryz.prog) W 23 3 ty 36 i0 (.agg #[.string ⟨#[]⟩, .string ⟨#[]⟩]) .i64 .i64 Tryz.underlying23 Tryz.underlying3 hi hz0 n h0 (by rw [hz1]; omega) (by omega) (by rw [hz2]; omega))
  have hn0 : ¬ (n : Int) < 0 := by omega
  have hn1 : (0 : Int) < (n : Int) := by omega
  go_enter Tryz.func118, Tryz.ntmps118
  go_wp2_with (at_builtin; refine Lib.wpList_append_run _ rfl _ _ _ _ rfl _ _ rfl rfl _ _ (HA.out _ _) ?_)
  go_ret
  refine ⟨_, rfl, ⟨by simp, Or.inr ⟨w.heap.size, grownCap w n 0 36, _, rfl, Nat.le_refl _, heap_new w _, Nat.zero_le _, grownCap_le_maxLen w n 0 36 (by unfold maxLen; omega), ?_, by simp⟩⟩, below_drawn_of ((Below.refl w.heap.size w).alloc (Nat.le_refl _) _) 1⟩
  have h1 := zero_len n
  have h2 := zero_len (grownCap w n 0 36 - n)
  have h3 := grownCap_ge w n 0 36
  simp only [Value.cells] at h1 h2
  rw [Array.size_append, h1, h2]
  omega
set_option maxRecDepth 100000 in
set_option maxHeartbeats 8000000 in
/-- slices.Concat of two. -/
theorem cat_any (A B : List Bm) (va vb : Value) (lb : Nat) (w : World) (c0 : w.cell? ⟨lb, 0, none⟩ = some va) (c1 : w.cell? ⟨lb, 1, none⟩ = some vb) (hA : MsAt w va A) (hB : MsAt w vb B) (eA : Em va A) (eB : Em vb B) (lA : A.length ≤ 500) (lB : B.length ≤ 500) :
    Calls Tryz.prog 85 #[.slice (some ⟨lb, 0, none⟩) 2 2] w fun e w' => ∃ v, e = .returned v ∧ w'.ownsRow w.heap.size 36 2 v (A ++ B).length (flatM (A ++ B)) ∧ Below w.heap.size w w' := by
  obtain ⟨aa, ac, ea⟩ : ∃ a c, va = .slice a A.length c := by obtain ⟨a, c, e, _⟩ := hA; exact ⟨a, c, e⟩
  obtain ⟨ba, bc, eb⟩ : ∃ a c, vb = .slice a B.length c := by obtain ⟨a, c, e, _⟩ := hB; exact ⟨a, c, e⟩
  subst ea eb
  have HA := hid hA
  have HB := hid hB
  have HEA := hid eA
  have HEB := hid eB
  clear hA hB eA eB
  go_enter Tryz.func85, Tryz.ntmps85
  go_wp2_with fail
  go_loopw [3, 11] (fun s i wr => Hid (wr = w) ∧ ((s = .int .i64 0 ∧ i = .int .i64 0) ∨ (s = .int .i64 (A.length : Int) ∧ i = .int .i64 1) ∨ (s = .int .i64 ((A.length + B.length : Nat) : Int) ∧ i = .int .i64 2))) (fun _ i _ => 2 - (intOf i).toNat)
  case atStart => exact ⟨hid rfl, Or.inl ⟨rfl, rfl⟩⟩
  case round =>
    obtain ⟨HWR, ⟨rfl, rfl⟩ | ⟨rfl, rfl⟩ | ⟨rfl, rfl⟩⟩ := hrel
    all_goals obtain rfl := HWR.out
    all_goals clear HWR
    · have q1 : ¬ (A.length : Int) < 0 := by omega
      go_wp2_with fail
      go_roundw
      case rel => exact ⟨hid trivial, Or.inr (Or.inl ⟨rfl, rfl⟩)⟩
      case measure => decide
    · have q1 : ¬ (A.length : Int) + (B.length : Int) < 0 := by omega
      go_wp2_with fail
      go_roundw
      case rel => exact ⟨hid trivial, Or.inr (Or.inr ⟨by go_num, rfl⟩)⟩
      case measure => decide
    · have HG := hid (show Calls Tryz.prog 118 #[.slice none 0 0, .int .i64 ((A.length + B.length : Nat) : Int)] wr fun e w' => ∃ v, e = .returned v ∧ w'.ownsRow wr.heap.size 36 2 v 0 [] ∧ Below wr.heap.size wr w' by
        by_cases h0 : A.length + B.length = 0
        · rw [h0]
          exact (grow_zero wr).mono fun _ _ h => ⟨_, h.1, World.ownsRow_nil _ _ _ _, h.2⟩
        · exact grow_some (A.length + B.length) wr (by omega) (by omega))
      go_wp2_with fail
      refine HG.out.mono ?_
      rintro e w1 ⟨v0, rfl, hown, hb⟩
      have HO := hid hown
      have HBL := hid hb
      obtain ⟨oa, on, oc, hv0⟩ := own_sl hown
      subst hv0
      clear hown hb HG
      go_wp2_with fail
      go_loopw [6, 27] (fun v i W => ∃ (k : Nat) (X : List Bm), i = .int .i64 (k : Int) ∧ ((k = 0 ∧ X = []) ∨ (k = 1 ∧ X = A) ∨ (k = 2 ∧ X = A ++ B)) ∧ Hid (W.ownsRow wr.heap.size 36 2 v X.length (flatM X)) ∧ Hid (Below wr.heap.size wr W)) (fun _ i _ => 2 - (intOf i).toNat)
      case atStart => exact ⟨0, [], rfl, Or.inl ⟨rfl, rfl⟩, HO, HBL⟩
      case round =>
        obtain ⟨k, X, rfl, hk, HOW, HBW⟩ := hrel
        have HSZ := hid HBW.out.size
        rcases hk with ⟨rfl, rfl⟩ | ⟨rfl, rfl⟩ | ⟨rfl, rfl⟩
        · have d0 := cell_below HBW.out c0
          obtain ⟨v2, W2, hrun, ho2, hg2⟩ := both_run [] A _ _ wr _ HSZ.out (by simp) (by omega) HOW.out (HA.out.below HBW.out) HEA.out
          have HRUN := hid hrun
          have HO2 := hid (show W2.ownsRow _ 36 2 v2 A.length (flatM A) from ho2)
          have HB2 := hid (HBW.out.grown hg2 HBW.out.size (fun k hk => (HOW.out.lt k hk).1))
          clear hrun ho2 hg2
          go_wp2_with (at_builtin; refine Lib.wpList_append_run _ rfl _ _ _ _ rfl _ _ rfl rfl _ _ HRUN.out ?_)
          go_roundw
          case rel => exact ⟨1, A, rfl, Or.inr (Or.inl ⟨rfl, rfl⟩), HO2, HB2⟩
          case measure => decide
        · have d1 := cell_below HBW.out c1
          obtain ⟨v2, W2, hrun, ho2, hg2⟩ := both_run X B _ _ wr _ HSZ.out (by omega) (by omega) HOW.out (HB.out.below HBW.out) HEB.out
          have HRUN := hid hrun
          have HO2 := hid ho2
          have HB2 := hid (HBW.out.grown hg2 HBW.out.size (fun k hk => (HOW.out.lt k hk).1))
          clear hrun ho2 hg2
          go_wp2_with (at_builtin; refine Lib.wpList_append_run _ rfl _ _ _ _ rfl _ _ rfl rfl _ _ HRUN.out ?_)
          go_roundw
          case rel => exact ⟨2, X ++ B, rfl, Or.inr (Or.inr ⟨rfl, rfl⟩), HO2, HB2⟩
          case measure => decide
        · go_wp2_with fail
          go_ret
          exact ⟨_, rfl, HOW.out, HBW.out⟩
end Ve
end Go.Proofs.YtjhiajeeijfkeaaGreatDoor

/-
  mvs.Join: of each path of both the greater version.
-/
namespace Go.Proofs.YtjhiajeeijfkeaaGreatDoor
open Go.RowKit
namespace Ve

theorem insM_nil (a : Option Addr) (c : Nat) (W : World) : Calls Tryz.prog 151 #[.slice a 0 c, .int .i64 0, .int .i64 0, .func (.func 81) #[] #[]] W fun e w' => e = .returned (.tuple #[]) ∧ w' = W := by
  go_enter Tryz.func151, Tryz.ntmps151
  go_wp2_with fail
  go_loop [8] (fun i => i = .int .i64 1) (fun _ => 0)
  case atStart => rfl
  case round =>
    obtain rfl := hrel
    go_wp2_with fail
    go_end0
    exact ⟨rfl, rfl⟩
set_option maxRecDepth 100000 in
set_option maxHeartbeats 2000000 in
theorem pdqM_nil (a : Option Addr) (c : Nat) (n : Int) (W : World) : Calls Tryz.prog 115 #[.slice a 0 c, .int .i64 0, .int .i64 0, .int .i64 n, .func (.func 81) #[] #[]] W fun e w' => e = .returned (.tuple #[]) ∧ w' = W := by
  have HI := hid (insM_nil a c W)
  go_enter Tryz.func115, Tryz.ntmps115
  go_wp2_with fail
  go_loop [1, 2, 3, 10, 11] (fun a b _ _ _ => a = .int .i64 0 ∧ b = .int .i64 0) (fun _ _ _ _ _ => 0)
  case atStart => exact ⟨rfl, rfl⟩
  case round =>
    obtain ⟨rfl, rfl⟩ := hrel
    go_wp2_with fail
    refine HI.out.mono ?_
    rintro e w' ⟨rfl, rfl⟩
    go_wp2_with fail
    first | (go_end0; exact ⟨rfl, rfl⟩) | (go_ret; exact ⟨rfl, rfl⟩) | (refine bodyPost_ret (v := .tuple #[]) (by simp [results, Tryz.results115]) rfl ⟨rfl, rfl⟩)
set_option maxHeartbeats 1000000 in
theorem sortM_nil (a : Option Addr) (c : Nat) (W : World) : Calls Tryz.prog 80 #[.slice a 0 c, .func (.func 81) #[] #[]] W fun e w' => e = .returned (.tuple #[]) ∧ Below W.heap.size W w' := by
  have HLN := hid (show Calls Tryz.prog 116 #[.int .u64 0] W fun e w' => e = .returned (.int .i64 (Lib.bitLen 0 : Nat)) ∧ w' = W from by
    have h := Any.bits_Len (SlLaysF0.n15.bits (P := Tryz.prog) (ρ := Tryz.sortMods_ren) { Tryz.sortMods with }) 0 W (by omega) (by omega)
    exact h)
  have HP := hid (fun n => pdqM_nil a c n W)
  go_enter Tryz.func80, Tryz.ntmps80
  go_wp2_with fail
  refine HLN.out.mono ?_
  rintro e w' ⟨rfl, rfl⟩
  go_wp2_with fail
  refine (HP.out _).mono ?_
  rintro e w' ⟨rfl, rfl⟩
  go_wp2_with fail
  go_end0
  exact ⟨rfl, Below.refl _ _⟩
set_option maxHeartbeats 1000000 in
theorem delM_nil (a : Option Addr) (c : Nat) (W : World) : Calls Tryz.prog 84 #[.slice a 0 c, .func (.func 86) #[] #[]] W fun e w' => e = .returned (.slice a 0 c) ∧ Below W.heap.size W w' := by
  have HI := hid (idxM_none 86 #[] a c W)
  go_enter Tryz.func84, Tryz.ntmps84
  go_wp2_with fail
  refine HI.out.mono ?_
  rintro e w1 ⟨rfl, hb⟩
  have HB := hid hb
  clear hb
  go_wp2_with fail
  go_ret
  exact ⟨rfl, HB.out⟩
/-- A row of modules that a call owns: nothing, or in a block of its own. -/
def Mr (w0 W : World) (v : Value) (D : List Bm) : Prop := Below w0.heap.size w0 W ∧ ∃ a cap, v = .slice a D.length cap ∧ D.length ≤ cap ∧ ((D = [] ∧ (a = none → cap = 0)) ∨ ∃ g, a = some ⟨g, 0, none⟩ ∧ Mw w0 W g D)
theorem Mr.ms {w0 W : World} {v : Value} {D : List Bm} (h : Mr w0 W v D) : MsAt W v D := by
  obtain ⟨_, a, cap, rfl, hc, ⟨rfl, _⟩ | ⟨g, rfl, h⟩⟩ := h
  · exact ⟨a, cap, rfl, hc, fun h => absurd rfl h⟩
  · exact h.ms hc
theorem Mr.em {w0 W : World} {v : Value} {D : List Bm} (h : Mr w0 W v D) : Em v D := by
  obtain ⟨_, a, cap, rfl, hc, h⟩ := h
  intro a' c' e hD
  injection e with e1 e2 e3
  subst e1 e3
  cases a with
  | some a' => exact Or.inr ⟨a', rfl⟩
  | none =>
    rcases h with ⟨_, h0⟩ | ⟨g, h, _⟩
    · rw [h0 rfl]; exact Or.inl rfl
    · cases h
theorem mr_own {w0 W : World} {v : Value} {L : List Bm} (h : W.ownsRow w0.heap.size 36 2 v L.length (flatM L)) (hb : Below w0.heap.size w0 W) : Mr w0 W v L := by
  by_cases hL : L = []
  · subst hL
    obtain ⟨_, ⟨rfl, _⟩ | ⟨g, cap, cur, rfl, _, _, _, _⟩⟩ := h
    · exact ⟨hb, none, 0, rfl, Nat.le_refl _, Or.inl ⟨rfl, fun _ => rfl⟩⟩
    · exact ⟨hb, _, cap, rfl, Nat.zero_le _, Or.inl ⟨rfl, fun h => by cases h⟩⟩
  · obtain ⟨g, cap, rfl, h1, _, h3⟩ := own_mw h hb hL
    exact ⟨hb, _, cap, rfl, h1, Or.inr ⟨g, rfl, h3⟩⟩
theorem Mr.base {w w0 W : World} {v : Value} {D : List Bm} (h : Mr w0 W v D) (hb : Below w.heap.size w w0) : Mr w W v D := by
  obtain ⟨h1, a, cap, rfl, hc, hk⟩ := h
  refine ⟨hb.trans (h1.mono hb.size), a, cap, rfl, hc, ?_⟩
  rcases hk with hk | ⟨g, rfl, hM⟩
  · exact Or.inl hk
  · exact Or.inr ⟨g, rfl, hb.trans (h1.mono hb.size), Nat.le_trans hb.size hM.lo, hM.hi, hM.fz, hM.c0, hM.c1⟩
theorem Mr.sl {w0 W : World} {v : Value} {D : List Bm} (h : Mr w0 W v D) : ∃ a c, v = .slice a D.length c := by
  obtain ⟨_, a, cap, rfl, _⟩ := h
  exact ⟨a, cap, rfl⟩
set_option maxHeartbeats 2000000 in
/-- mvs.right of two. -/
theorem right_any (X Y : List Bm) (va vb : Value) (lb : Nat) (A : Nat → Addr) (ml : Int) (w : World) (c0 : w.cell? ⟨lb, 0, none⟩ = some va) (c1 : w.cell? ⟨lb, 1, none⟩ = some vb) (hA : MsAt w va X) (hB : MsAt w vb Y) (eA : Em va X) (eB : Em vb Y) (lA : X.length ≤ 500) (lB : Y.length ≤ 500)
    (hz : ∀ r, r ∈ X ++ Y → r.1.size < 999999 ∧ r.2.size < 999999) (S : Te w A ml) :
    Calls Tryz.prog 52 #[.slice (some ⟨lb, 0, none⟩) 2 2] w fun e w' => ∃ v, e = .returned v ∧ Mr w w' v (rightL (X ++ Y)) := by
  have HC := hid (cat_any X Y va vb lb w c0 c1 hA hB eA eB lA lB)
  have HS := hid S
  have HZ := hid hz
  have hl : (X ++ Y).length ≤ 1000 := by simp; omega
  generalize X ++ Y = D at *
  clear hA hB eA eB S hz c0 c1
  go_enter Tryz.func52, Tryz.ntmps52
  go_wp2_with fail
  refine HC.out.mono ?_
  rintro e w1 ⟨v, rfl, hown, hb⟩
  obtain ⟨_, a, cap, rfl, hcap, hk⟩ := mr_own hown hb
  have HBL := hid hb
  clear hown hb
  rcases hk with ⟨rfl, h0⟩ | ⟨g, rfl, hM⟩
  · have HD := hid (delM_nil a cap w1)
    go_wp2_with fail
    refine HD.out.mono ?_
    rintro e w2 ⟨rfl, hb⟩
    have HB2 := hid (HBL.out.trans (hb.mono HBL.out.size))
    clear hb
    go_wp2_with fail
    go_ret
    exact ⟨_, rfl, HB2.out, a, cap, rfl, Nat.zero_le _, Or.inl ⟨rfl, h0⟩⟩
  · have HD := hid (del_mw w w1 g cap D A ml HS.out (by omega) hcap HZ.out hM)
    have HRL := hid (show (rightL D).length ≤ cap from Nat.le_trans (List.length_filter_le _ _) hcap)
    clear hM
    go_wp2_with fail
    refine HD.out.mono ?_
    rintro e w2 ⟨rfl, hm⟩
    have HM2 := hid hm
    clear hm
    go_wp2_with fail
    go_ret
    exact ⟨_, rfl, HM2.out.bl, _, cap, rfl, HRL.out, Or.inr ⟨g, rfl, HM2.out⟩⟩
theorem Jn.nil : Jn [] [] := ⟨List.Pairwise.nil, fun _ h => absurd h (by simp), fun _ h => absurd h (by simp)⟩
theorem Jn.perm {D D' E : List Bm} (h : Jn D' E) (hp : D'.Perm D) : Jn D E :=
  ⟨h.ri, fun e he => ⟨hp.mem_iff.1 (h.sub e he).1, (h.sub e he).2⟩, fun x hx => h.top x (hp.mem_iff.2 hx)⟩
theorem Jn.right {D E : List Bm} (h : Jn (rightL D) E) : Jn D E :=
  ⟨h.ri, fun e he => ⟨(rightL_mem.1 (h.sub e he).1).1, (h.sub e he).2⟩, fun x hx hr => h.top x (rightL_mem.2 ⟨hx, hr⟩) hr⟩
set_option maxHeartbeats 2000000 in
/-- mvs.greatest of a row of its own. -/
theorem great_any (D : List Bm) (v : Value) (A : Nat → Addr) (ml : Int) (w0 w : World) (hM : Mr w0 w v D) (h12 : D.length ≤ 1000000) (hr : ∀ r, r ∈ D → Rt r) (S : Te w0 A ml) :
    Calls Tryz.prog 51 #[v] w fun e w' => ∃ u E, e = .returned u ∧ E.length ≤ D.length ∧ Jn D E ∧ Mr w0 w' u E := by
  obtain ⟨hb, a, cap, rfl, hcap, hk⟩ := hM
  by_cases hD : D = []
  · subst hD
    have HS := hid (sortM_nil a cap w)
    have HC := hid (fun W => compactM_nil a cap W)
    have h0 : a = none → cap = 0 := by
      rcases hk with ⟨_, h0⟩ | ⟨g, rfl, _⟩
      · exact h0
      · intro h; cases h
    have HBL := hid hb
    clear hk hb S
    go_enter Tryz.func51, Tryz.ntmps51
    go_wp2_with fail
    refine HS.out.mono ?_
    rintro e w1 ⟨rfl, hb⟩
    have HB1 := hid (HBL.out.trans (hb.mono HBL.out.size))
    clear hb
    go_wp2_with fail
    refine (HC.out _).mono ?_
    rintro e w2 ⟨rfl, hb⟩
    have HB2 := hid (HB1.out.trans (hb.mono HB1.out.size))
    clear hb
    go_wp2_with fail
    go_ret
    exact ⟨_, [], rfl, Nat.le_refl _, Jn.nil, HB2.out, a, cap, rfl, Nat.zero_le _, Or.inl ⟨rfl, h0⟩⟩
  · obtain ⟨g, rfl, hM⟩ : ∃ g, a = some ⟨g, 0, none⟩ ∧ Mw w0 w g D := by
      rcases hk with ⟨h, _⟩ | h
      · exact absurd h hD
      · exact h
    have HS := hid (sort_mw w0 w g cap D hD h12 A ml S hr hM)
    have HRT := hid hr
    have HD := hid hD
    clear hk hb S hM hr hD
    go_enter Tryz.func51, Tryz.ntmps51
    go_wp2_with fail
    refine HS.out.mono ?_
    rintro e w1 ⟨rfl, D1, hp, hs, hM1⟩
    have hl : D1.length = D.length := hp.length_eq
    have HC := hid (compact_mw w0 w1 g cap D1 (fun e => HD.out (by rw [e] at hl; exact List.length_eq_zero_iff.1 hl.symm)) (by omega) (by omega) (fun r h => HRT.out r (hp.mem_iff.1 h)) hs hM1)
    have HP := hid hp
    rw [hl] at HC
    clear hp hs hM1 HS
    go_wp2_with fail
    refine HC.out.mono ?_
    rintro e w2 ⟨E, rfl, hEl, hj, hM2⟩
    have HJ := hid (hj.perm HP.out)
    have HM2 := hid hM2
    clear hj hM2
    go_wp2_with fail
    go_ret
    exact ⟨_, E, rfl, hEl, HJ.out, HM2.out.bl, _, cap, rfl, by omega, Or.inr ⟨g, rfl, HM2.out⟩⟩
set_option maxHeartbeats 2000000 in
/-- mvs.Join. -/
theorem join_mods (X Y : List Bm) (va vb : Value) (A : Nat → Addr) (ml : Int) (w : World) (hA : MsAt w va X) (hB : MsAt w vb Y) (eA : Em va X) (eB : Em vb Y) (lA : X.length ≤ 500) (lB : Y.length ≤ 500)
    (hz : ∀ r, r ∈ X ++ Y → r.1.size < 999999 ∧ r.2.size < 999999) (S : Te w A ml) :
    Calls Tryz.prog 28 #[va, vb] w fun e w' => ∃ v E, e = .returned v ∧ E.length ≤ (X ++ Y).length ∧ Jn (X ++ Y) E ∧ Mr w w' v E := by
  obtain ⟨aa, an, ac, ea⟩ := hA.slice
  obtain ⟨ba, bn, bc, eb⟩ := hB.slice
  subst ea eb
  have HB0 := hid ((Below.refl w.heap.size w).alloc (Nat.le_refl _) (.cells #[.slice aa an ac, .slice ba bn bc] 23))
  have HR := hid (right_any X Y _ _ w.heap.size A ml (w.alloc (.cells #[.slice aa an ac, .slice ba bn bc] 23)) (by simp) (by simp) (hA.below HB0.out) (hB.below HB0.out) eA eB lA lB hz (S.below HB0.out))
  have HS := hid S
  have HRT := hid (show ∀ r, r ∈ rightL (X ++ Y) → Rt r from fun r h => ⟨(rightL_mem.1 h).2, (hz r (rightL_mem.1 h).1).1, (hz r (rightL_mem.1 h).1).2⟩)
  have hl : (X ++ Y).length ≤ 1000 := by simp; omega
  have HRL := hid (show (rightL (X ++ Y)).length ≤ (X ++ Y).length from List.length_filter_le _ _)
  generalize X ++ Y = D at *
  clear hA hB eA eB S hz
  go_enter Tryz.func28, Tryz.ntmps28
  go_wp2_with fail
  refine HR.out.mono ?_
  rintro e w1 ⟨v, rfl, hm⟩
  have HG := hid (great_any (rightL D) v A ml _ w1 hm (by have := HRL.out; omega) HRT.out (HS.out.below HB0.out))
  obtain ⟨va, vc, hv⟩ := hm.sl
  subst hv
  clear hm HR
  go_wp2_with fail
  refine HG.out.mono ?_
  rintro e w2 ⟨u, E, rfl, hl2, hj, hM⟩
  have HJ := hid hj.right
  have HM := hid (hM.base HB0.out)
  have HEL := hid (Nat.le_trans hl2 HRL.out)
  obtain ⟨ua, uc, hu⟩ := hM.sl
  subst hu
  clear hj hM hl2
  go_wp2_with fail
  go_ret
  exact ⟨_, E, rfl, HEL.out, HJ.out, HM.out⟩
end Ve
end Go.Proofs.YtjhiajeeijfkeaaGreatDoor

/-
  What mvs.Build answers; the closed fact of the statements (built).
-/
namespace Go.Proofs.YtjhiajeeijfkeaaGreatDoor
open Go.RowKit Go.Maps
namespace Ve

theorem goM_sub {w : World} {v : Value} {Q : List Raw} {L : List Ent} (I : Ixs w v Q L) {T : By} {m : Bm} (h : m ∈ goM T Q) : m ∈ univ L := by
  rw [← univ_eq I]
  unfold goM goQ at h
  obtain ⟨r, hr, e⟩ := List.mem_map.1 h
  exact List.mem_map.2 ⟨r, (List.mem_filter.1 hr).1, e⟩
theorem univ_szJ {L : List Ent} (sh : ∀ e, e ∈ L → ShE e) {m : Bm} (h : m ∈ univ L) : m.1.size < 999999 ∧ m.2.size < 999999 := by
  obtain ⟨e, he, rfl⟩ := List.mem_map.1 h
  exact ⟨(sh e he).p, (sh e he).v⟩
theorem goM_lenJ {w : World} {v : Value} {Q : List Raw} {L : List Ent} (I : Ixs w v Q L) (T : By) : (goM T Q).length ≤ L.length := by
  unfold goM goQ
  rw [List.length_map, ← I.ln]
  exact List.length_filter_le _ _
theorem em_none : Em (.slice none 0 0) [] := fun a c e _ => by
  injection e with e1 e2 e3
  subst e1 e3
  exact Or.inl rfl
theorem ms_none (w : World) : MsAt w (.slice none 0 0) [] := ⟨none, 0, rfl, Nat.le_refl _, fun h => absurd rfl h⟩
set_option maxRecDepth 100000 in
set_option maxHeartbeats 2000000 in
theorem build_bad (Q : List Raw) (L : List Ent) (roots : List Bm) (v rv : Value) (A : Nat → Addr) (m : Int) (w : World) (hn : L.length ≤ 1000) (hrn : roots.length ≤ 1000000) (sh : ∀ e, e ∈ L → ShE e) (S : Te w A m) (I : Ixs w v Q L) (hr : MsAt w rv roots) (h0 : (chkG Q L roots).1 ≠ 0) :
    Calls Tryz.prog 12 #[v, rv] w fun e w' => ∃ T a, e = .returned (.tuple #[.slice none 0 0, .iface T (.pointer (some a))]) ∧ ErrAt w' A (.iface T (.pointer (some a))) (chkG Q L roots).1 (chkG Q L roots).2 ∧ Below w.heap.size w w' := by
  have HCK := hid (reach_bad Q L roots v rv A m w hn hrn sh S I hr h0)
  obtain ⟨a, c, hv, -⟩ := id I.es
  subst hv
  obtain ⟨ra, rc, hrv, -⟩ := id hr
  subst hrv
  clear S I hr sh h0
  go_enter Tryz.func12, Tryz.ntmps12
  go_wp2_with fail
  refine HCK.out.mono ?_
  rintro e w1 ⟨T, xa, rfl, he, hb⟩
  have HB := hid hb
  have HE := hid he
  clear hb he HCK
  go_wp2_with fail
  go_ret2
  exact ⟨_, _, rfl, HE.out, HB.out⟩
/-- What is built: of what is reached, of each path the greatest. -/
structure Bt (Q : List Raw) (L : List Ent) (roots E : List Bm) : Prop where
  c : ∃ T, Came (reqQ Q L) (univ L) roots T ∧ Jn (goM T Q) E ∧ E.length ≤ (goM T Q).length
set_option maxRecDepth 100000 in
set_option maxHeartbeats 2000000 in
theorem build_good (Q : List Raw) (L : List Ent) (roots : List Bm) (v rv : Value) (A : Nat → Addr) (m : Int) (w : World) (hn : L.length ≤ 1000) (hrn : roots.length ≤ 1000000) (sh : ∀ e, e ∈ L → ShE e) (S : Te w A m) (I : Ixs w v Q L) (hr : MsAt w rv roots) (h0 : (chkG Q L roots).1 = 0) :
    Calls Tryz.prog 12 #[v, rv] w fun e w' => ∃ u E, e = .returned (.tuple #[u, .nilIface]) ∧ Bt Q L roots E ∧ Mr w w' u E := by
  have HRE := hid (reach_good Q L roots v rv A m w hn hrn sh S I hr h0)
  have hl : L.length ≤ 100 := by
    by_cases hc : (chk Q L).1 = 0
    · exact (chk_each0 hc).1
    · rw [chkG_bad hc] at h0; exact absurd h0 hc
  have HS := hid S
  have HI := hid I
  have HSH := hid sh
  obtain ⟨a, c, hv, -⟩ := id I.es
  subst hv
  obtain ⟨ra, rc, hrv, -⟩ := id hr
  subst hrv
  clear S I hr sh h0
  go_enter Tryz.func12, Tryz.ntmps12
  go_wp2_with fail
  refine HRE.out.mono ?_
  rintro e w1 ⟨u, rfl, T, hcm, hown, hb⟩
  have HCM := hid hcm
  have HB := hid hb
  have hgl := goM_lenJ HI.out T
  have HM := hid (mr_own hown hb)
  have HJ := hid (join_mods (goM T Q) [] u (.slice none 0 0) A m w1 HM.out.ms (ms_none w1) HM.out.em em_none (by omega) (by simp) (fun r hr => univ_szJ HSH.out (goM_sub HI.out (by simpa using hr))) (HS.out.below hb))
  rw [List.append_nil] at HJ
  obtain ⟨ua, uc, hu⟩ := HM.out.sl
  subst hu
  clear hcm hown hb HRE HM
  go_wp2_with fail
  refine HJ.out.mono ?_
  rintro e w2 ⟨x, E, rfl, hel, hj, hm⟩
  have HMX := hid (hm.base HB.out)
  have HBT := hid (show Bt Q L roots E from ⟨T, HCM.out, hj, hel⟩)
  obtain ⟨xa, xc, hx⟩ := hm.sl
  subst hx
  clear hel hj hm HJ
  go_wp2_with fail
  go_ret2
  exact ⟨_, E, rfl, HBT.out, HMX.out⟩
theorem sm_chkG2 (g : Nat) : (chkG (smQ g) smL [ma0, ma1]).1 = 0 := by
  rw [chkG_ok (by rw [sm_chk])]
  show codeE (nonE (smQ g) [ma0, ma1]) 2 = 0
  kernel_rfl
theorem sm_go2 {g : Nat} {T : By} (h : Came (reqQ (smQ g) smL) (univ smL) [ma0, ma1] T) : goM T (smQ g) = [ma0, ma1, mb0] := by
  have c0 : cameB T ma0 = true := (h.cameB _).2 (.root (by simp))
  have c1 : cameB T ma1 = true := (h.cameB _).2 (.root (by simp))
  have cb : cameB T mb0 = true := (h.cameB _).2 (.step (.root (show ma1 ∈ [ma0, ma1] by simp)) (by rw [sm_r1]; simp))
  unfold goM goQ smQ
  simp [c0, c1, cb]
theorem sm_jn : Jn [ma0, ma1, mb0] [ma1, mb0] := by
  have e0 : decide (ordV (vb ma0) (vb ma1) ≤ 0) = true := by kernel_rfl
  have e1 : decide (ordV (vb ma1) (vb ma1) ≤ 0) = true := by kernel_rfl
  have e2 : decide (ordV (vb mb0) (vb mb0) ≤ 0) = true := by kernel_rfl
  have m1 : mErr ma1 = 0 := by kernel_rfl
  have m2 : mErr mb0 = 0 := by kernel_rfl
  have l1 : lt ma1.1 mb0.1 = true := by kernel_rfl
  refine ⟨?_, fun e he => ?_, fun x hx _ => ?_⟩
  · refine List.pairwise_cons.2 ⟨fun b hb => ?_, List.pairwise_singleton _ _⟩
    rw [List.mem_singleton.1 hb]; exact l1
  · rcases List.mem_cons.1 he with rfl | he
    · exact ⟨by simp, m1⟩
    · rw [List.mem_singleton.1 he]; exact ⟨by simp, m2⟩
  · rcases List.mem_cons.1 hx with rfl | hx
    · exact ⟨ma1, by simp, rfl, of_decide_eq_true e0⟩
    · rcases List.mem_cons.1 hx with rfl | hx
      · exact ⟨ma1, by simp, rfl, of_decide_eq_true e1⟩
      · rw [List.mem_singleton.1 hx]
        exact ⟨mb0, by simp, rfl, of_decide_eq_true e2⟩
theorem sm_bt {g : Nat} {E : List Bm} (h : Bt (smQ g) smL [ma0, ma1] E) : E = [ma1, mb0] := by
  obtain ⟨T, h1, h2, _⟩ := h.c
  rw [sm_go2 h1] at h2
  exact h2.one sm_jn (fun _ _ => Iff.rfl)
end Ve
end Go.Proofs.YtjhiajeeijfkeaaGreatDoor

/-
  What slices.Equal answers over modules; what mvs.IsSelection answers: do paths rise?
-/
namespace Go.Proofs.YtjhiajeeijfkeaaGreatDoor
open Go.RowKit Go.Maps
namespace Ve

/-- Do paths rise? -/
def risB2 : List Bm → Bool
  | [] => true
  | [_] => true
  | a :: b :: r => lt a.1 b.1 && risB2 (b :: r)
theorem risB2_iff : ∀ {L : List Bm}, risB2 L = true ↔ rising L
  | [] => ⟨fun _ => List.Pairwise.nil, fun _ => rfl⟩
  | [a] => ⟨fun _ => List.pairwise_singleton _ _, fun _ => rfl⟩
  | a :: b :: r => by
    unfold risB2
    rw [Bool.and_eq_true, risB2_iff]
    constructor
    · rintro ⟨h1, h2⟩
      refine List.pairwise_cons.2 ⟨fun c hc => ?_, h2⟩
      rcases List.mem_cons.1 hc with rfl | hc
      · exact h1
      · exact lt_trans h1 ((List.pairwise_cons.1 h2).1 c hc)
    · intro h
      obtain ⟨h1, h2⟩ := List.pairwise_cons.1 h
      exact ⟨h1 b (by simp), h2⟩
theorem risB2_all : ∀ {L : List Bm}, (∀ j (h : j + 1 < L.length), lt (L[j]'(by omega)).1 L[j + 1].1 = true) → risB2 L = true
  | [], _ => rfl
  | [_], _ => rfl
  | a :: b :: r, h => by
    unfold risB2
    rw [Bool.and_eq_true]
    exact ⟨h 0 (by simp), risB2_all (L := b :: r) fun j hj => h (j + 1) (by simpa using hj)⟩
theorem risB2_not {L : List Bm} {j : Nat} (h : j + 1 < L.length) (hn : lt (L[j]'(by omega)).1 L[j + 1].1 = false) : risB2 L = false := by
  cases hb : risB2 L
  · rfl
  · have := List.pairwise_iff_getElem.1 (risB2_iff.1 hb) j (j + 1) (by omega) h (by omega)
    rw [hn] at this; cases this
theorem geqB (a b : ByteArray) (X : World) : (binOp BinOp.geq 9 (.string a) (.string b)).run Tryz.prog X = .ok (.bool (!lt a b)) X := by rw [← noLess_lt, ← noLess_is]; rfl
end Ve
end Go.Proofs.YtjhiajeeijfkeaaGreatDoor

/-
  What mvs.check and mvs.Closed answer.
-/
namespace Go.Proofs.YtjhiajeeijfkeaaGreatDoor
open Go.RowKit Go.Maps
namespace Ve

/-- What is wrong with an index, roots and a selection. -/
def chkC (Q : List Raw) (L : List Ent) (roots sel : List Bm) : Nat × Option Nat := if (chkG Q L roots).1 ≠ 0 then chkG Q L roots else if codeE (nonE Q sel) sel.length ≠ 0 then (codeE (nonE Q sel) sel.length, fstE (nonE Q sel) sel.length) else if risB2 sel then (0, none) else (8, none)
theorem univ_right {Q : List Raw} {L : List Ent} (h : (chk Q L).1 = 0) : ∀ m, m ∈ univ L → mErr m = 0 := fun m hm => by
  obtain ⟨e, he, rfl⟩ := List.mem_map.1 hm
  obtain ⟨j, hj, rfl⟩ := List.getElem_of_mem he
  exact entE_mod hj ((chk_each0 h).2 j hj)
theorem chkC_bad {Q : List Raw} {L : List Ent} {roots sel : List Bm} (h : (chkG Q L roots).1 ≠ 0) : chkC Q L roots sel = chkG Q L roots := by unfold chkC; rw [if_pos h]
theorem chkC_sel {Q : List Raw} {L : List Ent} {roots sel : List Bm} (h : (chkG Q L roots).1 = 0) (h2 : codeE (nonE Q sel) sel.length ≠ 0) : chkC Q L roots sel = (codeE (nonE Q sel) sel.length, fstE (nonE Q sel) sel.length) := by unfold chkC; rw [if_neg (by simp [h]), if_pos h2]
theorem chkC_ris {Q : List Raw} {L : List Ent} {roots sel : List Bm} (h : (chkG Q L roots).1 = 0) (h2 : codeE (nonE Q sel) sel.length = 0) : chkC Q L roots sel = if risB2 sel then (0, none) else (8, none) := by unfold chkC; rw [if_neg (by simp [h]), if_neg (by simp [h2])]
/-- Is a selection closed? -/
def closB (Q : List Raw) (L : List Ent) (roots sel : List Bm) : Bool := undB roots sel && sel.all fun m => undB (reqQ Q L m) sel
theorem reqQ_sz {Q : List Raw} {L : List Ent} (sh : ∀ e, e ∈ L → ShE e) (m : Bm) : (reqQ Q L m).length ≤ 1000000 ∧ ∀ x, x ∈ reqQ Q L m → x.1.size < 999999 ∧ x.2.size < 999999 := by
  unfold reqQ
  split
  · exact ⟨by simp, fun x hx => by cases hx⟩
  · cases h : L[(idxOf (isM m) Q).toNat]? with
    | none => exact ⟨by simp, fun x hx => by simp at hx⟩
    | some e =>
      have he := sh e (List.mem_of_getElem? h)
      exact ⟨he.rn, fun x hx => he.rs x hx⟩
theorem chkC_good {w : World} {v : Value} {Q : List Raw} {L : List Ent} {roots sel : List Bm} (I : Ixs w v Q L) (h : (chkC Q L roots sel).1 = 0) : (chkG Q L roots).1 = 0 ∧ (∀ m, m ∈ sel → m ∈ univ L) ∧ risB2 sel = true := by
  by_cases h1 : (chkG Q L roots).1 = 0
  · have hc := (rgt_of I h1).c
    by_cases h2 : codeE (nonE Q sel) sel.length = 0
    · rw [chkC_ris h1 h2] at h
      refine ⟨h1, (rgt_of I (show (chkG Q L sel).1 = 0 by rw [chkG_ok hc]; exact h2)).r, ?_⟩
      cases hs : risB2 sel
      · rw [hs] at h; exact absurd h (by decide)
      · rfl
    · rw [chkC_sel h1 h2] at h; exact absurd h h2
  · rw [chkC_bad h1] at h; exact absurd h h1
theorem chkC_of {w : World} {v : Value} {Q : List Raw} {L : List Ent} {roots sel : List Bm} (I : Ixs w v Q L) (h1 : (chkG Q L roots).1 = 0) (h2 : ∀ m, m ∈ sel → m ∈ univ L) (h3 : risB2 sel = true) : (chkC Q L roots sel).1 = 0 := by
  have hc := (rgt_of I h1).c
  have h4 := chkG_in I hc h2
  rw [chkG_ok hc] at h4
  rw [chkC_ris h1 h4, h3]
  rfl
end Ve
end Go.Proofs.YtjhiajeeijfkeaaGreatDoor

/-
  What is built is closed, and the least (plain).
-/
namespace Go.Proofs.YtjhiajeeijfkeaaGreatDoor
open Go.RowKit Go.Maps
namespace Ve

theorem hasV_iff {B : List Bm} {m : Bm} : hasV B m = true ↔ ∃ x, atP B m.1 = some x ∧ lessB (vb x) (vb m) = false := by
  unfold hasV
  cases h : atP B m.1 with
  | none => simp
  | some x => simp
theorem atP_mem {B : List Bm} {p : ByteArray} {x : Bm} (h : atP B p = some x) : x ∈ B ∧ x.1 = p := by
  unfold atP at h
  exact ⟨List.mem_of_find?_eq_some h, by have := List.find?_some h; simpa using this⟩
theorem less_le {a b : Bm} (ha : mErr a = 0) (hb : mErr b = 0) : lessB (vb a) (vb b) = false ↔ ordV (vb b) (vb a) ≤ 0 := by
  rw [less_right (mErr_zero ha).2 (mErr_zero hb).2]
  simp only [decide_eq_false_iff_not]
  rw [ordV_swap (vb b) (vb a)]
  omega
theorem bt_mem {w : World} {v : Value} {Q : List Raw} {L : List Ent} {roots : List Bm} {T : By} (I : Ixs w v Q L) (h : Came (reqQ Q L) (univ L) roots T) {m : Bm} : m ∈ goM T Q ↔ Rch (reqQ Q L) roots m := goM_mem I h
/-- What is reached lies in the index. -/
theorem rch_univ {w : World} {v : Value} {Q : List Raw} {L : List Ent} {roots : List Bm} (I : Ixs w v Q L) (h : (chkG Q L roots).1 = 0) {m : Bm} (hm : Rch (reqQ Q L) roots m) : m ∈ univ L := by
  have r := rgt_of I h
  induction hm with
  | root hr => exact r.r _ hr
  | step _ hr ih => exact chk_reqs0 I r.c _ ih _ hr
/-- All that is built is reached, and of each that is reached there is no less. -/
theorem Bt.in_ {w : World} {v : Value} {Q : List Raw} {L : List Ent} {roots E : List Bm} (I : Ixs w v Q L) (h : Bt Q L roots E) {m : Bm} (hm : m ∈ E) : Rch (reqQ Q L) roots m := by
  obtain ⟨T, c, j, _⟩ := h.c
  exact (bt_mem I c).1 (j.sub m hm).1
theorem Bt.has {w : World} {v : Value} {Q : List Raw} {L : List Ent} {roots E : List Bm} (I : Ixs w v Q L) (h : Bt Q L roots E) (h0 : (chkG Q L roots).1 = 0) {A : List Bm} (hA : ∀ m, m ∈ A → Rch (reqQ Q L) roots m) : undB A E = true := by
  obtain ⟨T, c, j, _⟩ := h.c
  exact j.over fun m hm => ⟨(bt_mem I c).2 (hA m hm), univ_right (rgt_of I h0).c m (rch_univ I h0 (hA m hm))⟩
theorem Bt.ri {Q : List Raw} {L : List Ent} {roots E : List Bm} (h : Bt Q L roots E) : rising E := by
  obtain ⟨T, c, j, _⟩ := h.c
  exact j.ri
/-- What is built is closed. -/
theorem Bt.closed {w : World} {v : Value} {Q : List Raw} {L : List Ent} {roots E : List Bm} (I : Ixs w v Q L) (h : Bt Q L roots E) (h0 : (chkG Q L roots).1 = 0) : (chkC Q L roots E).1 = 0 ∧ closB Q L roots E = true := by
  refine ⟨chkC_of I h0 (fun m hm => rch_univ I h0 (h.in_ I hm)) (risB2_iff.2 h.ri), ?_⟩
  unfold closB
  rw [h.has I h0 (fun m hm => .root hm), Bool.true_and, List.all_eq_true]
  exact fun m hm => h.has I h0 (fun x hx => .step (h.in_ I hm) hx)
/-- Built again of itself it is itself. -/
theorem Bt.again {w : World} {v : Value} {Q : List Raw} {L : List Ent} {roots E E' : List Bm} (I : Ixs w v Q L) (h : Bt Q L roots E) (h' : Bt Q L E E') : E' = E := by
  obtain ⟨T, c, j, _⟩ := h.c
  obtain ⟨T', c', j', _⟩ := h'.c
  have up : ∀ x, Rch (reqQ Q L) E x → Rch (reqQ Q L) roots x := fun x hx => by
    induction hx with
    | root hr => exact h.in_ I hr
    | step _ hr ih => exact .step ih hr
  have jE : Jn (goM T' Q) E := ⟨j.ri, fun e he => ⟨(bt_mem I c').2 (.root he), (j.sub e he).2⟩, fun x hx hr => j.top x ((bt_mem I c).2 (up x ((bt_mem I c').1 hx))) hr⟩
  exact j'.one jE (fun _ _ => Iff.rfl)
/-- More roots build no less. -/
theorem Bt.more {w : World} {v : Value} {Q : List Raw} {L : List Ent} {a b E F : List Bm} (I : Ixs w v Q L) (h : Bt Q L a E) (h' : Bt Q L (a ++ b) F) (h0 : (chkG Q L (a ++ b)).1 = 0) : undB E F = true :=
  h'.has I h0 fun _ hm => (h.in_ I hm).mono fun _ hx => List.mem_append_left _ hx
theorem Bt.sz {w : World} {v : Value} {Q : List Raw} {L : List Ent} {a E : List Bm} (h : Bt Q L a E) (I : Ixs w v Q L) (sh : ∀ e, e ∈ L → ShE e) : ∀ r, r ∈ E → r.1.size < 999999 ∧ r.2.size < 999999 := fun r hr => by
  obtain ⟨T, _, j, _⟩ := h.c
  exact univ_szJ sh (goM_sub I (j.sub r hr).1)
theorem Bt.len {w : World} {v : Value} {Q : List Raw} {L : List Ent} {a E : List Bm} (h : Bt Q L a E) (I : Ixs w v Q L) : E.length ≤ L.length := by
  obtain ⟨T, _, _, hl⟩ := h.c
  exact Nat.le_trans hl (goM_lenJ I T)
/-- Newer versions require no less. -/
def RiseP (L : List Ent) : Prop := ∀ i k (hi : i < L.length) (hk : k < L.length), i < k → L[i].1.1 = L[k].1.1 → undB L[i].2.1 L[k].2.1 = true
theorem univ_at {w : World} {v : Value} {Q : List Raw} {L : List Ent} (I : Ixs w v Q L) {m : Bm} (hm : m ∈ univ L) : ∃ i, ∃ hi : i < L.length, L[i].1 = m ∧ reqQ Q L m = L[i].2.1 := by
  obtain ⟨k, hk⟩ := (found_iff I m).1 hm
  obtain ⟨h1, h2⟩ := idx_is hk
  have h3 : k < L.length := by rw [← I.ln]; exact h1
  refine ⟨k, h3, ?_, reqQ_at hk h3⟩
  rw [← (I.ok k h1 h3).m]
  have := of_decide_eq_true h2
  exact Prod.ext this.1 this.2
theorem hasV_up {sel : List Bm} {m r : Bm} (hr : ∀ x, x ∈ sel → mErr x = 0) (hm0 : mErr m = 0) (hr0 : mErr r = 0) (hp : r.1 = m.1) (ho : ordV (vb m) (vb r) ≤ 0) (h : hasV sel r = true) : hasV sel m = true := by
  obtain ⟨s, h1, h2⟩ := hasV_iff.1 h
  have hs := hr s (atP_mem h1).1
  rw [hp] at h1
  exact hasV_iff.2 ⟨s, h1, (less_le hs hm0).2 (ordV_le_trans (mErr_zero hm0).2 (mErr_zero hr0).2 (mErr_zero hs).2 ho ((less_le hs hr0).1 h2))⟩
/-- Where newer versions require no less, what is reached is under each selection that is closed. -/
theorem rch_under {w : World} {v : Value} {Q : List Raw} {L : List Ent} {roots sel : List Bm} (I : Ixs w v Q L) (h0 : (chkC Q L roots sel).1 = 0) (hc : closB Q L roots sel = true) (hR : RiseP L) {m : Bm} (hm : Rch (reqQ Q L) roots m) : hasV sel m = true := by
  obtain ⟨hg, hsu, _⟩ := chkC_good I h0
  have hchk := (rgt_of I hg).c
  have rt := univ_right hchk
  unfold closB at hc
  rw [Bool.and_eq_true] at hc
  have hsel := List.all_eq_true.1 hc.2
  induction hm with
  | root hr => exact List.all_eq_true.1 hc.1 _ hr
  | @step p m hp hr ih =>
    have hpu := rch_univ I hg hp
    have hmu := chk_reqs0 I hchk p hpu m hr
    obtain ⟨s, hs1, hs2⟩ := hasV_iff.1 ih
    obtain ⟨hs3, hs4⟩ := atP_mem hs1
    have hsU := hsu s hs3
    have hsr := List.all_eq_true.1 (hsel s hs3)
    obtain ⟨i, hi, ei, qi⟩ := univ_at I hpu
    obtain ⟨k, hk, ek, qk⟩ := univ_at I hsU
    have hle := (less_le (rt s hsU) (rt p hpu)).1 hs2
    rcases Nat.lt_trichotomy i k with hik | hik | hik
    · have hu := hR i k hi hk hik (by rw [ei, ek]; exact hs4.symm)
      rw [← qi, ← qk] at hu
      obtain ⟨r, hr1, hr2⟩ := hasV_iff.1 (List.all_eq_true.1 hu m hr)
      obtain ⟨hr3, hr4⟩ := atP_mem hr1
      have hrU := chk_reqs0 I hchk s hsU r hr3
      exact hasV_up (fun x hx => rt x (hsu x hx)) (rt m hmu) (rt r hrU) hr4 ((less_le (rt r hrU) (rt m hmu)).1 hr2) (hsr r hr3)
    · subst hik
      have : p = s := ei.symm.trans ek
      subst this
      exact hsr m hr
    · have ha := List.pairwise_iff_getElem.1 (univ_rises hchk) k i (by simpa [univ] using hk) (by simpa [univ] using hi) hik
      simp only [univ, List.getElem_map] at ha
      rw [ei, ek, ahead_same hs4, less_right (mErr_zero (rt s hsU)).2 (mErr_zero (rt p hpu)).2] at ha
      have ha : ordV (vb s) (vb p) < 0 := of_decide_eq_true ha
      rw [ordV_swap (vb s) (vb p)] at hle
      omega
theorem Bt.least {w : World} {v : Value} {Q : List Raw} {L : List Ent} {roots sel E : List Bm} (I : Ixs w v Q L) (h : Bt Q L roots E) (h0 : (chkC Q L roots sel).1 = 0) (hc : closB Q L roots sel = true) (hR : RiseP L) : undB E sel = true := by
  unfold undB
  rw [List.all_eq_true]
  exact fun m hm => rch_under I h0 hc hR (h.in_ I hm)
end Ve
end Go.Proofs.YtjhiajeeijfkeaaGreatDoor

/-
  What is refused, what is reached, plain: as one function each; two indexes of the same modules.
-/
namespace Go.Proofs.YtjhiajeeijfkeaaGreatDoor
open Go.RowKit Go.Maps
namespace Ve

/-- Two indexes of the same modules. -/
theorem isM_same {Q Q' : List Raw} (h : Q.map (fun r => r.1) = Q'.map (fun r => r.1)) (m : Bm) : idxOf (isM m) Q = idxOf (isM m) Q' := by
  have hl : Q.length = Q'.length := by have := congrArg List.length h; simpa using this
  have hf : idxE (isM m) Q = idxE (isM m) Q' := funext fun i => by
    have hi := congrArg (fun X : List Bm => X[i]?) h
    simp only [List.getElem?_map] at hi
    unfold idxE
    cases h1 : Q[i]? with
    | none =>
      rw [h1] at hi
      cases h2 : Q'[i]? with
      | none => rfl
      | some r => rw [h2] at hi; simp at hi
    | some r =>
      rw [h1] at hi
      cases h2 : Q'[i]? with
      | none => rw [h2] at hi; simp at hi
      | some r' =>
        rw [h2] at hi
        have : r.1 = r'.1 := by simpa using hi
        show (if isM m r then 1 else 0) = if isM m r' then 1 else 0
        rw [show isM m r = isM m r' by unfold isM; rw [this]]
  unfold idxOf
  rw [hf, hl]
theorem reqQ_same {Q Q' : List Raw} {L : List Ent} (h : Q.map (fun r => r.1) = Q'.map (fun r => r.1)) : reqQ Q L = reqQ Q' L := funext fun m => by
  unfold reqQ
  rw [isM_same h m]
theorem nonE_same {Q Q' : List Raw} (h : Q.map (fun r => r.1) = Q'.map (fun r => r.1)) (R : List Bm) : nonE Q R = nonE Q' R := funext fun i => by
  unfold nonE nonW
  split
  · rfl
  · rw [isM_same h]
theorem chk_same {Q Q' : List Raw} {L : List Ent} (h : Q.map (fun r => r.1) = Q'.map (fun r => r.1)) : chk Q L = chk Q' L := by
  have hr : reqE2 Q L = reqE2 Q' L := funext fun i => by
    unfold reqE2
    split
    · rfl
    · rw [nonE_same h]
  unfold chk
  rw [hr]
theorem chkG_same {Q Q' : List Raw} {L : List Ent} (h : Q.map (fun r => r.1) = Q'.map (fun r => r.1)) (roots : List Bm) : chkG Q L roots = chkG Q' L roots := by
  unfold chkG
  rw [chk_same h, nonE_same h]
theorem ms_nil0 (w : World) : MsAt w (.slice none 0 0) [] := ⟨none, 0, rfl, Nat.le_refl _, fun h => absurd rfl h⟩
/-- What is refused. -/
def rF (Q : List Raw) (L : List Ent) (roots : List Bm) : Nat × Option Nat := if (chkG Q L roots).1 = 0 then (0, none) else chkG Q L roots
theorem rF_good {Q : List Raw} {L : List Ent} {roots : List Bm} (h : (chkG Q L roots).1 = 0) : rF Q L roots = (0, none) := if_pos h
theorem rF_bad {Q : List Raw} {L : List Ent} {roots : List Bm} (h : ¬ (chkG Q L roots).1 = 0) : rF Q L roots = chkG Q L roots := if_neg h
theorem rF_same {Q Q' : List Raw} {L : List Ent} (h : Q.map (fun r => r.1) = Q'.map (fun r => r.1)) (roots : List Bm) : rF Q L roots = rF Q' L roots := by unfold rF; rw [chkG_same h]
open Classical in
/-- What is reached. -/
noncomputable def rX (Q : List Raw) (L : List Ent) (roots : List Bm) : List Bm := if (chkG Q L roots).1 = 0 then (univ L).filter (fun m => decide (Rch (reqQ Q L) roots m)) else []
theorem rX_same {Q Q' : List Raw} {L : List Ent} (h : Q.map (fun r => r.1) = Q'.map (fun r => r.1)) (roots : List Bm) : rX Q L roots = rX Q' L roots := by unfold rX; rw [chkG_same h, reqQ_same h]
theorem rX_bad {Q : List Raw} {L : List Ent} {roots : List Bm} (h : ¬ (chkG Q L roots).1 = 0) : rX Q L roots = [] := if_neg h
theorem rX_go {w : World} {v : Value} {Q : List Raw} {L : List Ent} {roots : List Bm} {T : By} (I : Ixs w v Q L) (h : (chkG Q L roots).1 = 0) (hT : Came (reqQ Q L) (univ L) roots T) : goM T Q = rX Q L roots := by
  unfold rX
  rw [if_pos h, ← univ_eq I]
  unfold goM goQ
  rw [List.filter_map]
  congr 1
  apply List.filter_congr
  intro r _
  show cameB T r.1 = _
  simp only [Function.comp]
  by_cases hr : Rch (reqQ Q L) roots r.1
  · rw [(hT.cameB _).2 hr]; simp [hr]
  · cases hc : cameB T r.1
    · simp [hr]
    · exact absurd ((hT.cameB _).1 hc) hr
theorem rX_len {Q : List Raw} {L : List Ent} {roots : List Bm} : (rX Q L roots).length ≤ L.length := by
  unfold rX
  split
  · refine Nat.le_trans (List.length_filter_le _ _) ?_
    rw [univ_len]; exact Nat.le_refl _
  · simp
theorem rX_in {Q : List Raw} {L : List Ent} {roots : List Bm} {m : Bm} (h : m ∈ rX Q L roots) : (chkG Q L roots).1 = 0 ∧ m ∈ univ L := by
  unfold rX at h
  by_cases hc : (chkG Q L roots).1 = 0
  · rw [if_pos hc] at h
    exact ⟨hc, (List.mem_filter.1 h).1⟩
  · rw [if_neg hc] at h; simp at h
end Ve
end Go.Proofs.YtjhiajeeijfkeaaGreatDoor

/-
  What is built, plain: of what is reached the last of each path; an index' facts.
-/
namespace Go.Proofs.YtjhiajeeijfkeaaGreatDoor
open Go.RowKit Go.Maps
namespace Ve

theorem ix_lt {i n : Nat} (h : i < n) : (i : Int) < (n : Int) := Int.ofNat_lt.2 h
theorem ix_nlt {i n : Nat} (h : ¬ i < n) : ¬ (i : Int) < (n : Int) := fun e => h (Int.ofNat_lt.1 e)
theorem ix_pos (i : Nat) : (0 : Int) ≤ (i : Int) := Int.natCast_nonneg _
theorem ix_pos1 (i : Nat) : (0 : Int) ≤ (i : Int) + 1 := by omega
theorem ix_lt1 {i n : Nat} (h : i + 1 < n) : (i : Int) + 1 < (n : Int) := by omega
theorem ix_nlt1 {i n : Nat} (h : ¬ i + 1 < n) : ¬ (i : Int) + 1 < (n : Int) := by omega
theorem ix_nat1 (i : Nat) : ((i : Int) + 1).toNat = i + 1 := by omega
theorem ix_w1 {i n : Nat} (h : i < n) (hn : n ≤ 1000000) : wrap64 ((i : Int) + 1) = (i : Int) + 1 := IntWalk.wrap64_in _ (by omega)
theorem ix_k1 {i n : Nat} (h : i < n) (hn : n ≤ 1000000) : IntKind.i64.wrap ((i : Int) + 1) = (i : Int) + 1 := by rw [IntKind.wrap_i64] <;> omega
theorem ms_atJ {W : World} {b o n c : Nat} {X : List Bm} (h : MsAt W (.slice (some ⟨b, o, none⟩) n c) X) {k : Nat} (hk : k < X.length) : W.cell? ⟨b, o + k * 2, none⟩ = some (.string X[k].1) ∧ W.cell? ⟨b, o + k * 2 + 1, none⟩ = some (.string X[k].2) := by
  obtain ⟨b', o', e, h1⟩ := h.cells hk
  injection e with e
  injection e with e1 e2
  subst e1 e2
  exact h1
/-- Is one of the same path behind it? -/
def nextB (X : List Bm) (i : Nat) (p : ByteArray) : Bool := match X[i + 1]? with
  | some y => decide (y.1 = p)
  | none => false
/-- The last of each path, of the first ones. -/
def lastN (X : List Bm) : Nat → List Bm
  | 0 => []
  | i + 1 => lastN X i ++ match X[i]? with
    | some x => if nextB X i x.1 then [] else [x]
    | none => []
theorem lastN_skip {X : List Bm} {i : Nat} (h : i < X.length) (hb : nextB X i X[i].1 = true) : lastN X (i + 1) = lastN X i := by
  show lastN X i ++ _ = _
  rw [List.getElem?_eq_getElem h]
  simp only [hb, if_true, List.append_nil]
theorem lastN_keep {X : List Bm} {i : Nat} (h : i < X.length) (hb : nextB X i X[i].1 = false) : lastN X (i + 1) = lastN X i ++ [X[i]] := by
  show lastN X i ++ _ = _
  rw [List.getElem?_eq_getElem h]
  simp [hb]
theorem lastN_len (X : List Bm) : ∀ i, (lastN X i).length ≤ i
  | 0 => Nat.le_refl _
  | i + 1 => by
    have h := lastN_len X i
    show (lastN X i ++ _).length ≤ _
    rw [List.length_append]
    split
    · split
      · simp; omega
      · simp; omega
    · simp; omega
theorem nextB_at {X : List Bm} {i : Nat} {p : ByteArray} (h : i + 1 < X.length) : nextB X i p = decide (X[i + 1].1 = p) := by unfold nextB; rw [List.getElem?_eq_getElem h]
theorem nextB_end {X : List Bm} {i : Nat} {p : ByteArray} (h : ¬ i + 1 < X.length) : nextB X i p = false := by unfold nextB; rw [List.getElem?_eq_none (by omega)]
theorem lastN_over {X : List Bm} {n : Nat} (h : ¬ n < X.length) : lastN X (n + 1) = lastN X n := by
  show lastN X n ++ _ = _
  rw [List.getElem?_eq_none (by omega)]; simp
theorem lastN_mem {X : List Bm} {e : Bm} : ∀ n, e ∈ lastN X n ↔ ∃ i, ∃ h : i < X.length, i < n ∧ X[i] = e ∧ nextB X i X[i].1 = false
  | 0 => ⟨(fun h => by cases h), fun ⟨i, _, h, _⟩ => absurd h (Nat.not_lt_zero _)⟩
  | n + 1 => by
    have ih := lastN_mem (X := X) (e := e) n
    by_cases h : n < X.length
    · cases hb : nextB X n X[n].1
      · rw [lastN_keep h hb, List.mem_append, ih, List.mem_singleton]
        constructor
        · rintro (⟨i, hi, h1, h2, h3⟩ | rfl)
          · exact ⟨i, hi, by omega, h2, h3⟩
          · exact ⟨n, h, by omega, rfl, hb⟩
        · rintro ⟨i, hi, h1, h2, h3⟩
          rcases Nat.lt_or_ge i n with h4 | h4
          · exact Or.inl ⟨i, hi, h4, h2, h3⟩
          · have : i = n := by omega
            subst this; exact Or.inr h2.symm
      · rw [lastN_skip h hb, ih]
        constructor
        · rintro ⟨i, hi, h1, h2, h3⟩; exact ⟨i, hi, by omega, h2, h3⟩
        · rintro ⟨i, hi, h1, h2, h3⟩
          rcases Nat.lt_or_ge i n with h4 | h4
          · exact ⟨i, hi, h4, h2, h3⟩
          · have : i = n := by omega
            subst this; rw [hb] at h3; cases h3
    · rw [lastN_over h, ih]
      constructor
      · rintro ⟨i, hi, h1, h2, h3⟩; exact ⟨i, hi, by omega, h2, h3⟩
      · rintro ⟨i, hi, h1, h2, h3⟩; exact ⟨i, hi, by omega, h2, h3⟩
theorem lastN_rising {X : List Bm} (hX : X.Pairwise fun a b => mAhead a b = true) : ∀ n, n ≤ X.length → rising (lastN X n)
  | 0, _ => List.Pairwise.nil
  | n + 1, hn => by
    have ih := lastN_rising hX n (by omega)
    have h : n < X.length := by omega
    cases hb : nextB X n X[n].1
    · rw [lastN_keep h hb]
      refine List.pairwise_append.2 ⟨ih, List.pairwise_singleton _ _, fun a ha b hbb => ?_⟩
      rw [List.mem_singleton.1 hbb]
      obtain ⟨i, hi, h1, rfl, h3⟩ := (lastN_mem n).1 ha
      have hp := List.pairwise_iff_getElem.1 hX
      have h4 : i + 1 < X.length := by omega
      rw [nextB_at h4] at h3
      have h5 : X[i + 1].1 ≠ X[i].1 := of_decide_eq_false h3
      have h6 := hp i (i + 1) hi h4 (by omega)
      rw [ahead_other (fun e => h5 e.symm)] at h6
      rcases Nat.lt_or_ge (i + 1) n with h7 | h7
      · have h8 := hp (i + 1) n h4 h h7
        by_cases e : X[i + 1].1 = X[n].1
        · rw [← e]; exact h6
        · rw [ahead_other e] at h8; exact lt_trans h6 h8
      · have : n = i + 1 := by omega
        subst this; exact h6
    · rw [lastN_skip h hb]; exact ih
theorem ordV_selfJ {m : Bm} (h : mErr m = 0) : ordV (vb m) (vb m) ≤ 0 := by rw [(ordV_zero (mErr_zero h).2 (mErr_zero h).2).2 rfl]; omega
theorem lastN_top {X : List Bm} (hX : X.Pairwise fun a b => mAhead a b = true) (hr : ∀ m, m ∈ X → mErr m = 0) : ∀ (d i : Nat) (hi : i < X.length), X.length - i = d → ∃ e, e ∈ lastN X X.length ∧ e.1 = X[i].1 ∧ ordV (vb X[i]) (vb e) ≤ 0
  | 0, i, hi, h => by omega
  | d + 1, i, hi, h => by
    have hm := hr X[i] (List.getElem_mem hi)
    cases hb : nextB X i X[i].1
    · exact ⟨X[i], (lastN_mem _).2 ⟨i, hi, hi, rfl, hb⟩, rfl, ordV_selfJ hm⟩
    · by_cases h1 : i + 1 < X.length
      · rw [nextB_at h1] at hb
        have h2 : X[i + 1].1 = X[i].1 := of_decide_eq_true hb
        obtain ⟨e, he, e1, e2⟩ := lastN_top hX hr d (i + 1) h1 (by omega)
        have hm1 := hr X[i + 1] (List.getElem_mem h1)
        have h3 := List.pairwise_iff_getElem.1 hX i (i + 1) hi h1 (by omega)
        rw [ahead_same h2.symm, less_right (mErr_zero hm).2 (mErr_zero hm1).2] at h3
        have h4 := of_decide_eq_true h3
        have hme : mErr e = 0 := by
          obtain ⟨j, hj, _, rfl, _⟩ := (lastN_mem _).1 he
          exact hr _ (List.getElem_mem hj)
        exact ⟨e, he, e1.trans h2, ordV_le_trans (mErr_zero hm).2 (mErr_zero hm1).2 (mErr_zero hme).2 (Int.le_of_lt h4) e2⟩
      · rw [nextB_end h1] at hb; cases hb
/-- The last of each path: what is joined. -/
theorem lastN_jn {X : List Bm} (hX : X.Pairwise fun a b => mAhead a b = true) (hr : ∀ m, m ∈ X → mErr m = 0) : Jn X (lastN X X.length) := by
  refine ⟨lastN_rising hX _ (Nat.le_refl _), fun e he => ?_, fun x hx _ => ?_⟩
  · obtain ⟨j, hj, _, rfl, _⟩ := (lastN_mem _).1 he
    exact ⟨List.getElem_mem hj, hr _ (List.getElem_mem hj)⟩
  · obtain ⟨i, hi, rfl⟩ := List.getElem_of_mem hx
    exact lastN_top hX hr _ i hi rfl
/-- What is built. -/
noncomputable def bX (Q : List Raw) (L : List Ent) (roots : List Bm) : List Bm := lastN (rX Q L roots) (rX Q L roots).length
theorem bX_same {Q Q' : List Raw} {L : List Ent} (h : Q.map (fun r => r.1) = Q'.map (fun r => r.1)) (roots : List Bm) : bX Q L roots = bX Q' L roots := by unfold bX; rw [rX_same h]
theorem rX_rises {Q : List Raw} {L : List Ent} {roots : List Bm} : (rX Q L roots).Pairwise fun a b => mAhead a b = true := by
  by_cases h : (chkG Q L roots).1 = 0
  · unfold rX
    rw [if_pos h]
    have hc : (chk Q L).1 = 0 := by
      by_cases hc : (chk Q L).1 = 0
      · exact hc
      · rw [chkG_bad hc] at h; exact h
    exact List.Pairwise.filter _ (univ_rises hc)
  · rw [rX_bad h]; exact List.Pairwise.nil
theorem chkG_chk {Q : List Raw} {L : List Ent} {roots : List Bm} (h : (chkG Q L roots).1 = 0) : (chk Q L).1 = 0 := by
  by_cases hc : (chk Q L).1 = 0
  · exact hc
  · rw [chkG_bad hc] at h; exact h
theorem rX_right {Q : List Raw} {L : List Ent} {roots : List Bm} : ∀ m, m ∈ rX Q L roots → mErr m = 0 := fun m hm => by
  obtain ⟨h1, h2⟩ := rX_in hm
  exact univ_right (chkG_chk h1) m h2
theorem bX_jn (Q : List Raw) (L : List Ent) (roots : List Bm) : Jn (rX Q L roots) (bX Q L roots) := lastN_jn rX_rises rX_right
theorem bX_len {Q : List Raw} {L : List Ent} {roots : List Bm} : (bX Q L roots).length ≤ L.length := Nat.le_trans (lastN_len _ _) rX_len
theorem bX_bad {Q : List Raw} {L : List Ent} {roots : List Bm} (h : ¬ (chkG Q L roots).1 = 0) : bX Q L roots = [] := by unfold bX; rw [rX_bad h]; rfl
theorem bt_bX {w : World} {v : Value} {Q : List Raw} {L : List Ent} {roots E : List Bm} (I : Ixs w v Q L) (h : (chkG Q L roots).1 = 0) (hb : Bt Q L roots E) : E = bX Q L roots := by
  obtain ⟨T, h1, h2, _⟩ := hb.c
  rw [rX_go I h h1] at h2
  exact h2.one (bX_jn Q L roots) (fun _ _ => Iff.rfl)
theorem Mr.below {w0 W W' : World} {v : Value} {D : List Bm} (h : Mr w0 W v D) (hb : Below W.heap.size W W') : Mr w0 W' v D := by
  obtain ⟨h1, a, cap, rfl, hc, hk⟩ := h
  refine ⟨h1.trans (hb.mono h1.size), a, cap, rfl, hc, ?_⟩
  rcases hk with hk | ⟨g, rfl, hM⟩
  · exact Or.inl hk
  · exact Or.inr ⟨g, rfl, hM.below hb⟩
theorem box2J {W : World} {g : Nat} {x y : Value} {T : TypeId} (h : W.heap[g]? = some (.cells #[x, y] T (0, 0))) : W.cell? ⟨g, 0, none⟩ = some x ∧ W.cell? ⟨g, 1, none⟩ = some y ∧ ∀ o, W.frozen? ⟨g, o, none⟩ = false :=
  ⟨by rw [Lib.cell_of_heap h]; rfl, by rw [Lib.cell_of_heap h]; rfl, fun o => Lib.frozen_of_heap h o⟩
theorem mr_nil0 {w w' : World} (h : Below w.heap.size w w') : Mr w w' (.slice none 0 0) [] := ⟨h, none, 0, rfl, Nat.le_refl _, Or.inl ⟨rfl, fun _ => rfl⟩⟩
/-- mvs.Build. -/
theorem build_all (Q : List Raw) (L : List Ent) (roots : List Bm) (v rv : Value) (A : Nat → Addr) (m : Int) (w : World) (hn : L.length ≤ 1000) (hrn : roots.length ≤ 1000000) (sh : ∀ e, e ∈ L → ShE e) (S : Te w A m) (I : Ixs w v Q L) (hr : MsAt w rv roots) :
    Calls Tryz.prog 12 #[v, rv] w fun e w' => ∃ a c x, e = .returned (.tuple #[.slice a (bX Q L roots).length c, x]) ∧ Mr w w' (.slice a (bX Q L roots).length c) (bX Q L roots) ∧ ErrAt w' A x (rF Q L roots).1 (rF Q L roots).2 := by
  by_cases h : (chkG Q L roots).1 = 0
  · refine (build_good Q L roots v rv A m w hn hrn sh S I hr h).mono ?_
    rintro e w' ⟨u, E, rfl, hbt, hm⟩
    have he := bt_bX I h hbt
    subst he
    obtain ⟨a, c, hu⟩ := hm.sl
    subst hu
    exact ⟨a, c, _, rfl, hm, by rw [rF_good h]; rfl⟩
  · refine (build_bad Q L roots v rv A m w hn hrn sh S I hr h).mono ?_
    rintro e w' ⟨T, a, rfl, he, hb⟩
    rw [bX_bad h, rF_bad h]
    exact ⟨_, _, _, rfl, mr_nil0 hb, he⟩
end Ve
end Go.Proofs.YtjhiajeeijfkeaaGreatDoor

/-
  What To of package down answers: what the roots become.
-/
namespace Go.Proofs.YtjhiajeeijfkeaaGreatDoor
open Go.RowKit Go.Shelf
namespace Ve

attribute [local go_sem] Oper.semAt_some

/-- The mark of a range over a function. -/
def dfr (D : Nat) : Deferred := { target := .collected D, args := #[] }
/-- A function that has left several such marks returns. -/
theorem leaves_dfr {F : Fence} {n : Nat} {P : Program} {fn : Func} {tmps : Array Value} {R : Ending → World → Prop} (K : World → Prop) (B : Nat) (hK : OwnFrom B (fun (_ : Unit) W => K W)) (hE : ∀ W, K W → LeavesInM F n P fn tmps R [] .returning W) :
    ∀ (ds : List Nat) (W : World), ds.Nodup → (∀ D, D ∈ ds → B ≤ D ∧ W.heap[D]? = some (.deferred (some []))) → K W → LeavesInM F n P fn tmps R (ds.map dfr) .returning W
  | [], W, _, _, h => hE W h
  | D :: ds, W, hn, hd, h => by
    obtain ⟨h1, h2⟩ := hd D (by simp)
    obtain ⟨hn1, hn2⟩ := List.nodup_cons.1 hn
    refine ⟨by simp, .inl ⟨D, _, rfl, run_takeDeferred h2, ?_⟩⟩
    refine leaves_dfr K B hK hE ds _ hn2 (fun D' hD' => ?_) (OwnFrom.putObj (s := ()) hK _ h h1 h2 rfl)
    obtain ⟨h3, h4⟩ := hd D' (by simp [hD'])
    exact ⟨h3, (World.putObj_heap_other (by intro e; subst e; exact hn1 hD')).trans h4⟩
/-- What To refuses. -/
def tF (Q : List Raw) (L : List Ent) (roots caps : List Bm) : Nat × Option Nat := if (bF Q L caps).1 = 0 then chkG Q L roots else bF Q L caps
theorem tF_ok {Q : List Raw} {L : List Ent} {roots caps : List Bm} (h : (tF Q L roots caps).1 = 0) : (bF Q L caps).1 = 0 ∧ (chkG Q L roots).1 = 0 := by
  unfold tF at h
  by_cases hc : (bF Q L caps).1 = 0
  · rw [if_pos hc] at h; exact ⟨hc, h⟩
  · rw [if_neg hc] at h; exact absurd h hc
/-- What the roots become. -/
noncomputable def toL (Q : List Raw) (L : List Ent) (roots caps : List Bm) : List Bm := selO (kpN (univ L) (bdL Q L caps) roots) (univ L)
/-- The walk's memory, behind some roots. -/
structure Ts (w5 W : World) (tb : Nat) (T : List Bool) (ds : List Nat) : Prop where
  kx : Kx w5.heap.size (fun b => b = tb) w5 W
  mr : W.heap[tb]? = some (.cells (bwc T) 4 (0, 0))
  nd : ds.Nodup
  df : ∀ D, D ∈ ds → w5.heap.size ≤ D ∧ W.heap[D]? = some (.deferred (some []))
/-- One root's walk. -/
structure Tr (W0 W : World) (tb : Nat) (T : List Bool) : Prop where
  kx : Kx W0.heap.size (fun b => b = tb) W0 W
  mr : W.heap[tb]? = some (.cells (bwc T) 4 (0, 0))
theorem Tr.own {W0 : World} {tb : Nat} {β : Type} (hm : tb < W0.heap.size) (C : β → List Bool → Prop) : OwnFrom W0.heap.size (fun (s : β) W => ∃ T, Tr W0 W tb T ∧ C s T) := by
  rintro s W W' row ⟨T, h, hC⟩ hg hr
  have hn : W0.heap.size ≤ W.heap.size := h.kx.size
  have k : Kx W0.heap.size (fun b => b = tb) W W' := Kx.grown hg hn (fun r e => (hr r e).1)
  have hb : ∀ b, b < W0.heap.size → W'.heap[b]? = W.heap[b]? := fun b hb => hg.block b (Nat.lt_of_lt_of_le hb hn) (fun e => by have := (hr b e.symm).1; omega)
  exact ⟨T, ⟨h.kx.trans k, (hb tb hm).trans h.mr⟩, hC⟩
theorem Ts.next {w5 wr W0 W : World} {tb D : Nat} {T T' : List Bool} {ds : List Nat} (h : Ts w5 wr tb T ds) (hb : Below wr.heap.size wr W0) (r : Tr W0 W tb T') (hD : W0.heap.size ≤ D) (hK : W.heap[D]? = some (.deferred (some []))) (ht : tb < w5.heap.size) : Ts w5 W tb T' (D :: ds) := by
  have hz : w5.heap.size ≤ W0.heap.size := Nat.le_trans h.kx.size hb.size
  refine ⟨(h.kx.trans (Kx.below hb h.kx.size)).trans (r.kx.less hz (fun b _ e => e)), r.mr, List.nodup_cons.2 ⟨fun hm => ?_, h.nd⟩, fun D' hD' => ?_⟩
  · have := lt_of_blk (h.df D hm).2
    have := hb.size
    omega
  · rcases List.mem_cons.1 hD' with rfl | hm
    · exact ⟨by omega, hK⟩
    · obtain ⟨h1, h2⟩ := h.df D' hm
      have hl := lt_of_blk h2
      refine ⟨h1, ?_⟩
      rw [r.kx.block D' (Nat.lt_of_lt_of_le hl hb.size) (by omega), hb.block D' hl]
      exact h2
theorem take_nextB {roots : List Bm} {k : Nat} (hk : k < roots.length) : roots.take (k + 1) = roots.take k ++ [roots[k]] := List.take_succ_eq_append_getElem hk
set_option maxRecDepth 100000 in
set_option maxHeartbeats 8000000 in
theorem to_good (Q : List Raw) (L : List Ent) (roots caps : List Bm) (v rv cv : Value) (A : Nat → Addr) (m : Int) (w : World) (hn : L.length ≤ 1000) (hrn : roots.length ≤ 1000000) (hcn : caps.length ≤ 1000000) (sh : ∀ e, e ∈ L → ShE e) (hs : shortL caps) (S : Te w A m) (I : Ixs w v Q L) (hr : MsAt w rv roots) (hc : MsAt w cv caps) (h0 : (tF Q L roots caps).1 = 0) :
    Calls Tryz.prog 10 #[v, rv, cv] w fun e w' => ∃ u, e = .returned (.tuple #[u, .nilIface]) ∧ w'.ownsRow w.heap.size 36 2 u (toL Q L roots caps).length (flatM (toL Q L roots caps)) ∧ Below w.heap.size w w' := by
  obtain ⟨hb0, hg0⟩ := tF_ok h0
  obtain ⟨k0, k1⟩ := bF_chk hb0
  have hqn : Q.length ≤ 1000 := by rw [I.ln]; exact hn
  have HU := hid (show Un (univ L) from ⟨univ_rises k0, univ_right k0⟩)
  have HRU := hid (rgt_of I hg0).r
  have HIU := hid (fun x (hx : x ∈ univ L) => idx_univ I hx)
  have HUL := hid (show (univ L).length = Q.length by rw [univ_len, I.ln])
  have HQU := hid (univ_eq I)
  have HUM := hid (fun i (hi : i < Q.length) (hi' : i < (univ L).length) => show Q[i].1 = (univ L)[i] by
    have := (I.ok i hi (by rw [← I.ln]; exact hi)).m
    simp only [univ, List.getElem_map]
    exact this)
  have HBD := hid (bad_good Q L caps v cv A m w hn hcn sh hs S I hc hb0)
  have HCM := hid (fun W (h : Below w.heap.size w W) => cmods_any Q roots v rv A m W (by omega) hrn (S.below h) (I.below h).es (hr.below h))
  have hcg : (codeE (nonE Q roots) roots.length, fstE (nonE Q roots) roots.length) = chkG Q L roots := (chkG_ok k0).symm
  have HZ0 := hid (show codeE (nonE Q roots) roots.length = 0 by
    have h := congrArg Prod.fst hcg
    exact h.trans hg0)
  have HES := hid (fun W (h : Below w.heap.size w W) => (I.below h).es)
  have HMS := hid (fun W (h : Below w.heap.size w W) => hr.below h)
  have HBL := hid (show (bdL Q L caps).length = Q.length by rw [bdL_len, I.ln])
  have HTL := hid (show toL Q L roots caps = selO (kpN (univ L) (bdL Q L caps) roots) (univ L) from rfl)
  obtain ⟨a, c, hv, -⟩ := id I.es
  subst hv
  obtain ⟨ra, rc, hrv, -⟩ := id hr
  subst hrv
  obtain ⟨ca, cn, cc, hcv⟩ := hc.slice
  subst hcv
  clear S I hr hc sh hs h0 k0 k1 hb0 hg0 hcg hn
  generalize toL Q L roots caps = TL at *
  generalize bdL Q L caps = BL at *
  refine (callsIn_wide (n := 8)).1 ?_
  refine callsIn_of_wp_marks Tryz.func10 rfl trivial ?_ rfl
  simp only [Tryz.ntmps10, List.size_toArray, List.length_cons, List.length_nil, Nat.reduceAdd, Nat.reduceSub, Array.replicate_succ, Array.replicate_zero, List.push_toArray, List.append_toArray, List.nil_append, List.cons_append]
  gi_wp2_with (refine ⟨trivial, ?_⟩; gi_at_call 19; refine (callsIn_wide.2 HBD.out).mono ?_; rintro e w1 ⟨gB, rfl, hM1⟩; rw [HBL.out])
  have HA2 := hid ((Below.refl w1.heap.size w1).alloc (Nat.le_refl _) (.cells #[.slice (some ⟨gB, 0, none⟩) Q.length Q.length] 44))
  have HN2 := hid (heap_new w1 (.cells #[.slice (some ⟨gB, 0, none⟩) Q.length Q.length] 44))
  have HM2 := hid (hM1.below HA2.out)
  have hz12 : (w1.alloc (.cells #[.slice (some ⟨gB, 0, none⟩) Q.length Q.length] 44)).heap.size = w1.heap.size + 1 := by simp
  generalize hw2 : w1.alloc (.cells #[.slice (some ⟨gB, 0, none⟩) Q.length Q.length] 44) = w2 at *
  generalize hbB : w1.heap.size = bB at *
  refine ⟨trivial, ?_⟩
  refine (callsIn_wide.2 (HCM.out w2 HM2.out.bl)).mono ?_
  rintro e w3 ⟨x3, rfl, he, hb3⟩
  rcases he.kind with ⟨-, rfl⟩ | ⟨h, -⟩
  rotate_left
  · exact absurd HZ0.out h
  have HM3 := hid (HM2.out.below hb3)
  have HN3 := hid ((hb3.block _ (lt_of_blk HN2.out)).trans HN2.out)
  have hmk := fun W => make_bools Q.length W (by omega)
  clear he hb3 HM2 HN2 HA2 hM1 HBD HCM hw2 hz12 hbB
  gi_wp2
  clear hmk
  obtain ⟨tb, htb⟩ : ∃ tb, w3.heap.size = tb := ⟨_, rfl⟩
  have hB5 : Below w3.heap.size w3 ((w3.alloc (.cells (bwc (List.replicate Q.length false)) 4)).alloc (.cells #[.slice (some ⟨w3.heap.size, 0, none⟩) Q.length Q.length] 44)) := ((Below.refl w3.heap.size w3).alloc (Nat.le_refl _) _).alloc (by simp) _
  have hT5 := heap_old (w3.alloc (.cells (bwc (List.replicate Q.length false)) 4)) (.cells #[.slice (some ⟨w3.heap.size, 0, none⟩) Q.length Q.length] 44) (heap_new w3 (.cells (bwc (List.replicate Q.length false)) 4))
  have hX5 := heap_new (w3.alloc (.cells (bwc (List.replicate Q.length false)) 4)) (.cells #[.slice (some ⟨w3.heap.size, 0, none⟩) Q.length Q.length] 44)
  have hz3 : (w3.alloc (.cells (bwc (List.replicate Q.length false)) 4)).heap.size = w3.heap.size + 1 := by simp
  have hz5 : ((w3.alloc (.cells (bwc (List.replicate Q.length false)) 4)).alloc (.cells #[.slice (some ⟨w3.heap.size, 0, none⟩) Q.length Q.length] 44)).heap.size = w3.heap.size + 1 + 1 := by simp
  rw [hz3] at hX5
  generalize (w3.alloc (.cells (bwc (List.replicate Q.length false)) 4)).alloc (.cells #[.slice (some ⟨w3.heap.size, 0, none⟩) Q.length Q.length] 44) = w5 at *
  have HM5 := hid (HM3.out.below hB5)
  have HN5 := hid ((hB5.block _ (lt_of_blk HN3.out)).trans HN3.out)
  have hgB := lt_of_blk HM3.out.hp
  have hbB := lt_of_blk HN3.out
  have hwB := HM3.out.bl.size
  rw [htb] at hT5 hX5 hz5 hgB hbB hwB ⊢
  have HT5 := hid hT5
  have HX5 := hid hX5
  have HTS := hid (show Ts w5 w5 tb (kpN (univ L) BL (roots.take 0)) [] from ⟨Kx.refl _ _ _, by rw [List.take_zero, kpN_zero, HUL.out]; exact HT5.out, List.nodup_nil, fun D hD => by cases hD⟩)
  have HBW := hid (fun W T ds (h : Ts w5 W tb T ds) => show Below w.heap.size w W from ⟨h.kx.os.trans HM5.out.bl.os, h.kx.tape.trans HM5.out.bl.tape, h.kx.output.trans HM5.out.bl.output, Nat.le_trans HM5.out.bl.size h.kx.size, fun b hb => (h.kx.block b (by omega) (by omega)).trans (HM5.out.bl.block b hb)⟩)
  clear hB5 hT5 hX5 hz3 htb HM3 HN3
  refine wpIn_loop (fun a' W => ∃ (k : Nat) (ds : List Nat) (u13 u35 u36 u37 u38 u39 u40 u41 u51 : Value), (k ≤ roots.length ∧ u35 = .int .i64 (k : Int) ∧ Ts w5 W tb (kpN (univ L) BL (roots.take k)) ds) ∧ a' = { tmps := #[.slice a Q.length c, .slice ra roots.length rc, .slice ca cn cc, undef, undef, undef, .slice none 0 0, .nilIface, .pointer (some ⟨bB, 0, none⟩), .nilIface, .nilIface, .pointer (some ⟨tb + 1, 0, none⟩), undef, u13, undef, .tuple #[.slice (some ⟨gB, 0, none⟩) Q.length Q.length, .nilIface], .slice a Q.length c, .slice ca cn cc, .tuple #[.slice (some ⟨gB, 0, none⟩) Q.length Q.length, .nilIface], .slice (some ⟨gB, 0, none⟩) Q.length Q.length, .nilIface, .nilIface, .bool false, undef, .slice a Q.length c, .slice ra roots.length rc, .nilIface, .nilIface, .bool false, undef, .slice a Q.length c, .int .i64 (Q.length : Int), .slice (some ⟨tb, 0, none⟩) Q.length Q.length, .slice ra roots.length rc, .int .i64 (roots.length : Int), u35, u36, u37, u38, u39, u40, u41, undef, undef, undef, undef, undef, undef, undef, undef, undef, u51, undef, undef, undef], defers := ds.map dfr }) (fun a' _ => roots.length - (intOf (a'.tmps.getD 35 undef)).toNat) ?start ?round
  case start =>
    refine ⟨0, [], ?_⟩
    repeat apply Exists.intro
    exact ⟨⟨Nat.zero_le _, rfl, HTS.out⟩, rfl⟩
  case round =>
    rintro a' W ⟨k, ds, u13, u35, u36, u37, u38, u39, u40, u41, u51, ⟨hk, rfl, hT⟩, rfl⟩
    have hBw := HBW.out W _ ds hT
    by_cases hlt : k < roots.length
    · have hkI : (k : Int) < (roots.length : Int) := by omega
      have hk0 : (0 : Int) ≤ (k : Int) := by omega
      obtain ⟨xb, xo, hxa, yy0, yy1⟩ := (HMS.out _ hBw).cells hlt
      subst hxa
      obtain ⟨r, hr, htk, y0, y1, hrU⟩ : ∃ r : Bm, roots[k] = r ∧ roots.take (k + 1) = roots.take k ++ [r] ∧ W.cell? ⟨xb, xo + k * 2, none⟩ = some (.string r.1) ∧ W.cell? ⟨xb, xo + k * 2 + 1, none⟩ = some (.string r.2) ∧ r ∈ univ L := ⟨_, rfl, take_nextB hlt, yy0, yy1, HRU.out _ (List.getElem_mem hlt)⟩
      obtain ⟨kq, hkU, e1, e2⟩ := HIU.out r hrU
      have hkq : kq < Q.length := by rw [← HUL.out]; exact hkU
      have hes := HES.out _ hBw
      obtain ⟨b, o, hab⟩ : ∃ b o, a = some ⟨b, o, none⟩ := by
        obtain ⟨a', c', e, _, _, h⟩ := hes
        injection e with q1 q2 q3
        obtain ⟨b, o, h4, _⟩ := h (fun h => by rw [h] at hkq; simp at hkq)
        exact ⟨b, o, by rw [q1, h4]⟩
      subst hab
      have hbw : b < w.heap.size := lt_of_cell (es_all (HES.out w (Below.refl _ _)) hkq).2.1
      obtain ⟨p, q⟩ := r
      clear yy0 yy1 hes hr
      have HLT := hid hlt
      have HKN := hid (show bst (univ L) BL (p, q) (univ L).length < 0 → kpN (univ L) BL (roots.take (k + 1)) = kpN (univ L) BL (roots.take k) from fun h => by rw [htk]; exact kpN_none h)
      have HKS := hid (show ∀ j : Nat, bst (univ L) BL (p, q) (univ L).length = (j : Int) → kpN (univ L) BL (roots.take (k + 1)) = (kpN (univ L) BL (roots.take k)).set j true from fun j h => by rw [htk]; exact kpN_some h)
      have HKL := hid (show (kpN (univ L) BL (roots.take k)).length = Q.length by rw [kpN_len, HUL.out])
      have HTT := hid hT
      have hlu : BL.length = (univ L).length := by rw [HBL.out, HUL.out]
      have HBN := hid (show ∀ t, t ≤ kq + 1 → (∀ x, x ∈ dnL kq t → ∀ (h : x < BL.length), BL[x] = true) → (t = kq + 1 ∨ ∀ (h : kq - t < (univ L).length), (univ L)[kq - t].1 ≠ p) → bst (univ L) BL (p, q) (univ L).length < 0 from fun t ht hb he => by
        have h := bst_no HU.out hlu hkU ht hb (he.imp id (fun h h' => by rw [e2]; exact h h'))
        rw [e2] at h; exact h)
      have HBY := hid (show ∀ t, t ≤ kq → (∀ x, x ∈ dnL kq t → ∀ (h : x < BL.length), BL[x] = true) → (∀ (h : kq - t < (univ L).length), (univ L)[kq - t].1 = p) → (∀ (h : kq - t < BL.length), BL[kq - t] = false) → bst (univ L) BL (p, q) (univ L).length = ((kq - t : Nat) : Int) from fun t ht hb hp ho => by
        have h := bst_yes HU.out hlu hkU ht hb (by rw [e2]; exact hp (by omega)) (ho (by omega))
        rw [e2] at h; exact h)
      have HPU := hid (fun j (h : j < Q.length) (h' : j < (univ L).length) => show Q[j].1.1 = (univ L)[j].1 from congrArg Prod.fst (HUM.out j h h'))
      clear hT hlt htk hlu e2
      generalize kpN (univ L) BL (roots.take k) = T at *
      have hA1 := (Below.refl W.heap.size W).alloc (Nat.le_refl _) (.cells #[.string p, .string q] 36)
      have HA1 := hid hA1
      clear hA1
      gi_wp2
      refine ⟨trivial, ?_⟩
      refine (callsIn_wide.2 (fid_any (some ⟨b, o, none⟩) Q.length c p q _)).mono ?_
      rintro e W' ⟨rfl, rfl⟩
      have hz1 : (W.alloc (.cells #[.string p, .string q] 36)).heap.size = W.heap.size + 1 := by simp
      have hB0 : Below W.heap.size W (((W.alloc (.cells #[.string p, .string q] 36)).alloc (.cells #[.slice (some ⟨b, o, none⟩) Q.length c] 22)).alloc (.cells #[.string p, .string q] 36)) := (HA1.out.alloc HA1.out.size _).alloc (by simp; omega) _
      have s1 := heap_old ((W.alloc (.cells #[.string p, .string q] 36)).alloc (.cells #[.slice (some ⟨b, o, none⟩) Q.length c] 22)) (.cells #[.string p, .string q] 36) (heap_new (W.alloc (.cells #[.string p, .string q] 36)) (.cells #[.slice (some ⟨b, o, none⟩) Q.length c] 22))
      have s2 := heap_new ((W.alloc (.cells #[.string p, .string q] 36)).alloc (.cells #[.slice (some ⟨b, o, none⟩) Q.length c] 22)) (.cells #[.string p, .string q] 36)
      have hz2 : ((W.alloc (.cells #[.string p, .string q] 36)).alloc (.cells #[.slice (some ⟨b, o, none⟩) Q.length c] 22)).heap.size = W.heap.size + 1 + 1 := by simp
      have hz0 : (((W.alloc (.cells #[.string p, .string q] 36)).alloc (.cells #[.slice (some ⟨b, o, none⟩) Q.length c] 22)).alloc (.cells #[.string p, .string q] 36)).heap.size = W.heap.size + 1 + 1 + 1 := by simp
      rw [hz1] at s1
      rw [hz2] at s2
      rw [hz1]
      have HB0 := hid hB0
      have HS1 := hid s1
      have HS2 := hid s2
      have HZ := hid hz0
      clear hB0 s1 s2 hz0 hz1 hz2 y0 y1 HA1
      generalize ((W.alloc (.cells #[.string p, .string q] 36)).alloc (.cells #[.slice (some ⟨b, o, none⟩) Q.length c] 22)).alloc (.cells #[.string p, .string q] 36) = W0 at *
      gi_wp2
      have hz0 := HZ.out
      have hw5 := HTT.out.kx.size
      have htbl : tb < W0.heap.size := by omega
      have hes0 := HES.out W0 (hBw.trans (HB0.out.mono hBw.size))
      refine wpIn_rangeFunc_ownG rfl (by omega) (gf := 50) (lb := #[.pointer (some ⟨W.heap.size + 1, 0, none⟩), .pointer (some ⟨W.heap.size + 1 + 1, 0, none⟩)]) rfl trivial (enters_of Tryz.func50 (by kernel_rfl) rfl)
        (encs := encX (n := Q.length)) (Kp := Kx W0.heap.size (fun b => b = tb)) (S := fun ys => ∃ t, t ≤ kq + 1 ∧ atX ys = dnL kq t ∧ (t = kq + 1 ∨ ∀ (h : kq - t < Q.length), Q[kq - t].1.1 ≠ p)) (Sp := fun pre => ∃ t, t ≤ kq ∧ atX pre = dnL kq (t + 1) ∧ ∀ (h : kq - t < Q.length), Q[kq - t].1.1 = p) (N := Q.length) (w0 := W0)
        (fun l J Jx W' hW hJ _ hY h0 => fid1_in _ (by omega) l (W.heap.size + 1) (W.heap.size + 1 + 1) W0.heap.size b o c Q (p, q) kq (by omega) e1 (fun b => b = tb) J Jx (fun s A B hs hb => hJ s A B none hs (gr_of_below hb) (fun r e => by cases e)) hY W' hW.size (cell_below hW (by rw [Lib.cell_of_heap HS1.out]; rfl)) (cell_below hW (by rw [Lib.cell_of_heap HS2.out]; rfl)) (cell_below hW (by rw [Lib.cell_of_heap HS2.out]; rfl)) (hes0.below hW) (by omega) (by omega) (by omega) (by omega) (by omega) (by omega) h0)
        (fun h k => h.trans k) (fun W l o o' hl _ _ _ => Kx.put W l o' hl) (Below.refl _ _) (fun _ => rfl)
        (fun pre W1 => ∃ T', Tr W0 W1 tb T' ∧ (T' = T ∧ ∀ x, x ∈ atX pre → ∀ (h : x < BL.length), BL[x] = true))
        (fun cd pre W1 => ∃ T', Tr W0 W1 tb T' ∧ (cd = .exit 2 ∧ ∃ (qs : List (Px Q.length)) (x : Px Q.length), pre = qs ++ [x] ∧ (∀ y, y ∈ atX qs → ∀ (h : y < BL.length), BL[y] = true) ∧ (∀ (h : x.1 < BL.length), BL[x.1] = false) ∧ T' = T.set x.1 true))
        (Tr.own htbl _) (fun cd => Tr.own htbl _)
        ⟨T, ⟨Kx.refl _ _ _, (HB0.out.block _ (lt_of_blk HTT.out.mr)).trans HTT.out.mr⟩, rfl, fun x hx => by cases hx⟩
        (fun x => { tmps := #[.slice (some ⟨b, o, none⟩) Q.length c, .slice (some ⟨xb, xo, none⟩) roots.length rc, .slice ca cn cc, undef, undef, undef, .slice none 0 0, .nilIface, .pointer (some ⟨bB, 0, none⟩), .nilIface, .nilIface, .pointer (some ⟨tb + 1, 0, none⟩), undef, .pointer (some ⟨W.heap.size, 0, none⟩), .int .i64 (x.1 : Int), .tuple #[.slice (some ⟨gB, 0, none⟩) Q.length Q.length, .nilIface], .slice (some ⟨b, o, none⟩) Q.length c, .slice ca cn cc, .tuple #[.slice (some ⟨gB, 0, none⟩) Q.length Q.length, .nilIface], .slice (some ⟨gB, 0, none⟩) Q.length Q.length, .nilIface, .nilIface, .bool false, undef, .slice (some ⟨b, o, none⟩) Q.length c, .slice (some ⟨xb, xo, none⟩) roots.length rc, .nilIface, .nilIface, .bool false, undef, .slice (some ⟨b, o, none⟩) Q.length c, .int .i64 (Q.length : Int), .slice (some ⟨tb, 0, none⟩) Q.length Q.length, .slice (some ⟨xb, xo, none⟩) roots.length rc, .int .i64 (roots.length : Int), .int .i64 (k : Int), .bool true, .pointer (some ⟨xb, xo + k * 2, none⟩), .agg #[.string p, .string q], .slice (some ⟨b, o, none⟩) Q.length c, .agg #[.string p, .string q], .func (.func 50) #[] #[.pointer (some ⟨W.heap.size + 1, 0, none⟩), .pointer (some ⟨W.heap.size + 1 + 1, 0, none⟩)], .int .i64 (x.1 : Int), undef, undef, undef, undef, undef, undef, undef, undef, u51, undef, undef, undef], defers := [] }) ?assign ?body ?done ?stop
      case assign =>
        intro l x W1 K hK
        unfold encX
        gi_wp2
        exact hK
      case body =>
        rintro l pre x W1 ⟨T', hTr, rfl, hbd⟩ _
        obtain ⟨j, hj⟩ := x
        have hjB : j < BL.length := by rw [HBL.out]; exact hj
        have hjT : j < T'.length := by rw [HKL.out]; exact hj
        have hjI : (j : Int) < (Q.length : Int) := by omega
        have hj0 : (0 : Int) ≤ (j : Int) := by omega
        have k5 : Kx w5.heap.size (fun b => b = tb) w5 W1 := (HTT.out.kx.trans (Kx.below HB0.out HTT.out.kx.size)).trans (hTr.kx.less (by omega) (fun _ _ e => e))
        have c8 := k5.cell (a := ⟨bB, 0, none⟩) (by rw [Lib.cell_of_heap HN5.out]; rfl) (by show bB < w5.heap.size; omega) (by show ¬ bB = tb; omega)
        have cB := k5.cell (a := ⟨gB, j, none⟩) (bwc_at HM5.out.hp hjB) (by show gB < w5.heap.size; omega) (by show ¬ gB = tb; omega)
        have c11 := k5.cell (a := ⟨tb + 1, 0, none⟩) (by rw [Lib.cell_of_heap HX5.out]; rfl) (by show tb + 1 < w5.heap.size; omega) (by show ¬ tb + 1 = tb; omega)
        have cT := bwc_at hTr.mr hjT
        have cf := fun o => Lib.frozen_of_heap hTr.mr o
        have HTr := hid hTr
        have HBD := hid hbd
        cases hbj : BL[j] with
        | true =>
          rw [hbj] at cB
          have HBJ := hid hbj
          clear hbj hTr hbd k5
          gi_wp2
          exact ⟨KeepsFrom.refl _ _, Kx.refl _ _ _, T', HTr.out, rfl, fun y hy h => by
            rw [atX_app] at hy
            rcases List.mem_append.1 hy with h1 | h1
            · exact HBD.out y h1 h
            · have := List.mem_singleton.1 h1
              subst this; exact HBJ.out⟩
        | false =>
          rw [hbj] at cB
          have HBJ := hid hbj
          clear hbj hTr hbd k5
          gi_wp2
          exact ⟨(KeepsOthers.setCell _ _ _).from _, _, ⟨HTr.out.kx.trans (Kx.set W1 _ rfl), by rw [set_block HTr.out.mr, bwc_put]⟩, rfl, pre, ⟨j, hj⟩, rfl, HBD.out, fun _ => HBJ.out, rfl⟩
      case done =>
        rintro D ys W1 hD ⟨t, ht, hat, hend⟩ ⟨T', hTr, rfl, hbd⟩ hK
        have hkn := HKN.out (HBN.out t ht (fun x hx h => hbd x (by rw [hat]; exact hx) h) (hend.imp id (fun h h' => by rw [← HPU.out (kq - t) (by rw [← HUL.out]; exact h') h']; exact h _)))
        have HNX := hid (show Ts w5 W1 tb (kpN (univ L) BL (roots.take (k + 1))) (D :: ds) by rw [hkn]; exact HTT.out.next HB0.out hTr hD hK (by omega))
        clear hkn hTr hbd hend hat hK
        gi_wp2
        refine ⟨?_, ?_⟩
        · refine ⟨k + 1, D :: ds, ?_⟩
          repeat apply Exists.intro
          refine ⟨?rel, rfl⟩
          first | exact ⟨HLT.out, nr_idx k, HNX.out⟩ | exact ⟨HLT.out, nx_idx HLT.out hrn, HNX.out⟩
        · first | exact nr_meas HLT.out | exact nx_meas HLT.out hrn
      case stop =>
        rintro D cd pre W1 hD ⟨t, ht, hat, hpt⟩ ⟨T', hTr, rfl, qs, x, hpre, hq, hx, hT'⟩ hK
        subst hpre
        subst hT'
        rw [atX_app] at hat
        obtain ⟨ha1, ha2⟩ := List.append_inj' (show atX qs ++ [x.1] = dnL kq t ++ [kq - t] from hat) rfl
        have hx1 : x.1 = kq - t := by simpa using ha2
        have hks := HKS.out x.1 (by rw [hx1]; exact HBY.out t ht (fun y hy h => hq y (by rw [ha1]; exact hy) h) (fun h => by rw [← HPU.out (kq - t) (by rw [← HUL.out]; exact h) h]; exact hpt _) (fun h => by have := hx (by rw [hx1]; exact h); simp only [hx1] at this; exact this))
        have HNX := hid (show Ts w5 W1 tb (kpN (univ L) BL (roots.take (k + 1))) (D :: ds) by rw [hks]; exact HTT.out.next HB0.out hTr hD hK (by omega))
        clear hks hTr hq hx hat ha1 ha2 hpt hK hx1
        gi_wp2
        refine ⟨?_, ?_⟩
        · refine ⟨k + 1, D :: ds, ?_⟩
          repeat apply Exists.intro
          refine ⟨?rel2, rfl⟩
          first | exact ⟨HLT.out, nr_idx k, HNX.out⟩ | exact ⟨HLT.out, nx_idx HLT.out hrn, HNX.out⟩
        · first | exact nr_meas HLT.out | exact nx_meas HLT.out hrn
    · have hke : k = roots.length := by omega
      have hkI : ¬ (k : Int) < (roots.length : Int) := by omega
      rw [List.take_of_length_le (show roots.length ≤ k by omega)] at hT
      have HTT := hid hT
      have c11 := hT.kx.cell (a := ⟨tb + 1, 0, none⟩) (by rw [Lib.cell_of_heap HX5.out]; rfl) (by show tb + 1 < w5.heap.size; omega) (by show ¬ tb + 1 = tb; omega)
      have HMD := hid (marked_any Q (kpN (univ L) BL roots) (.slice a Q.length c) tb Q.length W hqn (by rw [kpN_len, HUL.out]) (HES.out _ hBw) hT.mr)
      rw [HQU.out, ← HTL.out] at HMD
      have HBQ := hid hBw
      clear hT hke hlt hBw
      gi_wp2
      refine ⟨trivial, ?_⟩
      refine (callsIn_wide.2 HMD.out).mono ?_
      rintro e W7 ⟨u, rfl, ho, hb⟩
      have HO := hid (own_base ho HBQ.out.size)
      have HB7 := hid (HBQ.out.trans (hb.mono HBQ.out.size))
      have HDF := hid (fun D (hD : D ∈ ds) => show w5.heap.size ≤ D ∧ W7.heap[D]? = some (.deferred (some [])) from ⟨(HTT.out.df D hD).1, (hb.block _ (lt_of_blk (HTT.out.df D hD).2)).trans (HTT.out.df D hD).2⟩)
      obtain ⟨ua, un, uc, hu⟩ := own_sl ho
      subst hu
      clear ho hb
      gi_wp2
      refine leaves_dfr (fun W' => W'.ownsRow w.heap.size 36 2 (.slice ua un uc) TL.length (flatM TL) ∧ Below w.heap.size w W') w5.heap.size ?own ?fin ds W7 HTT.out.nd HDF.out ⟨HO.out, HB7.out⟩
      case own =>
        rintro _ X Y row ⟨h1, h2⟩ hg hrow
        refine ⟨h1.kept hg ?_, h2.grown hg h2.size (fun k e => by have := (hrow k e).1; omega)⟩
        rcases h1.2 with ⟨e, _⟩ | ⟨g, cap, cur, e, _, hgb, _⟩
        · exact .inl (by rw [e]; rfl)
        · refine .inr fun e' => ?_
          rw [e] at e'
          obtain ⟨_, o, ho, hc⟩ := hrow g (by simpa [Value.ownBlock] using e'.symm)
          rw [hgb] at ho; cases ho; cases hc
      case fin =>
        rintro W' ⟨h1, h2⟩
        exact ⟨.tuple #[.slice ua un uc, .nilIface], by simp [results, Tryz.results10, go_sem], _, rfl, h1, h2⟩
set_option maxRecDepth 100000 in
set_option maxHeartbeats 2000000 in
theorem to_bad (Q : List Raw) (L : List Ent) (roots caps : List Bm) (v rv cv : Value) (A : Nat → Addr) (m : Int) (w : World) (hn : L.length ≤ 1000) (hrn : roots.length ≤ 1000000) (hcn : caps.length ≤ 1000000) (sh : ∀ e, e ∈ L → ShE e) (hs : shortL caps) (S : Te w A m) (I : Ixs w v Q L) (hr : MsAt w rv roots) (hc : MsAt w cv caps) (h0 : ¬ (tF Q L roots caps).1 = 0) :
    Calls Tryz.prog 10 #[v, rv, cv] w fun e w' => ∃ T a, e = .returned (.tuple #[.slice none 0 0, .iface T (.pointer (some a))]) ∧ ErrAt w' A (.iface T (.pointer (some a))) (tF Q L roots caps).1 (tF Q L roots caps).2 ∧ Below w.heap.size w w' := by
  by_cases hb0 : (bF Q L caps).1 = 0
  · have hbf : tF Q L roots caps = chkG Q L roots := if_pos hb0
    rw [hbf] at h0 ⊢
    obtain ⟨k0, -⟩ := bF_chk hb0
    have hcg : chkG Q L roots = (codeE (nonE Q roots) roots.length, fstE (nonE Q roots) roots.length) := chkG_ok k0
    rw [hcg] at h0 ⊢
    have HBD := hid (bad_good Q L caps v cv A m w hn hcn sh hs S I hc hb0)
    have HCM := hid (fun W (h : Below w.heap.size w W) => cmods_any Q roots v rv A m W (by rw [I.ln]; omega) hrn (S.below h) (I.below h).es (hr.below h))
    obtain ⟨a, c, hv, -⟩ := id I.es
    subst hv
    obtain ⟨ra, rn, rc, hrv⟩ := hr.slice
    subst hrv
    obtain ⟨ca, cn, cc, hcv⟩ := hc.slice
    subst hcv
    have H0 := hid h0
    clear S I hr hc sh hs h0 hbf hcg k0 hb0
    generalize codeE (nonE Q roots) roots.length = R1 at *
    generalize fstE (nonE Q roots) roots.length = R2 at *
    generalize bdL Q L caps = BL at *
    go_enter Tryz.func10, Tryz.ntmps10
    go_wp2_with fail
    refine HBD.out.mono ?_
    rintro e w1 ⟨gB, rfl, hM1⟩
    have HA2 := hid (hM1.bl.trans (((Below.refl w1.heap.size w1).alloc (Nat.le_refl _) (.cells #[.slice (some ⟨gB, 0, none⟩) BL.length BL.length] 44)).mono hM1.bl.size))
    clear hM1
    go_wp2_with fail
    refine (HCM.out _ HA2.out).mono ?_
    rintro e w3 ⟨x3, rfl, he, hb3⟩
    have HB3 := hid (HA2.out.trans (hb3.mono HA2.out.size))
    have HE := hid he
    rcases he.kind with ⟨h, -⟩ | ⟨-, T, xa, rfl⟩
    · exact absurd h H0.out
    clear he hb3
    go_wp2_with fail
    go_ret2
    exact ⟨_, _, rfl, HE.out, HB3.out⟩
  · have hbf : tF Q L roots caps = bF Q L caps := if_neg hb0
    rw [hbf]
    have HBD := hid (bad_bad Q L caps v cv A m w hn hcn sh hs S I hc hb0)
    obtain ⟨a, c, hv, -⟩ := id I.es
    subst hv
    obtain ⟨ra, rn, rc, hrv⟩ := hr.slice
    subst hrv
    obtain ⟨ca, cn, cc, hcv⟩ := hc.slice
    subst hcv
    clear S I hr hc sh hs h0 hbf hb0
    generalize bF Q L caps = R at *
    go_enter Tryz.func10, Tryz.ntmps10
    go_wp2_with fail
    refine HBD.out.mono ?_
    rintro e w1 ⟨T, xa, rfl, he, hb⟩
    have HE := hid he
    have HB1 := hid hb
    have HN1 := hid (heap_new w1 (.cells #[.slice none 0 0] 44))
    clear he hb HBD
    have HA1 := hid ((Below.refl w1.heap.size w1).alloc (Nat.le_refl _) (.cells #[.slice none 0 0] 44))
    go_wp2_with fail
    go_ret2
    exact ⟨_, _, rfl, HE.out.below HA1.out, HB1.out.trans (HA1.out.mono HB1.out.size)⟩
open Classical in
/-- What To answers. -/
noncomputable def tX (Q : List Raw) (L : List Ent) (roots caps : List Bm) : List Bm := if (tF Q L roots caps).1 = 0 then toL Q L roots caps else []
theorem tF_good {Q : List Raw} {L : List Ent} {roots caps : List Bm} (h : (tF Q L roots caps).1 = 0) : tF Q L roots caps = (0, none) := by
  obtain ⟨h1, h2⟩ := tF_ok h
  have e : tF Q L roots caps = chkG Q L roots := if_pos h1
  obtain ⟨k0, -⟩ := bF_chk h1
  rw [e, chkG_ok k0]
  rw [chkG_ok k0] at h2
  have h3 : codeE (nonE Q roots) roots.length = 0 := h2
  cases h4 : fstE (nonE Q roots) roots.length with
  | none => rw [h3]
  | some j =>
    rw [codeE_some h4] at h3
    exact absurd h3 (fstE_of_some h4).2.1
/-- down.To. -/
theorem to_all (Q : List Raw) (L : List Ent) (roots caps : List Bm) (v rv cv : Value) (A : Nat → Addr) (m : Int) (w : World) (hn : L.length ≤ 1000) (hrn : roots.length ≤ 1000000) (hcn : caps.length ≤ 1000000) (sh : ∀ e, e ∈ L → ShE e) (hs : shortL caps) (S : Te w A m) (I : Ixs w v Q L) (hr : MsAt w rv roots) (hc : MsAt w cv caps) :
    Calls Tryz.prog 10 #[v, rv, cv] w fun e w' => ∃ a c x, e = .returned (.tuple #[.slice a (tX Q L roots caps).length c, x]) ∧ Mr w w' (.slice a (tX Q L roots caps).length c) (tX Q L roots caps) ∧ ErrAt w' A x (tF Q L roots caps).1 (tF Q L roots caps).2 := by
  by_cases h : (tF Q L roots caps).1 = 0
  · have ht : tX Q L roots caps = toL Q L roots caps := if_pos h
    rw [ht]
    refine (to_good Q L roots caps v rv cv A m w hn hrn hcn sh hs S I hr hc h).mono ?_
    rintro e w' ⟨u, rfl, ho, hb⟩
    have hm := mr_own ho hb
    obtain ⟨a, c, hu⟩ := hm.sl
    subst hu
    exact ⟨a, c, _, rfl, hm, by rw [tF_good h]; rfl⟩
  · have ht : tX Q L roots caps = [] := if_neg h
    rw [ht]
    refine (to_bad Q L roots caps v rv cv A m w hn hrn hcn sh hs S I hr hc h).mono ?_
    rintro e w' ⟨T, a, rfl, he, hb⟩
    exact ⟨_, _, _, rfl, mr_nil0 hb, he⟩
end Ve
end Go.Proofs.YtjhiajeeijfkeaaGreatDoor
