
import Derived.Test.YtpafkniapacfdaaGreatDoorSs36
import Derived.Test.YtpafkniapacfdaaGreatDoorSs37
import Derived.Test.YtpafkniapacfdaaGreatDoorSs35
import Derived.Deep.RegionHeldLaw
import Derived.Deep.AppendLies
namespace Go.Proofs.YtpafkniapacfdaaGreatDoor
open Go.RowKit Go.Shelf Go.Sort
namespace Ve
theorem rdT_short {t : List UInt8} {n : Nat} (h : t.length ≤ n) (hn : n < 999999) : (rdT t).2.1.1.size < 999999 ∧ (rdT t).2.1.2.size < 999999 := by
  have h0 : ln0.1.1.size < 999999 ∧ ln0.1.2.size < 999999 := by decide
  unfold rdT
  split
  · have hd : t.dropLast.length ≤ n := by simp; omega
    have hc := cutAt_le 32 t.dropLast
    generalize cutAt 32 t.dropLast = W at *
    match W, hc with
    | [], _ => exact h0
    | [_], _ => exact h0
    | [_, _], _ => exact h0
    | [a, b, c], hc =>
      have h1 := hc a (by simp)
      have h2 := hc b (by simp)
      unfold rdW
      dsimp only
      split
      · exact ⟨by show (bt a).size < 999999; rw [← len_eq, bt_list]; omega, by show (bt b).size < 999999; rw [← len_eq, bt_list]; omega⟩
      · exact h0
    | _ :: _ :: _ :: _ :: _, _ => exact h0
  · exact h0
def lnOf (T : List (List UInt8)) : List Ln := T.map fun t => (rdT t).2
theorem lnOf_next {T : List (List UInt8)} {k : Nat} (h : k < T.length) : lnOf (T.take (k + 1)) = lnOf (T.take k) ++ [(rdT T[k]).2] := by
  unfold lnOf
  rw [List.take_succ_eq_append_getElem h, List.map_append]; rfl
theorem lnEr_bad {T : List (List UInt8)} {k : Nat} (h : k < T.length) (h1 : (rdT T[k]).1 ≠ 0) : lnEr T k = (rdT T[k]).1 := by
  unfold lnEr
  rw [List.getElem?_eq_getElem h]
  dsimp only
  rw [if_pos h1]
theorem prev_take (L : List Bm) (k : Nat) : prevOf (L.take (k + 1)) k = prevOf L k := by
  unfold prevOf
  split
  · rfl
  · rw [List.getElem?_take, if_pos (by omega)]
theorem lnEr_ok {T : List (List UInt8)} {k : Nat} (h : k < T.length) (h1 : (rdT T[k]).1 = 0) : lnEr T k = txE (lnOf (T.take k) ++ [(rdT T[k]).2]) k := by
  rw [← lnOf_next h]
  unfold lnEr txE exE lnOf
  rw [List.getElem?_eq_getElem h]
  dsimp only
  rw [if_neg (by rw [h1]; simp), List.map_map, List.map_take, List.getElem?_take, if_pos (by omega), List.getElem?_map, List.getElem?_eq_getElem h]
  show _ = exW (prevOf ((T.map fun t => (rdT t).2.1).take (k + 1)) k) (rdT T[k]).2.1
  rw [prev_take]
theorem rdX_ok {T : List (List UInt8)} (h : fstE (lnEr T) T.length = none) : rdX T = lnOf T ∧ rdF T = (0, none) := by
  have hf : rdF T = (0, none) := Prod.ext (codeE_none h) h
  exact ⟨by unfold rdX; rw [if_pos (by rw [hf])]; rfl, hf⟩
theorem rdX_bad {T : List (List UInt8)} (h : (rdF T).1 ≠ 0) : rdX T = [] := by unfold rdX; rw [if_neg h]
theorem lnOf_len (T : List (List UInt8)) : (lnOf T).length = T.length := by unfold lnOf; rw [List.length_map]
theorem lnOf_short {T : List (List UInt8)} (h : ∀ t, t ∈ T → t.length ≤ 500000) : shortN (lnOf T) := by
  intro x hx
  unfold lnOf at hx
  obtain ⟨t, ht, rfl⟩ := List.mem_map.1 hx
  exact rdT_short (h t ht) (by decide)
theorem ownStr_cells {w : World} {g B : Nat} {T : List (List UInt8)} {cs : Array Value} (hct : cs.toList.take (T.length * 1) = T.map encStr) (hb : w.heap[g]? = some (.cells cs B (0, 0))) (j : Nat) (h : j < (T.map bt).length) : w.cell? ⟨g, j, none⟩ = some (.string (T.map bt)[j]) := by
  have hj : j < T.length := by simpa using h
  have h1 : (cs.toList.take (T.length * 1))[j]? = (T.map encStr)[j]? := by rw [hct]
  rw [List.getElem?_take, if_pos (by omega), List.getElem?_map, List.getElem?_eq_getElem hj] at h1
  simp only [World.cell?, hb]
  rw [← Array.getElem?_toList, h1]
  simp [encStr, bt]
set_option maxRecDepth 100000 in
set_option maxHeartbeats 2000000 in
theorem rfirst_any (T : List (List UInt8)) (A : Nat → Addr) (m : Int) (w W : World) (v : Value) (hT : T.length ≤ 500000) (hsz : ∀ t, t ∈ T → t.length ≤ 500000) (S : Te w A m) (R : Rg w) (HB : Below w.heap.size w W)
    (hbx : W.heap[w.heap.size]? = some (.cells #[.slice none 0 0] 34 (0, 0))) (hv : W.ownsRow (w.heap.size + 2) 9 1 v T.length (T.map encStr)) :
    Calls Tryz.prog 39 #[v, .func (.func 42) #[] #[.pointer (some ⟨w.heap.size, 0, none⟩)]] W fun e w' => ∃ y, e = .returned y ∧ ErrAt w' A y (rdF T).1 (rdF T).2 ∧ Below w.heap.size w w' ∧ ((rdF T).2 = none → ∃ u, w'.heap[w.heap.size]? = some (.cells #[u] 34 (0, 0)) ∧ w'.ownsRow w.heap.size 44 3 u (lnOf T).length (flatN .u32 (lnOf T))) := by
  obtain ⟨_, ⟨rfl, h0⟩ | ⟨g, cap, cur, rfl, hg, hblk, hcap, hcm, hcs, hct⟩⟩ := hv
  · have hT0 : T = [] := List.length_eq_zero_iff.1 h0
    subst hT0
    refine (firstT_none 42 #[.pointer (some ⟨w.heap.size, 0, none⟩)] none 0 W).mono ?_
    rintro e w' ⟨rfl, rfl⟩
    exact ⟨_, rfl, rfl, HB, fun _ => ⟨_, hbx, ⟨rfl, Or.inl ⟨rfl, rfl⟩⟩⟩⟩
  · have hXL : (T.map bt).length = T.length := by rw [List.length_map]
    have H0 : RdL w W w.heap.size g cur (.slice none 0 0) (lnOf (T.take 0)) := ⟨hbx, hblk, ⟨rfl, Or.inl ⟨rfl, rfl⟩⟩, HB⟩
    have HS := hid S
    have HR := hid R
    have HSH := hid (lnOf_short hsz)
    have hsz2 : ∀ (k : Nat) (h : k < T.length), (bt T[k]).size ≤ 1000000 ∧ (bt T[k]).data.toList = T[k] := fun k h => by
      have := hsz T[k] (List.getElem_mem h)
      exact ⟨by rw [← len_eq, bt_list]; omega, bt_list _⟩
    rw [show T.length = (T.map bt).length from hXL.symm]
    refine (first_txts 42 #[.pointer (some ⟨w.heap.size, 0, none⟩)] (lnEr T) (T.map bt) g cap (fun k V => ∃ v, RdL w V w.heap.size g cur v (lnOf (T.take k))) (Below w.heap.size w) A W (enters_of Tryz.func42 (by kernel_rfl) rfl) (by omega)
      (fun k V ⟨u, hu⟩ j h => ownStr_cells hct hu.tx j h) (fun k V ⟨u, hu⟩ => hu.bl) (fun V o h => h.alloc h.size o) ⟨_, H0⟩ ?_).mono ?_
    · rintro k hk V ⟨u, HI⟩
      have hk' : k < T.length := by omega
      rw [show (T.map bt)[k] = bt T[k] by simp]
      obtain ⟨hz1, hz2⟩ := hsz2 k hk'
      by_cases h1 : (rdT T[k]).1 = 0
      · have h2 := rdK_ok (bt T[k]) w V w.heap.size g cur u (lnOf (T.take k)) A m hz1 (by rw [lnOf_len, List.length_take]; omega) HS.out HR.out (Nat.le_refl _) (by omega) HI
          (by rw [hz2, ← lnOf_next hk']; intro x hx; exact HSH.out x (by unfold lnOf at hx ⊢; rw [List.map_take] at hx; exact List.mem_of_mem_take hx)) (by rw [hz2]; exact h1)
        rw [hz2, lnOf_len, List.length_take, Nat.min_eq_left (by omega), ← lnEr_ok hk' h1, ← lnOf_next hk'] at h2
        refine h2.mono ?_
        rintro e V' ⟨rfl, u', hu'⟩
        exact ⟨rfl, fun _ => ⟨u', hu'⟩, hu'.bl⟩
      · have h2 := rdK_bad k (bt T[k]) w V w.heap.size g cur u (lnOf (T.take k)) A m hz1 HS.out HR.out HI (by rw [hz2]; exact h1)
        rw [hz2] at h2
        rw [lnEr_bad hk' h1]
        refine h2.mono ?_
        rintro e V' ⟨rfl, hb⟩
        exact ⟨rfl, fun h => absurd h h1, hb⟩
    · rintro e V ⟨y, rfl, hy, hI, hJ⟩
      rw [hXL] at hy hI
      refine ⟨y, rfl, hy, hJ, fun h => ?_⟩
      obtain ⟨u, hu⟩ := hI h
      rw [List.take_length] at hu
      exact ⟨u, hu.bx, hu.ow⟩
set_option maxRecDepth 100000 in
set_option maxHeartbeats 2000000 in
theorem sread_any (s : ByteArray) (A : Nat → Addr) (m : Int) (w : World) (hs : s.size ≤ 500000) (S : Te w A m) (R : Rg w) :
    Calls Tryz.prog 14 #[.string s] w fun e w' => ∃ v y, e = .returned (.tuple #[v, y]) ∧ w'.ownsRow w.heap.size 44 3 v (rdX (linesL s.data.toList)).length (flatN .u32 (rdX (linesL s.data.toList))) ∧ ErrAt w' A y (rdF (linesL s.data.toList)).1 (rdF (linesL s.data.toList)).2 ∧ Below w.heap.size w w' := by
  have HB0 := hid ((Below.refl w.heap.size w).alloc (Nat.le_refl _) (.cells #[.slice none 0 0] 34))
  have HBs := hid ((HB0.out).alloc (show w.heap.size ≤ (w.alloc (.cells #[.slice none 0 0] 34)).heap.size by simp) (.cells #[.string s] 9))
  have HSZ := hid (fun t ht => lines_sz s.data.toList t ht)
  have HLE := hid (lines_len s.data.toList)
  rw [len_eq] at HSZ HLE
  have hz1 : (w.alloc (.cells #[.slice none 0 0] 34)).heap.size = w.heap.size + 1 := by simp
  have HCO := hid (col_any (w.heap.size + 1) s (by omega) ((w.alloc (.cells #[.slice none 0 0] 34)).alloc (.cells #[.string s] 9)) (by rw [← hz1]; exact heap_alloc_new _ _))
  obtain ⟨T, hT⟩ : ∃ T, T = linesL s.data.toList := ⟨_, rfl⟩
  rw [← hT] at HSZ HLE HCO ⊢
  clear hT
  have HBX := hid (show ((w.alloc (.cells #[.slice none 0 0] 34)).alloc (.cells #[.string s] 9)).heap[w.heap.size]? = some (.cells #[.slice none 0 0] 34 (0, 0)) by
    rw [((Below.refl _ (w.alloc (.cells #[.slice none 0 0] 34))).alloc (Nat.le_refl _) (.cells #[.string s] 9)).block _ (by rw [hz1]; omega)]
    exact heap_alloc_new _ _)
  have HZ2 := hid (show ((w.alloc (.cells #[.slice none 0 0] 34)).alloc (.cells #[.string s] 9)).heap.size = w.heap.size + 2 by simp)
  have HF := hid (fun (W : World) (v : Value) (hB : Below w.heap.size w W) hbx hv => rfirst_any T A m w W v (by have := HLE.out; omega) (fun t ht => by have := HSZ.out t ht; omega) S R hB hbx hv)
  have HOK := hid (show (rdF T).2 = none → rdX T = lnOf T from fun h => (rdX_ok h).1)
  have HBD := hid (rdX_bad (T := T))
  generalize rdF T = r at *
  generalize rdX T = X at *
  generalize lnOf T = Y at *
  obtain ⟨c, o⟩ := r
  dsimp only at HF HOK HBD ⊢
  clear S R
  go_enter Tryz.func14, Tryz.ntmps14
  go_wp2_with fail
  refine (slines_any s _).mono ?_
  rintro e w1 ⟨rfl, rfl⟩
  rw [hz1]
  clear hz1
  go_wp2_with fail
  refine HCO.out.mono ?_
  rintro e w2 ⟨v, rfl, hv, hb⟩
  have HF2 := hid (HF.out w2 v (HBs.out.trans (hb.mono (by omega))) ((hb.block _ (by omega)).trans HBX.out) (by rw [← HZ2.out]; exact hv))
  clear hv hb
  by_cases hc : c = 0
  · subst hc
    go_wp2_with fail
    refine HF2.out.mono ?_
    rintro e w3 ⟨y, rfl, hy, hb, hx⟩
    obtain rfl := errAt_nilS hy
    have ho : o = none := by
      cases o with
      | none => rfl
      | some i => exact absurd rfl hy.1
    obtain ⟨u, hbx, how⟩ := hx ho
    have HXY := hid (HOK.out ho)
    have HOW := hid how
    have HB3 := hid hb
    have HO := hid ho
    have cbx : w3.cell? ⟨w.heap.size, 0, none⟩ = some u := by rw [Lib.cell_of_heap hbx]; rfl
    clear hy hb hx ho how hbx
    go_wp2_with fail
    go_ret2
    exact ⟨_, _, rfl, by rw [HXY.out]; exact HOW.out, by rw [HO.out]; exact rfl, HB3.out⟩
  · have HC := hid hc
    have HXN := hid (HBD.out hc)
    clear hc
    go_wp2_with fail
    refine HF2.out.mono ?_
    rintro e w3 ⟨y, rfl, hy, hb, -⟩
    obtain ⟨T', a', rfl⟩ := errAt_ifaceS hy HC.out
    have HY := hid hy
    have HB3 := hid hb
    clear hy hb
    go_wp2_with fail
    go_ret2
    exact ⟨_, _, rfl, by rw [HXN.out]; exact ⟨rfl, Or.inl ⟨rfl, rfl⟩⟩, HY.out, HB3.out⟩
end Ve
end Go.Proofs.YtpafkniapacfdaaGreatDoor


namespace Go.Proofs.YtpafkniapacfdaaGreatDoor
open Go.RowKit Go.Maps
namespace Ve
end Ve
end Go.Proofs.YtpafkniapacfdaaGreatDoor


namespace Go.Proofs.YtpafkniapacfdaaGreatDoor
open Go.RowKit
namespace Ve
theorem infoGLine : (Tryz.prog.info? 51).map (fun i => (i.zero, i.size, i.bytes)) = some (some (.agg #[.string ⟨#[]⟩, .string ⟨#[]⟩, .int .i64 0]), 3, 40) := by kernel_rfl
structure Fb (w W : World) (fb : Nat) (c a : Int) : Prop where
  bl : Below w.heap.size w W
  e : W.heap[w.heap.size]? = some (.cells #[.int .i64 0, .int .i64 0] 47 (0, 0))
  f : W.heap[fb]? = some (.cells #[.int .i64 c, .int .i64 a] 47 (0, 0))
  ge : w.heap.size + 1 ≤ fb
theorem Fb.below {w W W' : World} {fb : Nat} {c a : Int} (h : Fb w W fb c a) (hb : Below W.heap.size W W') : Fb w W' fb c a :=
  ⟨h.bl.trans (hb.mono h.bl.size), (hb.block _ (lt_of_blk h.e)).trans h.e, (hb.block _ (lt_of_blk h.f)).trans h.f, h.ge⟩
theorem heap_oldS (w : World) (o : Obj) {b : Nat} {x : Obj} (h : w.heap[b]? = some x) : (w.alloc o).heap[b]? = some x := by
  rw [((Below.refl w.heap.size w).alloc (Nat.le_refl _) o).block b (lt_of_blk h)]; exact h
theorem Fb.start {w W : World} {c a : Int} (hb : Below (w.heap.size + 1) (w.alloc (.cells #[.int .i64 0, .int .i64 0] 47)) W) : Fb w (W.alloc (.cells #[.int .i64 c, .int .i64 a] 47)) W.heap.size c a := by
  have b0 := ((Below.refl w.heap.size w).alloc (Nat.le_refl _) (.cells #[.int .i64 0, .int .i64 0] 47))
  have hs : w.heap.size + 1 ≤ W.heap.size := by have := hb.size; simpa using this
  have b2 := b0.trans (hb.mono (Nat.le_add_right _ 1))
  have e1 := (hb.block w.heap.size (by omega)).trans (heap_alloc_new w (.cells #[.int .i64 0, .int .i64 0] 47))
  exact ⟨b2.alloc b2.size _, heap_oldS _ _ e1, heap_alloc_new _ _, hs⟩
theorem keep_setS {W : World} {fb o b : Nat} {x : Value} {ob : Obj} (h : W.heap[b]? = some ob) (hne : b ≠ fb) : (W.setCell ⟨fb, o, none⟩ x).heap[b]? = some ob := by
  rw [Below.heap_setCell _ _ _ _ hne]; exact h
theorem set_blockS {W : World} {fb o : Nat} {cs : Array Value} {T : TypeId} {x : Value} (h : W.heap[fb]? = some (.cells cs T (0, 0))) : (W.setCell ⟨fb, o, none⟩ x).heap[fb]? = some (.cells (cs.setIfInBounds o x) T (0, 0)) := by
  simp [World.setCell, Array.getElem?_modify, h]
theorem put2S_below {W w : World} {B b : Nat} {x y : Value} (h : Below B w W) (hb : B ≤ b) : Below B w ((W.setCell ⟨b, 0, none⟩ x).setCell ⟨b, 1, none⟩ y) :=
  (h.setCell (p := ⟨b, 0, none⟩) hb _).setCell (p := ⟨b, 1, none⟩) hb _
theorem Fb.set {w W : World} {fb : Nat} {c a x y : Int} (h : Fb w W fb c a) : Fb w ((W.setCell ⟨fb, 0, none⟩ (.int .i64 x)).setCell ⟨fb, 1, none⟩ (.int .i64 y)) fb x y := by
  have g := h.ge
  refine ⟨put2S_below h.bl (by omega), ?_, ?_, h.ge⟩
  · exact keep_setS (keep_setS h.e (by omega)) (by omega)
  · rw [set_blockS (set_blockS h.f)]; rfl
theorem Fb.cells {w W : World} {fb : Nat} {c a : Int} (h : Fb w W fb c a) : (W.cell? ⟨w.heap.size, 0, none⟩ = some (.int .i64 0) ∧ W.cell? ⟨w.heap.size, 1, none⟩ = some (.int .i64 0) ∧ ∀ o, W.frozen? ⟨w.heap.size, o, none⟩ = false) ∧
    (W.cell? ⟨fb, 0, none⟩ = some (.int .i64 c) ∧ W.cell? ⟨fb, 1, none⟩ = some (.int .i64 a) ∧ ∀ o, W.frozen? ⟨fb, o, none⟩ = false) := ⟨box2S h.e, box2S h.f⟩
theorem chkS_fine {Q : List Raw} {L : List Ent} (h : (chk Q L).1 = 0) : chk Q L = (0, none) := by
  by_cases h1 : 100 < L.length
  · rw [chk_full h1] at h; cases h
  · cases hf : fstE (entE L) L.length with
    | some i => rw [chk_each h1 hf] at h; exact absurd h (fstE_of_some hf).2.1
    | none =>
      rw [chk_reqs h1 hf] at h ⊢
      exact Prod.ext h (codeG_fine h)
set_option maxRecDepth 100000 in
set_option maxHeartbeats 2000000 in
theorem rss_chk (Q : List Raw) (L : List Ent) (v rv : Value) (ra : Option Addr) (rn rc : Nat) (hrv : rv = .slice ra rn rc) (w : World) (hn : L.length ≤ 1000) (sh : ∀ e, e ∈ L → ShE e) (I : Ixs w v Q L) (hc : (chk Q L).1 ≠ 0) :
    Calls Tryz.prog 18 #[v, rv] w fun e w' => e = .returned (.tuple #[.slice none 0 0, faultV (chk Q L)]) ∧ Below w.heap.size w w' := by
  subst hrv
  have HB0 := hid ((Below.refl w.heap.size w).alloc (Nat.le_refl _) (.cells #[.int .i64 0, .int .i64 0] 47))
  have HIF := hid (fun W (h : Below w.heap.size w W) => iFault_any Q L v W hn sh (I.below h))
  obtain ⟨va, vc, hv1, -⟩ := id I.es
  subst hv1
  obtain ⟨cc, oo, hco⟩ : ∃ cc oo, chk Q L = (cc, oo) := ⟨_, _, rfl⟩
  rw [hco] at HIF hc ⊢
  unfold faultV at HIF ⊢
  simp only at HIF hc ⊢
  generalize atOf oo = ao at *
  have hpos : (0 : Int) < (cc : Int) := by omega
  have hne0 : ((cc : Int) == 0) = false := by rw [beq_eq_false_iff_ne]; omega
  clear I sh hco hc
  go_enter Tryz.func18, Tryz.ntmps18
  go_wp2_with fail
  refine (HIF.out _ HB0.out).mono ?_
  rintro e w1 ⟨rfl, hb⟩
  have HP1 := hid (Fb.start (c := (cc : Int)) (a := ao) (by simpa using hb))
  clear hb
  obtain ⟨⟨s0, s1, sf⟩, f0, f1, ff⟩ := HP1.out.cells
  have hge := HP1.out.ge
  have n1 : ¬ w1.heap.size = w.heap.size := by omega
  have n2 : ¬ w.heap.size = w1.heap.size := by omega
  go_wp2_with fail
  generalize w1.alloc (.cells #[.int .i64 (cc : Int), .int .i64 ao] 47) = w2 at *
  go_region_with fail
  all_goals
    go_wp2_with fail
    refine bodyPost_ret (v := .tuple #[.slice none 0 0, .agg #[.int .i64 (cc : Int), .int .i64 ao]]) (by simp [results, Tryz.results18, go_sem, s0, s1]) rfl ⟨rfl, ?_⟩
    exact below_drawn_of (put2S_below HP1.out.bl (Nat.le_refl _)) 1
set_option maxRecDepth 100000 in
set_option maxHeartbeats 2000000 in
theorem rss_sel (Q : List Raw) (L : List Ent) (R : List Bm) (v rv : Value) (w : World) (hn : L.length ≤ 1000) (sh : ∀ e, e ∈ L → ShE e) (I : Ixs w v Q L) (hR : R.length ≤ 1000000) (hr : MsAt w rv R) (hc : chk Q L = (0, none)) (hs : (slF Q R).1 ≠ 0) :
    Calls Tryz.prog 18 #[v, rv] w fun e w' => e = .returned (.tuple #[.slice none 0 0, faultV (slF Q R)]) ∧ Below w.heap.size w w' := by
  have HB0 := hid ((Below.refl w.heap.size w).alloc (Nat.le_refl _) (.cells #[.int .i64 0, .int .i64 0] 47))
  have HIF := hid (fun W (h : Below w.heap.size w W) => iFault_any Q L v W hn sh (I.below h))
  have HSF := hid (fun W (h : Below w.heap.size w W) => rsel_any Q R v rv W (by rw [I.ln]; exact hn) hR (I.es.below h) (hr.below h))
  obtain ⟨va, vc, hv1, -⟩ := id I.es
  subst hv1
  obtain ⟨ra, rc, hrv, -⟩ := id hr
  subst hrv
  rw [hc] at HIF
  obtain ⟨cc, oo, hco⟩ : ∃ cc oo, slF Q R = (cc, oo) := ⟨_, _, rfl⟩
  rw [hco] at HSF hs ⊢
  unfold faultV at HIF HSF ⊢
  simp only at HIF HSF hs ⊢
  have ha : atOf none = -1 := rfl
  rw [ha] at HIF
  generalize atOf oo = ao at *
  have hpos : (0 : Int) < (cc : Int) := by omega
  clear I sh hc hco hs hr
  go_enter Tryz.func18, Tryz.ntmps18
  go_wp2_with fail
  refine (HIF.out _ HB0.out).mono ?_
  rintro e w1 ⟨rfl, hb⟩
  have HP1 := hid (Fb.start (c := 0) (a := -1) (by simpa using hb))
  clear hb
  obtain ⟨-, f0, f1, ff⟩ := HP1.out.cells
  go_wp2_with fail
  generalize w1.alloc (.cells #[.int .i64 0, .int .i64 (-1)] 47) = w2 at *
  refine (HSF.out _ HP1.out.bl).mono ?_
  rintro e w3 ⟨rfl, hb⟩
  have HP3 := hid (HP1.out.below hb)
  clear hb f0 f1 ff HP1
  obtain ⟨-, f0, f1, ff⟩ := HP3.out.cells
  have HP4 := hid (HP3.out.set (x := (cc : Int)) (y := ao))
  have hge := HP3.out.ge
  have n1 : ¬ w1.heap.size = w.heap.size := by omega
  have n2 : ¬ w.heap.size = w1.heap.size := by omega
  go_wp2_with fail
  generalize (w3.setCell ⟨w1.heap.size, 0, none⟩ (.int .i64 (cc : Int))).setCell ⟨w1.heap.size, 1, none⟩ (.int .i64 ao) = w4 at *
  clear f0 f1 ff HP3
  obtain ⟨⟨s0, s1, sf⟩, f0, f1, ff⟩ := HP4.out.cells
  go_wp2_with fail
  go_region_with fail
  all_goals
    go_wp2_with fail
    refine bodyPost_ret (v := .tuple #[.slice none 0 0, .agg #[.int .i64 (cc : Int), .int .i64 ao]]) (by simp [results, Tryz.results18, go_sem, s0, s1]) rfl ⟨rfl, ?_⟩
    exact below_drawn_of (put2S_below HP4.out.bl (Nat.le_refl _)) 1
end Ve
end Go.Proofs.YtpafkniapacfdaaGreatDoor
