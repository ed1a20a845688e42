/-
  What OneOf of the document's answer says: built with one module more.
-/
import Derived.Test.YtanponneancajaaGreatDoorUtC
import Derived.Test.YtanponneancajaaGreatDoorUtP
import Derived.Test.YtanponneancajaaGreatDoorMtB
namespace Go.Proofs.YtanponneancajaaGreatDoor
open Go.RowKit Go.Maps
namespace Ve

/-- A store of two numbers into a box leaves modules as they are. -/
theorem ms_put2 {W : World} {v : Value} {E : List Bm} {b : Nat} {n : Int} {z : Value} {T : TypeId} {x y : Value} (h : MsAt W v E) (hb : W.heap[b]? = some (.cells #[z, .int .i64 n] T (0, 0))) : MsAt ((W.setCell ⟨b, 0, none⟩ x).setCell ⟨b, 1, none⟩ y) v E := by
  obtain ⟨a, c, rfl, hc, hk⟩ := h
  refine ⟨a, c, rfl, hc, fun hE => ?_⟩
  obtain ⟨g, o, rfl, hcell⟩ := hk hE
  refine ⟨g, o, rfl, fun j hj => ?_⟩
  have hne : g ≠ b := fun e => by
    subst e
    -- the cells of modules are texts
    have h0 := (hcell 0 (List.length_pos_iff.2 hE)).1
    have h1 := (hcell 0 (List.length_pos_iff.2 hE)).2
    rw [Lib.cell_of_heap hb] at h0 h1
    have hlt0 := (Array.getElem?_eq_some_iff.1 h0).1
    have hlt1 := (Array.getElem?_eq_some_iff.1 h1).1
    simp only [List.size_toArray, List.length_cons, List.length_nil] at hlt0 hlt1
    have ho : o = 0 := by omega
    subst ho
    simp at h1
  have go : ∀ (V : World) (k : Nat) (q : Value) (o' : Nat), (V.setCell ⟨b, k, none⟩ q).cell? ⟨g, o', none⟩ = V.cell? ⟨g, o', none⟩ := fun V k q o' => World.cell?_of_block (Below.heap_setCell _ _ _ _ hne)
  rw [go, go, go, go]
  exact hcell j hj
set_option maxRecDepth 100000 in
set_option maxHeartbeats 4000000 in
theorem oneO_bad (Q : List Raw) (L : List Ent) (roots : List Bm) (x : Bm) (v rv : Value) (w : World) (hn : L.length ≤ 1000) (hrn : roots.length ≤ 1000000) (sh : ∀ e, e ∈ L → ShE e) (I : Ixs w v Q L) (hr : MsAt w rv roots) (h0 : ¬ (chkG Q L roots).1 = 0) :
    Calls Tryz.prog 38 #[v, rv, .agg #[.string x.1, .string x.2]] w fun e w' => e = .returned (.tuple #[.slice none 0 0, faultV (chkG Q L roots)]) ∧ Below w.heap.size w w' := by
  obtain ⟨p, q⟩ := x
  have HBm := hid ((Below.refl w.heap.size w).alloc (Nat.le_refl _) (.cells #[.string p, .string q] 51))
  have HB0 := hid (HBm.out.alloc HBm.out.size (.cells #[.int .i64 0, .int .i64 0] 64))
  have HE0 := hid (heap_new (w.alloc (.cells #[.string p, .string q] 51)) (.cells #[.int .i64 0, .int .i64 0] 64))
  have hsz : (w.alloc (.cells #[.string p, .string q] 51)).heap.size = w.heap.size + 1 := by simp
  rw [hsz] at HE0
  have HRO := hid (fun W (h : Below w.heap.size w W) => bo_bad Q L roots v rv W hn hrn sh (I.below h) (hr.below h) h0)
  obtain ⟨a, c, hv1, -⟩ := id I.es
  subst hv1
  obtain ⟨ra, rc, hrv, -⟩ := id hr
  subst hrv
  obtain ⟨cc, oo, hco⟩ : ∃ cc oo, chkG Q L roots = (cc, oo) := ⟨_, _, rfl⟩
  rw [hco] at HRO h0 ⊢
  unfold faultV at HRO ⊢
  simp only at HRO h0 ⊢
  generalize atOf oo = ao at *
  have hpos : (0 : Int) < (cc : Int) := by omega
  clear I hr sh h0 hco
  go_enter Tryz.func38, Tryz.ntmps38
  go_wp2_with fail
  refine (HRO.out _ HB0.out).mono ?_
  rintro e w1 ⟨rfl, hb⟩
  have HB1 := hid (HB0.out.trans (hb.mono HB0.out.size))
  have HE1 := hid ((hb.block _ (lt_of_blk HE0.out)).trans HE0.out)
  clear hb
  have HB2 := hid (HB1.out.alloc HB1.out.size (.cells #[.int .i64 (cc : Int), .int .i64 ao] 64))
  have HE2 := hid (heap_old w1 (.cells #[.int .i64 (cc : Int), .int .i64 ao] 64) HE1.out)
  have HF2 := hid (heap_new w1 (.cells #[.int .i64 (cc : Int), .int .i64 ao] 64))
  have hne : ¬ w1.heap.size = w.heap.size + 1 := Nat.ne_of_gt (lt_of_blk HE1.out)
  have hne2 : ¬ w.heap.size + 1 = w1.heap.size := Nat.ne_of_lt (lt_of_blk HE1.out)
  go_wp2_with fail
  generalize w1.alloc (.cells #[.int .i64 (cc : Int), .int .i64 ao] 64) = w2 at *
  obtain ⟨s0, s1, tf⟩ := box_two HE2.out
  obtain ⟨f0, f1, _⟩ := box_two HF2.out
  go_region_with fail
  all_goals
    go_wp2_with fail
    refine bodyPost_ret (v := .tuple #[.slice none 0 0, .agg #[.int .i64 (cc : Int), .int .i64 ao]]) (by simp [results, Tryz.results38, go_sem, s0, s1]) rfl ⟨rfl, ?_⟩
    exact put2_below (below_drawn_of HB2.out 1) (Nat.le_succ _)
set_option maxRecDepth 100000 in
set_option maxHeartbeats 4000000 in
theorem oneO_not (Q : List Raw) (L : List Ent) (roots : List Bm) (x : Bm) (v rv : Value) (w : World) (hn : L.length ≤ 1000) (hrn : roots.length ≤ 1000000) (sh : ∀ e, e ∈ L → ShE e) (I : Ixs w v Q L) (hr : MsAt w rv roots) (h0 : (chkG Q L roots).1 = 0) (hx : ¬ x ∈ univ L) :
    Calls Tryz.prog 38 #[v, rv, .agg #[.string x.1, .string x.2]] w fun e w' => e = .returned (.tuple #[.slice none 0 0, .agg #[.int .i64 5, .int .i64 (-1)]]) ∧ Below w.heap.size w w' := by
  obtain ⟨p, q⟩ := x
  have HBm := hid ((Below.refl w.heap.size w).alloc (Nat.le_refl _) (.cells #[.string p, .string q] 51))
  have HB0 := hid (HBm.out.alloc HBm.out.size (.cells #[.int .i64 0, .int .i64 0] 64))
  have HE0 := hid (heap_new (w.alloc (.cells #[.string p, .string q] 51)) (.cells #[.int .i64 0, .int .i64 0] 64))
  have HM0 := hid (heap_old (w.alloc (.cells #[.string p, .string q] 51)) (.cells #[.int .i64 0, .int .i64 0] 64) (heap_new w (.cells #[.string p, .string q] 51)))
  have hsz : (w.alloc (.cells #[.string p, .string q] 51)).heap.size = w.heap.size + 1 := by simp
  rw [hsz] at HE0
  have HRO := hid (fun W (h : Below w.heap.size w W) => bo_all Q L roots v rv W hn hrn sh (I.below h) (hr.below h))
  rw [rF_good h0, faultV0] at HRO
  have HFI := hid (fun W (h : Below w.heap.size w W) => findOf_allJ Q (p, q) v W (by rw [I.ln]; omega) (I.below h).es)
  obtain ⟨k, hk, hkn⟩ : ∃ k, idxOf (isM (p, q)) Q = k ∧ k < 0 := by
    rcases idx_nat (isM (p, q)) Q with h1 | ⟨k, h1⟩
    · exact ⟨_, h1, by omega⟩
    · exact absurd ((found_iff I (p, q)).2 ⟨k, h1⟩) hx
  rw [hk] at HFI
  have HBA := hid (fun W => rbare_any 5 W)
  obtain ⟨a, c, hv1, -⟩ := id I.es
  subst hv1
  obtain ⟨ra, rc, hrv, -⟩ := id hr
  subst hrv
  clear I hr sh h0 hx hk
  go_enter Tryz.func38, Tryz.ntmps38
  go_wp2_with fail
  refine (HRO.out _ HB0.out).mono ?_
  rintro e w1 ⟨ba, bc, rfl, hm⟩
  have HB1 := hid (HB0.out.trans (hm.1.mono HB0.out.size))
  have HE1 := hid ((hm.1.block _ (lt_of_blk HE0.out)).trans HE0.out)
  have HM1 := hid ((hm.1.block _ (lt_of_blk HM0.out)).trans HM0.out)
  clear hm
  have HB2 := hid (HB1.out.alloc HB1.out.size (.cells #[.int .i64 0, .int .i64 (-1)] 64))
  have HE2 := hid (heap_old w1 (.cells #[.int .i64 0, .int .i64 (-1)] 64) HE1.out)
  have HM2 := hid (heap_old w1 (.cells #[.int .i64 0, .int .i64 (-1)] 64) HM1.out)
  have HF2 := hid (heap_new w1 (.cells #[.int .i64 0, .int .i64 (-1)] 64))
  have hne : ¬ w1.heap.size = w.heap.size + 1 := Nat.ne_of_gt (lt_of_blk HE1.out)
  have hne2 : ¬ w.heap.size + 1 = w1.heap.size := Nat.ne_of_lt (lt_of_blk HE1.out)
  have hne3 : ¬ w.heap.size = w1.heap.size := Nat.ne_of_lt (lt_of_blk HM1.out)
  obtain ⟨n0, n1, _⟩ := box_two HM2.out
  go_wp2_with fail
  generalize w1.alloc (.cells #[.int .i64 0, .int .i64 (-1)] 64) = w2 at *
  refine (HFI.out _ HB2.out).mono ?_
  rintro e w3 ⟨rfl, hb⟩
  have HB3 := hid (HB2.out.trans (hb.mono HB2.out.size))
  have HE3 := hid ((hb.block _ (lt_of_blk HE2.out)).trans HE2.out)
  clear hb
  go_wp2_with fail
  refine (HBA.out _).mono ?_
  rintro e w4 ⟨rfl, hb⟩
  have HB4 := hid (HB3.out.trans (hb.mono HB3.out.size))
  have HE4 := hid ((hb.block _ (lt_of_blk HE3.out)).trans HE3.out)
  clear hb
  obtain ⟨s0, s1, tf⟩ := box_two HE4.out
  go_wp2_with fail
  refine bodyPost_ret (v := .tuple #[.slice none 0 0, .agg #[.int .i64 5, .int .i64 (-1)]]) (by simp [results, Tryz.results38, go_sem, s0, s1]) rfl ⟨rfl, ?_⟩
  exact put2_below HB4.out (Nat.le_succ _)
set_option maxRecDepth 100000 in
set_option maxHeartbeats 4000000 in
theorem oneO_good (Q : List Raw) (L : List Ent) (roots : List Bm) (x : Bm) (v rv : Value) (w : World) (hn : L.length ≤ 1000) (hrn : roots.length ≤ 400) (sh : ∀ e, e ∈ L → ShE e) (I : Ixs w v Q L) (hr : MsAt w rv roots) (her : Em rv roots) (h0 : (chkG Q L roots).1 = 0) (hx : x ∈ univ L) :
    Calls Tryz.prog 38 #[v, rv, .agg #[.string x.1, .string x.2]] w fun e w' => ∃ xa xc, e = .returned (.tuple #[.slice xa (bX Q L (roots ++ [x])).length xc, .agg #[.int .i64 0, .int .i64 (-1)]]) ∧ MsAt w' (.slice xa (bX Q L (roots ++ [x])).length xc) (bX Q L (roots ++ [x])) ∧ Below w.heap.size w w' := by
  have hg : (chkG Q L (roots ++ [x])).1 = 0 := chkG_in I (chkG_chk h0) fun y hy => by
    rcases List.mem_append.1 hy with h | h
    · exact (rgt_of I h0).r y h
    · rw [List.mem_singleton.1 h]; exact hx
  obtain ⟨p, q⟩ := x
  have HBm := hid ((Below.refl w.heap.size w).alloc (Nat.le_refl _) (.cells #[.string p, .string q] 51))
  have HB0 := hid (HBm.out.alloc HBm.out.size (.cells #[.int .i64 0, .int .i64 0] 64))
  have HE0 := hid (heap_new (w.alloc (.cells #[.string p, .string q] 51)) (.cells #[.int .i64 0, .int .i64 0] 64))
  have HM0 := hid (heap_old (w.alloc (.cells #[.string p, .string q] 51)) (.cells #[.int .i64 0, .int .i64 0] 64) (heap_new w (.cells #[.string p, .string q] 51)))
  have hsz : (w.alloc (.cells #[.string p, .string q] 51)).heap.size = w.heap.size + 1 := by simp
  rw [hsz] at HE0
  have HRO := hid (fun W (h : Below w.heap.size w W) => bo_all Q L roots v rv W hn (by omega) sh (I.below h) (hr.below h))
  rw [rF_good h0, faultV0] at HRO
  have HR2 := hid (fun W u (h : Below w.heap.size w W) (hu : MsAt W u (roots ++ [(p, q)])) => bo_all Q L (roots ++ [(p, q)]) v u W hn (by simp; omega) sh (I.below h) hu)
  rw [rF_good hg, faultV0] at HR2
  have HFI := hid (fun W (h : Below w.heap.size w W) => findOf_allJ Q (p, q) v W (by rw [I.ln]; omega) (I.below h).es)
  obtain ⟨k, hk⟩ := (found_iff I (p, q)).1 hx
  rw [hk] at HFI
  have hk0 : ¬ (k : Int) < 0 := by omega
  have HR := hid (fun W (h : Below w.heap.size w W) => hr.below h)
  have HER := hid her
  obtain ⟨i0, hi0, hz0, hz1, hz2⟩ := info_parts infoMod
  have HRL := hid hrn
  obtain ⟨a, c, hv1, -⟩ := id I.es
  subst hv1
  obtain ⟨ra, rc, hrv, -⟩ := id hr
  subst hrv
  clear I hr sh h0 hx hk her hg
  go_enter Tryz.func38, Tryz.ntmps38
  go_wp2_with fail
  refine (HRO.out _ HB0.out).mono ?_
  rintro e w1 ⟨ba, bc, rfl, hm⟩
  have HB1 := hid (HB0.out.trans (hm.1.mono HB0.out.size))
  have HE1 := hid ((hm.1.block _ (lt_of_blk HE0.out)).trans HE0.out)
  have HM1 := hid ((hm.1.block _ (lt_of_blk HM0.out)).trans HM0.out)
  clear hm HRO
  have HB2 := hid (HB1.out.alloc HB1.out.size (.cells #[.int .i64 0, .int .i64 (-1)] 64))
  have HE2 := hid (heap_old w1 (.cells #[.int .i64 0, .int .i64 (-1)] 64) HE1.out)
  have HM2 := hid (heap_old w1 (.cells #[.int .i64 0, .int .i64 (-1)] 64) HM1.out)
  have hne : ¬ w1.heap.size = w.heap.size + 1 := Nat.ne_of_gt (lt_of_blk HE1.out)
  have hne2 : ¬ w.heap.size + 1 = w1.heap.size := Nat.ne_of_lt (lt_of_blk HE1.out)
  have hne3 : ¬ w.heap.size = w1.heap.size := Nat.ne_of_lt (lt_of_blk HM1.out)
  obtain ⟨n0, n1, _⟩ := box_two HM2.out
  go_wp2_with fail
  generalize w1.alloc (.cells #[.int .i64 0, .int .i64 (-1)] 64) = w2 at *
  clear n0 n1 HB0 HE0 HM0 HBm
  refine (HFI.out _ HB2.out).mono ?_
  rintro e w3 ⟨rfl, hb⟩
  have HB3 := hid (HB2.out.trans (hb.mono HB2.out.size))
  have HE3 := hid ((hb.block _ (lt_of_blk HE2.out)).trans HE2.out)
  have HM3 := hid ((hb.block _ (lt_of_blk HM2.out)).trans HM2.out)
  clear hb
  obtain ⟨av, w4, hrun, hown, hgr⟩ := both_run [] roots (.slice none 0 0) _ w3 w3.heap.size (Nat.le_refl _) (by simp) (Nat.le_trans HRL.out (by decide)) (World.ownsRow_nil _ _ _ _) (HR.out _ HB3.out) HER.out
  have HRUN := hid hrun
  have HD4 := hid (show Below w3.heap.size w3 w4 from grown_below hgr)
  have HB4 := hid (HB3.out.trans (HD4.out.mono HB3.out.size))
  have HE4 := hid ((HD4.out.block _ (lt_of_blk HE3.out)).trans HE3.out)
  have HM4 := hid ((HD4.out.block _ (lt_of_blk HM3.out)).trans HM3.out)
  rw [List.nil_append] at hown
  have HO4 := hid hown
  have HW34 := hid (show w3.heap.size ≤ w4.heap.size from HD4.out.size)
  obtain ⟨aa, ac, hav⟩ := own_slN hown
  subst hav
  clear hrun hown hgr
  obtain ⟨m0, m1, mf⟩ := box_two HM4.out
  go_wp2_with (at_builtin; first
    | refine wpList_append_own _ rfl _ _ 52 rfl w3.heap.size 51 i0 _ 2 32 Tryz.underlying52 hi0 hz0 hz1 hz2 rfl (by decide) _ _ _ rfl (HO4.out.alloc _) ⟨w4.heap.size, 0, none⟩ 1 1 [.string p, .string q] rfl rfl (World.news_of_block (heap_new _ _)) (by intro u hu; simp at hu; rcases hu with rfl | rfl <;> rfl) (Nat.le_trans (Nat.add_le_add_right HRL.out 1) (by unfold maxLen; decide)) (by have hz := HRL.out; omega) (Nat.le_trans HW34.out (by simp)) ?_
    | refine Lib.wpList_append_run _ rfl _ _ _ _ rfl _ _ rfl rfl _ _ HRUN.out ?_)
  intro v' w5 hown hgrow _
  have HD5 := hid (rel_app2 HD4.out.size HD4.out HO4.out (Below.refl _ _) hgrow)
  have HB5 := hid (HB3.out.trans (HD5.out.mono HB3.out.size))
  have HE5 := hid ((HD5.out.block _ (lt_of_blk HE3.out)).trans HE3.out)
  have HMS := hid (show MsAt w5 v' (roots ++ [(p, q)]) from own_ms (by rw [List.length_append, flatM_app]; exact hown))
  have HBE := hid (HR2.out w5 v' HB5.out HMS.out)
  obtain ⟨BX, hBX⟩ : ∃ BX, bX Q L (roots ++ [(p, q)]) = BX := ⟨_, rfl⟩
  have HBX := hid hBX
  rw [hBX] at HBE
  obtain ⟨va', vc', hv', -⟩ := HMS.out
  subst hv'
  obtain ⟨RN, hRN⟩ : ∃ RN, (roots ++ [(p, q)]).length = RN := ⟨_, rfl⟩
  rw [hRN] at HBE ⊢
  clear hown hgrow m0 m1 mf HMS HR2 hBX hRN
  go_wp2_with fail
  refine HBE.out.mono ?_
  rintro e w6 ⟨xa, xc, rfl, hm⟩
  have HB6 := hid (HB5.out.trans (hm.1.mono HB5.out.size))
  have HE6 := hid ((hm.1.block _ (lt_of_blk HE5.out)).trans HE5.out)
  have HMX := hid (ms_put2 (b := w.heap.size + 1) (x := .int .i64 0) (y := .int .i64 (-1)) hm.ms HE6.out)
  clear hm HBE
  obtain ⟨s0, s1, tf⟩ := box_two HE6.out
  go_wp2_with fail
  refine bodyPost_ret (v := .tuple #[.slice xa BX.length xc, .agg #[.int .i64 0, .int .i64 (-1)]]) (by simp [results, Tryz.results38, go_sem, s0, s1]) rfl ?_
  have h := HBX.out
  subst h
  exact ⟨_, _, rfl, HMX.out, put2_below HB6.out (Nat.le_succ _)⟩
end Ve
end Go.Proofs.YtanponneancajaaGreatDoor
